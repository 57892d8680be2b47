/- Contract of suretyref01.Pow at every number; it proves no statement of the seat. -/
import Derived.Test.YteaejdcnpjhpoaaRPow
namespace Go.Proofs.Yteaejdcnpjhpoaa
open Go.RowKit

/-- What suretyref01.Pow answers. -/
def PowR (w : World) (z : Int) (e : Ending) (w' : World) : Prop := ∃ s a n c, e = .returned (.tuple #[.agg #[.bool s, .slice a n c], .int .i64 (ec z)]) ∧ RNum w' (.agg #[.bool s, .slice a n c]) (hz z) 400 ∧ Below w.heap.size w w'

set_option maxRecDepth 20000 in
set_option maxHeartbeats 8000000 in
theorem rPow_small (N : Nat) (va : Value) (x z : Int) (w : World) (ha : RNum w va x 400) (hN : (N : Int) ≤ 9223372036854775807) (h2 : x.natAbs ≤ 1) (hz' : x ^ N = z) :
    Calls Try.prog 43 #[va, .int .i64 N] w (PowR w z) := by
  have ha0 := ha
  obtain ⟨na, xs, hva, hxe, hxl⟩ := ha
  obtain ⟨ax, cx, rfl, h1, h2', h4, hs, hd, hn, h3⟩ := hva
  have hval : val 10 xs ≤ 1 := by rw [hxe, sv_natAbs] at h2; exact h2
  have hng : x < 0 ↔ na = true := by
    constructor
    · intro h
      cases na with
      | true => rfl
      | false => rw [hxe] at h; simp [sv] at h; omega
    · intro h
      subst h
      have hp : 0 < val 10 xs := by
        rcases Nat.eq_zero_or_pos xs.length with k | k
        · cases h3 k
        · exact (hn.pos (B := 10) (List.ne_nil_of_length_pos k)).resolve_right (by decide)
      rw [hxe]; simp [sv]; omega
  have HP1 : Hid (N = 0 ∨ (na = true ∧ N % 2 = 0) → z = 1) := by
    intro h
    rw [← hz']
    exact pow_small h2 N (h.imp id fun k => ⟨hng.2 k.1, k.2⟩)
  have HP2 : Hid (N ≠ 0 → ¬ (na = true ∧ N % 2 = 0) → z = x) := by
    intro h k
    rw [← hz']
    exact pow_small' h2 N h fun e => k ⟨hng.1 e.1, e.2⟩
  have HX : Hid (x.natAbs < lim) := by show _ < _; have := word_lim; omega
  have X0 := (Blk.new w 31 #[.bool na, .slice ax xs.length cx]).alloc (.cells #[.bool false, .slice none 0 0] 31 (0, 0))
  have R0 := Blk.new (w.alloc (.cells #[.bool na, .slice ax xs.length cx] 31 (0, 0))) 31 #[.bool false, .slice none 0 0]
  simp only [World.size_alloc] at R0
  have hbw : Below w.heap.size w ((w.alloc (.cells #[.bool na, .slice ax xs.length cx] 31 (0, 0))).alloc (.cells #[.bool false, .slice none 0 0] 31 (0, 0))) := by go_grown
  have ha1 := ha0.below hbw
  have hneg : decide ((N : Int) < 0) = false := by simp
  have hcase : ((((xs.length : Nat) : Int) == 0) = true) ∨ ((((xs.length : Nat) : Int) == 0) = false ∧ (((xs.length : Nat) : Int) == 1) = true ∧ 0 < xs.length ∧ ∃ b off, ax = some ⟨b, off, none⟩ ∧ ((w.alloc (.cells #[.bool na, .slice ax xs.length cx] 31 (0, 0))).alloc (.cells #[.bool false, .slice none 0 0] 31 (0, 0))).cell? ⟨b, off, none⟩ = some (.int .i64 1)) := by
    rcases Nat.eq_zero_or_pos xs.length with k | k
    · left; rw [beq_iff_eq]; omega
    · right
      have hp := (hn.pos (B := 10) (List.ne_nil_of_length_pos k)).resolve_right (by decide)
      have hl : xs.length = 1 := by
        have h5 := hn.ge (B := 10) (List.ne_nil_of_length_pos k) (by decide)
        rcases Nat.lt_or_ge xs.length 2 with j | j
        · omega
        · have : 10 ^ 1 ≤ 10 ^ (xs.length - 1) := Nat.pow_le_pow_right (by decide) (by omega)
          omega
      refine ⟨by rw [beq_eq_false_iff_ne]; omega, by rw [beq_iff_eq]; omega, k, ?_⟩
      obtain ⟨b, off, hao, hcs⟩ := hs.open 0 k
      have hc0 := hcs 0 k
      refine ⟨b, off, hao, ?_⟩
      rw [Nat.add_zero] at hc0
      rw [hbw.cell (p := ⟨b, off, none⟩) (World.block_lt_of_cell? w ⟨b, off, none⟩ hc0), hc0]
      match xs, hl, hval, hp with
      | [u], _, h6, h7 =>
        simp [val] at h6 h7
        have : u = 1 := by omega
        subst this; rfl
  have hev : ((((N : Int) % 2) == 0) = true ∧ N % 2 = 0) ∨ ((((N : Int) % 2) == 0) = false ∧ ¬ N % 2 = 0) := by
    by_cases k : N % 2 = 0
    · left; exact ⟨by rw [beq_iff_eq]; omega, k⟩
    · right; exact ⟨by rw [beq_eq_false_iff_ne]; omega, k⟩
  have hzero : ((((N : Nat) : Int) == 0) = true ∧ N = 0) ∨ ((((N : Nat) : Int) == 0) = false ∧ N ≠ 0) := by
    by_cases k : N = 0
    · left; exact ⟨by rw [beq_iff_eq]; omega, k⟩
    · right; exact ⟨by rw [beq_eq_false_iff_ne]; omega, k⟩
  obtain ⟨r0, r1, rf0, rf1⟩ := R0.two
  clear hz' h2 hxe h3 h4 hval hs hng hd hn
  have RXt := Blk.new (w.alloc (.cells #[.bool true, .slice ax xs.length cx] 31 (0, 0))) 31 #[.bool true, .slice ax xs.length cx]
  have RXf := Blk.new (w.alloc (.cells #[.bool false, .slice ax xs.length cx] 31 (0, 0))) 31 #[.bool false, .slice ax xs.length cx]
  simp only [World.size_alloc] at RXt RXf
  rcases hcase with q0 | ⟨q0, q1, hl0, b, off, rfl, hcell⟩
  all_goals
    rcases hzero with ⟨e0, k0⟩ | ⟨e0, k0⟩
    · have HZ1 : Hid (z = 1) := HP1.out (Or.inl k0)
      clear k0 hev
      go_enter Try.func43, Try.ntmps43
      go_wp2_with fail
      refine (rfrom_any 1 _ (by decide) (by decide)).mono ?_
      rintro e w1 ⟨s1, a1, m1, c1, rfl, hr1, hb1⟩
      have R1 := R0.stay hb1
      obtain ⟨z0, z1, zf0, zf1⟩ := R1.two
      go_wp2
      refine bodyPost_ret (v := .tuple #[.agg #[.bool s1, .slice a1 m1 c1], .int .i64 0]) (by simp [results, Try.results43, go_sem, z0, z1]) rfl ?_
      have h5 : z.natAbs < lim := by rw [HZ1.out]; have := word_lim; omega
      refine ⟨s1, a1, m1, c1, by rw [ec_of h5], ?_, below_store2 (hbw.step hb1 (Nat.le_refl _)) (by omega) _ _⟩
      rw [hz_of h5, HZ1.out]
      exact (hr1.mono (by decide)).store2 R1 _ _ _ _
    · cases na with
      | true =>
        rcases hev with ⟨e2, k2⟩ | ⟨e2, k2⟩
        · have HZ1 : Hid (z = 1) := HP1.out (Or.inr ⟨rfl, k2⟩)
          clear k0 k2
          go_enter Try.func43, Try.ntmps43
          go_wp2_with fail
          refine (rfrom_any 1 _ (by decide) (by decide)).mono ?_
          rintro e w1 ⟨s1, a1, m1, c1, rfl, hr1, hb1⟩
          have R1 := R0.stay hb1
          obtain ⟨z0, z1, zf0, zf1⟩ := R1.two
          go_wp2
          refine bodyPost_ret (v := .tuple #[.agg #[.bool s1, .slice a1 m1 c1], .int .i64 0]) (by simp [results, Try.results43, go_sem, z0, z1]) rfl ?_
          have h5 : z.natAbs < lim := by rw [HZ1.out]; have := word_lim; omega
          refine ⟨s1, a1, m1, c1, by rw [ec_of h5], ?_, below_store2 (hbw.step hb1 (Nat.le_refl _)) (by omega) _ _⟩
          rw [hz_of h5, HZ1.out]
          exact (hr1.mono (by decide)).store2 R1 _ _ _ _
        · have HZ1 : Hid (z = x) := HP2.out k0 (fun h => k2 h.2)
          clear k0 k2
          go_enter Try.func43, Try.ntmps43
          go_wp2
          obtain ⟨z0, z1, -, -⟩ := RXt.two
          refine bodyPost_ret (v := .tuple #[.agg #[.bool true, .slice _ xs.length cx], .int .i64 0]) (by simp [results, Try.results43, go_sem, z0, z1]; rfl) rfl ?_
          have h5 : z.natAbs < lim := by rw [HZ1.out]; exact HX.out
          refine ⟨_, _, _, _, by rw [ec_of h5], ?_, by go_grown⟩
          rw [hz_of h5, HZ1.out]
          exact ha0.below (by go_grown)
      | false =>
        have HZ1 : Hid (z = x) := HP2.out k0 (fun h => by cases h.1)
        clear k0 hev
        go_enter Try.func43, Try.ntmps43
        go_wp2
        obtain ⟨z0, z1, -, -⟩ := RXf.two
        refine bodyPost_ret (v := .tuple #[.agg #[.bool false, .slice _ xs.length cx], .int .i64 0]) (by simp [results, Try.results43, go_sem, z0, z1]; rfl) rfl ?_
        have h5 : z.natAbs < lim := by rw [HZ1.out]; exact HX.out
        refine ⟨_, _, _, _, by rw [ec_of h5], ?_, by go_grown⟩
        rw [hz_of h5, HZ1.out]
        exact ha0.below (by go_grown)

set_option maxRecDepth 20000 in
set_option maxHeartbeats 4000000 in
theorem rPow_neg (n : Int) (va : Value) (x : Int) (w : World) (ha : RNum w va x 400) (hn : n < 0) :
    Calls Try.prog 43 #[va, .int .i64 n] w fun e w' => e = .returned (.tuple #[.agg #[.bool false, .slice none 0 0], .int .i64 1]) ∧ Below w.heap.size w w' := by
  obtain ⟨xx, ax, nx, cx, rfl⟩ := ha.shape
  have R0 := Blk.new (w.alloc (.cells #[.bool xx, .slice ax nx cx] 31 (0, 0))) 31 #[.bool false, .slice none 0 0]
  simp only [World.size_alloc] at R0
  have hbw : Below w.heap.size w ((w.alloc (.cells #[.bool xx, .slice ax nx cx] 31 (0, 0))).alloc (.cells #[.bool false, .slice none 0 0] 31 (0, 0))) := by go_grown
  obtain ⟨r0, r1, rf0, rf1⟩ := R0.two
  go_enter Try.func43, Try.ntmps43
  go_wp2
  refine bodyPost_ret (v := .tuple #[.agg #[.bool false, .slice none 0 0], .int .i64 1]) (by simp [results, Try.results43, go_sem, r0, r1]) rfl ?_
  exact ⟨rfl, hbw⟩

set_option maxHeartbeats 4000000 in
theorem pow_neg (n : Int) (va : Value) (x : Int) (w : World) (ha : AInt w va x) (hn : n < 0) :
    Calls Try.prog 42 #[va, .int .i64 n] w fun e w' => e = .returned (.tuple #[.agg #[.bool false, .slice none 0 0], .int .i64 1]) ∧ Below w.heap.size w w' := by
  obtain ⟨xx, ax, nx, cx, rfl⟩ := ha.shape
  have R0 := Blk.new (w.alloc (.cells #[.bool xx, .slice ax nx cx] 25 (0, 0))) 25 #[.bool false, .slice none 0 0]
  simp only [World.size_alloc] at R0
  have hbw : Below w.heap.size w ((w.alloc (.cells #[.bool xx, .slice ax nx cx] 25 (0, 0))).alloc (.cells #[.bool false, .slice none 0 0] 25 (0, 0))) := by go_grown
  obtain ⟨r0, r1, rf0, rf1⟩ := R0.two
  go_enter Try.func42, Try.ntmps42
  go_wp2
  refine bodyPost_ret (v := .tuple #[.agg #[.bool false, .slice none 0 0], .int .i64 1]) (by simp [results, Try.results42, go_sem, r0, r1]) rfl ?_
  exact ⟨rfl, hbw⟩

theorem rPow_any (N : Nat) (va : Value) (x z : Int) (w : World) (ha : RNum w va x 400) (hN : (N : Int) ≤ 9223372036854775807) (hz' : x ^ N = z) :
    Calls Try.prog 43 #[va, .int .i64 N] w (PowR w z) := by
  rcases Nat.lt_or_ge x.natAbs 2 with h | h
  · exact rPow_small N va x z w ha hN (by omega) hz'
  · exact rPow_big N va x z w ha hN h hz'
end Go.Proofs.Yteaejdcnpjhpoaa
