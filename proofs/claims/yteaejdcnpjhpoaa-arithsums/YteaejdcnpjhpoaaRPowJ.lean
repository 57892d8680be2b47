/- Contracts of suretyref01's TooBig, Held and Pow by the numbers; they prove no statement of the seat. -/
import Derived.Test.YteaejdcnpjhpoaaRMulJ
import Derived.Test.YteaejdcnpjhpoaaRFromJ
import Derived.Test.YteaejdcnpjhpoaaPowJ
namespace Go.Proofs.Yteaejdcnpjhpoaa
open Go.RowKit

theorem RNum.short {w : World} {v : Value} {z : Int} {L : Nat} (h : RNum w v z L) (hz : z.natAbs < lim) : RNum w v z 400 := by
  obtain ⟨neg, ds, h1, h2, h3⟩ := h
  refine ⟨neg, ds, h1, h2, ?_⟩
  obtain ⟨_, _, _, _, _, _, _, hd, hn, _⟩ := h1
  rw [h2, sv_natAbs] at hz
  rcases Nat.lt_or_ge 309 ds.length with k | k
  · have := toobig_long hn k; omega
  · omega

theorem toobig_r (v : Value) (z : Int) (L : Nat) (b : Bool) (w : World) (hv : RNum w v z L) (hL : L ≤ 10000) (hb : decide (lim ≤ z.natAbs) = b) :
    Calls Try.prog 50 #[v] w fun e w' => e = .returned (.bool b) ∧ Below w.heap.size w w' := by
  subst hb
  obtain ⟨neg, ds, h1, h2, h3⟩ := hv
  rw [h2, sv_natAbs]
  exact toobig_any v neg ds w h1 (by omega)

/-- The variables that suretyref01.Pow works on. -/
def PowS (w wr : World) (b : Nat) (xx : Bool) (ax : Option Addr) (nx cx : Nat) (x : Int) (s : Bool) (a : Option Addr) (m c : Nat) (p : Int) : Prop :=
  Blk 31 wr w.heap.size #[.bool xx, .slice ax nx cx] ∧ Blk 31 wr (w.heap.size + 1) #[.bool false, .slice none 0 0] ∧ Blk 31 wr b #[.bool s, .slice a m c] ∧
    RNum wr (.agg #[.bool xx, .slice ax nx cx]) x 400 ∧ RNum wr (.agg #[.bool s, .slice a m c]) p 400 ∧ Below w.heap.size w wr

set_option maxRecDepth 20000 in
set_option maxHeartbeats 8000000 in
theorem rPow_big (N : Nat) (va : Value) (x z : Int) (w : World) (ha : RNum w va x 400) (hN : (N : Int) ≤ 9223372036854775807) (h2 : 2 ≤ x.natAbs) (hz' : x ^ N = z) :
    Calls Try.prog 43 #[va, .int .i64 N] w fun e w' => ∃ s a n c, e = .returned (.tuple #[.agg #[.bool s, .slice a n c], .int .i64 (ec z)]) ∧ RNum w' (.agg #[.bool s, .slice a n c]) (hz z) 400 ∧ Below w.heap.size w w' := by
  have ha0 := ha
  obtain ⟨na, xs, hva, hxe, hxl⟩ := ha
  obtain ⟨ax, cx, rfl, h1, h2', h4, hs, hd, hn, h3⟩ := hva
  have HZ : Hid (x ^ N = z) := hz'
  have hval : 2 ≤ val 10 xs := by rw [hxe, sv_natAbs] at h2; exact h2
  have HXA : Hid (2 ≤ x.natAbs) := h2
  clear hz' h2
  have X0 := (Blk.new w 31 #[.bool na, .slice ax xs.length cx]).alloc (.cells #[.bool false, .slice none 0 0] 31 (0, 0))
  have R0 := Blk.new (w.alloc (.cells #[.bool na, .slice ax xs.length cx] 31 (0, 0))) 31 #[.bool false, .slice none 0 0]
  simp only [World.size_alloc] at R0
  have hbw : Below w.heap.size w ((w.alloc (.cells #[.bool na, .slice ax xs.length cx] 31 (0, 0))).alloc (.cells #[.bool false, .slice none 0 0] 31 (0, 0))) := by go_grown
  have hl0 : 0 < xs.length := by
    rcases Nat.eq_zero_or_pos xs.length with k | k
    · have : xs = [] := List.eq_nil_of_length_eq_zero k
      subst this; simp [val] at hval
    · exact k
  have q0 : (((xs.length : Nat) : Int) == 0) = false := by rw [beq_eq_false_iff_ne]; omega
  have hneg : decide ((N : Int) < 0) = false := by simp
  obtain ⟨b, off, hao, hcs⟩ := hs.open 0 hl0
  subst hao
  have hc0 := hcs 0 hl0
  obtain ⟨d, hdd⟩ : ∃ d, d = xs.getD 0 0 := ⟨_, rfl⟩
  rw [← hdd, Nat.add_zero] at hc0
  have hcell := (hbw.cell (p := ⟨b, off, none⟩) (World.block_lt_of_cell? w ⟨b, off, none⟩ hc0)).trans hc0
  have HTR : Hid (xs.length = 1 → (((d : Nat) : Int) == 1) = false) := by
    intro h
    rw [beq_eq_false_iff_ne, hdd]
    match xs, h with
    | [u], _ => simp [val] at hval ⊢; omega
  have ha1 := ha0.below hbw
  clear hcs hdd hxe h3 h4 hval ha0 hs hc0
  have hcase : ((((xs.length : Nat) : Int) == 1) = true ∧ (((d : Nat) : Int) == 1) = false) ∨ (((xs.length : Nat) : Int) == 1) = false := by
    by_cases hl1 : xs.length = 1
    · left; exact ⟨by rw [beq_iff_eq]; omega, HTR.out hl1⟩
    · right; rw [beq_eq_false_iff_ne]; omega
  go_enter Try.func43, Try.ntmps43
  rcases hcase with ⟨q1, q2⟩ | q1
  all_goals
    go_wp2_with fail
    refine (rfrom_any 1 _ (by decide) (by decide)).mono ?_
    rintro e w1 ⟨s1, a1, m1, c1, rfl, hr1, hb1⟩
    have hbn := below_new w1 (.cells #[.bool s1, .slice a1 m1 c1] 31 (0, 0))
    have hg : w.heap.size + 1 < w1.heap.size := (R0.stay hb1).lt
    have hS1 : PowS w (w1.alloc (.cells #[.bool s1, .slice a1 m1 c1] 31 (0, 0))) w1.heap.size na (some ⟨b, off, none⟩) xs.length cx x s1 a1 m1 c1 1 :=
      ⟨(X0.stay hb1).stay hbn, (R0.stay hb1).stay hbn, Blk.new _ _ _, (ha1.below hb1).below hbn, (hr1.mono (by decide)).below hbn, (hbw.step hb1 (Nat.le_refl _)).step hbn (Nat.le_refl _)⟩
    clear hbn hr1 hb1 hcell hbw X0 R0 ha1
    go_wp2
    go_loopw [7] (fun i wr => ∃ k : Nat, ∃ s a m c, (k : Int) ≤ N ∧ i = .int .i64 k ∧ Hid ((x ^ k).natAbs < lim) ∧ PowS w wr w1.heap.size na (some ⟨b, off, none⟩) xs.length cx x s a m c (x ^ k)) (fun i _ => N - (intOf i).toNat)
    case atStart =>
      refine ⟨0, s1, a1, m1, c1, by omega, rfl, ?_, ?_⟩
      · show _ < _
        rw [Int.pow_zero]; have := word_lim; omega
      · rw [Int.pow_zero]; exact hS1
    case round =>
      obtain ⟨k, s, a, m, c, hk, rfl, HL, hS⟩ := hrel
      obtain ⟨p0, p1, pf0, pf1⟩ := hS.2.2.1.two
      obtain ⟨x0, x1, -, -⟩ := hS.1.two
      by_cases h0 : k < N
      · go_wp2_with fail
        refine (rMul_any _ _ (x ^ k) x (x ^ (k + 1)) 400 400 _ hS.2.2.2.2.1 hS.2.2.2.1 (by decide) (Int.pow_succ x k).symm).mono ?_
        rintro e w2 ⟨s2, a2, m2, c2, rfl, hr2, hb2⟩
        have P2 := hS.2.2.1.stay hb2
        obtain ⟨u0, u1, uf0, uf1⟩ := P2.two
        have hr3 := hr2.store2 P2 s2 a2 m2 c2
        have P3 : Blk 31 ((w2.setCell ⟨w1.heap.size, 0, none⟩ (.bool s2)).setCell ⟨w1.heap.size, 1, none⟩ (.slice a2 m2 c2)) w1.heap.size #[.bool s2, .slice a2 m2 c2] := by
          have k := (P2.set 0 (.bool s2)).set 1 (.slice a2 m2 c2); simpa using k
        have X3 := ((hS.1.stay hb2).other (a := ⟨w1.heap.size, 0, none⟩) (by show w1.heap.size ≠ _; omega) (.bool s2)).other (a := ⟨w1.heap.size, 1, none⟩) (by show w1.heap.size ≠ _; omega) (.slice a2 m2 c2)
        have R3 := ((hS.2.1.stay hb2).other (a := ⟨w1.heap.size, 0, none⟩) (by show w1.heap.size ≠ _; omega) (.bool s2)).other (a := ⟨w1.heap.size, 1, none⟩) (by show w1.heap.size ≠ _; omega) (.slice a2 m2 c2)
        have hx3 := (hS.2.2.2.1.below hb2).store2 P2 s2 a2 m2 c2
        have hb3 := below_store2 (hS.2.2.2.2.2.step hb2 (Nat.le_refl _)) (b := w1.heap.size) (by omega) (.bool s2) (.slice a2 m2 c2)
        obtain ⟨v0, v1, -, -⟩ := P3.two
        obtain ⟨y0, y1, yf0, yf1⟩ := R3.two
        clear p0 p1 pf0 pf1 x0 x1
        by_cases hbig : (x ^ (k + 1)).natAbs < lim
        · have hdec : decide (lim ≤ (x ^ (k + 1)).natAbs) = false := decide_eq_false (Nat.not_le.2 hbig)
          have HB : Hid ((x ^ (k + 1)).natAbs < lim) := hbig
          clear hbig
          go_wp2_with fail
          refine (toobig_r _ (x ^ (k + 1)) 801 false _ hr3 (by decide) hdec).mono ?_
          rintro e w4 ⟨rfl, hb4⟩
          go_wp2
          go_roundw
          case rel =>
            exact ⟨k + 1, s2, a2, m2, c2, by omega, by go_num, HB, X3.stay hb4, R3.stay hb4, P3.stay hb4, hx3.below hb4, (hr3.short HB.out).below hb4, hb3.step hb4 (Nat.le_refl _)⟩
          case measure => simp [intOf]; omega
        · have hdec : decide (lim ≤ (x ^ (k + 1)).natAbs) = true := decide_eq_true (Nat.le_of_not_lt hbig)
          have HB : Hid (¬ (x ^ N).natAbs < lim) := pow_more (by omega) hbig
          clear hbig
          go_wp2_with fail
          refine (toobig_r _ (x ^ (k + 1)) 801 true _ hr3 (by decide) hdec).mono ?_
          rintro e w4 ⟨rfl, hb4⟩
          have R4 := R3.stay hb4
          obtain ⟨z0, z1, zf0, zf1⟩ := R4.two
          go_wp2
          refine bodyPost_ret (v := .tuple #[.agg #[.bool false, .slice none 0 0], .int .i64 11]) (by simp [results, Try.results43, go_sem, z0, z1]) rfl ?_
          have h5 := HB.out
          rw [HZ.out] at h5
          refine ⟨false, none, 0, 0, by rw [ec_not h5], ?_, below_store2 (hb3.step hb4 (Nat.le_refl _)) (by omega) _ _⟩
          rw [hz_ne h5]
          exact RNum.zero _ _
      · have hkN : k = N := by omega
        subst hkN
        have R4 := hS.2.1
        obtain ⟨z0, z1, zf0, zf1⟩ := R4.two
        go_wp2
        refine bodyPost_ret (v := .tuple #[.agg #[.bool s, .slice a m c], .int .i64 0]) (by simp [results, Try.results43, go_sem, z0, z1]) rfl ?_
        have h5 := HL.out
        have h6 := hS.2.2.2.2.1
        rw [HZ.out] at h5 h6
        refine ⟨s, a, m, c, by rw [ec_of h5], ?_, below_store2 hS.2.2.2.2.2 (by omega) _ _⟩
        rw [hz_of h5]
        exact h6.store2 R4 _ _ _ _

theorem pow_small {x : Int} (h : x.natAbs ≤ 1) (n : Nat) (hc : n = 0 ∨ (x < 0 ∧ n % 2 = 0)) : x ^ n = 1 := by
  rcases hc with rfl | ⟨h1, h2⟩
  · exact Int.pow_zero _
  · have e : x = -1 := by omega
    obtain ⟨k, rfl⟩ : ∃ k, n = 2 * k := ⟨n / 2, by omega⟩
    rw [e, Int.pow_mul, show ((-1 : Int)) ^ 2 = 1 from rfl, Int.one_pow]
theorem pow_small' {x : Int} (h : x.natAbs ≤ 1) (n : Nat) (h0 : n ≠ 0) (hc : ¬ (x < 0 ∧ n % 2 = 0)) : x ^ n = x := by
  obtain ⟨m, rfl⟩ : ∃ m, n = m + 1 := ⟨n - 1, by omega⟩
  have e : x = 0 ∨ x = 1 ∨ x = -1 := by omega
  rcases e with rfl | rfl | rfl
  · exact Int.zero_pow (by omega)
  · exact Int.one_pow
  · obtain ⟨k, rfl⟩ : ∃ k, m = 2 * k := ⟨m / 2, by omega⟩
    rw [Int.pow_succ, Int.pow_mul, show ((-1 : Int)) ^ 2 = 1 from rfl, Int.one_pow]; rfl
end Go.Proofs.Yteaejdcnpjhpoaa
