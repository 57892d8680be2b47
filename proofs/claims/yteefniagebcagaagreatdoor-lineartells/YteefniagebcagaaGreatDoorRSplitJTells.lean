/- Contract of suretyref01.split; it proves no statement of the seat. -/
import Derived.Test.YteefniagebcagaaGreatDoorJoin19Tells
namespace Go.Proofs.YteefniagebcagaaGreatDoor
open Go.RowKit

/-- Digits of an amount, without noughts at their end, in a slice. -/
def DigL (w : World) (ao : Option Addr) (cap : Nat) (ds : List Nat) : Prop := ds.length ≤ cap ∧ cap ≤ maxLen ∧ (ao = none → cap = 0) ∧ Seg .i64 w ao ds ∧ Digs 10 ds ∧ Norm ds
theorem DigL.below {w w' : World} {ao : Option Addr} {cap : Nat} {ds : List Nat} (h : DigL w ao cap ds) (hb : Below w.heap.size w w') : DigL w' ao cap ds := ⟨h.1, h.2.1, h.2.2.1, h.2.2.2.1.below hb, h.2.2.2.2⟩
theorem DigL.nil (w : World) : DigL w none 0 [] := ⟨Nat.le_refl _, Nat.zero_le _, fun _ => rfl, Seg.nil _ _ _, Digs.nil _, Norm.nil⟩
theorem DigL.of {w : World} {s : Bool} {a : Option Addr} {n c L N : Nat} (h : RNum w (.agg #[.bool s, .slice a n c]) (N : Int) L) : ∃ ds : List Nat, n = ds.length ∧ DigL w a c ds ∧ val 10 ds = N := by
  obtain ⟨neg, ds, ⟨ao, cap, he, h1, h2, h3, h4, h5, h6, h7, -⟩, hz, _⟩ := h
  cases he
  refine ⟨ds, rfl, ⟨h1, h2, h3, h4, h5, h6⟩, ?_⟩
  have := congrArg Int.natAbs hz
  rw [sv_natAbs] at this
  simpa using this.symm
theorem norm_len10 {ds : List Nat} {p : Nat} (hn : Norm ds) (h : val 10 ds < 10 ^ p) : ds.length ≤ p := by
  rcases Nat.eq_zero_or_pos ds.length with k | k
  · omega
  · have h1 := hn.ge (B := 10) (List.ne_nil_of_length_pos k) (by decide)
    rcases Nat.lt_or_ge p ds.length with j | j
    · have : 10 ^ p ≤ 10 ^ (ds.length - 1) := Nat.pow_le_pow_right (by decide) (by omega)
      omega
    · exact j
theorem set_zero {l : List Nat} {j : Nat} (hj : j < l.length) (h : l.getD j 0 = 0) : l.set j 0 = l := by
  refine ext_getD (by rw [List.length_set]) fun p _ => ?_
  rw [getD_set _ _ _ _ hj]
  split
  · next e => rw [e, h]
  · rfl
theorem set_set (l : List Nat) (j a b : Nat) : (l.set j a).set j b = l.set j b := by
  induction l generalizing j with
  | nil => rfl
  | cons x r ih => cases j with
    | zero => rfl
    | succ k => simp
theorem split_step {Y Q x A T R t : Nat} (h : T = Y * Q + A) (hD : R + t * Y = x + 10 * A) : x + 10 * T = Y * (t + 10 * Q) + R := by
  subst h
  rw [Nat.mul_add, Nat.mul_add, Nat.mul_left_comm 10 Y Q, Nat.mul_comm Y t]
  omega
theorem split_end {X Y Q R : Nat} (h : X = Y * Q + R) (hR : R < Y) : Q = X / Y ∧ R = X % Y := by
  have hY : 0 < Y := by omega
  constructor
  · rw [h, Nat.mul_add_div hY, Nat.div_eq_of_lt hR, Nat.add_zero]
  · rw [h, Nat.mul_add_mod, Nat.mod_eq_of_lt hR]

/-- The digits lie in memory that is new since w. -/
def Fresh (w : World) (v : Value) : Prop := ∀ x A n c, v = .agg #[x, .slice (some A) n c] → w.heap.size ≤ A.block

set_option maxHeartbeats 1000000 in
theorem rtrim_fresh (neg : Bool) (ao : Option Addr) (n cap : Nat) (xs : List Nat) (w : World) (hn : xs.length = n) (h1 : n ≤ cap) (_h2 : cap ≤ maxLen) (h3 : n ≤ 10000) (hs : Seg .i64 w ao xs) (hd : Digs 10 xs) :
    Calls Tryz.prog 95 #[.bool neg, .slice ao n cap] w fun e w' => ∃ v, e = .returned v ∧ (RNum w' v (sv neg (val 10 xs)) n ∧ Fresh w v) ∧ Below w.heap.size w w' := by
  have HN : Hid (xs.length = n) := hn
  clear hn
  unfold maxLen at _h2
  have hs' : Seg .i64 (w.alloc (.cells #[.bool false, .slice none 0 0] 39)) ao xs := hs.below ((Below.refl _ _).alloc (Nat.le_refl _) _)
  have B0 := Blk.new w 39 #[.bool false, .slice none 0 0]
  go_enter Tryz.func95, Tryz.ntmps95
  go_wp2
  go_loop [5] (fun i => ∃ k : Nat, k ≤ n ∧ i = .int .i64 k ∧ Hid (∀ i, k ≤ i → i < n → xs.getD i 0 = 0)) (fun i => (intOf i).toNat)
  case atStart => exact ⟨_, Nat.le_refl _, rfl, fun i h1 h2 => by omega⟩
  case round =>
    obtain ⟨k, hk, rfl, hz⟩ := hrel
    by_cases h0 : 0 < k
    · obtain ⟨b, off, rfl, hc⟩ := hs'.open (k - 1) (by have := HN.out; omega)
      obtain ⟨j, rfl⟩ : ∃ j, k = j + 1 := ⟨k - 1, by omega⟩
      have hcell := hc j (by have := HN.out; omega)
      obtain ⟨x, hx⟩ : ∃ x, x = xs.getD j 0 := ⟨_, rfl⟩
      rw [← hx] at hcell
      have HX : Hid (x = xs.getD j 0) := hx
      clear hc hx
      by_cases hx0 : x = 0
      · have hb : ((x : Int) == 0) = true := by rw [beq_iff_eq]; omega
        have HX0 : Hid (x = 0) := hx0
        clear hx0
        go_wp2
        go_round
        case rel =>
          refine ⟨j, by omega, rfl, fun i h1 h2 => ?_⟩
          by_cases e : i = j
          · subst e; rw [← HX.out, HX0.out]
          · exact hz.out i (by omega) h2
        case measure => simp [intOf]
      · have hb : ((x : Int) == 0) = false := by rw [beq_eq_false_iff_ne]; omega
        have HX0 : Hid (x ≠ 0) := hx0
        have hk0 : (((j : Int) + 1) == 0) = false := by rw [beq_eq_false_iff_ne]; omega
        clear hx0
        have hjn : j + 1 ≤ 10000 := by omega
        have hob : Own .i64 3 (w.heap.size + 1) ((w.alloc (.cells #[.bool false, .slice none 0 0] 39)).alloc (.cells #[] 3)) (.slice (some ⟨w.heap.size + 1, 0, none⟩) 0 0) [] := by
          have h := Own.lit (w.alloc (.cells #[.bool false, .slice none 0 0] 39)) .i64 3 [] (w.heap.size + 1) (by simp) (by decide)
          simpa using h
        have B1 : Blk 39 ((w.alloc (.cells #[.bool false, .slice none 0 0] 39)).alloc (.cells #[] 3)) w.heap.size #[.bool false, .slice none 0 0] := B0.alloc _
        have hsx : Seg .i64 ((w.alloc (.cells #[.bool false, .slice none 0 0] 39)).alloc (.cells #[] 3)) (some ⟨b, off, none⟩) (xs.take (j + 1)) := (hs'.below ((Below.refl _ _).alloc (Nat.le_refl _) _)).take (j + 1)
        have HTL : Hid ((xs.take (j + 1)).length = j + 1) := by show _ = _; rw [List.length_take, HN.out]; omega
        go_wp2_with (at_builtin; refine wpList_append_seg rfl (.tmp 24) (.tmp 27) 37 rfl (w.heap.size + 1) 3 .i64 8 Tryz.underlying37 Tryz.info3 (by decide) _ [] rfl hob (some ⟨b, off, none⟩) (j + 1) _ rfl (fun h => by cases h) (xs.take (j + 1)) HTL.out hsx (by simp; omega) (by simp) ?_; intro v' w3 hown3 hblk3 hbel3; rw [List.nil_append] at hown3; obtain ⟨ao3, cap3, hv3, q1, q2, hs3, q3⟩ := hown3.open; rw [HTL.out] at hv3 q1; subst hv3; have HTY : Hid (IntB w3 ao3) := IntB.own hown3.ty; have B3 := B1.keep hbel3 (by omega); obtain ⟨c0, c1, f0, f1⟩ := B3.two; have HQ3 := Hid2.mk q3; clear hblk3 q3)
        refine bodyPost_ret (v := .agg #[.bool neg, .slice ao3 (j + 1) cap3]) (by simp [results, Tryz.results95, go_sem, c0, c1]) rfl ?_
        have e1 : trimZ xs = xs.take (j + 1) := by
          rw [trimZ_eq_of_zeros xs (j + 1) (by have := HN.out; omega) (by rw [HN.out]; exact hz.out), take_snoc xs j (by have := HN.out; omega), trimZ_snoc_ne _ _ (by rw [← HX.out]; exact HX0.out)]
        have hbw : Below w.heap.size w w3 := (((Below.refl _ _).alloc (Nat.le_refl _) _).alloc (by simp) _).trans (hbel3.mono (by omega))
        refine ⟨_, rfl, ⟨⟨neg, xs.take (j + 1), NumV.store2 ⟨ao3, cap3, by rw [HTL.out], by rw [HTL.out]; exact q1, q2, ?_, hs3, hd.take _, by rw [← e1]; exact norm_trimZ _, fun h => by rw [HTL.out] at h; omega, HTY.out⟩ B3 _ _ _ _, ?_, by rw [HTL.out]; exact hk⟩, ?_⟩, below_store2 hbw (Nat.le_refl _) _ _⟩
        · intro h
          rw [h] at hs3
          rcases hs3 with h' | ⟨_, _, h', _⟩
          · have := congrArg List.length h'; rw [HTL.out] at this; simp at this
          · cases h'
        · rw [← e1, val_trimZ]
        · intro x A n' c' he
          cases he
          have := (HQ3.out A rfl).1
          omega
    · have hk0 : k = 0 := by omega
      subst hk0
      go_wp2
      refine bodyPost_ret (v := .agg #[.bool false, .slice none 0 0]) (by simp [results, Tryz.results95, go_sem]) rfl ?_
      have e1 : trimZ xs = [] := by rw [trimZ_eq_of_zeros xs 0 (by omega) (by rw [HN.out]; exact hz.out)]; rfl
      have e2 := val_trimZ 10 xs
      rw [e1, val_nil] at e2
      refine ⟨_, rfl, ?_, (Below.refl _ _).alloc (Nat.le_refl _) _⟩
      refine ⟨?_, fun x A n' c' he => by cases he⟩
      rw [← e2, sv_zero]
      exact RNum.zero _ _

theorem rtrim_new (neg : Bool) (v : Value) (xs : List Nat) (z : Int) (w : World) (hv : ∃ ao cap, v = .slice ao xs.length cap ∧ xs.length ≤ cap ∧ cap ≤ maxLen ∧ Seg .i64 w ao xs) (h3 : xs.length ≤ 10000) (hd : Digs 10 xs) (hz' : sv neg (val 10 xs) = z) :
    Calls Tryz.prog 95 #[.bool neg, v] w fun e w' => ∃ s a n c, e = .returned (.agg #[.bool s, .slice a n c]) ∧ RNum w' (.agg #[.bool s, .slice a n c]) z xs.length ∧ (∀ A, a = some A → w.heap.size ≤ A.block) ∧ Below w.heap.size w w' := by
  obtain ⟨ao, cap, rfl, h1, h2, hs⟩ := hv
  subst hz'
  refine (rtrim_fresh neg ao xs.length cap xs w rfl h1 h2 h3 hs hd).mono ?_
  rintro e w' ⟨v, rfl, ⟨h, hf⟩, hb⟩
  obtain ⟨s, a, n, c, rfl⟩ := h.shape
  exact ⟨s, a, n, c, rfl, h, fun A hA => hf _ A _ _ (by rw [hA]), hb⟩

theorem field_digits (s : Bool) (a : Option Addr) (n c : Nat) (w : World) : (Instr.field 39 (Value.agg #[.bool s, .slice a n c]) 1).run Tryz.prog w = .ok (.slice a n c) w := by kernel_rfl

set_option maxRecDepth 20000 in
set_option maxHeartbeats 8000000 in
theorem rsplit_any (ao bo : Option Addr) (n m cap cap' : Nat) (xs ys : List Nat) (w : World) (hn : xs.length = n) (hm : ys.length = m) (h1 : n ≤ 9000) (h2 : m ≤ 9000) (hs : Seg .i64 w ao xs) (ht : Seg .i64 w bo ys) (hdx : Digs 10 xs) (hdy : Digs 10 ys) (hny : Norm ys) (hm0 : 0 < m) :
    Calls Tryz.prog 118 #[.slice ao n cap, .slice bo m cap'] w fun e w' => ∃ pa pc, ∃ ls qs : List Nat, e = .returned (.tuple #[.slice (some ⟨w.heap.size, 0, none⟩) n n, .slice pa ls.length pc]) ∧ qs.length = n ∧ Digs 10 qs ∧ val 10 qs = val 10 xs / val 10 ys ∧ Row .i64 3 w' w.heap.size qs ∧ DigL w' pa pc ls ∧ val 10 ls = val 10 xs % val 10 ys ∧ Below w.heap.size w w' := by
  have HN : Hid (xs.length = n) := hn
  have HM : Hid (ys.length = m) := hm
  have HY0 : Hid (0 < val 10 ys) := (hny.pos (B := 10) (List.ne_nil_of_length_pos (by omega))).resolve_right (by decide)
  have HYL : Hid (val 10 ys < 10 ^ m) := by have := val_lt hdy; rw [hm] at this; exact this
  clear hn hm
  go_enter Tryz.func118, Tryz.ntmps118
  go_wp2_with (first
    | (at_make; refine wpList_make_nums _ rfl _ _ 37 rfl 3 .i64 8 Tryz.underlying37 Tryz.info3 _ _ _ _ n rfl rfl rfl rfl (by decide) (by omega) ?_; intro w1 hr1 hb1 hz1))
  go_loopw [7, 8] (fun rv i wr => ∃ k pc : Nat, ∃ pa, ∃ ls qs : List Nat, k ≤ n ∧ rv = .slice pa ls.length pc ∧ i = .int .i64 ((k : Int) - 1) ∧ DigL wr pa pc ls ∧ Hid (val 10 ls < val 10 ys) ∧ Hid (qs.length = n) ∧ Digs 10 qs ∧ Hid (∀ j, j < k → qs.getD j 0 = 0) ∧
      Hid (val 10 (xs.drop k) = val 10 ys * val 10 (qs.drop k) + val 10 ls) ∧ Row .i64 3 wr w.heap.size qs ∧ Below w.heap.size w wr) (fun _ i _ => (intOf i + 1).toNat)
  case atStart =>
    refine ⟨n, 0, none, [], List.replicate n 0, Nat.le_refl _, rfl, rfl, DigL.nil _, (HY0.out : _ < _), (List.length_replicate : _ = _), Digs.replicate _ _ (by decide), ?_, ?_, hr1, hb1⟩
    · intro j hj
      rw [List.getD_eq_getElem?_getD, List.getElem?_replicate]
      split <;> rfl
    · show _ = _
      rw [List.drop_of_length_le (by have := HN.out; omega), List.drop_of_length_le (by simp), val_nil, Nat.mul_zero]
  case round =>
    obtain ⟨k, pc, pa, l0, qs, hk, rfl, rfl, hD0, HL0, HQ, hqd, HQZ, HV, hrow, hbel⟩ := hrel
    by_cases h0 : 0 < k
    · obtain ⟨j, rfl⟩ : ∃ j, k = j + 1 := ⟨k - 1, by omega⟩
      obtain ⟨b, off, rfl, hcs⟩ := hs.open j (by have := HN.out; omega)
      have hcx := hcs j (by have := HN.out; omega)
      have hbx : b < w.heap.size := World.block_lt_of_cell? w ⟨b, off + j, none⟩ hcx
      have hcell := (hbel.cell (p := ⟨b, off + j, none⟩) hbx).trans hcx
      obtain ⟨x, hx⟩ : ∃ x, x = xs.getD j 0 := ⟨_, rfl⟩
      rw [← hx] at hcell
      have hx10 : x < 10 := hx ▸ hdx.getD (by decide) j
      have HX : Hid (x = xs.getD j 0) := hx
      have HD10 : Hid (x + 10 * val 10 l0 < 10 * val 10 ys) := by show _ < _; have := HL0.out; omega
      have hlen0 : l0.length ≤ m := norm_len10 hD0.2.2.2.2.2 (Nat.lt_trans HL0.out HYL.out)
      have hob : Own .i64 3 wr.heap.size (wr.alloc (.cells #[.int .i64 x] 3 (0, 0))) (.slice (some ⟨wr.heap.size, 0, none⟩) 1 1) [x] := by
        simpa using Own.lit wr .i64 3 [x] wr.heap.size (Nat.le_refl _) (by simp)
      have hsl := hD0.2.2.2.1.below (below_new wr (.cells #[.int .i64 x] 3 (0, 0)))
      have HNone : Hid (pa = none → pc = 0 ∧ l0.length = 0) := fun h => ⟨hD0.2.2.1 h, by have := hD0.1; have := hD0.2.2.1 h; omega⟩
      have hsz0 := hbel.size
      clear hcs hcx hx
      go_wp2_with (first
        | (at_builtin; refine wpList_append_seg rfl (.tmp 23) (.tmp 24) 37 rfl wr.heap.size 3 .i64 8 Tryz.underlying37 Tryz.info3 (by decide) _ [x] rfl hob pa l0.length pc rfl HNone.out l0 rfl hsl (by simp; omega) (by simp) ?_; intro v3 w3 hown3 hblk3 hbel3)
        | (go_at_call 95; refine (rtrim_seg false v3 ([x] ++ l0) (((x + 10 * val 10 l0 : Nat) : Nat) : Int) _ (own_seg hown3) (by simp; omega) (Digs.append (Digs.cons hx10 (Digs.nil _)) hD0.2.2.2.2.1) (by simp [sv, val])).mono ?_; rintro e w4 ⟨s4, a4, n4, c4, rfl, hr4, hb4⟩; obtain ⟨l4, rfl, hD4, hv4⟩ := DigL.of hr4; have HV4 : Hid (val 10 l4 = x + 10 * val 10 l0) := hv4; clear hr4 hv4; have hf4 := field_digits s4 a4 l4.length c4 w4))
      have hB4 : Below wr.heap.size wr w4 := ((below_new wr (.cells #[.int .i64 x] 3 (0, 0))).trans hbel3).step hb4 (Nat.le_refl _)
      have hrow4 := hrow.keep hB4 hrow.lt
      have hbel4 := hbel.step hB4 (Nat.le_refl _)
      have hqz : qs.set j 0 = qs := set_zero (by have := HQ.out; omega) (HQZ.out j (by omega))
      have hrow5 : Row .i64 3 w4 w.heap.size (qs.set j 0) := by rw [hqz]; exact hrow4
      clear hown3 hblk3 hbel3 hb4 hf4 hB4 hrow hrow4 hbel hD0 hob hsl HNone hcell hqz hlen0 hsz0
      go_loopg [7] (val 10 l4) (fun gk rv wr => ∃ t pc : Nat, ∃ pa, ∃ ls : List Nat, rv = .slice pa ls.length pc ∧ DigL wr pa pc ls ∧ Hid (val 10 ls = gk ∧ gk + t * val 10 ys = x + 10 * val 10 l0) ∧ t ≤ 9 ∧ Row .i64 3 wr w.heap.size (qs.set j t) ∧ Below w.heap.size w wr)
      case atStart => exact ⟨0, c4, a4, l4, rfl, hD4, ⟨rfl, by rw [HV4.out]; omega⟩, by omega, hrow5, hbel4⟩
      case round =>
        obtain ⟨t, qc, qa, ls, rfl, hD, HG, ht9, hrw, hbl⟩ := hrel
        have hlen : ls.length ≤ m + 1 := by
          refine norm_len10 hD.2.2.2.2.2 ?_
          have h5 := HG.out
          have h6 := HD10.out
          have h7 := HYL.out
          rw [Nat.pow_succ]
          omega
        by_cases hge : val 10 ys ≤ val 10 ls
        · have HC : Hid (0 ≤ cmpL 10 ls ys) := (cmpL_ge hD.2.2.2.2.1 hdy hD.2.2.2.2.2 hny).2 hge
          have hcc : decide (0 ≤ cmpL 10 ls ys) = true := decide_eq_true HC.out
          have hll : m ≤ ls.length := by
            rcases Nat.lt_or_ge ls.length m with k | k
            · have := val_lt_of_length hD.2.2.2.2.1 hny (by decide) (by rw [HM.out]; exact k); omega
            · exact k
          have HGE : Hid (val 10 ys ≤ val 10 ls) := hge
          have ht8 : t < 9 := by
            rcases Nat.lt_or_ge t 9 with k | k
            · exact k
            · have e9 : t = 9 := by omega
              have h5 := HG.out
              have h6 := HD10.out
              subst e9
              omega
          clear hge
          go_wp2_with fail
          refine (rcmp_any qa bo ls.length m qc cap' ls ys _ rfl HM.out (by omega) (by omega) hD.2.2.2.1 (ht.below hbl) hD.2.2.2.2.1 hdy).mono ?_
          rintro e w5 ⟨rfl, hb5⟩
          have hD5 := hD.below hb5
          have hrw5 := hrw.keep hb5 hrw.lt
          have hbl5 := hbl.step hb5 (Nat.le_refl _)
          go_wp2_with fail
          refine (rless_any qa bo ls.length m qc cap' ls ys _ rfl HM.out (by omega) hll hD5.2.2.2.1 (ht.below hbl5) hD5.2.2.2.2.1 hdy HGE.out).mono ?_
          rintro e w6 ⟨v6, rfl, zs, hown6, hzd, hzv, hzl, hb6⟩
          have HO6 := own_seg hown6
          have HZ6 : Hid (val 10 zs = val 10 ls - val 10 ys ∧ zs.length = ls.length) := ⟨hzv, hzl⟩
          clear hown6 hzv hzl
          go_wp2_with fail
          refine (rtrim_new false v6 zs (((val 10 zs : Nat) : Nat) : Int) _ HO6 (by rw [HZ6.out.2]; omega) hzd (by simp [sv])).mono ?_
          rintro e w7 ⟨s7, a7, n7, c7, rfl, hr7, hfr7, hb7⟩
          obtain ⟨l7, rfl, hD7, hv7⟩ := DigL.of hr7
          have hf7 := field_digits s7 a7 l7.length c7 w7
          have HV7 : Hid (val 10 l7 = val 10 ls - val 10 ys) := by show _ = _; rw [hv7, HZ6.out.1]
          have hrw7 := (hrw5.keep hb6 hrw5.lt).keep hb7 (Nat.lt_of_lt_of_le hrw5.lt hb6.size)
          have hbl7 := (hbl5.step hb6 (Nat.le_refl _)).step hb7 (Nat.le_refl _)
          have hct := hrw7.cell j (by rw [List.length_set]; have := HQ.out; omega)
          rw [getD_set _ _ _ _ (by have := HQ.out; omega), if_pos rfl] at hct
          have hft := hrw7.frozen j
          have hrw8 := hrw7.set j ((t : Int) + 1) (t + 1) (by omega)
          rw [set_set] at hrw8
          have HR8 : Hid2 (Row .i64 3 (w7.setCell ⟨w.heap.size, j, none⟩ (.int .i64 ((t : Int) + 1))) w.heap.size (qs.set j (t + 1))) := ⟨hrw8⟩
          have HD8 : Hid2 (DigL (w7.setCell ⟨w.heap.size, j, none⟩ (.int .i64 ((t : Int) + 1))) a7 c7 l7) := ⟨hD7.1, hD7.2.1, hD7.2.2.1, ((Only.refl w.heap.size w7).set j _).seg hD7.2.2.2.1 (fun A hA => by have h8 := hfr7 A hA; have h9 := hrw5.lt; have h10 := hb6.size; omega), hD7.2.2.2.2⟩
          clear hr7 hv7 hfr7 hD hrw hbl hb5 hD5 hrw5 hbl5 HO6 hb6 hb7 hrw8
          go_wp2
          go_roundg (val 10 l7)
          case measure => rw [HV7.out, ← HG.out.1]; have := HGE.out; have := HY0.out; omega
          case rel =>
            refine ⟨t + 1, c7, a7, l7, rfl, HD8.out, ⟨rfl, ?_⟩, by omega, HR8.out, hbl7.setCell (p := ⟨w.heap.size, j, none⟩) (Nat.le_refl _) _⟩
            rw [HV7.out, Nat.add_mul, Nat.one_mul, ← HG.out.2, ← HG.out.1]
            have := HGE.out
            omega
        · have HC : Hid (¬ 0 ≤ cmpL 10 ls ys) := fun h => hge ((cmpL_ge hD.2.2.2.2.1 hdy hD.2.2.2.2.2 hny).1 h)
          have hcc : decide (0 ≤ cmpL 10 ls ys) = false := decide_eq_false (by have := HC.out; omega)
          have HLT : Hid (val 10 ls < val 10 ys) := Nat.lt_of_not_le hge
          clear hge
          go_wp2_with fail
          refine (rcmp_any qa bo ls.length m qc cap' ls ys _ rfl HM.out (by omega) (by omega) hD.2.2.2.1 (ht.below hbl) hD.2.2.2.2.1 hdy).mono ?_
          rintro e w5 ⟨rfl, hb5⟩
          have hD5 := hD.below hb5
          have hrw5 := hrw.keep hb5 hrw.lt
          have hbl5 := hbl.step hb5 (Nat.le_refl _)
          clear hD hrw hbl
          go_wp2
          go_roundw
          case rel =>
            refine ⟨j, qc, qa, ls, qs.set j t, by omega, rfl, by go_num, hD5, HLT, ?_, hqd.set _ _ (by omega), ?_, ?_, hrw5, hbl5⟩
            · show _ = _
              rw [List.length_set]; exact HQ.out
            · intro i hi
              rw [getD_set _ _ _ _ (by have := HQ.out; omega), if_neg (by omega)]
              exact HQZ.out i (by omega)
            · show _ = _
              rw [val_drop_cons 10 xs j (by have := HN.out; omega), ← HX.out, val_drop_cons 10 (qs.set j t) j (by rw [List.length_set]; have := HQ.out; omega), getD_set _ _ _ _ (by have := HQ.out; omega), if_pos rfl, drop_set_succ]
              exact split_step HV.out (by rw [HG.out.1]; exact HG.out.2)
          case measure => simp [intOf]
    · have hk0 : k = 0 := by omega
      subst hk0
      have h5 := split_end (X := val 10 xs) (by simpa using HV.out) HL0.out
      have HE : Hid2 (val 10 qs = val 10 xs / val 10 ys ∧ val 10 l0 = val 10 xs % val 10 ys) := ⟨h5⟩
      clear h5
      go_wp2
      go_ret2
      exact ⟨pa, pc, l0, qs, rfl, HQ.out, hqd, HE.out.1, hrow, hD0, HE.out.2, hbel⟩
end Go.Proofs.YteefniagebcagaaGreatDoor
