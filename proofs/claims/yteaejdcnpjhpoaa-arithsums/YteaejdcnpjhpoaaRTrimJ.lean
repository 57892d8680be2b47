/- Contracts of suretyref01's trim, form, TooBig whole; they prove no statement of the seat. -/
import Derived.Test.YteaejdcnpjhpoaaRBigJ
namespace Go.Proofs.Yteaejdcnpjhpoaa
open Go.RowKit

/-- A suretyref01.Num: its value, and how many digits it has at most. -/
def RNum (w : World) (v : Value) (z : Int) (L : Nat) : Prop := ∃ neg ds, NumV w v neg ds ∧ z = sv neg (val 10 ds) ∧ ds.length ≤ L

theorem RNum.below {w w' : World} {v : Value} {z : Int} {L : Nat} (h : RNum w v z L) (hb : Below w.heap.size w w') : RNum w' v z L := by
  obtain ⟨neg, ds, h1, h2⟩ := h
  exact ⟨neg, ds, h1.below hb, h2⟩
theorem RNum.store2 {w : World} {v : Value} {z : Int} {L : Nat} (h : RNum w v z L) {t : TypeId} {b : Nat} {x : Bool} {a : Option Addr} {n c : Nat} (hB : Blk t w b #[.bool x, .slice a n c]) (y : Bool) (a' : Option Addr) (n' c' : Nat) :
    RNum ((w.setCell ⟨b, 0, none⟩ (.bool y)).setCell ⟨b, 1, none⟩ (.slice a' n' c')) v z L := by
  obtain ⟨neg, ds, h1, h2⟩ := h
  exact ⟨neg, ds, h1.store2 hB y a' n' c', h2⟩
theorem RNum.zero (w : World) (L : Nat) : RNum w (.agg #[.bool false, .slice none 0 0]) 0 L := ⟨false, [], NumV.zero w, by simp [sv, val], Nat.zero_le _⟩
theorem RNum.shape {w : World} {v : Value} {z : Int} {L : Nat} (h : RNum w v z L) : ∃ x a n c, v = .agg #[.bool x, .slice a n c] := by
  obtain ⟨neg, ds, ⟨ao, cap, h, _⟩, _⟩ := h
  exact ⟨neg, ao, ds.length, cap, h⟩
theorem RNum.mono {w : World} {v : Value} {z : Int} {L L' : Nat} (h : RNum w v z L) (hl : L ≤ L') : RNum w v z L' := by
  obtain ⟨neg, ds, h1, h2, h3⟩ := h
  exact ⟨neg, ds, h1, h2, Nat.le_trans h3 hl⟩

theorem toobig_any (v : Value) (neg : Bool) (ds : List Nat) (w : World) (hv : NumV w v neg ds) (hl : ds.length ≤ 10000) :
    Calls Try.prog 50 #[v] w fun e w' => e = .returned (.bool (decide (lim ≤ val 10 ds))) ∧ Below w.heap.size w w' := by
  have hv' := hv
  obtain ⟨ao, cap, _, _, _, _, _, hd, hn, _⟩ := hv'
  rcases Nat.lt_trichotomy ds.length 309 with h | h | h
  · have := toobig_short hd h
    rw [show decide (lim ≤ val 10 ds) = false by simp; omega]
    exact toobig_short_any v neg ds w hv hl h
  · exact toobig_mid_any v neg ds w hv h
  · have := toobig_long hn h
    rw [show decide (lim ≤ val 10 ds) = true by simp; omega]
    exact toobig_long_any v neg ds w hv hl h

set_option maxHeartbeats 1000000 in
theorem rtrim_any (neg : Bool) (ao : Option Addr) (n cap : Nat) (xs : List Nat) (w : World) (hn : xs.length = n) (h1 : n ≤ cap) (_h2 : cap ≤ maxLen) (h3 : n ≤ 10000) (hs : Seg .i64 w ao xs) (hd : Digs 10 xs) :
    Calls Try.prog 60 #[.bool neg, .slice ao n cap] w fun e w' => ∃ v, e = .returned v ∧ RNum w' v (sv neg (val 10 xs)) n ∧ Below w.heap.size w w' := by
  have HN : Hid (xs.length = n) := hn
  clear hn
  unfold maxLen at _h2
  have hs' : Seg .i64 (w.alloc (.cells #[.bool false, .slice none 0 0] 31)) ao xs := hs.below ((Below.refl _ _).alloc (Nat.le_refl _) _)
  have B0 := Blk.new w 31 #[.bool false, .slice none 0 0]
  go_enter Try.func60, Try.ntmps60
  go_wp2
  go_loop [5] (fun i => ∃ k : Nat, k ≤ n ∧ i = .int .i64 k ∧ Hid (∀ i, k ≤ i → i < n → xs.getD i 0 = 0)) (fun i => (intOf i).toNat)
  case atStart => exact ⟨_, Nat.le_refl _, rfl, fun i h1 h2 => by omega⟩
  case round =>
    obtain ⟨k, hk, rfl, hz⟩ := hrel
    by_cases h0 : 0 < k
    · obtain ⟨b, off, rfl, hc⟩ := hs'.open (k - 1) (by have := HN.out; omega)
      obtain ⟨j, rfl⟩ : ∃ j, k = j + 1 := ⟨k - 1, by omega⟩
      have hcell := hc j (by have := HN.out; omega)
      obtain ⟨x, hx⟩ : ∃ x, x = xs.getD j 0 := ⟨_, rfl⟩
      rw [← hx] at hcell
      have HX : Hid (x = xs.getD j 0) := hx
      clear hc hx
      by_cases hx0 : x = 0
      · have hb : ((x : Int) == 0) = true := by rw [beq_iff_eq]; omega
        have HX0 : Hid (x = 0) := hx0
        clear hx0
        go_wp2
        go_round
        case rel =>
          refine ⟨j, by omega, rfl, fun i h1 h2 => ?_⟩
          by_cases e : i = j
          · subst e; rw [← HX.out, HX0.out]
          · exact hz.out i (by omega) h2
        case measure => simp [intOf]
      · have hb : ((x : Int) == 0) = false := by rw [beq_eq_false_iff_ne]; omega
        have HX0 : Hid (x ≠ 0) := hx0
        have hk0 : (((j : Int) + 1) == 0) = false := by rw [beq_eq_false_iff_ne]; omega
        clear hx0
        have hjn : j + 1 ≤ 10000 := by omega
        have hob : Own .i64 3 (w.heap.size + 1) ((w.alloc (.cells #[.bool false, .slice none 0 0] 31)).alloc (.cells #[] 3)) (.slice (some ⟨w.heap.size + 1, 0, none⟩) 0 0) [] := by
          have h := Own.lit (w.alloc (.cells #[.bool false, .slice none 0 0] 31)) .i64 3 [] (w.heap.size + 1) (by simp) (by decide)
          simpa using h
        have B1 : Blk 31 ((w.alloc (.cells #[.bool false, .slice none 0 0] 31)).alloc (.cells #[] 3)) w.heap.size #[.bool false, .slice none 0 0] := B0.alloc _
        have hsx : Seg .i64 ((w.alloc (.cells #[.bool false, .slice none 0 0] 31)).alloc (.cells #[] 3)) (some ⟨b, off, none⟩) (xs.take (j + 1)) := (hs'.below ((Below.refl _ _).alloc (Nat.le_refl _) _)).take (j + 1)
        have HTL : Hid ((xs.take (j + 1)).length = j + 1) := by show _ = _; rw [List.length_take, HN.out]; omega
        go_wp2_with (at_builtin; refine wpList_append_seg rfl (.tmp 24) (.tmp 27) 29 rfl (w.heap.size + 1) 3 .i64 8 Try.underlying29 Try.info3 (by decide) _ [] rfl hob (some ⟨b, off, none⟩) (j + 1) _ rfl (fun h => by cases h) (xs.take (j + 1)) HTL.out hsx (by simp; omega) (by simp) ?_; intro v' w3 hown3 hblk3 hbel3; rw [List.nil_append] at hown3; obtain ⟨ao3, cap3, hv3, q1, q2, hs3, q3⟩ := hown3.open; rw [HTL.out] at hv3 q1; subst hv3; have B3 := B1.keep hbel3 (by omega); obtain ⟨c0, c1, f0, f1⟩ := B3.two; clear hblk3 q3)
        refine bodyPost_ret (v := .agg #[.bool neg, .slice ao3 (j + 1) cap3]) (by simp [results, Try.results60, go_sem, c0, c1]) rfl ?_
        have e1 : trimZ xs = xs.take (j + 1) := by
          rw [trimZ_eq_of_zeros xs (j + 1) (by have := HN.out; omega) (by rw [HN.out]; exact hz.out), take_snoc xs j (by have := HN.out; omega), trimZ_snoc_ne _ _ (by rw [← HX.out]; exact HX0.out)]
        have hbw : Below w.heap.size w w3 := (((Below.refl _ _).alloc (Nat.le_refl _) _).alloc (by simp) _).trans (hbel3.mono (by omega))
        refine ⟨_, rfl, ⟨neg, xs.take (j + 1), NumV.store2 ⟨ao3, cap3, by rw [HTL.out], by rw [HTL.out]; exact q1, q2, ?_, hs3, hd.take _, by rw [← e1]; exact norm_trimZ _, fun h => by rw [HTL.out] at h; omega⟩ B3 _ _ _ _, ?_, by rw [HTL.out]; exact hk⟩, below_store2 hbw (Nat.le_refl _) _ _⟩
        · intro h
          rw [h] at hs3
          rcases hs3 with h' | ⟨_, _, h', _⟩
          · have := congrArg List.length h'; rw [HTL.out] at this; simp at this
          · cases h'
        · rw [← e1, val_trimZ]
    · have hk0 : k = 0 := by omega
      subst hk0
      go_wp2
      refine bodyPost_ret (v := .agg #[.bool false, .slice none 0 0]) (by simp [results, Try.results60, go_sem]) rfl ?_
      have e1 : trimZ xs = [] := by rw [trimZ_eq_of_zeros xs 0 (by omega) (by rw [HN.out]; exact hz.out)]; rfl
      have e2 := val_trimZ 10 xs
      rw [e1, val_nil] at e2
      refine ⟨_, rfl, ?_, (Below.refl _ _).alloc (Nat.le_refl _) _⟩
      rw [← e2, sv_zero]
      exact RNum.zero _ _
end Go.Proofs.Yteaejdcnpjhpoaa
