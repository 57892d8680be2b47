/- Contract of suretyref01's Exact; it proves no statement of the seat. -/
import Derived.Test.YteaejdcnpjhpoaaRForm2J
namespace Go.Proofs.Yteaejdcnpjhpoaa
open Go.RowKit

/-- The digits of a text's end, the lowest first. -/
def digs (l : List Nat) : List Nat := l.reverse.map fun c => c - 48
theorem digs_length (l : List Nat) : (digs l).length = l.length := by simp [digs]
theorem digs_cons (x : Nat) (l : List Nat) : digs (x :: l) = digs l ++ [x - 48] := by simp [digs]
theorem digs_snoc (x : Nat) (l : List Nat) : digs (l ++ [x]) = (x - 48) :: digs l := by simp [digs]
theorem dec_val_aux (n : Nat) : ∀ l : List Nat, l.length = n → dec l = val 10 (digs l) := by
  induction n with
  | zero => intro l h; rw [List.eq_nil_of_length_eq_zero h]; rfl
  | succ n ih =>
    intro l h
    have e := take_snoc l n (by omega)
    rw [show n + 1 = l.length by omega, List.take_length] at e
    have h1 := ih (l.take n) (by rw [List.length_take]; omega)
    rw [e, dec_snoc, digs_snoc, val_cons, h1]
    omega
theorem dec_val (l : List Nat) : dec l = val 10 (digs l) := dec_val_aux l.length l rfl
theorem digs_digs (l : List Nat) (h : ∀ x, x ∈ l → x ≤ 57) : Digs 10 (digs l) := by
  intro y hy
  obtain ⟨x, hx, rfl⟩ := List.mem_map.1 hy
  have := h x (List.mem_reverse.1 hx)
  omega

set_option maxHeartbeats 2000000 in
theorem exact_aux (s : ByteArray) (neg : Bool) (i0 : Nat) (w : World) (hl : s.size ≤ 9000) (hsz : i0 < s.size) (hi0 : i0 ≤ 1) (hneg : neg = true → i0 = 1 ∧ (bs s).getD 0 0 = 45) (hpos : neg = false → i0 = 0)
    (hdg : ∀ i, i0 ≤ i → i < s.size → 48 ≤ (bs s).getD i 0 ∧ (bs s).getD i 0 ≤ 57) :
    Calls Try.prog 49 #[.string s] w fun e w' => ∃ v, e = .returned v ∧ RNum w' v (sv neg (dec ((bs s).drop i0))) s.size ∧ Below w.heap.size w w' := by
  have HDG : Hid (∀ i, i0 ≤ i → i < s.size → 48 ≤ (bs s).getD i 0 ∧ (bs s).getD i 0 ≤ 57) := hdg
  have HNG : Hid ((neg = true → i0 = 1 ∧ (bs s).getD 0 0 = 45) ∧ (neg = false → i0 = 0)) := ⟨hneg, hpos⟩
  have B0 := Blk.new w 31 #[.bool false, .slice none 0 0]
  have hs0 : 0 < s.size := by omega
  have HT : Hid ((((s[0]'hs0).toNat : Int) == 45) = neg) := by
    show _ = _
    have hx := bs_get s 0 hs0
    cases neg with
    | true => rw [beq_iff_eq]; have := (hneg rfl).2; omega
    | false =>
      rw [beq_eq_false_iff_ne]
      have := hdg 0 (by rw [hpos rfl]; exact Nat.le_refl _) hs0
      omega
  clear hdg hneg hpos
  go_enter Try.func49, Try.ntmps49
  go_wp2
  go_loopw [3, 4] (fun v i wr => ∃ k : Nat, i0 ≤ k ∧ k ≤ s.size ∧ i = .int .i64 ((k : Int) - 1) ∧ Own .i64 3 (w.heap.size + 1) wr v (digs ((bs s).drop k)) ∧ Below (w.heap.size + 1) (w.alloc (.cells #[.bool false, .slice none 0 0] 31)) wr) (fun _ i _ => (intOf i + 1).toNat)
  case atStart =>
    refine ⟨s.size, by omega, Nat.le_refl _, rfl, ?_, Below.refl _ _⟩
    rw [List.drop_of_length_le (by rw [bs_length]; exact Nat.le_refl _)]
    exact Own.nil _ _ _ _
  case round =>
    obtain ⟨k, hk0, hk, rfl, hown, hbel⟩ := hrel
    by_cases hgo : i0 < k
    · obtain ⟨j, rfl⟩ : ∃ j, k = j + 1 := ⟨k - 1, by omega⟩
      have hlt : j < s.size := by omega
      have HX : Hid ((s[j]'hlt).toNat = (bs s).getD j 0) := bs_get s j hlt
      have hd := HDG.out j (by omega) hlt
      rw [← HX.out] at hd
      obtain ⟨hd1, hd2⟩ := hd
      have t1 : (((s[j]'hlt).toNat : Int) != 45) = true := by rw [bne_iff_ne]; omega
      have HZL : Hid ((digs ((bs s).drop (j + 1))).length ≤ 100000) := by show _ ≤ _; rw [digs_length, List.length_drop, bs_length]; omega
      have HSZ : Hid (w.heap.size + 1 ≤ wr.heap.size) := by have := hbel.size; simp at this; exact this
      go_wp2_with (at_builtin; refine wpList_append_num rfl (.tmp 18) (.tmp 24) 29 rfl (w.heap.size + 1) 3 .i64 8 Try.underlying29 Try.info3 (by decide) _ _ rfl hown _ ((s[j]'hlt).toNat - 48) (by omega) rfl HZL.out HSZ.out ?_; intro v' w3 hown3 hblk3 hbel3)
      go_roundw
      case rel =>
        refine ⟨j, by omega, by omega, rfl, ?_, hbel.trans hbel3⟩
        rw [drop_cons_getD _ j (by rw [bs_length]; exact hlt), digs_cons, ← HX.out]
        exact hown3
      case measure => simp [intOf]
    · have hki : k = i0 := by omega
      subst hki
      obtain ⟨ao, cap, rfl, q1, q2, hsg, q3⟩ := hown.open
      have HLL : Hid ((digs ((bs s).drop k)).length = s.size - k) := by show _ = _; rw [digs_length, List.length_drop, bs_length]
      rw [HLL.out] at q1
      rw [HLL.out]
      have hdd : Digs 10 (digs ((bs s).drop k)) := by
        refine digs_digs _ (fun x hx => ?_)
        obtain ⟨i, hi, rfl⟩ := List.mem_iff_getElem.1 hx
        rw [List.length_drop, bs_length] at hi
        have := HDG.out (k + i) (by omega) (by omega)
        rw [List.getD_eq_getElem?_getD, List.getElem?_eq_getElem (by rw [bs_length]; omega)] at this
        simp only [List.getElem_drop]
        simpa using this.2
      have B1 := B0.keep hbel (by omega)
      obtain ⟨c0, c1, f0, f1⟩ := B1.two
      have hbw : Below w.heap.size w wr := ((Below.refl _ _).alloc (Nat.le_refl _) _).trans (hbel.mono (by omega))
      cases neg with
      | true =>
        have hk1 := (HNG.out.1 rfl).1
        subst hk1
        have t0 : (((s[0]'hs0).toNat : Int) == 45) = true := HT.out
        have t1 : (((s[0]'hs0).toNat : Int) != 45) = false := by rw [bne_eq_false_iff_eq]; rw [beq_iff_eq] at t0; exact t0
        go_wp2_with fail
        refine (rtrim_any true ao (s.size - 1) cap (digs ((bs s).drop 1)) _ HLL.out q1 q2 (by omega) hsg hdd).mono ?_
        rintro e w4 ⟨v4, rfl, hn4, hb4⟩
        obtain ⟨x, a, n, c', rfl⟩ := hn4.shape
        have B2 := B1.stay hb4
        clear c0 c1 f0 f1
        obtain ⟨c0, c1, f0, f1⟩ := B2.two
        go_wp2
        refine bodyPost_ret (v := .agg #[.bool x, .slice a n c']) (by simp [results, Try.results49, go_sem, c0, c1]) rfl ?_
        refine ⟨_, rfl, ?_, below_store2 (hbw.step hb4 (Nat.le_refl _)) (Nat.le_refl _) _ _⟩
        rw [dec_val]
        exact (hn4.mono (Nat.sub_le _ _)).store2 B2 _ _ _ _
      | false =>
        have hk1 := HNG.out.2 rfl
        subst hk1
        have t0 : (((s[0]'hs0).toNat : Int) == 45) = false := HT.out
        go_wp2_with fail
        refine (rtrim_any false ao (s.size - 0) cap (digs ((bs s).drop 0)) _ HLL.out q1 q2 (by omega) hsg hdd).mono ?_
        rintro e w4 ⟨v4, rfl, hn4, hb4⟩
        obtain ⟨x, a, n, c', rfl⟩ := hn4.shape
        have B2 := B1.stay hb4
        clear c0 c1 f0 f1
        obtain ⟨c0, c1, f0, f1⟩ := B2.two
        go_wp2
        refine bodyPost_ret (v := .agg #[.bool x, .slice a n c']) (by simp [results, Try.results49, go_sem, c0, c1]) rfl ?_
        refine ⟨_, rfl, ?_, below_store2 (hbw.step hb4 (Nat.le_refl _)) (Nat.le_refl _) _ _⟩
        rw [dec_val]
        exact (hn4.mono (Nat.sub_le _ _)).store2 B2 _ _ _ _
end Go.Proofs.Yteaejdcnpjhpoaa
