/- Joined: RExact, RParse, Keep, Pars: words and contracts; no statement of the seat is proved here. -/
import Derived.Test.YtidpbdhhbeaijabJoin7Folds
import Derived.Test.YtidpbdhhbeaijabJoin6Folds
import Derived.Deep.DeepCutAuto
/- Contract of suretyref01's Exact; it proves no statement of the seat. -/
namespace Go.Proofs.Ytidpbdhhbeaijab
open Go.RowKit

/-- The digits of a text's end, the lowest first. -/
def digs (l : List Nat) : List Nat := l.reverse.map fun c => c - 48
theorem digs_length (l : List Nat) : (digs l).length = l.length := by simp [digs]
theorem digs_cons (x : Nat) (l : List Nat) : digs (x :: l) = digs l ++ [x - 48] := by simp [digs]
theorem digs_snoc (x : Nat) (l : List Nat) : digs (l ++ [x]) = (x - 48) :: digs l := by simp [digs]
theorem dec_val_aux (n : Nat) : ∀ l : List Nat, l.length = n → dec l = val 10 (digs l) := by
  induction n with
  | zero => intro l h; rw [List.eq_nil_of_length_eq_zero h]; rfl
  | succ n ih =>
    intro l h
    have e := take_snoc l n (by omega)
    rw [show n + 1 = l.length by omega, List.take_length] at e
    have h1 := ih (l.take n) (by rw [List.length_take]; omega)
    rw [e, dec_snoc, digs_snoc, val_cons, h1]
    omega
theorem dec_val (l : List Nat) : dec l = val 10 (digs l) := dec_val_aux l.length l rfl
theorem digs_digs (l : List Nat) (h : ∀ x, x ∈ l → x ≤ 57) : Digs 10 (digs l) := by
  intro y hy
  obtain ⟨x, hx, rfl⟩ := List.mem_map.1 hy
  have := h x (List.mem_reverse.1 hx)
  omega

set_option maxHeartbeats 2000000 in
theorem exact_aux (s : ByteArray) (neg : Bool) (i0 : Nat) (w : World) (hl : s.size ≤ 9000) (hsz : i0 < s.size) (hi0 : i0 ≤ 1) (hneg : neg = true → i0 = 1 ∧ (bs s).getD 0 0 = 45) (hpos : neg = false → i0 = 0)
    (hdg : ∀ i, i0 ≤ i → i < s.size → 48 ≤ (bs s).getD i 0 ∧ (bs s).getD i 0 ≤ 57) :
    Calls Try.prog 75 #[.string s] w fun e w' => ∃ v, e = .returned v ∧ RNum w' v (sv neg (dec ((bs s).drop i0))) s.size ∧ Below w.heap.size w w' := by
  have HDG : Hid (∀ i, i0 ≤ i → i < s.size → 48 ≤ (bs s).getD i 0 ∧ (bs s).getD i 0 ≤ 57) := hdg
  have HNG : Hid ((neg = true → i0 = 1 ∧ (bs s).getD 0 0 = 45) ∧ (neg = false → i0 = 0)) := ⟨hneg, hpos⟩
  have B0 := Blk.new w 30 #[.bool false, .slice none 0 0]
  have hs0 : 0 < s.size := by omega
  have HT : Hid ((((s[0]'hs0).toNat : Int) == 45) = neg) := by
    show _ = _
    have hx := bs_get s 0 hs0
    cases neg with
    | true => rw [beq_iff_eq]; have := (hneg rfl).2; omega
    | false =>
      rw [beq_eq_false_iff_ne]
      have := hdg 0 (by rw [hpos rfl]; exact Nat.le_refl _) hs0
      omega
  clear hdg hneg hpos
  go_enter Try.func75, Try.ntmps75
  go_wp2
  go_loopw [3, 4] (fun v i wr => ∃ k : Nat, i0 ≤ k ∧ k ≤ s.size ∧ i = .int .i64 ((k : Int) - 1) ∧ Own .i64 3 (w.heap.size + 1) wr v (digs ((bs s).drop k)) ∧ Below (w.heap.size + 1) (w.alloc (.cells #[.bool false, .slice none 0 0] 30)) wr) (fun _ i _ => (intOf i + 1).toNat)
  case atStart =>
    refine ⟨s.size, by omega, Nat.le_refl _, rfl, ?_, Below.refl _ _⟩
    rw [List.drop_of_length_le (by rw [bs_length]; exact Nat.le_refl _)]
    exact Own.nil _ _ _ _
  case round =>
    obtain ⟨k, hk0, hk, rfl, hown, hbel⟩ := hrel
    by_cases hgo : i0 < k
    · obtain ⟨j, rfl⟩ : ∃ j, k = j + 1 := ⟨k - 1, by omega⟩
      have hlt : j < s.size := by omega
      have HX : Hid ((s[j]'hlt).toNat = (bs s).getD j 0) := bs_get s j hlt
      have hd := HDG.out j (by omega) hlt
      rw [← HX.out] at hd
      obtain ⟨hd1, hd2⟩ := hd
      have t1 : (((s[j]'hlt).toNat : Int) != 45) = true := by rw [bne_iff_ne]; omega
      have HZL : Hid ((digs ((bs s).drop (j + 1))).length ≤ 100000) := by show _ ≤ _; rw [digs_length, List.length_drop, bs_length]; omega
      have HSZ : Hid (w.heap.size + 1 ≤ wr.heap.size) := by have := hbel.size; simp at this; exact this
      go_wp2_with (at_builtin; refine wpList_append_num rfl (.tmp 18) (.tmp 24) 28 rfl (w.heap.size + 1) 3 .i64 8 Try.underlying28 Try.info3 (by decide) _ _ rfl hown _ ((s[j]'hlt).toNat - 48) (by omega) rfl HZL.out HSZ.out ?_; intro v' w3 hown3 hblk3 hbel3)
      go_roundw
      case rel =>
        refine ⟨j, by omega, by omega, rfl, ?_, hbel.trans hbel3⟩
        rw [drop_cons_getD _ j (by rw [bs_length]; exact hlt), digs_cons, ← HX.out]
        exact hown3
      case measure => simp [intOf]
    · have hki : k = i0 := by omega
      subst hki
      obtain ⟨ao, cap, rfl, q1, q2, hsg, q3⟩ := hown.open
      have HLL : Hid ((digs ((bs s).drop k)).length = s.size - k) := by show _ = _; rw [digs_length, List.length_drop, bs_length]
      rw [HLL.out] at q1
      rw [HLL.out]
      have hdd : Digs 10 (digs ((bs s).drop k)) := by
        refine digs_digs _ (fun x hx => ?_)
        obtain ⟨i, hi, rfl⟩ := List.mem_iff_getElem.1 hx
        rw [List.length_drop, bs_length] at hi
        have := HDG.out (k + i) (by omega) (by omega)
        rw [List.getD_eq_getElem?_getD, List.getElem?_eq_getElem (by rw [bs_length]; omega)] at this
        simp only [List.getElem_drop]
        simpa using this.2
      have B1 := B0.keep hbel (by omega)
      obtain ⟨c0, c1, f0, f1⟩ := B1.two
      have hbw : Below w.heap.size w wr := ((Below.refl _ _).alloc (Nat.le_refl _) _).trans (hbel.mono (by omega))
      cases neg with
      | true =>
        have hk1 := (HNG.out.1 rfl).1
        subst hk1
        have t0 : (((s[0]'hs0).toNat : Int) == 45) = true := HT.out
        have t1 : (((s[0]'hs0).toNat : Int) != 45) = false := by rw [bne_eq_false_iff_eq]; rw [beq_iff_eq] at t0; exact t0
        go_wp2_with fail
        refine (rtrim_any true ao (s.size - 1) cap (digs ((bs s).drop 1)) _ HLL.out q1 q2 (by omega) hsg hdd).mono ?_
        rintro e w4 ⟨v4, rfl, hn4, hb4⟩
        obtain ⟨x, a, n, c', rfl⟩ := hn4.shape
        have B2 := B1.stay hb4
        clear c0 c1 f0 f1
        obtain ⟨c0, c1, f0, f1⟩ := B2.two
        go_wp2
        refine bodyPost_ret (v := .agg #[.bool x, .slice a n c']) (by simp [results, Try.results75, go_sem, c0, c1]) rfl ?_
        refine ⟨_, rfl, ?_, below_store2 (hbw.step hb4 (Nat.le_refl _)) (Nat.le_refl _) _ _⟩
        rw [dec_val]
        exact (hn4.mono (Nat.sub_le _ _)).store2 B2 _ _ _ _
      | false =>
        have hk1 := HNG.out.2 rfl
        subst hk1
        have t0 : (((s[0]'hs0).toNat : Int) == 45) = false := HT.out
        go_wp2_with fail
        refine (rtrim_any false ao (s.size - 0) cap (digs ((bs s).drop 0)) _ HLL.out q1 q2 (by omega) hsg hdd).mono ?_
        rintro e w4 ⟨v4, rfl, hn4, hb4⟩
        obtain ⟨x, a, n, c', rfl⟩ := hn4.shape
        have B2 := B1.stay hb4
        clear c0 c1 f0 f1
        obtain ⟨c0, c1, f0, f1⟩ := B2.two
        go_wp2
        refine bodyPost_ret (v := .agg #[.bool x, .slice a n c']) (by simp [results, Try.results75, go_sem, c0, c1]) rfl ?_
        refine ⟨_, rfl, ?_, below_store2 (hbw.step hb4 (Nat.le_refl _)) (Nat.le_refl _) _ _⟩
        rw [dec_val]
        exact (hn4.mono (Nat.sub_le _ _)).store2 B2 _ _ _ _
end Go.Proofs.Ytidpbdhhbeaijab
/- Contract of suretyref01's Parse; it proves no statement of the seat. -/
namespace Go.Proofs.Ytidpbdhhbeaijab
open Go.RowKit

/-- What a reckoning of the document's answers: the number, or 11 and 0 where it is too large. -/
def RHeld (w : World) (v : Value) (c z : Int) (L : Nat) : Prop := (c = 0 ∧ z.natAbs < lim ∧ RNum w v z L) ∨ (c = 11 ∧ lim ≤ z.natAbs ∧ RNum w v 0 L)
/-- What its Parse answers. -/
def RParseR (w : World) (v : Value) (c : Int) (l : List Nat) : Prop := (¬ Good l ∧ c = 10 ∧ RNum w v 0 400) ∨ (Good l ∧ RHeld w v c (pval l) 400)

theorem pval_natAbs (l : List Nat) : (pval l).natAbs = dec (pbody l) := sv_natAbs _ _

theorem Good.big {l : List Nat} (h : Good l) (hl : 400 < l.length) : lim ≤ (pval l).natAbs := by
  rw [pval_natAbs]
  refine h.1.big ?_
  unfold pbody
  split
  · rw [List.length_drop]; omega
  · omega

theorem exact_any (s : ByteArray) (w : World) (hl : s.size ≤ 9000) (hg : Good (bs s)) :
    Calls Try.prog 75 #[.string s] w fun e w' => ∃ v, e = .returned v ∧ RNum w' v (pval (bs s)) s.size ∧ Below w.heap.size w w' := by
  by_cases hp : pneg (bs s) = true
  · obtain ⟨g1, g2, g3⟩ := (good_iff (bs s) 1 (by rw [if_pos hp])).1 hg
    rw [bs_length] at g1 g3
    have e : pval (bs s) = sv true (dec ((bs s).drop 1)) := by rw [pval, pbody, if_pos hp, hp]
    rw [e]
    exact exact_aux s true 1 w hl g1 (Nat.le_refl _) (fun _ => ⟨rfl, ((pneg_iff s).1 hp).2⟩) (fun h => by cases h) g3
  · obtain ⟨g1, g2, g3⟩ := (good_iff (bs s) 0 (by rw [if_neg hp])).1 hg
    rw [bs_length] at g1 g3
    have e : pval (bs s) = sv false (dec ((bs s).drop 0)) := by rw [pval, pbody, if_neg hp, Bool.eq_false_iff.2 hp, List.drop_zero]
    rw [e]
    exact exact_aux s false 0 w hl g1 (Nat.zero_le _) (fun h => by cases h) (fun _ => rfl) g3

set_option maxHeartbeats 1000000 in
theorem rparse_any (s : ByteArray) (w : World) (hl : s.size ≤ 10000) :
    Calls Try.prog 56 #[.string s] w fun e w' => ∃ v c, e = .returned (.tuple #[v, .int .i64 c]) ∧ Below w.heap.size w w' ∧ RParseR w' v c (bs s) := by
  have B0 := Blk.new w 30 #[.bool false, .slice none 0 0]
  by_cases hg : Good (bs s)
  · have HG : Hid (Good (bs s)) := hg
    clear hg
    by_cases h4 : 400 < s.size
    · go_enter Try.func56, Try.ntmps56
      go_wp2_with (go_at_call 74; refine (form_yes s _ hl HG.out).mono ?_; rintro e w' ⟨rfl, rfl⟩)
      refine bodyPost_ret (v := .tuple #[.agg #[.bool false, .slice none 0 0], .int .i64 11]) (by simp [results, Try.results56, go_sem]) rfl ?_
      exact ⟨_, _, rfl, (Below.refl _ _).alloc (Nat.le_refl _) _, Or.inr ⟨HG.out, Or.inr ⟨rfl, HG.out.big (by rw [bs_length]; exact h4), RNum.zero _ _⟩⟩⟩
    · go_enter Try.func56, Try.ntmps56
      go_wp2_with (first
        | (go_at_call 74; refine (form_yes s _ hl HG.out).mono ?_; rintro e w' ⟨rfl, rfl⟩)
        | (go_at_call 75; refine (exact_any s _ (by omega) HG.out).mono ?_; rintro e w1 ⟨v1, rfl, hn1, hb1⟩; obtain ⟨neg, ds, ⟨ao, cap, rfl, k1, k2, k3, k4, k5, k6, k7⟩, hz, hdl⟩ := hn1; have B1 := B0.stay hb1; obtain ⟨c0, c1, f0, f1⟩ := B1.two; have HZ : Hid (pval (bs s) = sv neg (val 10 ds)) := hz; clear hz))
      have hv1 : NumV w1 (.agg #[.bool neg, .slice ao ds.length cap]) neg ds := ⟨ao, cap, rfl, k1, k2, k3, k4, k5, k6, k7⟩
      have hb2 : Below w.heap.size w w1 := ((Below.refl _ _).alloc (Nat.le_refl _) _).step hb1 (Nat.le_refl _)
      have C1 := Blk.new w1 30 #[.bool neg, .slice ao ds.length cap]
      have hlt := B1.lt
      clear k3 k7
      by_cases hbig : lim ≤ val 10 ds
      · have hdc : decide (lim ≤ val 10 ds) = true := by simp [hbig]
        refine (toobig_any _ neg ds _ (hv1.below ((Below.refl _ _).alloc (Nat.le_refl _) _)) (by omega)).mono ?_
        rintro e w2 ⟨rfl, hb3⟩
        have B2 := (B1.alloc (.cells #[.bool neg, .slice ao ds.length cap] 30 (0, 0))).stay hb3
        have C2 := C1.stay hb3
        clear c0 c1 f0 f1
        obtain ⟨c0, c1, f0, f1⟩ := B2.two
        obtain ⟨d0, d1, g0, g1⟩ := C2.two
        have HB : Hid (lim ≤ val 10 ds) := hbig
        clear hbig
        go_wp2
        refine bodyPost_ret (v := .tuple #[.agg #[.bool false, .slice none 0 0], .int .i64 11]) (by simp [results, Try.results56, go_sem, c0, c1]) rfl ?_
        have hb4 : Below w.heap.size w w2 := (hb2.alloc hb2.size _).step hb3 (Nat.le_refl _)
        exact ⟨_, _, rfl, below_store2 hb4 (Nat.le_refl _) _ _, Or.inr ⟨HG.out, Or.inr ⟨rfl, by rw [HZ.out, sv_natAbs]; exact HB.out, RNum.zero _ _⟩⟩⟩
      · have hdc : decide (lim ≤ val 10 ds) = false := by simp [hbig]
        refine (toobig_any _ neg ds _ (hv1.below ((Below.refl _ _).alloc (Nat.le_refl _) _)) (by omega)).mono ?_
        rintro e w2 ⟨rfl, hb3⟩
        have B2 := (B1.alloc (.cells #[.bool neg, .slice ao ds.length cap] 30 (0, 0))).stay hb3
        have C2 := C1.stay hb3
        clear c0 c1 f0 f1
        obtain ⟨c0, c1, f0, f1⟩ := B2.two
        obtain ⟨d0, d1, g0, g1⟩ := C2.two
        have HB : Hid (¬ lim ≤ val 10 ds) := hbig
        clear hbig
        go_wp2
        refine bodyPost_ret (v := .tuple #[.agg #[.bool neg, .slice ao ds.length cap], .int .i64 0]) (by simp [results, Try.results56, go_sem, c0, c1]) rfl ?_
        have hb4 : Below w.heap.size w w2 := (hb2.alloc hb2.size _).step hb3 (Nat.le_refl _)
        have hw : Below w1.heap.size w1 w2 := ((Below.refl _ _).alloc (Nat.le_refl _) _).step hb3 (Nat.le_refl _)
        refine ⟨_, _, rfl, below_store2 hb4 (Nat.le_refl _) _ _, Or.inr ⟨HG.out, Or.inl ⟨rfl, by rw [HZ.out, sv_natAbs]; exact Nat.lt_of_not_le HB.out, ?_⟩⟩⟩
        exact ⟨neg, ds, (hv1.below hw).store2 B2 _ _ _ _, HZ.out, by omega⟩
  · have HG : Hid (¬ Good (bs s)) := hg
    clear hg
    go_enter Try.func56, Try.ntmps56
    go_wp2_with (go_at_call 74; refine (form_no s _ hl HG.out).mono ?_; rintro e w' ⟨rfl, rfl⟩)
    refine bodyPost_ret (v := .tuple #[.agg #[.bool false, .slice none 0 0], .int .i64 10]) (by simp [results, Try.results56, go_sem]) rfl ?_
    exact ⟨_, _, rfl, (Below.refl _ _).alloc (Nat.le_refl _) _, Or.inl ⟨HG.out, rfl, RNum.zero _ _⟩⟩
end Go.Proofs.Ytidpbdhhbeaijab
/- Words for regions that draw their order, and contracts of arith's calls at small numbers; they prove no statement of the seat. -/
namespace Go.Proofs.Ytidpbdhhbeaijab
open Go.RowKit

theorem text_a (v : Value) (z : Int) (w : World) (hv : AInt w v z) :
    Calls Try.prog 28 #[v] w fun e w' => ∃ S, e = .returned (.string S) ∧ TextOf S z ∧ Below w.heap.size w w' := by
  obtain ⟨neg, xs, h1, h2, h3⟩ := hv
  rw [h2]
  exact text_any v neg xs w h1 (by have := AInt.len h1 h3; omega)

theorem div_one (va vb : Value) (x y : Int) (w : World) (ha : AInt w va x) (hb : AInt w vb y) (hy0 : y ≠ 0) (hy : y.natAbs < 4294967296) :
    Calls Try.prog 39 #[va, vb] w fun e w' => ∃ vq vr, e = .returned (.tuple #[vq, vr, .int .i64 0]) ∧ AInt w' vq (x.fdiv y) ∧ AInt w' vr (x.fmod y) ∧ Below w.heap.size w w' := by
  obtain ⟨na, xs, hva, hx, hxl⟩ := ha
  obtain ⟨nb, ys, hvb, hye, hyl⟩ := hb
  have l1 := AInt.len hva hxl
  have l2 := AInt.len hvb hyl
  have e1 : y.natAbs = val 4294967296 ys := by rw [hye, sv_natAbs]
  have hva' := hva
  have hvb' := hvb
  obtain ⟨_, _, _, _, _, _, dx, nx, _⟩ := hva'
  obtain ⟨_, _, _, _, _, _, dy, ny, _⟩ := hvb'
  have p0 : 0 < ys.length := by
    rcases Nat.eq_zero_or_pos ys.length with h | h
    · rw [List.eq_nil_of_length_eq_zero h, val_nil] at e1; omega
    · exact h
  have p1 : ys.length = 1 := by
    rcases Nat.lt_or_ge 1 ys.length with h | h
    · have h1 := ny.ge (B := 4294967296) (List.ne_nil_of_length_pos p0) (by decide)
      have h2 : 4294967296 ^ 1 ≤ 4294967296 ^ (ys.length - 1) := Nat.pow_le_pow_right (by decide) (by omega)
      omega
    · omega
  rw [hx, hye]
  refine div_of va vb na nb xs ys w hva hvb hxl hyl p0 ?_
  rcases Nat.lt_or_ge (val 4294967296 xs) (val 4294967296 ys) with h | h
  · exact divLimbs_less xs ys (by omega) (by omega) dx dy nx ny h
  · exact divLimbs_one xs ys (by omega) p1 dx dy nx ny h

theorem gcd_a (va vb : Value) (x y : Int) (w : World) (ha : AInt w va x) (hb : AInt w vb y) (hx : x.natAbs < 18446744073709551616) (hy : y.natAbs < 18446744073709551616) :
    Calls Try.prog 32 #[va, vb] w fun e w' => ∃ v, e = .returned v ∧ AInt w' v (Nat.gcd x.natAbs y.natAbs) ∧ Below w.heap.size w w' := by
  obtain ⟨na, xs, hva, hxe, hxl⟩ := ha
  obtain ⟨nb, ys, hvb, hye, hyl⟩ := hb
  have len2 : ∀ zs : List Nat, Norm zs → val 4294967296 zs < 18446744073709551616 → zs.length ≤ 2 := by
    intro zs hn hv
    rcases Nat.lt_or_ge 2 zs.length with h | h
    · have h1 := hn.ge (B := 4294967296) (List.ne_nil_of_length_pos (by omega)) (by decide)
      have h2 : 4294967296 ^ 2 ≤ 4294967296 ^ (zs.length - 1) := Nat.pow_le_pow_right (by decide) (by omega)
      omega
    · exact h
  have hva' := hva
  have hvb' := hvb
  obtain ⟨_, _, _, _, _, _, dx, nx, _⟩ := hva'
  obtain ⟨_, _, _, _, _, _, dy, ny, _⟩ := hvb'
  rw [hxe, hye, sv_natAbs, sv_natAbs]
  rw [hxe, sv_natAbs] at hx
  rw [hye, sv_natAbs] at hy
  exact gcd_small va vb na nb xs ys w hva hvb (len2 xs nx hx) (len2 ys ny hy)

theorem good_12 : Good [45, 49, 50] := by
  refine (good_iff [45, 49, 50] 1 rfl).2 ⟨by decide, by decide, ?_⟩
  intro i h1 h2
  have : i = 1 ∨ i = 2 := by simp at h2; omega
  rcases this with rfl | rfl <;> simp
theorem pval_12 : pval [45, 49, 50] = -12 := by decide +kernel

theorem held_small {w : World} {v : Value} {c z : Int} (h : Held w v c z) (hz : z.natAbs < 18446744073709551616) : c = 0 ∧ AInt w v z := by
  rcases h with ⟨h1, _, h2⟩ | ⟨_, h, _⟩
  · exact ⟨h1, h2⟩
  · have := word_lim; omega

theorem keep1 {t : TypeId} {W0 w' : World} {b : Nat} {u v : Value} (X0 : Blk t W0 b #[u, v]) (h : Below W0.heap.size W0 w') : w'.cell? ⟨b, 0, none⟩ = some u ∧ w'.cell? ⟨b, 1, none⟩ = some v ∧ Below W0.heap.size W0 w' :=
  ⟨(X0.stay h).two.1, (X0.stay h).two.2.1, h⟩

theorem keepc {p q : Prop} {W0 W w' : World} (hS : p ∧ q ∧ Below W0.heap.size W0 W) (hb : Below W.heap.size W w') : Below W0.heap.size W0 w' := hS.2.2.step hb (Nat.le_refl _)

theorem keepl {p : Prop} {W0 W w' : World} (hS : Below W0.heap.size W0 W ∧ p) (hb : Below W.heap.size W w') : Below W0.heap.size W0 w' := hS.1.step hb (Nat.le_refl _)
theorem keep4 {t : TypeId} {W0 w' : World} {b1 b2 b3 b4 : Nat} {p1 q1 p2 q2 p3 q3 p4 q4 : Value} (h1 : Blk t W0 b1 #[p1, q1]) (h2 : Blk t W0 b2 #[p2, q2]) (h3 : Blk t W0 b3 #[p3, q3]) (h4 : Blk t W0 b4 #[p4, q4]) (h : Below W0.heap.size W0 w') :
    Below W0.heap.size W0 w' ∧ w'.cell? ⟨b1, 0, none⟩ = some p1 ∧ w'.cell? ⟨b1, 1, none⟩ = some q1 ∧ w'.cell? ⟨b2, 0, none⟩ = some p2 ∧ w'.cell? ⟨b2, 1, none⟩ = some q2 ∧ w'.cell? ⟨b3, 0, none⟩ = some p3 ∧ w'.cell? ⟨b3, 1, none⟩ = some q3 ∧ w'.cell? ⟨b4, 0, none⟩ = some p4 ∧ w'.cell? ⟨b4, 1, none⟩ = some q4 :=
  ⟨h, (h1.stay h).two.1, (h1.stay h).two.2.1, (h2.stay h).two.1, (h2.stay h).two.2.1, (h3.stay h).two.1, (h3.stay h).two.2.1, (h4.stay h).two.1, (h4.stay h).two.2.1⟩
theorem digs1 (d : Nat) (h : d < 10) : Digs 10 [d] := Digs.cons h (Digs.nil _)
theorem tx_m4 : TextOf ⟨#[45, 52]⟩ (-4) := ⟨true, [4], rfl, digs1 4 (by decide), fun h => by simp at h, by decide, rfl⟩
theorem tx_1 : TextOf ⟨#[49]⟩ 1 := ⟨false, [1], rfl, digs1 1 (by decide), fun h => by simp at h, by decide, rfl⟩
theorem tx_m36 : TextOf ⟨#[45, 51, 54]⟩ (-36) := ⟨true, [6, 3], rfl, Digs.cons (by decide) (digs1 3 (by decide)), fun h => by simp at h, by decide, rfl⟩
theorem tx_6 : TextOf ⟨#[54]⟩ 6 := ⟨false, [6], rfl, digs1 6 (by decide), fun h => by simp at h, by decide, rfl⟩
theorem text_lit {S : ByteArray} {z : Int} {l : List UInt8} (h : TextOf S z) (k : TextOf ⟨l.toArray⟩ z) : (S.toList == l) = true := by rw [h.same k, ByteArray.toList_mk]; simp

end Go.Proofs.Ytidpbdhhbeaijab
/- Both Parses at one text: the same code, the same number; it proves no statement of the seat. -/
namespace Go.Proofs.Ytidpbdhhbeaijab
open Go.RowKit

/-- Both Parses at one text: the same code, the same number. -/
theorem parses_same {w w' : World} {v v' : Value} {c c' : Int} {l : List Nat} (h : ParseR w v c (pneg l) (pbody l)) (k : RParseR w' v' c' l) :
    c = c' ∧ ∃ z, AInt w v z ∧ RNum w' v' z 400 ∧ (c = 0 → Good l ∧ z = pval l) := by
  rcases h with ⟨h1, h2, h3⟩ | ⟨h1, h2⟩
  · rcases k with ⟨k1, k2, k3⟩ | ⟨k1, _⟩
    · exact ⟨by rw [h2, k2], 0, h3, k3, fun e => by rw [h2] at e; cases e⟩
    · exact absurd k1 h1
  · rcases k with ⟨k1, _⟩ | ⟨k1, k2⟩
    · exact absurd h1 k1
    · rcases h2 with ⟨a1, a2, a3⟩ | ⟨a1, a2, a3⟩
      · rcases k2 with ⟨b1, b2, b3⟩ | ⟨b1, b2, b3⟩
        · exact ⟨by rw [a1, b1], pval l, a3, b3, fun _ => ⟨k1, rfl⟩⟩
        · exact absurd b2 (Nat.not_le_of_lt a2)
      · rcases k2 with ⟨b1, b2, b3⟩ | ⟨b1, b2, b3⟩
        · exact absurd a2 (Nat.not_le_of_lt b2)
        · exact ⟨by rw [a1, b1], 0, a3, b3, fun e => by rw [a1] at e; cases e⟩
end Go.Proofs.Ytidpbdhhbeaijab
