/- Joined: Parse2, Shrink, Write, Rev: words and contracts; no statement of the seat is proved here. -/
import Derived.Test.YtidpbdhhbeaijabJoin2Folds
import Derived.Test.YtidpbdhhbeaijabJoin0Folds
import Derived.BigQuiet
/- Contracts of arith.fitting, Parse; they prove no statement of the seat. -/
namespace Go.Proofs.Ytidpbdhhbeaijab
open Go.RowKit

/-- What a reckoning answers: the number, or 11 and 0 where it is too large. -/
def Held (w : World) (v : Value) (c z : Int) : Prop := (c = 0 ∧ z.natAbs < lim ∧ AInt w v z) ∨ (c = 11 ∧ lim ≤ z.natAbs ∧ AInt w v 0)

theorem Held.below {w w' : World} {v : Value} {c z : Int} (h : Held w v c z) (hb : Below w.heap.size w w') : Held w' v c z := by
  rcases h with ⟨a, b, h⟩ | ⟨a, b, h⟩
  · exact Or.inl ⟨a, b, h.below hb⟩
  · exact Or.inr ⟨a, b, h.below hb⟩

theorem AInt.shape {w : World} {v : Value} {z : Int} (h : AInt w v z) : ∃ x a n c, v = .agg #[.bool x, .slice a n c] := by
  obtain ⟨neg, xs, ⟨ao, cap, h, _⟩, _⟩ := h
  exact ⟨neg, ao, xs.length, cap, h⟩
theorem Held.shape {w : World} {v : Value} {c z : Int} (h : Held w v c z) : ∃ x a n c, v = .agg #[.bool x, .slice a n c] := by
  rcases h with ⟨_, _, h⟩ | ⟨_, _, h⟩
  · exact h.shape
  · exact h.shape
theorem Held.store2 {w : World} {v : Value} {c' z : Int} (h : Held w v c' z) {t : TypeId} {b : Nat} {x : Bool} {a : Option Addr} {n c : Nat} (hB : Blk t w b #[.bool x, .slice a n c]) (y : Bool) (a' : Option Addr) (n' cc : Nat) :
    Held ((w.setCell ⟨b, 0, none⟩ (.bool y)).setCell ⟨b, 1, none⟩ (.slice a' n' cc)) v c' z := by
  rcases h with ⟨h1, h2, h⟩ | ⟨h1, h2, h⟩
  · exact Or.inl ⟨h1, h2, h.store2 hB _ _ _ _⟩
  · exact Or.inr ⟨h1, h2, h.store2 hB _ _ _ _⟩

theorem below_alloc {w1 : World} (w : World) (hb : Below w.heap.size w w1) (o : Obj) : Below w.heap.size w (w1.alloc o) := hb.alloc hb.size o

set_option maxHeartbeats 400000 in
theorem fitting_any (neg : Bool) (ao : Option Addr) (n cap : Nat) (xs : List Nat) (w : World) (hn : xs.length = n) (h1 : n ≤ cap) (h2 : cap ≤ 10000) (hs : Seg .u32 w ao xs) (hd : Digs 4294967296 xs) :
    Calls Try.prog 45 #[.bool neg, .slice ao n cap] w fun e w' => ∃ v c, e = .returned (.tuple #[v, .int .i64 c]) ∧ Held w' v c (sv neg (val 4294967296 xs)) ∧ Below w.heap.size w w' := by
  have HB : Hid (∀ o, Seg .u32 (w.alloc o) ao xs) := fun o => hs.below ((Below.refl _ _).alloc (Nat.le_refl _) _)
  have HN : Hid (xs.length = n) := hn
  clear hn
  go_enter Try.func45, Try.ntmps45
  go_wp2_with fail
  refine (signed_any neg ao n cap xs _ HN.out h1 h2 (HB.out _) hd).mono ?_
  rintro e w1 ⟨v, neg', rfl, hv, hsv, hb1⟩
  have hb2 : Below w.heap.size w w1 := ((Below.refl _ _).alloc (Nat.le_refl _) _).step hb1 (Nat.le_refl _)
  have B0 := (Blk.new w 25 #[.bool false, .slice none 0 0]).stay hb1
  obtain ⟨c0, c1, f0, f1⟩ := B0.two
  have HV := hv
  have HSV : Hid (sv neg' (val 4294967296 xs) = sv neg (val 4294967296 xs)) := hsv
  clear hsv
  obtain ⟨ao', cap', rfl, k1, k2, k3, k4, k5, k6⟩ := hv
  have hlt := B0.lt
  have B1 := Blk.new w1 25 #[.bool neg', .slice ao' (trimZ xs).length cap']
  by_cases hbig : blen (trimZ xs) ≤ 1024
  all_goals
    go_wp2_with fail
    refine (bits_any _ neg' (trimZ xs) _ (HV.below ((Below.refl _ _).alloc (Nat.le_refl _) _))).mono ?_
    rintro e w2 ⟨rfl, hb3⟩
    have B0' := (B0.alloc (.cells #[.bool neg', .slice ao' (trimZ xs).length cap'] 25 (0, 0))).stay hb3
    have B1' := B1.stay hb3
    clear c0 c1 f0 f1
    obtain ⟨c0, c1, f0, f1⟩ := B0'.two
    obtain ⟨d0, d1, g0, g1⟩ := B1'.two
    go_wp2
  · refine bodyPost_ret (v := .tuple #[.agg #[.bool neg', .slice ao' (trimZ xs).length cap'], .int .i64 0]) (by simp [results, Try.results45, go_sem, c0, c1]) rfl ?_
    have hb4 : Below w.heap.size w w2 := (hb2.alloc hb2.size _).step hb3 (Nat.le_refl _)
    have hw : Below w1.heap.size w1 w2 := ((Below.refl _ _).alloc (Nat.le_refl _) _).step hb3 (Nat.le_refl _)
    have hlim := (blen_lim k4 k5).1 hbig
    rw [val_trimZ] at hlim
    refine ⟨_, _, rfl, Or.inl ⟨rfl, by rw [sv_natAbs]; exact hlim, neg', trimZ xs, (HV.below hw).store2 B0' _ _ _ _, by rw [val_trimZ, HSV.out], by rw [val_trimZ]; exact hlim⟩, below_store2 hb4 (Nat.le_refl _) _ _⟩
  · refine bodyPost_ret (v := .tuple #[.agg #[.bool false, .slice none 0 0], .int .i64 11]) (by simp [results, Try.results45, go_sem, c0, c1]) rfl ?_
    have hb4 : Below w.heap.size w w2 := (hb2.alloc hb2.size _).step hb3 (Nat.le_refl _)
    have hlim := fun h => hbig ((blen_lim k4 k5).2 h)
    rw [val_trimZ] at hlim
    exact ⟨_, _, rfl, Or.inr ⟨rfl, by rw [sv_natAbs]; exact Nat.le_of_not_lt hlim, AInt.zero _⟩, below_store2 hb4 (Nat.le_refl _) _ _⟩
theorem pow3 (a k : Nat) (h : a + a + a ≤ k) : 10 ^ a * 10 ^ a * 10 ^ a ≤ 10 ^ k := by
  rw [← Nat.pow_add, ← Nat.pow_add]
  exact Nat.pow_le_pow_right (by decide) h
theorem lim_dec_aux : lim ≤ 10 ^ 103 * 10 ^ 103 * 10 ^ 103 := by decide +kernel
theorem lim_dec (k : Nat) (hk : 309 ≤ k) : lim ≤ 10 ^ k := Nat.le_trans lim_dec_aux (pow3 103 k (by omega))

theorem foldl_ge (l : List Nat) (a : Nat) : a * 10 ^ l.length ≤ l.foldl (fun a c => a * 10 + (c - 48)) a := by
  induction l generalizing a with
  | nil => simp
  | cons x r ih =>
    simp only [List.foldl_cons, List.length_cons]
    refine Nat.le_trans ?_ (ih _)
    rw [Nat.pow_succ, Nat.mul_comm (10 ^ r.length) 10, ← Nat.mul_assoc]
    exact Nat.mul_le_mul_right _ (Nat.le_add_right _ _)

theorem dec_ge (l : List Nat) (h : 49 ≤ l.getD 0 0) : 10 ^ (l.length - 1) ≤ dec l := by
  cases l with
  | nil => simp at h
  | cons x r =>
    simp at h
    have := foldl_ge r (x - 48)
    simp only [dec, List.foldl_cons, List.length_cons, Nat.add_sub_cancel, Nat.zero_mul, Nat.zero_add]
    refine Nat.le_trans ?_ this
    exact Nat.le_mul_of_pos_left _ (by omega)

theorem Plain.big {l : List Nat} (h : Plain l) (hl : 309 < l.length) : lim ≤ dec l := by
  obtain ⟨h1, h2, h3⟩ := h
  have h4 := h3 0 h1
  have h5 : 49 ≤ l.getD 0 0 := by
    have : ¬ l.getD 0 0 = 48 := fun e => h2 ⟨e, by omega⟩
    omega
  exact Nat.le_trans (lim_dec (l.length - 1) (by omega)) (dec_ge l h5)

/-- A sign ahead. -/
def pneg (l : List Nat) : Bool := l.getD 0 0 == 45
/-- The digits behind it. -/
def pbody (l : List Nat) : List Nat := if pneg l = true then l.drop 1 else l
/-- A number's text: its sign, its digits. -/
def GoodB (neg : Bool) (l : List Nat) : Prop := Plain l ∧ ¬ (neg = true ∧ l = [48])
def Good (l : List Nat) : Prop := GoodB (pneg l) (pbody l)
/-- Its number. -/
def pval (l : List Nat) : Int := sv (pneg l) (dec (pbody l))
/-- What Parse answers. -/
def ParseR (w : World) (v : Value) (c : Int) (neg : Bool) (l : List Nat) : Prop := (¬ GoodB neg l ∧ c = 10 ∧ AInt w v 0) ∨ (GoodB neg l ∧ Held w v c (sv neg (dec l)))

theorem Plain.allDig {s : ByteArray} (h : Plain (bs s)) : AllDig (bs s) s.size := by
  intro i hi
  exact h.2.2 i (by rw [bs_length]; exact hi)

theorem ParseR.big {w : World} {v : Value} {neg : Bool} {l : List Nat} (hg : GoodB neg l) (hl : 309 < l.length) (hv : AInt w v 0) : ParseR w v 11 neg l :=
  Or.inr ⟨hg, Or.inr ⟨rfl, by rw [sv_natAbs]; exact hg.1.big hl, hv⟩⟩

set_option maxHeartbeats 1000000 in
/-- Parse behind the cut of the sign: 'd' the digits. -/
theorem parse_aux (s d : ByteArray) (neg : Bool) (w : World) (hld : d.size ≤ 10000) (hcut : ∀ w, Calls Try.prog 71 #[.string s, .string ⟨#[45]⟩] w fun e w' => e = .returned (.tuple #[.string d, .bool neg]) ∧ w' = w) :
    Calls Try.prog 53 #[.string s] w fun e w' => ∃ v c, e = .returned (.tuple #[v, .int .i64 c]) ∧ Below w.heap.size w w' ∧ ParseR w' v c neg (bs d) := by
  have HC : Hid (∀ w, Calls Try.prog 71 #[.string s, .string ⟨#[45]⟩] w fun e w' => e = .returned (.tuple #[.string d, .bool neg]) ∧ w' = w) := hcut
  clear hcut
  by_cases hp : Plain (bs d)
  · by_cases h0 : neg = true ∧ bs d = [48]
    · obtain ⟨rfl, h1⟩ := h0
      have h2 : (d.toList == [48]) = true := by rw [toList_beq, h1]; rfl
      have HP : Hid (Plain (bs d) ∧ bs d = [48]) := ⟨hp, h1⟩
      clear hp h1
      go_enter Try.func53, Try.ntmps53
      go_wp2_with (first
        | (go_at_call 71; refine (HC.out _).mono ?_; rintro e w' ⟨rfl, rfl⟩)
        | (go_at_call 72; refine (isPlain_yes d _ hld HP.out.1).mono ?_; rintro e w' ⟨rfl, rfl⟩))
      refine bodyPost_ret (v := .tuple #[.agg #[.bool false, .slice none 0 0], .int .i64 10]) (by simp [results, Try.results53, go_sem]) rfl ?_
      exact ⟨_, _, rfl, (Below.refl _ _).alloc (Nat.le_refl _) _, Or.inl ⟨fun h => h.2 ⟨rfl, HP.out.2⟩, rfl, AInt.zero _⟩⟩
    · have HG : Hid (GoodB neg (bs d)) := ⟨hp, h0⟩
      have hcase : neg = false ∨ (neg = true ∧ (d.toList == [48]) = false) := by
        cases neg with
        | false => left; rfl
        | true => right; refine ⟨rfl, ?_⟩; rw [toList_beq, decide_eq_false_iff_not]; exact fun h => h0 ⟨rfl, h⟩
      clear hp h0
      by_cases hbig : 309 < d.size
      · rcases hcase with rfl | ⟨rfl, h2⟩
        all_goals
          go_enter Try.func53, Try.ntmps53
          go_wp2_with (first
            | (go_at_call 71; refine (HC.out _).mono ?_; rintro e w' ⟨rfl, rfl⟩)
            | (go_at_call 72; refine (isPlain_yes d _ hld HG.out.1).mono ?_; rintro e w' ⟨rfl, rfl⟩))
          refine bodyPost_ret (v := .tuple #[.agg #[.bool false, .slice none 0 0], .int .i64 11]) (by simp [results, Try.results53, go_sem]) rfl ?_
          exact ⟨_, _, rfl, (Below.refl _ _).alloc (Nat.le_refl _) _, ParseR.big HG.out (by rw [bs_length]; exact hbig) (AInt.zero _)⟩
      · have hld' : d.size ≤ 1000 := by omega
        rcases hcase with rfl | ⟨rfl, h2⟩
        all_goals
          go_enter Try.func53, Try.ntmps53
          go_wp2_with (first
            | (go_at_call 71; refine (HC.out _).mono ?_; rintro e w' ⟨rfl, rfl⟩)
            | (go_at_call 72; refine (isPlain_yes d _ hld HG.out.1).mono ?_; rintro e w' ⟨rfl, rfl⟩)
            | (go_at_call 73; refine (readDigits_any d _ hld' HG.out.1.allDig).mono ?_; rintro e w1 ⟨ao, m, cap, ls, rfl, hlm, hmc, hcc, hsg, hdg, hvl, hb1⟩))
          refine (fitting_any _ ao m cap ls _ hlm hmc (by omega) hsg hdg).mono ?_
          rintro e w2 ⟨v, c, rfl, hheld, hb2⟩
          obtain ⟨x, a, n, c', rfl⟩ := hheld.shape
          have B0 := ((Blk.new w 25 #[.bool false, .slice none 0 0]).stay hb1).stay hb2
          obtain ⟨c0, c1, f0, f1⟩ := B0.two
          have HVL : Hid (val 4294967296 ls = dec (bs d)) := hvl
          clear hvl hlm hdg hsg
          go_wp2
          refine bodyPost_ret (v := .tuple #[.agg #[.bool x, .slice a n c'], .int .i64 c]) (by simp [results, Try.results53, go_sem, c0, c1]) rfl ?_
          refine ⟨_, _, rfl, below_store2 ((((Below.refl _ _).alloc (Nat.le_refl _) _).step hb1 (Nat.le_refl _)).step hb2 (Nat.le_refl _)) (Nat.le_refl _) _ _, Or.inr ⟨HG.out, ?_⟩⟩
          rw [← HVL.out]
          exact hheld.store2 B0 _ _ _ _
  · have HP : Hid (¬ Plain (bs d)) := hp
    clear hp
    go_enter Try.func53, Try.ntmps53
    go_wp2_with (first
      | (go_at_call 71; refine (HC.out _).mono ?_; rintro e w' ⟨rfl, rfl⟩)
      | (go_at_call 72; refine (isPlain_no d _ hld HP.out).mono ?_; rintro e w' ⟨rfl, rfl⟩))
    refine bodyPost_ret (v := .tuple #[.agg #[.bool false, .slice none 0 0], .int .i64 10]) (by simp [results, Try.results53, go_sem]) rfl ?_
    exact ⟨_, _, rfl, (Below.refl _ _).alloc (Nat.le_refl _) _, Or.inl ⟨fun h => HP.out h.1, rfl, AInt.zero _⟩⟩

theorem pneg_iff (s : ByteArray) : pneg (bs s) = true ↔ (1 ≤ s.size ∧ (bs s).getD 0 0 = 45) := by
  unfold pneg
  rw [beq_iff_eq]
  constructor
  · intro h
    refine ⟨?_, h⟩
    rcases Nat.lt_or_ge s.size 1 with h' | h'
    · have : bs s = [] := List.eq_nil_of_length_eq_zero (by rw [bs_length]; omega)
      rw [this] at h; simp at h
    · exact h'
  · exact fun h => h.2

/-- arith.Parse, at any text that isn't too long. -/
theorem parse_any (s : ByteArray) (w : World) (hl : s.size ≤ 10000) :
    Calls Try.prog 53 #[.string s] w fun e w' => ∃ v c, e = .returned (.tuple #[v, .int .i64 c]) ∧ Below w.heap.size w w' ∧ ParseR w' v c (pneg (bs s)) (pbody (bs s)) := by
  by_cases h : pneg (bs s) = true
  · have h' := (pneg_iff s).1 h
    have hb : pbody (bs s) = bs (s.extract 1 s.size) := by rw [pbody, if_pos h, bs_extract_from]
    rw [hb, h]
    have hsz : (s.extract 1 s.size).size ≤ 10000 := by rw [← bs_length, ← hb, pbody, if_pos h, List.length_drop, bs_length]; omega
    exact parse_aux s (s.extract 1 s.size) true w hsz (fun w => cut_yes s w hl h'.1 h'.2)
  · have h' := fun k => h ((pneg_iff s).2 k)
    have hb : pbody (bs s) = bs s := by rw [pbody, if_neg h]
    rw [hb, Bool.eq_false_iff.2 h]
    exact parse_aux s s false w hl (fun w => cut_no s w hl h')
end Go.Proofs.Ytidpbdhhbeaijab
/- Contract of arith.shrinkLimbs; it proves no statement of the seat. -/
namespace Go.Proofs.Ytidpbdhhbeaijab
open Go.RowKit

theorem set_mid (a b : List Nat) (x y j : Nat) (h : a.length = j) : ((a ++ [x]) ++ b).set j y = a ++ (y :: b) := by
  subst h
  simp

theorem or_shift (r x : Nat) (hr : r < 4294967296) (hx : x < 4294967296) : bits BinOp.or IntKind.u64 ((r : Int) * 4294967296) (x : Int) = ((r * 4294967296 + x : Nat) : Int) := by
  have e1 : (r : Int) * 4294967296 = ((r * 4294967296 : Nat) : Int) := by omega
  rw [e1, u64_or_nat _ _ (by omega) (by omega)]
  congr 1
  have := Nat.shiftLeft_add_eq_or_of_lt (b := x) (i := 32) hx r
  rw [Nat.shiftLeft_eq] at this
  rw [← show r * 2 ^ 32 = r * 4294967296 from rfl, ← this]

theorem drop_take_cons (zs : List Nat) (n j : Nat) (hj : j < n) (hn : n ≤ zs.length) : (zs.take n).drop j = zs.getD j 0 :: (zs.take n).drop (j + 1) := by
  have hl : j < (zs.take n).length := by rw [List.length_take]; omega
  rw [List.drop_eq_getElem_cons hl]
  congr 1
  simp [List.getElem_take, List.getElem?_eq_getElem (show j < zs.length by omega)]

theorem shrink_step (x B V r d q r' H : Nat) (h1 : H = r * B + x) (h2 : q * d + r' = H) : x + B * (V * d + r) = (q + B * V) * d + r' := by
  subst h1
  rw [Nat.mul_add, Nat.add_mul, ← Nat.mul_assoc, Nat.mul_comm B r]
  omega

set_option maxHeartbeats 1000000 in
theorem shrinkLimbs_any (g n cap d : Nat) (zs : List Nat) (w : World) (hn : n ≤ zs.length) (h1 : n ≤ 10000) (hr : Row .u32 91 w g zs) (hd : Digs 4294967296 zs) (hd0 : 0 < d) (hdl : d < 4294967296) :
    Calls Try.prog 69 #[.slice (some ⟨g, 0, none⟩) n cap, .int .u32 d] w fun e w' => ∃ r qs, e = .returned (.int .u32 ((r : Nat) : Int)) ∧ r < d ∧ qs.length = n ∧ Digs 4294967296 qs ∧ val 4294967296 (zs.take n) = val 4294967296 qs * d + r ∧ Row .u32 91 w' g (qs ++ zs.drop n) ∧ Only g w w' := by
  go_enter Try.func69, Try.ntmps69
  go_wp2
  go_loopw [5, 6] (fun v i wr => ∃ k r : Nat, ∃ qs : List Nat, k ≤ n ∧ i = .int .i64 ((k : Int) - 1) ∧ v = .int .u64 r ∧ r < d ∧ Hid (k + qs.length = n) ∧ Digs 4294967296 qs ∧ Hid (val 4294967296 ((zs.take n).drop k) = val 4294967296 qs * d + r) ∧
      Row .u32 91 wr g (zs.take k ++ (qs ++ zs.drop n)) ∧ Only g w wr) (fun _ i _ => (intOf i + 1).toNat)
  case atStart => exact ⟨n, 0, [], Nat.le_refl _, rfl, rfl, hd0, (by simp : _ = _), Digs.nil _, (by rw [List.drop_of_length_le (by rw [List.length_take]; omega)]; simp [val] : _ = _), by simpa using hr, Only.refl _ _⟩
  case round =>
    obtain ⟨k, r, qs, hk, rfl, rfl, hrd, HQ, hqd, HV, hrow, honly⟩ := hrel
    by_cases h0 : 0 < k
    · obtain ⟨j, rfl⟩ : ∃ j, k = j + 1 := ⟨k - 1, by omega⟩
      have hlen : (zs.take (j + 1) ++ (qs ++ zs.drop n)).length = zs.length := by
        have := HQ.out
        simp; omega
      have hcell := hrow.cell j (by rw [hlen]; omega)
      have hx0 : (zs.take (j + 1) ++ (qs ++ zs.drop n)).getD j 0 = zs.getD j 0 := by
        rw [List.getD_eq_getElem?_getD, List.getElem?_append_left (by simp; omega), List.getElem?_take, if_pos (by omega), ← List.getD_eq_getElem?_getD]
      rw [hx0] at hcell
      obtain ⟨x, hx⟩ : ∃ x, x = zs.getD j 0 := ⟨_, rfl⟩
      rw [← hx] at hcell
      have hxl : x < 4294967296 := hx ▸ hd.getD (by decide) j
      have HX : Hid (x = zs.getD j 0) := hx
      have hfr := hrow.frozen j
      obtain ⟨H, hH⟩ : ∃ H, H = r * 4294967296 + x := ⟨_, rfl⟩
      have hor : bits BinOp.or IntKind.u64 ((r : Int) * 4294967296) (x : Int) = (H : Int) := by rw [hH]; exact or_shift r x (by omega) hxl
      have hHl : (H : Int) < 18446744073709551616 := by omega
      have hq : H / d < 4294967296 := by
        rw [Nat.div_lt_iff_lt_mul hd0, hH]
        have : (r + 1) * 4294967296 ≤ d * 4294967296 := Nat.mul_le_mul_right _ hrd
        rw [Nat.mul_comm 4294967296 d]
        omega
      have hq' : (H : Int) / (d : Int) < 4294967296 := by rw [← Int.natCast_ediv]; omega
      have hq0 : 0 ≤ (H : Int) / (d : Int) := by rw [← Int.natCast_ediv]; exact Int.natCast_nonneg _
      have HH : Hid (H = r * 4294967296 + x) := hH
      clear hx hx0 hlen hH
      go_wp2
      go_roundw
      case rel =>
        refine ⟨j, H % d, H / d :: qs, by omega, rfl, by rw [Int.natCast_emod], Nat.mod_lt _ hd0, ?_, Digs.cons hq hqd, ?_, ?_, honly.set _ _⟩
        · show _ = _
          have := HQ.out
          simp; omega
        · show _ = _
          rw [drop_take_cons zs n j (by omega) hn, val_cons, HV.out, ← HX.out, val_cons]
          exact shrink_step _ _ _ _ _ _ _ _ HH.out (by rw [Nat.mul_comm]; exact Nat.div_add_mod _ _)
        · have e1 : zs.take (j + 1) = zs.take j ++ [zs.getD j 0] := take_snoc zs j (by omega)
          have e2 := hrow.set j ((H : Int) / (d : Int)) (H / d) (by rw [Int.natCast_ediv])
          rw [e1, set_mid _ _ _ _ _ (by rw [List.length_take]; omega)] at e2
          exact e2
      case measure => simp [intOf]
    · have hk0 : k = 0 := by omega
      subst hk0
      go_wp2
      go_ret
      refine ⟨r, qs, rfl, hrd, by have := HQ.out; omega, hqd, by have := HV.out; simpa using this, by simpa using hrow, honly⟩
end Go.Proofs.Ytidpbdhhbeaijab
/- Contract of arith.writeDigits; it proves no statement of the seat. -/
namespace Go.Proofs.Ytidpbdhhbeaijab
open Go.RowKit

theorem Try.underlying73 : Try.prog.underlying 73 = some (.slice 5) := by kernel_rfl
theorem Try.underlying5 : Try.prog.underlying 5 = some (.int .u8) := by kernel_rfl
theorem Try.info5 : (Try.prog.info? 5).map (fun i => (i.zero, i.size, i.bytes)) = some (some (.int .u8 0), 1, 1) := by kernel_rfl

/-- The lowest j decimal digits of r. -/
def dg (r : Nat) : Nat → List Nat
  | 0 => []
  | j + 1 => dg r j ++ [r / 10 ^ j % 10]
theorem dg_length (r j : Nat) : (dg r j).length = j := by
  induction j with
  | zero => rfl
  | succ j ih => simp [dg, ih]
theorem dg_digs (r j : Nat) : Digs 10 (dg r j) := by
  induction j with
  | zero => exact Digs.nil _
  | succ j ih => exact ih.append (Digs.cons (Nat.mod_lt _ (by decide)) (Digs.nil _))
theorem dg_val (r j : Nat) : val 10 (dg r j) = r % 10 ^ j := by
  induction j with
  | zero => simp [dg, val, Nat.mod_one]
  | succ j ih => rw [dg, val_snoc, ih, dg_length, Nat.pow_succ, Nat.mod_mul]

/-- A slice's length. -/
def lenOf : Value → Nat
  | .slice _ n _ => n
  | _ => 0

/-- Digits as bytes. -/
def byt (ds : List Nat) : List Nat := ds.map fun d => 48 + d
theorem byt_length (ds : List Nat) : (byt ds).length = ds.length := by simp [byt]
theorem byt_append (a b : List Nat) : byt (a ++ b) = byt a ++ byt b := by simp [byt]
theorem byt_take (a : List Nat) (n : Nat) : (byt a).take n = byt (a.take n) := by simp [byt, List.map_take]
theorem byt_getD (a : List Nat) (i : Nat) (h : i < a.length) : (byt a).getD i 0 = 48 + a.getD i 0 := by
  simp [byt, List.getElem?_eq_getElem h]

theorem write_step (D P q r K : Nat) (V : Nat) (h : V = q * K + r) : D + P * V = (D + P * r) + P * K * q := by
  subst h
  rw [Nat.mul_add, Nat.mul_assoc, Nat.mul_comm K q]; omega

theorem digits_bound (L n : Nat) (V D : Nat) (xs : List Nat) (hd : Digs 4294967296 xs) (hL : xs.length = L) (h : val 4294967296 xs = D + 10 ^ n * V) (hV : 0 < V) : n ≤ 10 * L := by
  have h1 := val_lt hd
  rw [hL] at h1
  have h2 : 4294967296 ^ L ≤ (10 ^ 10) ^ L := Nat.pow_le_pow_left (by decide) L
  rw [← Nat.pow_mul] at h2
  have h3 : 10 ^ n * 1 ≤ 10 ^ n * V := Nat.mul_le_mul_left _ hV
  rcases Nat.lt_or_ge (10 * L) n with h4 | h4
  · have h5 : 10 ^ (10 * L) ≤ 10 ^ n := Nat.pow_le_pow_right (by decide) (by omega)
    omega
  · exact h4

theorem shrinkLimbs_int (g n cap d : Nat) (D : Int) (hD : D = (d : Int)) (zs : List Nat) (w : World) (hn : n ≤ zs.length) (h1 : n ≤ 10000) (hr : Row .u32 91 w g zs) (hd : Digs 4294967296 zs) (hd0 : 0 < d) (hdl : d < 4294967296) :
    Calls Try.prog 69 #[.slice (some ⟨g, 0, none⟩) n cap, .int .u32 D] w fun e w' => ∃ r qs, e = .returned (.int .u32 ((r : Nat) : Int)) ∧ r < d ∧ qs.length = n ∧ Digs 4294967296 qs ∧ val 4294967296 (zs.take n) = val 4294967296 qs * d + r ∧ Row .u32 91 w' g (qs ++ zs.drop n) ∧ Only g w w' := by
  subst hD
  exact shrinkLimbs_any g n cap d zs w hn h1 hr hd hd0 hdl

set_option maxHeartbeats 2000000 in
theorem writeDigits_any (ao : Option Addr) (L cap : Nat) (xs : List Nat) (w : World) (hn : xs.length = L) (h1 : L ≤ 1000) (hs : Seg .u32 w ao xs) (hd : Digs 4294967296 xs) (hnm : Norm xs) :
    Calls Try.prog 50 #[.slice ao L cap] w fun e w' => ∃ v, e = .returned v ∧ ∃ ds, Norm ds ∧ Digs 10 ds ∧ val 10 ds = val 4294967296 xs ∧ ds.length ≤ 20000 ∧ Own .u8 5 w.heap.size w' v (byt ds) ∧ Below w.heap.size w w' := by
  have HN : Hid (xs.length = L) := hn
  clear hn
  go_enter Try.func50, Try.ntmps50
  go_wp2_with fail
  refine (copied_any ao L cap xs _ HN.out (by omega) hs).mono ?_
  rintro e w1 ⟨rfl, hr1, hb1, hz1⟩
  go_wp2
  go_loopg [3, 4] (val 4294967296 xs) (fun gk v rest wr => ∃ n : Nat, ∃ zs ds : List Nat, rest = .slice (some ⟨w.heap.size, 0, none⟩) n L ∧ Row .u32 91 wr w.heap.size zs ∧ Hid (zs.length = L) ∧ n ≤ L ∧ Digs 4294967296 zs ∧ Hid (Norm (zs.take n)) ∧ Hid (val 4294967296 (zs.take n) = gk) ∧
    Own .u8 5 (w.heap.size + 1) wr v (byt ds) ∧ Digs 10 ds ∧ Hid (val 4294967296 xs = val 10 ds + 10 ^ ds.length * gk) ∧ Hid (ds.length ≤ 10 * L + 9) ∧ Below w.heap.size w wr ∧ w.heap.size + 1 ≤ wr.heap.size)
  case atStart => exact ⟨L, xs, [], rfl, hr1, HN, Nat.le_refl _, hd, (by rw [List.take_of_length_le (by rw [HN.out]; exact Nat.le_refl _)]; exact hnm : Norm _), (by rw [List.take_of_length_le (by rw [HN.out]; exact Nat.le_refl _)] : _ = _), Own.nil _ _ _ _, Digs.nil _, (by simp [val] : _ = _), (by simp : _ ≤ _), hb1, by omega⟩
  case round =>
    obtain ⟨n, zs, ds, rfl, hrow, HZ, hnl, hzd, HNM, HGK, hown, hdd, HV, HDL, hbel, hsz⟩ := hrel
    by_cases h0 : 0 < n
    · go_wp2_with fail
      refine (shrinkLimbs_int w.heap.size n L 1000000000 _ rfl zs _ (by have := HZ.out; omega) (by omega) hrow hzd (by decide) (by decide)).mono ?_
      rintro e w2 ⟨r, qs, rfl, hr, hql, hqd, hqv, hrow2, honly⟩
      have hsq : Seg .u32 w2 (some ⟨w.heap.size, 0, none⟩) qs := by
        have := hrow2.first n (by rw [List.length_append]; omega)
        rwa [List.take_left' hql] at this
      have HQL : Hid (qs.length = n) := hql
      have HQV : Hid (val 4294967296 (zs.take n) = val 4294967296 qs * 1000000000 + r) := hqv
      have hown2 : Own .u8 5 (w.heap.size + 1) w2 u3 (byt ds) := hown.only honly (by omega)
      have hbel2 : Below w.heap.size w w2 := hbel.trans (honly.below (Nat.le_refl _))
      have hsz2 : w.heap.size + 1 ≤ w2.heap.size := by rw [honly.size]; exact hsz
      clear hql hqv hown hbel hsz
      go_wp2_with (go_at_call 66; refine (trimmed_any (some ⟨w.heap.size, 0, none⟩) n L qs _ HQL.out hnl (by unfold maxLen; omega) hsq).mono ?_; rintro e w' ⟨rfl, rfl⟩)
      go_loopw [3, 5, 15] (fun v c i wq => ∃ j cN : Nat, j ≤ 9 ∧ i = .int .i64 j ∧ c = .int .u32 cN ∧ Hid (cN = r / 10 ^ j) ∧ cN < 1000000000 ∧ Own .u8 5 (w.heap.size + 1) wq v (byt (ds ++ dg r j)) ∧ Row .u32 91 wq w.heap.size (qs ++ zs.drop n) ∧ Below w.heap.size w wq ∧ w.heap.size + 1 ≤ wq.heap.size) (fun _ _ i _ => 9 - (intOf i).toNat)
      case atStart => exact ⟨0, r, by omega, rfl, rfl, (by simp : _ = _), hr, by simpa [dg] using hown2, hrow2, hbel2, hsz2⟩
      case round =>
        obtain ⟨j, cN, hj, rfl, rfl, HC, hcl, hownq, hrowq, hbelq, hszq⟩ := hrel
        by_cases hj9 : j < 9
        · have hlen : (byt (ds ++ dg r j)).length ≤ 100000 := by
            have := HDL.out
            rw [byt_length, List.length_append, dg_length]; omega
          have HLEN : Hid ((byt (ds ++ dg r j)).length ≤ 100000) := hlen
          clear hlen
          go_wp2_with (at_builtin; refine wpList_append_num rfl (.tmp 17) (.tmp 22) 73 rfl (w.heap.size + 1) 5 .u8 1 Try.underlying73 Try.info5 (by decide) _ _ rfl hownq _ (48 + cN % 10) (by omega) rfl HLEN.out hszq ?_; intro v' w3 hown3 hblk3 hbel3)
          go_roundw
          case rel =>
            refine ⟨j + 1, cN / 10, by omega, by go_num, rfl, ?_, by omega, ?_, ?_, ?_, ?_⟩
            · show _ = _
              rw [HC.out, Nat.div_div_eq_div_mul, Nat.pow_succ]
            · rw [HC.out] at hown3
              rw [dg, ← List.append_assoc, byt_append]
              exact hown3
            · exact hrowq.keep hbel3 (by omega)
            · exact hbelq.trans (hbel3.mono (by omega))
            · have := hbel3.size; omega
          case measure => simp [intOf]; omega
        · have hj' : j = 9 := by omega
          subst hj'
          go_wp2
          go_roundg (val 4294967296 qs)
          case measure =>
            have h2 := HQV.out
            rw [HGK.out] at h2
            have h3 := (HNM.out.pos (B := 4294967296) (by intro e; have := congrArg List.length e; rw [List.length_take, HZ.out] at this; simp at this; omega)).resolve_right (by decide)
            rw [HGK.out] at h3
            omega
          case rel =>
            have hgp := (HNM.out.pos (B := 4294967296) (by intro e; have := congrArg List.length e; rw [List.length_take, HZ.out] at this; simp at this; omega)).resolve_right (by decide)
            rw [HGK.out] at hgp
            have hlt := trimZ_length_le qs
            have hql := HQL.out
            have etake : (qs ++ zs.drop n).take (trimZ qs).length = trimZ qs := by
              rw [List.take_append_of_le_length hlt, ← trimZ_take]
            refine ⟨(trimZ qs).length, qs ++ zs.drop n, ds ++ dg r 9, rfl, hrowq, ?_, by omega, hqd.append (hzd.drop n), ?_, ?_, hownq, hdd.append (dg_digs _ _), ?_, ?_, hbelq, hszq⟩
            · show _ = _
              rw [List.length_append, List.length_drop, HZ.out]; omega
            · show Norm _
              rw [etake]; exact norm_trimZ _
            · show _ = _
              rw [etake, val_trimZ]
            · show _ = _
              have h2 := HQV.out
              rw [HGK.out] at h2
              rw [HV.out, val_append, dg_val, List.length_append, dg_length, Nat.pow_add, Nat.mod_eq_of_lt hr]
              exact write_step _ _ _ _ _ _ h2
            · show _ ≤ _
              have := digits_bound L ds.length gk (val 10 ds) xs hd HN.out HV.out hgp
              rw [List.length_append, dg_length]; omega
    · have hn0 : n = 0 := by omega
      subst hn0
      obtain ⟨ao3, cap3, rfl, hl3, hm3, hs3, ha3⟩ := hown.open
      rw [byt_length] at hl3
      have HVV : Hid (val 4294967296 xs = val 10 ds) := by
        show _ = _
        have h2 := HGK.out
        rw [List.take_zero, val_nil] at h2
        rw [HV.out, ← h2]; simp
      unfold maxLen at hm3
      go_wp2
      go_loop [3] (fun v => ∃ m : Nat, m ≤ ds.length ∧ v = .slice ao3 m cap3 ∧ Hid (∀ i, m ≤ i → i < ds.length → ds.getD i 0 = 0)) (fun v => lenOf v)
      case atStart => exact ⟨_, Nat.le_refl _, by rw [byt_length], fun i h1 h2 => by omega⟩
      case round =>
        obtain ⟨m, hmd, rfl, HM⟩ := hrel
        by_cases hm0 : 0 < m
        · obtain ⟨j, rfl⟩ : ∃ j, m = j + 1 := ⟨m - 1, by omega⟩
          obtain ⟨b, off, rfl, hc⟩ := hs3.open j (by rw [byt_length]; omega)
          have hcell := hc j (by rw [byt_length]; omega)
          rw [byt_getD ds j (by omega)] at hcell
          obtain ⟨x, hx⟩ : ∃ x, x = ds.getD j 0 := ⟨_, rfl⟩
          rw [← hx] at hcell
          have hx10 : x < 10 := hx ▸ hdd.getD (by decide) j
          have HX : Hid (x = ds.getD j 0) := hx
          clear hc hx
          by_cases hx0 : x = 0
          · have hb : (48 + (x : Int) == 48) = true := by rw [beq_iff_eq]; omega
            have HX0 : Hid (x = 0) := hx0
            clear hx0
            go_wp2
            go_round
            case rel =>
              refine ⟨j, by omega, rfl, fun i h1 h2 => ?_⟩
              by_cases e : i = j
              · subst e; rw [← HX.out, HX0.out]
              · exact HM.out i (by omega) h2
            case measure => simp [lenOf]
          · have hb : (48 + (x : Int) == 48) = false := by rw [beq_eq_false_iff_ne]; omega
            have HX0 : Hid (x ≠ 0) := hx0
            clear hx0
            go_wp2
            go_ret
            have e1 : trimZ ds = ds.take (j + 1) := by
              rw [trimZ_eq_of_zeros ds (j + 1) (by omega) HM.out, take_snoc ds j (by omega), trimZ_snoc_ne _ _ (by rw [← HX.out]; exact HX0.out)]
            refine ⟨_, rfl, trimZ ds, norm_trimZ _, hdd.trimZ, by rw [val_trimZ, HVV.out], ?_, ?_, hbel⟩
            · have := HDL.out; have := trimZ_length_le ds; omega
            · rw [e1, ← byt_take]
              exact (hown.mono (Nat.le_succ _)).take (j + 1) (by rw [byt_length]; omega) (by simp)
        · have hm0' : m = 0 := by omega
          subst hm0'
          go_wp2
          go_ret
          have e1 : trimZ ds = [] := by rw [trimZ_eq_of_zeros ds 0 (by omega) HM.out]; rfl
          refine ⟨_, rfl, trimZ ds, norm_trimZ _, hdd.trimZ, by rw [val_trimZ, HVV.out], by rw [e1]; simp, ?_, hbel⟩
          rw [e1]
          exact (hown.mono (Nat.le_succ _)).empty
end Go.Proofs.Ytidpbdhhbeaijab
/- Contracts of slices.Reverse and arith's Text; they prove no statement of the seat. -/
namespace Go.Proofs.Ytidpbdhhbeaijab
open Go.RowKit

set_option maxHeartbeats 1000000 in
theorem reverse_any (g n cap base : Nat) (zs : List Nat) (w : World) (hn : n ≤ 100000) (ho : Own .u8 5 base w (.slice (some ⟨g, 0, none⟩) n cap) zs) (hl : zs.length = n) :
    Calls Try.prog 51 #[.slice (some ⟨g, 0, none⟩) n cap] w fun e w' => e = .returned (.tuple #[]) ∧ Own .u8 5 base w' (.slice (some ⟨g, 0, none⟩) n cap) zs.reverse ∧ Only g w w' := by
  have HL : Hid (zs.length = n) := hl
  clear hl
  go_enter Try.func51, Try.ntmps51
  go_wp2
  go_loopw [2, 3] (fun i j wr => ∃ k : Nat, ∃ ys : List Nat, k ≤ n ∧ i = .int .i64 k ∧ j = .int .i64 ((n : Int) - 1 - k) ∧ Hid (ys.length = n) ∧ Own .u8 5 base wr (.slice (some ⟨g, 0, none⟩) n cap) ys ∧ Hid (∀ p, p < n → ys.getD p 0 = if p < k ∨ n - k ≤ p then zs.getD (n - 1 - p) 0 else zs.getD p 0) ∧ Only g w wr) (fun i _ _ => n - (intOf i).toNat)
  case atStart => exact ⟨0, zs, Nat.zero_le _, rfl, by go_num, HL, ho, (fun p hp => by rw [if_neg (by omega)] : ∀ p, _ → _), Only.refl _ _⟩
  case round =>
    obtain ⟨k, ys, hk, rfl, rfl, HY, hoy, HP, honly⟩ := hrel
    by_cases hlt : 2 * k + 1 < n
    · have c1 := hoy.cell k (by have := HY.out; omega)
      have c2 := hoy.cell (n - 1 - k) (by have := HY.out; omega)
      have f1 := hoy.frozen k
      have f2 := hoy.frozen (n - 1 - k)
      obtain ⟨x, hx⟩ : ∃ x, x = ys.getD k 0 := ⟨_, rfl⟩
      obtain ⟨y, hy⟩ : ∃ y, y = ys.getD (n - 1 - k) 0 := ⟨_, rfl⟩
      rw [← hx] at c1
      rw [← hy] at c2
      have HX : Hid (x = ys.getD k 0 ∧ y = ys.getD (n - 1 - k) 0) := ⟨hx, hy⟩
      clear hx hy
      go_wp2
      go_region
      go_wp2
      go_roundw
      case rel =>
        obtain ⟨hx, hy⟩ := HX.out
        have hyl := HY.out
        refine ⟨k + 1, (ys.set k y).set (n - 1 - k) x, by omega, by go_num, by go_num, ?_, ?_, ?_, ?_⟩
        · show _ = _
          rw [List.length_set, List.length_set]; exact hyl
        · exact ((hoy.set k _ y rfl).set (n - 1 - k) _ x rfl).drew
        · intro p hp
          rw [getD_set _ _ _ _ (by rw [List.length_set]; omega), getD_set _ _ _ _ (by omega)]
          by_cases e1 : p = n - 1 - k
          · rw [if_pos e1, if_pos (by omega), hx, HP.out k (by omega), if_neg (by omega)]
            congr 1; omega
          · rw [if_neg e1]
            by_cases e2 : p = k
            · rw [if_pos e2, if_pos (by omega), hy, HP.out (n - 1 - k) (by omega), if_neg (by omega), e2]
            · rw [if_neg e2, HP.out p hp]
              by_cases e3 : p < k ∨ n - k ≤ p
              · rw [if_pos e3, if_pos (by omega)]
              · rw [if_neg e3, if_neg (by omega)]
        · exact ((honly.set _ _).set _ _).drew
      case measure => simp [intOf]; omega
    · go_wp2
      go_end0
      refine ⟨rfl, ?_, honly⟩
      have hyl := HY.out
      have hzl := HL.out
      have e : ys = zs.reverse := by
        apply ext_getD (by rw [List.length_reverse]; omega)
        intro p hp
        rw [HP.out p (by omega), getD_reverse _ _ (by omega), hzl]
        by_cases e3 : p < k ∨ n - k ≤ p
        · rw [if_pos e3]
        · rw [if_neg e3]; congr 1; omega
      rw [← e]; exact hoy
end Go.Proofs.Ytidpbdhhbeaijab
