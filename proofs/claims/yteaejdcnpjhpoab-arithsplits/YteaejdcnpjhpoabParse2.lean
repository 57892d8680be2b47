/- Contracts of arith.fitting, Parse; they prove no statement of the seat. -/
import Derived.Test.YteaejdcnpjhpoabParse
namespace Go.Proofs.Yteaejdcnpjhpoab
open Go.RowKit

/-- What a reckoning answers: the number, or 11 and 0 where it is too large. -/
def Held (w : World) (v : Value) (c z : Int) : Prop := (c = 0 ∧ z.natAbs < lim ∧ AInt w v z) ∨ (c = 11 ∧ lim ≤ z.natAbs ∧ AInt w v 0)

theorem Held.below {w w' : World} {v : Value} {c z : Int} (h : Held w v c z) (hb : Below w.heap.size w w') : Held w' v c z := by
  rcases h with ⟨a, b, h⟩ | ⟨a, b, h⟩
  · exact Or.inl ⟨a, b, h.below hb⟩
  · exact Or.inr ⟨a, b, h.below hb⟩

theorem AInt.shape {w : World} {v : Value} {z : Int} (h : AInt w v z) : ∃ x a n c, v = .agg #[.bool x, .slice a n c] := by
  obtain ⟨neg, xs, ⟨ao, cap, h, _⟩, _⟩ := h
  exact ⟨neg, ao, xs.length, cap, h⟩
theorem Held.shape {w : World} {v : Value} {c z : Int} (h : Held w v c z) : ∃ x a n c, v = .agg #[.bool x, .slice a n c] := by
  rcases h with ⟨_, _, h⟩ | ⟨_, _, h⟩
  · exact h.shape
  · exact h.shape
theorem Held.store2 {w : World} {v : Value} {c' z : Int} (h : Held w v c' z) {t : TypeId} {b : Nat} {x : Bool} {a : Option Addr} {n c : Nat} (hB : Blk t w b #[.bool x, .slice a n c]) (y : Bool) (a' : Option Addr) (n' cc : Nat) :
    Held ((w.setCell ⟨b, 0, none⟩ (.bool y)).setCell ⟨b, 1, none⟩ (.slice a' n' cc)) v c' z := by
  rcases h with ⟨h1, h2, h⟩ | ⟨h1, h2, h⟩
  · exact Or.inl ⟨h1, h2, h.store2 hB _ _ _ _⟩
  · exact Or.inr ⟨h1, h2, h.store2 hB _ _ _ _⟩

theorem below_alloc {w1 : World} (w : World) (hb : Below w.heap.size w w1) (o : Obj) : Below w.heap.size w (w1.alloc o) := hb.alloc hb.size o

set_option maxHeartbeats 400000 in
theorem fitting_any (neg : Bool) (ao : Option Addr) (n cap : Nat) (xs : List Nat) (w : World) (hn : xs.length = n) (h1 : n ≤ cap) (h2 : cap ≤ 10000) (hs : Seg .u32 w ao xs) (hd : Digs 4294967296 xs) :
    Calls Try.prog 26 #[.bool neg, .slice ao n cap] w fun e w' => ∃ v c, e = .returned (.tuple #[v, .int .i64 c]) ∧ Held w' v c (sv neg (val 4294967296 xs)) ∧ Below w.heap.size w w' := by
  have HB : Hid (∀ o, Seg .u32 (w.alloc o) ao xs) := fun o => hs.below ((Below.refl _ _).alloc (Nat.le_refl _) _)
  have HN : Hid (xs.length = n) := hn
  clear hn
  go_enter Try.func26, Try.ntmps26
  go_wp2_with fail
  refine (signed_any neg ao n cap xs _ HN.out h1 h2 (HB.out _) hd).mono ?_
  rintro e w1 ⟨v, neg', rfl, hv, hsv, hb1⟩
  have hb2 : Below w.heap.size w w1 := ((Below.refl _ _).alloc (Nat.le_refl _) _).step hb1 (Nat.le_refl _)
  have B0 := (Blk.new w 25 #[.bool false, .slice none 0 0]).stay hb1
  obtain ⟨c0, c1, f0, f1⟩ := B0.two
  have HV := hv
  have HSV : Hid (sv neg' (val 4294967296 xs) = sv neg (val 4294967296 xs)) := hsv
  clear hsv
  obtain ⟨ao', cap', rfl, k1, k2, k3, k4, k5, k6⟩ := hv
  have hlt := B0.lt
  have B1 := Blk.new w1 25 #[.bool neg', .slice ao' (trimZ xs).length cap']
  by_cases hbig : blen (trimZ xs) ≤ 1024
  all_goals
    go_wp2_with fail
    refine (bits_any _ neg' (trimZ xs) _ (HV.below ((Below.refl _ _).alloc (Nat.le_refl _) _))).mono ?_
    rintro e w2 ⟨rfl, hb3⟩
    have B0' := (B0.alloc (.cells #[.bool neg', .slice ao' (trimZ xs).length cap'] 25 (0, 0))).stay hb3
    have B1' := B1.stay hb3
    clear c0 c1 f0 f1
    obtain ⟨c0, c1, f0, f1⟩ := B0'.two
    obtain ⟨d0, d1, g0, g1⟩ := B1'.two
    go_wp2
  · refine bodyPost_ret (v := .tuple #[.agg #[.bool neg', .slice ao' (trimZ xs).length cap'], .int .i64 0]) (by simp [results, Try.results26, go_sem, c0, c1]) rfl ?_
    have hb4 : Below w.heap.size w w2 := (hb2.alloc hb2.size _).step hb3 (Nat.le_refl _)
    have hw : Below w1.heap.size w1 w2 := ((Below.refl _ _).alloc (Nat.le_refl _) _).step hb3 (Nat.le_refl _)
    have hlim := (blen_lim k4 k5).1 hbig
    rw [val_trimZ] at hlim
    refine ⟨_, _, rfl, Or.inl ⟨rfl, by rw [sv_natAbs]; exact hlim, neg', trimZ xs, (HV.below hw).store2 B0' _ _ _ _, by rw [val_trimZ, HSV.out], by rw [val_trimZ]; exact hlim⟩, below_store2 hb4 (Nat.le_refl _) _ _⟩
  · refine bodyPost_ret (v := .tuple #[.agg #[.bool false, .slice none 0 0], .int .i64 11]) (by simp [results, Try.results26, go_sem, c0, c1]) rfl ?_
    have hb4 : Below w.heap.size w w2 := (hb2.alloc hb2.size _).step hb3 (Nat.le_refl _)
    have hlim := fun h => hbig ((blen_lim k4 k5).2 h)
    rw [val_trimZ] at hlim
    exact ⟨_, _, rfl, Or.inr ⟨rfl, by rw [sv_natAbs]; exact Nat.le_of_not_lt hlim, AInt.zero _⟩, below_store2 hb4 (Nat.le_refl _) _ _⟩
theorem pow3 (a k : Nat) (h : a + a + a ≤ k) : 10 ^ a * 10 ^ a * 10 ^ a ≤ 10 ^ k := by
  rw [← Nat.pow_add, ← Nat.pow_add]
  exact Nat.pow_le_pow_right (by decide) h
theorem lim_dec_aux : lim ≤ 10 ^ 103 * 10 ^ 103 * 10 ^ 103 := by decide +kernel
theorem lim_dec (k : Nat) (hk : 309 ≤ k) : lim ≤ 10 ^ k := Nat.le_trans lim_dec_aux (pow3 103 k (by omega))

theorem foldl_ge (l : List Nat) (a : Nat) : a * 10 ^ l.length ≤ l.foldl (fun a c => a * 10 + (c - 48)) a := by
  induction l generalizing a with
  | nil => simp
  | cons x r ih =>
    simp only [List.foldl_cons, List.length_cons]
    refine Nat.le_trans ?_ (ih _)
    rw [Nat.pow_succ, Nat.mul_comm (10 ^ r.length) 10, ← Nat.mul_assoc]
    exact Nat.mul_le_mul_right _ (Nat.le_add_right _ _)

theorem dec_ge (l : List Nat) (h : 49 ≤ l.getD 0 0) : 10 ^ (l.length - 1) ≤ dec l := by
  cases l with
  | nil => simp at h
  | cons x r =>
    simp at h
    have := foldl_ge r (x - 48)
    simp only [dec, List.foldl_cons, List.length_cons, Nat.add_sub_cancel, Nat.zero_mul, Nat.zero_add]
    refine Nat.le_trans ?_ this
    exact Nat.le_mul_of_pos_left _ (by omega)

theorem Plain.big {l : List Nat} (h : Plain l) (hl : 309 < l.length) : lim ≤ dec l := by
  obtain ⟨h1, h2, h3⟩ := h
  have h4 := h3 0 h1
  have h5 : 49 ≤ l.getD 0 0 := by
    have : ¬ l.getD 0 0 = 48 := fun e => h2 ⟨e, by omega⟩
    omega
  exact Nat.le_trans (lim_dec (l.length - 1) (by omega)) (dec_ge l h5)

/-- A sign ahead. -/
def pneg (l : List Nat) : Bool := l.getD 0 0 == 45
/-- The digits behind it. -/
def pbody (l : List Nat) : List Nat := if pneg l = true then l.drop 1 else l
/-- A number's text: its sign, its digits. -/
def GoodB (neg : Bool) (l : List Nat) : Prop := Plain l ∧ ¬ (neg = true ∧ l = [48])
def Good (l : List Nat) : Prop := GoodB (pneg l) (pbody l)
/-- Its number. -/
def pval (l : List Nat) : Int := sv (pneg l) (dec (pbody l))
/-- What Parse answers. -/
def ParseR (w : World) (v : Value) (c : Int) (neg : Bool) (l : List Nat) : Prop := (¬ GoodB neg l ∧ c = 10 ∧ AInt w v 0) ∨ (GoodB neg l ∧ Held w v c (sv neg (dec l)))

theorem Plain.allDig {s : ByteArray} (h : Plain (bs s)) : AllDig (bs s) s.size := by
  intro i hi
  exact h.2.2 i (by rw [bs_length]; exact hi)

theorem ParseR.big {w : World} {v : Value} {neg : Bool} {l : List Nat} (hg : GoodB neg l) (hl : 309 < l.length) (hv : AInt w v 0) : ParseR w v 11 neg l :=
  Or.inr ⟨hg, Or.inr ⟨rfl, by rw [sv_natAbs]; exact hg.1.big hl, hv⟩⟩

set_option maxHeartbeats 1000000 in
/-- Parse behind the cut of the sign: 'd' the digits. -/
theorem parse_aux (s d : ByteArray) (neg : Bool) (w : World) (hld : d.size ≤ 10000) (hcut : ∀ w, Calls Try.prog 41 #[.string s, .string ⟨#[45]⟩] w fun e w' => e = .returned (.tuple #[.string d, .bool neg]) ∧ w' = w) :
    Calls Try.prog 24 #[.string s] w fun e w' => ∃ v c, e = .returned (.tuple #[v, .int .i64 c]) ∧ Below w.heap.size w w' ∧ ParseR w' v c neg (bs d) := by
  have HC : Hid (∀ w, Calls Try.prog 41 #[.string s, .string ⟨#[45]⟩] w fun e w' => e = .returned (.tuple #[.string d, .bool neg]) ∧ w' = w) := hcut
  clear hcut
  by_cases hp : Plain (bs d)
  · by_cases h0 : neg = true ∧ bs d = [48]
    · obtain ⟨rfl, h1⟩ := h0
      have h2 : (d.toList == [48]) = true := by rw [toList_beq, h1]; rfl
      have HP : Hid (Plain (bs d) ∧ bs d = [48]) := ⟨hp, h1⟩
      clear hp h1
      go_enter Try.func24, Try.ntmps24
      go_wp2_with (first
        | (go_at_call 41; refine (HC.out _).mono ?_; rintro e w' ⟨rfl, rfl⟩)
        | (go_at_call 42; refine (isPlain_yes d _ hld HP.out.1).mono ?_; rintro e w' ⟨rfl, rfl⟩))
      refine bodyPost_ret (v := .tuple #[.agg #[.bool false, .slice none 0 0], .int .i64 10]) (by simp [results, Try.results24, go_sem]) rfl ?_
      exact ⟨_, _, rfl, (Below.refl _ _).alloc (Nat.le_refl _) _, Or.inl ⟨fun h => h.2 ⟨rfl, HP.out.2⟩, rfl, AInt.zero _⟩⟩
    · have HG : Hid (GoodB neg (bs d)) := ⟨hp, h0⟩
      have hcase : neg = false ∨ (neg = true ∧ (d.toList == [48]) = false) := by
        cases neg with
        | false => left; rfl
        | true => right; refine ⟨rfl, ?_⟩; rw [toList_beq, decide_eq_false_iff_not]; exact fun h => h0 ⟨rfl, h⟩
      clear hp h0
      by_cases hbig : 309 < d.size
      · rcases hcase with rfl | ⟨rfl, h2⟩
        all_goals
          go_enter Try.func24, Try.ntmps24
          go_wp2_with (first
            | (go_at_call 41; refine (HC.out _).mono ?_; rintro e w' ⟨rfl, rfl⟩)
            | (go_at_call 42; refine (isPlain_yes d _ hld HG.out.1).mono ?_; rintro e w' ⟨rfl, rfl⟩))
          refine bodyPost_ret (v := .tuple #[.agg #[.bool false, .slice none 0 0], .int .i64 11]) (by simp [results, Try.results24, go_sem]) rfl ?_
          exact ⟨_, _, rfl, (Below.refl _ _).alloc (Nat.le_refl _) _, ParseR.big HG.out (by rw [bs_length]; exact hbig) (AInt.zero _)⟩
      · have hld' : d.size ≤ 1000 := by omega
        rcases hcase with rfl | ⟨rfl, h2⟩
        all_goals
          go_enter Try.func24, Try.ntmps24
          go_wp2_with (first
            | (go_at_call 41; refine (HC.out _).mono ?_; rintro e w' ⟨rfl, rfl⟩)
            | (go_at_call 42; refine (isPlain_yes d _ hld HG.out.1).mono ?_; rintro e w' ⟨rfl, rfl⟩)
            | (go_at_call 43; refine (readDigits_any d _ hld' HG.out.1.allDig).mono ?_; rintro e w1 ⟨ao, m, cap, ls, rfl, hlm, hmc, hcc, hsg, hdg, hvl, hb1⟩))
          refine (fitting_any _ ao m cap ls _ hlm hmc (by omega) hsg hdg).mono ?_
          rintro e w2 ⟨v, c, rfl, hheld, hb2⟩
          obtain ⟨x, a, n, c', rfl⟩ := hheld.shape
          have B0 := ((Blk.new w 25 #[.bool false, .slice none 0 0]).stay hb1).stay hb2
          obtain ⟨c0, c1, f0, f1⟩ := B0.two
          have HVL : Hid (val 4294967296 ls = dec (bs d)) := hvl
          clear hvl hlm hdg hsg
          go_wp2
          refine bodyPost_ret (v := .tuple #[.agg #[.bool x, .slice a n c'], .int .i64 c]) (by simp [results, Try.results24, go_sem, c0, c1]) rfl ?_
          refine ⟨_, _, rfl, below_store2 ((((Below.refl _ _).alloc (Nat.le_refl _) _).step hb1 (Nat.le_refl _)).step hb2 (Nat.le_refl _)) (Nat.le_refl _) _ _, Or.inr ⟨HG.out, ?_⟩⟩
          rw [← HVL.out]
          exact hheld.store2 B0 _ _ _ _
  · have HP : Hid (¬ Plain (bs d)) := hp
    clear hp
    go_enter Try.func24, Try.ntmps24
    go_wp2_with (first
      | (go_at_call 41; refine (HC.out _).mono ?_; rintro e w' ⟨rfl, rfl⟩)
      | (go_at_call 42; refine (isPlain_no d _ hld HP.out).mono ?_; rintro e w' ⟨rfl, rfl⟩))
    refine bodyPost_ret (v := .tuple #[.agg #[.bool false, .slice none 0 0], .int .i64 10]) (by simp [results, Try.results24, go_sem]) rfl ?_
    exact ⟨_, _, rfl, (Below.refl _ _).alloc (Nat.le_refl _) _, Or.inl ⟨fun h => HP.out h.1, rfl, AInt.zero _⟩⟩

theorem pneg_iff (s : ByteArray) : pneg (bs s) = true ↔ (1 ≤ s.size ∧ (bs s).getD 0 0 = 45) := by
  unfold pneg
  rw [beq_iff_eq]
  constructor
  · intro h
    refine ⟨?_, h⟩
    rcases Nat.lt_or_ge s.size 1 with h' | h'
    · have : bs s = [] := List.eq_nil_of_length_eq_zero (by rw [bs_length]; omega)
      rw [this] at h; simp at h
    · exact h'
  · exact fun h => h.2

/-- arith.Parse, at any text that isn't too long. -/
theorem parse_any (s : ByteArray) (w : World) (hl : s.size ≤ 10000) :
    Calls Try.prog 24 #[.string s] w fun e w' => ∃ v c, e = .returned (.tuple #[v, .int .i64 c]) ∧ Below w.heap.size w w' ∧ ParseR w' v c (pneg (bs s)) (pbody (bs s)) := by
  by_cases h : pneg (bs s) = true
  · have h' := (pneg_iff s).1 h
    have hb : pbody (bs s) = bs (s.extract 1 s.size) := by rw [pbody, if_pos h, bs_extract_from]
    rw [hb, h]
    have hsz : (s.extract 1 s.size).size ≤ 10000 := by rw [← bs_length, ← hb, pbody, if_pos h, List.length_drop, bs_length]; omega
    exact parse_aux s (s.extract 1 s.size) true w hsz (fun w => cut_yes s w hl h'.1 h'.2)
  · have h' := fun k => h ((pneg_iff s).2 k)
    have hb : pbody (bs s) = bs s := by rw [pbody, if_neg h]
    rw [hb, Bool.eq_false_iff.2 h]
    exact parse_aux s s false w hl (fun w => cut_no s w hl h')
end Go.Proofs.Yteaejdcnpjhpoab
