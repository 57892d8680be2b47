/- Joined: Text1, Parse, Parse2, Shrink: words and contracts; no statement of the seat is proved here. -/
import Derived.Test.YteefniagebcagaaGreatDoorJoin2Tells
/- Contracts of strings.CutPrefix, arith.isPlain and arith.readDigits; they prove no statement of the seat. -/
namespace Go.Proofs.YteefniagebcagaaGreatDoor
open Go.RowKit

/-- A text's bytes, as numbers. -/
def bs (s : ByteArray) : List Nat := s.data.toList.map UInt8.toNat

theorem bs_length (s : ByteArray) : (bs s).length = s.size := by
  simp only [bs, List.length_map, Array.length_toList]; rfl
theorem bs_get (s : ByteArray) (k : Nat) (h : k < s.size) : (s[k]'h).toNat = (bs s).getD k 0 := by
  have h' : k < s.data.toList.length := by rw [Array.length_toList]; exact h
  rw [bs, List.getD_eq_getElem?_getD, List.getElem?_map, List.getElem?_eq_getElem h']
  rfl
theorem bs_inj {s t : ByteArray} (h : bs s = bs t) : s = t := by
  have h1 : s.data.toList = t.data.toList := by
    unfold bs at h
    exact List.map_inj_right (fun a b e => UInt8.toNat_inj.1 e) |>.1 h
  cases s; cases t
  congr 1
  exact Array.toList_inj.1 h1
theorem bs_extract (s : ByteArray) (a b : Nat) : bs (s.extract a b) = ((bs s).take b).drop a := by
  simp only [bs, ByteArray.data_extract, Array.toList_extract, List.extract_eq_take_drop, List.map_drop, List.map_take]
  rw [List.drop_take]
theorem bs_extract_from (s : ByteArray) (a : Nat) : bs (s.extract a s.size) = (bs s).drop a := by
  rw [bs_extract, ← bs_length, List.take_length]

/-- Digits alone, none ahead of others a nought. -/
def Plain (l : List Nat) : Prop := 0 < l.length ∧ ¬ (l.getD 0 0 = 48 ∧ 1 < l.length) ∧ ∀ i, i < l.length → 48 ≤ l.getD i 0 ∧ l.getD i 0 ≤ 57
def AllDig (l : List Nat) (k : Nat) : Prop := ∀ i, i < k → 48 ≤ l.getD i 0 ∧ l.getD i 0 ≤ 57

set_option maxHeartbeats 400000 in
theorem isPlain_yes (s : ByteArray) (w : World) (hl : s.size ≤ 10000) (hp : Plain (bs s)) :
    Calls Tryz.prog 91 #[.string s] w fun e w' => e = .returned (.bool true) ∧ w' = w := by
  have HP : Hid (Plain (bs s)) := hp
  obtain ⟨h1, h2, h3⟩ := hp
  rw [bs_length] at h1 h2 h3
  have hz : ((s.size : Int) == 0) = false := by rw [beq_eq_false_iff_ne]; omega
  have h0 := bs_get s 0 h1
  have hcase : ((((s[0]'h1).toNat : Int) == 48) = true ∧ ¬ 1 < s.size) ∨ (((s[0]'h1).toNat : Int) == 48) = false := by
    by_cases e : (s[0]'h1).toNat = 48
    · left; exact ⟨by simp [e], fun h => h2 ⟨h0 ▸ e, h⟩⟩
    · right; rw [beq_eq_false_iff_ne]; omega
  have HA : Hid (∀ i, i < s.size → 48 ≤ (bs s).getD i 0 ∧ (bs s).getD i 0 ≤ 57) := h3
  clear h0 h2 h3
  rcases hcase with ⟨hf, hs⟩ | hf
  all_goals
    go_enter Tryz.func91, Tryz.ntmps91
    go_wp2
    go_loop [19] (fun i => ∃ k : Nat, k ≤ s.size ∧ i = .int .i64 k) (fun i => s.size - (intOf i).toNat)
    case atStart => exact ⟨0, by omega, rfl⟩
    case round =>
      obtain ⟨k, hk, rfl⟩ := hrel
      by_cases hlt : k < s.size
      · have hx := bs_get s k hlt
        have ha := HA.out k hlt
        rw [← hx] at ha
        obtain ⟨ha1, ha2⟩ := ha
        clear hx
        go_wp2
        go_round
        case rel => exact ⟨k + 1, by omega, by go_num⟩
        case measure => simp [intOf]; omega
      · go_wp2
        go_ret
        exact ⟨rfl, rfl⟩
set_option maxHeartbeats 400000 in
theorem isPlain_no (s : ByteArray) (w : World) (hl : s.size ≤ 10000) (hp : ¬ Plain (bs s)) :
    Calls Tryz.prog 91 #[.string s] w fun e w' => e = .returned (.bool false) ∧ w' = w := by
  by_cases h1 : 0 < s.size
  · have hz : ((s.size : Int) == 0) = false := by rw [beq_eq_false_iff_ne]; omega
    have h0 := bs_get s 0 h1
    by_cases h2 : (s[0]'h1).toNat = 48 ∧ 1 < s.size
    · obtain ⟨e1, e2⟩ := h2
      have hf : (((s[0]'h1).toNat : Int) == 48) = true := by simp [e1]
      clear e1 h0 hp
      go_enter Tryz.func91, Tryz.ntmps91
      go_wp2
      go_ret
      exact ⟨rfl, rfl⟩
    · have hcase : ((((s[0]'h1).toNat : Int) == 48) = true ∧ ¬ 1 < s.size) ∨ (((s[0]'h1).toNat : Int) == 48) = false := by
        by_cases e : (s[0]'h1).toNat = 48
        · left; exact ⟨by simp [e], fun h => h2 ⟨e, h⟩⟩
        · right; rw [beq_eq_false_iff_ne]; omega
      have HA : Hid (¬ AllDig (bs s) s.size) := by
        intro h
        refine hp ⟨by rw [bs_length]; exact h1, ?_, by rw [bs_length]; exact h⟩
        rw [bs_length, ← h0]; exact h2
      clear h0 h2 hp
      rcases hcase with ⟨hf, hs⟩ | hf
      all_goals
        go_enter Tryz.func91, Tryz.ntmps91
        go_wp2
        go_loop [19] (fun i => ∃ k : Nat, k ≤ s.size ∧ i = .int .i64 k ∧ Hid (AllDig (bs s) k)) (fun i => s.size - (intOf i).toNat)
        case atStart => exact ⟨0, by omega, rfl, fun i hi => by omega⟩
        case round =>
          obtain ⟨k, hk, rfl, hAD⟩ := hrel
          by_cases hlt : k < s.size
          · have hx := bs_get s k hlt
            have HX : Hid ((s[k]'hlt).toNat = (bs s).getD k 0) := hx
            clear hx
            by_cases hd : 48 ≤ (s[k]'hlt).toNat ∧ (s[k]'hlt).toNat ≤ 57
            · obtain ⟨ha1, ha2⟩ := hd
              go_wp2
              go_round
              case rel =>
                refine ⟨k + 1, by omega, by go_num, fun i hi => ?_⟩
                by_cases e : i = k
                · subst e; rw [← HX.out]; exact ⟨ha1, ha2⟩
                · exact hAD.out i (by omega)
              case measure => simp [intOf]; omega
            · by_cases hd1 : 48 ≤ (s[k]'hlt).toNat
              · have hd2 : ¬ (s[k]'hlt).toNat ≤ 57 := fun h => hd ⟨hd1, h⟩
                clear hd
                go_wp2
                go_ret
                exact ⟨rfl, rfl⟩
              · clear hd
                go_wp2
                go_ret
                exact ⟨rfl, rfl⟩
          · have hk' : k = s.size := by omega
            exact absurd (hk' ▸ hAD.out) HA.out
  · have hs : s = ByteArray.empty := by
      apply bs_inj
      apply List.eq_nil_of_length_eq_zero
      rw [bs_length]; omega
    subst hs
    go_enter Tryz.func91, Tryz.ntmps91
    go_wp2
    go_ret
    exact ⟨rfl, rfl⟩

theorem toList_beq (a : ByteArray) (l : List UInt8) : (a.toList == l) = decide (bs a = l.map UInt8.toNat) := by
  rw [ByteArray.toList_eq, Bool.eq_iff_iff, beq_iff_eq, decide_eq_true_iff]
  constructor
  · intro h; rw [bs, h]
  · intro h; exact (List.map_inj_right (fun a b e => UInt8.toNat_inj.1 e)).1 h

theorem toList_one (s : ByteArray) (h : 1 ≤ s.size) : ((s.extract 0 1).toList == [45]) = ((bs s).getD 0 0 == 45) := by
  rw [toList_beq, bs_extract, List.drop_zero]
  have hl : 1 ≤ (bs s).length := by rw [bs_length]; exact h
  cases e : bs s with
  | nil => rw [e] at hl; simp at hl
  | cons x r => simp; rfl

set_option maxHeartbeats 400000 in
theorem cut_yes (s : ByteArray) (w : World) (hl : s.size ≤ 10000) (h0 : 1 ≤ s.size) (h1 : (bs s).getD 0 0 = 45) :
    Calls Tryz.prog 90 #[.string s, .string ⟨#[45]⟩] w fun e w' => e = .returned (.tuple #[.string (s.extract 1 s.size), .bool true]) ∧ w' = w := by
  have h2 : ((s.extract 0 1).toList == [45]) = true := by rw [toList_one s h0, h1]; rfl
  clear h1
  go_enter Tryz.func90, Tryz.ntmps90
  go_wp2
  go_ret2
  exact ⟨rfl, rfl⟩

set_option maxHeartbeats 400000 in
theorem cut_no (s : ByteArray) (w : World) (hl : s.size ≤ 10000) (h1 : ¬ (1 ≤ s.size ∧ (bs s).getD 0 0 = 45)) :
    Calls Tryz.prog 90 #[.string s, .string ⟨#[45]⟩] w fun e w' => e = .returned (.tuple #[.string s, .bool false]) ∧ w' = w := by
  by_cases h0 : 1 ≤ s.size
  · have h2 : ((s.extract 0 1).toList == [45]) = false := by
      rw [toList_one s h0, beq_eq_false_iff_ne]; exact fun e => h1 ⟨h0, e⟩
    clear h1
    go_enter Tryz.func90, Tryz.ntmps90
    go_wp2
    go_ret2
    exact ⟨rfl, rfl⟩
  · clear h1
    go_enter Tryz.func90, Tryz.ntmps90
    go_wp2
    go_ret2
    exact ⟨rfl, rfl⟩

/-- The number that decimal digits write, the highest first. -/
def dec (l : List Nat) : Nat := l.foldl (fun a c => a * 10 + (c - 48)) 0
theorem dec_snoc (l : List Nat) (c : Nat) : dec (l ++ [c]) = dec l * 10 + (c - 48) := by simp [dec]
theorem pow10_step (j : Nat) (h : j ≤ 8) : (10 ^ j * 10 = 1000000000 ∧ j = 8) ∨ (10 ^ j * 10 ≤ 100000000 ∧ j < 8) := by
  have h' : ∀ j : Fin 9, (10 ^ j.val * 10 = 1000000000 ∧ j.val = 8) ∨ (10 ^ j.val * 10 ≤ 100000000 ∧ j.val < 8) := by decide
  exact h' ⟨j, by omega⟩
theorem dec_step (L p c d D : Nat) (h : L * p + c = D) : L * (p * 10) + (c * 10 + d) = D * 10 + d := by
  subst h
  rw [Nat.add_mul, ← Nat.mul_assoc]; omega
end Go.Proofs.YteefniagebcagaaGreatDoor
/- Contracts of arith.readDigits, fitting, Parse; they prove no statement of the seat. -/
namespace Go.Proofs.YteefniagebcagaaGreatDoor
open Go.RowKit

theorem trimZ_seg {k : IntKind} {t : TypeId} {w : World} {g : Nat} {zs : List Nat} (h : Row k t w g zs) : Seg k w (some ⟨g, 0, none⟩) (trimZ zs) := by
  have := h.first (trimZ zs).length (trimZ_length_le zs)
  rwa [← trimZ_take] at this

theorem scaleLimbs_int (ao : Option Addr) (n cap f m : Nat) (F M : Int) (hF : F = (f : Int)) (hM : M = (m : Int)) (xs : List Nat) (w : World) (hn : xs.length = n) (h1 : n ≤ 9000) (hs : Seg .u32 w ao xs) (hd : Digs 4294967296 xs) (hf : f < 4294967296) (hm : m < 4294967296) :
    Calls Tryz.prog 126 #[.slice ao n cap, .int .u32 F, .int .u32 M] w fun e w' => ∃ zs, e = .returned (.slice (some ⟨w.heap.size, 0, none⟩) (trimZ zs).length (n + 1)) ∧ zs.length = n + 1 ∧ Digs 4294967296 zs ∧ val 4294967296 zs = val 4294967296 xs * f + m ∧ Row .u32 167 w' w.heap.size zs ∧ Below w.heap.size w w' := by
  subst hF; subst hM
  exact scaleLimbs_any ao n cap f m xs w hn h1 hs hd hf hm

set_option maxHeartbeats 1600000 in
theorem readDigits_any (s : ByteArray) (w : World) (hl : s.size ≤ 1000) (hp : AllDig (bs s) s.size) :
    Calls Tryz.prog 92 #[.string s] w fun e w' => ∃ ao m cap ls, e = .returned (.slice ao m cap) ∧ ls.length = m ∧ m ≤ cap ∧ cap ≤ 2000 ∧ Seg .u32 w' ao ls ∧ Digs 4294967296 ls ∧ val 4294967296 ls = dec (bs s) ∧ Below w.heap.size w w' := by
  have HP : Hid (AllDig (bs s) s.size) := hp
  clear hp
  go_enter Tryz.func92, Tryz.ntmps92
  go_wp2
  go_loopw [3, 4, 5, 9] (fun v c p i wr => ∃ k cN pN j m cap : Nat, ∃ ao ls, k ≤ s.size ∧ i = .int .i64 k ∧ c = .int .u32 cN ∧ p = .int .u32 pN ∧ v = .slice ao m cap ∧ Hid (pN = 10 ^ j) ∧ j ≤ 8 ∧ cN < pN ∧ Hid (k = s.size → j = 0) ∧ Hid (ls.length = m) ∧ m ≤ k ∧ m ≤ cap ∧ cap ≤ 1 + k ∧
      Seg .u32 wr ao ls ∧ Digs 4294967296 ls ∧ Hid (val 4294967296 ls * pN + cN = dec ((bs s).take k)) ∧ Below w.heap.size w wr) (fun _ _ _ i _ => s.size - (intOf i).toNat)
  case atStart => exact ⟨0, 0, 1, 0, 0, 0, none, [], Nat.zero_le _, rfl, rfl, rfl, rfl, (rfl : _ = _), by omega, by decide, (fun _ => rfl : _ → _), (rfl : _ = _), by omega, by omega, by omega, Seg.nil _ _ _, Digs.nil _, (by simp [val, dec] : _ = _), Below.refl _ _⟩
  case round =>
    obtain ⟨k, cN, pN, j, m, cap, ao, ls, hk, rfl, rfl, rfl, rfl, HPJ, hj, hcN, HJ, HL, hmk, hmc, hck, hseg, hdl, HV, hbel⟩ := hrel
    have hpj := pow10_step j hj
    rw [← HPJ.out] at hpj
    have HPP : Hid ((pN * 10 = 1000000000 ∧ j = 8) ∨ (pN * 10 ≤ 100000000 ∧ j < 8)) := hpj
    have hpN : pN ≤ 100000000 := by omega
    clear hpj
    by_cases hlt : k < s.size
    · have hx := bs_get s k hlt
      have hdg := HP.out k hlt
      rw [← hx] at hdg
      obtain ⟨hd1, hd2⟩ := hdg
      have HX : Hid ((s[k]'hlt).toNat = (bs s).getD k 0) := hx
      clear hx
      have HD : Hid (dec ((bs s).take (k + 1)) = dec ((bs s).take k) * 10 + ((s[k]'hlt).toNat - 48)) := by
        show _ = _
        rw [take_snoc _ _ (by rw [bs_length]; exact hlt), dec_snoc, HX.out]
      have hsz : 1 ≤ s.size := by omega
      by_cases hflush : pN * 10 = 1000000000 ∨ k + 1 = s.size
      · have hcase : (((pN : Int) * 10 == 1000000000) = true) ∨ ((((pN : Int) * 10 == 1000000000) = false) ∧ ((k : Int) == (s.size : Int) - 1) = true) := by
          by_cases e : pN * 10 = 1000000000
          · left; rw [beq_iff_eq]; omega
          · right; exact ⟨by rw [beq_eq_false_iff_ne]; omega, by rw [beq_iff_eq]; omega⟩
        clear hflush
        rcases hcase with g1 | ⟨g1, g2⟩
        all_goals
          go_wp2_with (go_at_call 126; refine (scaleLimbs_int ao m cap (pN * 10) (cN * 10 + ((s[k]'hlt).toNat - 48)) _ _ (by omega) (by omega) ls _ HL.out (by omega) hseg hdl (by omega) (by omega)).mono ?_; rintro e w2 ⟨zs, rfl, hzl, hzd, hzv, hzr, hzb⟩)
          go_roundw
          case rel =>
            refine ⟨k + 1, 0, 1, 0, (trimZ zs).length, m + 1, _, trimZ zs, by omega, by go_num, rfl, rfl, rfl, (rfl : _ = _), by omega, by omega, (fun _ => rfl : _ → _), (rfl : _ = _), ?_, ?_, by omega, trimZ_seg hzr, hzd.trimZ, ?_, hbel.trans (hzb.mono hbel.size)⟩
            · have := trimZ_length_le zs; omega
            · have := trimZ_length_le zs; omega
            · show _ = _
              rw [HD.out, val_trimZ, hzv, Nat.mul_one, Nat.add_zero]
              exact dec_step _ _ _ _ _ HV.out
          case measure => simp [intOf]; omega
      · have g1 : ((pN : Int) * 10 == 1000000000) = false := by rw [beq_eq_false_iff_ne]; omega
        have g2 : ((k : Int) == (s.size : Int) - 1) = false := by rw [beq_eq_false_iff_ne]; omega
        have g3 : pN * 10 ≤ 100000000 ∧ j < 8 := by
          rcases HPP.out with h | h
          · exact absurd (Or.inl h.1) hflush
          · exact h
        obtain ⟨g4, g5⟩ := g3
        clear hflush
        go_wp2
        go_roundw
        case rel =>
          refine ⟨k + 1, cN * 10 + ((s[k]'hlt).toNat - 48), pN * 10, j + 1, m, cap, ao, ls, by omega, by go_num, ?_, ?_, rfl, ?_, by omega, by omega, ?_, HL, by omega, by omega, by omega, hseg, hdl, ?_, hbel⟩
          · congr 1; omega
          · congr 1
          · show _ = _
            rw [HPJ.out, Nat.pow_succ]
          · intro h; rw [beq_eq_false_iff_ne] at g2; omega
          · show _ = _
            rw [HD.out]
            exact dec_step _ _ _ _ _ HV.out
        case measure => simp [intOf]; omega
    · have hks : k = s.size := by omega
      go_wp2
      go_ret
      refine ⟨ao, m, cap, ls, rfl, HL.out, hmc, by omega, hseg, hdl, ?_, hbel⟩
      have h0 := HJ.out hks
      have h1 := HPJ.out
      rw [h0] at h1
      have h2 := HV.out
      rw [List.take_of_length_le (by rw [bs_length]; omega)] at h2
      rw [← h2]
      have : pN = 1 := by simpa using h1
      subst this
      omega
end Go.Proofs.YteefniagebcagaaGreatDoor
/- Contracts of arith.fitting, Parse; they prove no statement of the seat. -/
namespace Go.Proofs.YteefniagebcagaaGreatDoor
open Go.RowKit

/-- What a reckoning answers: the number, or 11 and 0 where it is too large. -/
def Held (w : World) (v : Value) (c z : Int) : Prop := (c = 0 ∧ z.natAbs < lim ∧ AInt w v z) ∨ (c = 11 ∧ lim ≤ z.natAbs ∧ AInt w v 0)

theorem AInt.shape {w : World} {v : Value} {z : Int} (h : AInt w v z) : ∃ x a n c, v = .agg #[.bool x, .slice a n c] := by
  obtain ⟨neg, xs, ⟨ao, cap, h, _⟩, _⟩ := h
  exact ⟨neg, ao, xs.length, cap, h⟩
theorem Held.shape {w : World} {v : Value} {c z : Int} (h : Held w v c z) : ∃ x a n c, v = .agg #[.bool x, .slice a n c] := by
  rcases h with ⟨_, _, h⟩ | ⟨_, _, h⟩
  · exact h.shape
  · exact h.shape
theorem Held.store2 {w : World} {v : Value} {c' z : Int} (h : Held w v c' z) {t : TypeId} {b : Nat} {x : Bool} {a : Option Addr} {n c : Nat} (hB : Blk t w b #[.bool x, .slice a n c]) (y : Bool) (a' : Option Addr) (n' cc : Nat) :
    Held ((w.setCell ⟨b, 0, none⟩ (.bool y)).setCell ⟨b, 1, none⟩ (.slice a' n' cc)) v c' z := by
  rcases h with ⟨h1, h2, h⟩ | ⟨h1, h2, h⟩
  · exact Or.inl ⟨h1, h2, h.store2 hB _ _ _ _⟩
  · exact Or.inr ⟨h1, h2, h.store2 hB _ _ _ _⟩

theorem below_alloc {w1 : World} (w : World) (hb : Below w.heap.size w w1) (o : Obj) : Below w.heap.size w (w1.alloc o) := hb.alloc hb.size o

set_option maxHeartbeats 400000 in
theorem fitting_any (neg : Bool) (ao : Option Addr) (n cap : Nat) (xs : List Nat) (w : World) (hn : xs.length = n) (h1 : n ≤ cap) (h2 : cap ≤ 10000) (hs : Seg .u32 w ao xs) (hd : Digs 4294967296 xs) :
    Calls Tryz.prog 85 #[.bool neg, .slice ao n cap] w fun e w' => ∃ v c, e = .returned (.tuple #[v, .int .i64 c]) ∧ Held w' v c (sv neg (val 4294967296 xs)) ∧ Below w.heap.size w w' := by
  have HB : Hid (∀ o, Seg .u32 (w.alloc o) ao xs) := fun o => hs.below ((Below.refl _ _).alloc (Nat.le_refl _) _)
  have HN : Hid (xs.length = n) := hn
  clear hn
  go_enter Tryz.func85, Tryz.ntmps85
  go_wp2_with fail
  refine (signed_any neg ao n cap xs _ HN.out h1 h2 (HB.out _) hd).mono ?_
  rintro e w1 ⟨v, neg', rfl, hv, hsv, hb1⟩
  have hb2 : Below w.heap.size w w1 := ((Below.refl _ _).alloc (Nat.le_refl _) _).step hb1 (Nat.le_refl _)
  have B0 := (Blk.new w 31 #[.bool false, .slice none 0 0]).stay hb1
  obtain ⟨c0, c1, f0, f1⟩ := B0.two
  have HV := hv
  have HSV : Hid (sv neg' (val 4294967296 xs) = sv neg (val 4294967296 xs)) := hsv
  clear hsv
  obtain ⟨ao', cap', rfl, k1, k2, k3, k4, k5, k6⟩ := hv
  have hlt := B0.lt
  have B1 := Blk.new w1 31 #[.bool neg', .slice ao' (trimZ xs).length cap']
  by_cases hbig : blen (trimZ xs) ≤ 1024
  all_goals
    go_wp2_with fail
    refine (bits_any _ neg' (trimZ xs) _ (HV.below ((Below.refl _ _).alloc (Nat.le_refl _) _))).mono ?_
    rintro e w2 ⟨rfl, hb3⟩
    have B0' := (B0.alloc (.cells #[.bool neg', .slice ao' (trimZ xs).length cap'] 31 (0, 0))).stay hb3
    have B1' := B1.stay hb3
    clear c0 c1 f0 f1
    obtain ⟨c0, c1, f0, f1⟩ := B0'.two
    obtain ⟨d0, d1, g0, g1⟩ := B1'.two
    go_wp2
  · refine bodyPost_ret (v := .tuple #[.agg #[.bool neg', .slice ao' (trimZ xs).length cap'], .int .i64 0]) (by simp [results, Tryz.results85, go_sem, c0, c1]) rfl ?_
    have hb4 : Below w.heap.size w w2 := (hb2.alloc hb2.size _).step hb3 (Nat.le_refl _)
    have hw : Below w1.heap.size w1 w2 := ((Below.refl _ _).alloc (Nat.le_refl _) _).step hb3 (Nat.le_refl _)
    have hlim := (blen_lim k4 k5).1 hbig
    rw [val_trimZ] at hlim
    refine ⟨_, _, rfl, Or.inl ⟨rfl, by rw [sv_natAbs]; exact hlim, neg', trimZ xs, (HV.below hw).store2 B0' _ _ _ _, by rw [val_trimZ, HSV.out], by rw [val_trimZ]; exact hlim⟩, below_store2 hb4 (Nat.le_refl _) _ _⟩
  · refine bodyPost_ret (v := .tuple #[.agg #[.bool false, .slice none 0 0], .int .i64 11]) (by simp [results, Tryz.results85, go_sem, c0, c1]) rfl ?_
    have hb4 : Below w.heap.size w w2 := (hb2.alloc hb2.size _).step hb3 (Nat.le_refl _)
    have hlim := fun h => hbig ((blen_lim k4 k5).2 h)
    rw [val_trimZ] at hlim
    exact ⟨_, _, rfl, Or.inr ⟨rfl, by rw [sv_natAbs]; exact Nat.le_of_not_lt hlim, AInt.zero _⟩, below_store2 hb4 (Nat.le_refl _) _ _⟩
theorem pow3 (a k : Nat) (h : a + a + a ≤ k) : 10 ^ a * 10 ^ a * 10 ^ a ≤ 10 ^ k := by
  rw [← Nat.pow_add, ← Nat.pow_add]
  exact Nat.pow_le_pow_right (by decide) h
theorem lim_dec_aux : lim ≤ 10 ^ 103 * 10 ^ 103 * 10 ^ 103 := by decide +kernel
theorem lim_dec (k : Nat) (hk : 309 ≤ k) : lim ≤ 10 ^ k := Nat.le_trans lim_dec_aux (pow3 103 k (by omega))

theorem foldl_ge (l : List Nat) (a : Nat) : a * 10 ^ l.length ≤ l.foldl (fun a c => a * 10 + (c - 48)) a := by
  induction l generalizing a with
  | nil => simp
  | cons x r ih =>
    simp only [List.foldl_cons, List.length_cons]
    refine Nat.le_trans ?_ (ih _)
    rw [Nat.pow_succ, Nat.mul_comm (10 ^ r.length) 10, ← Nat.mul_assoc]
    exact Nat.mul_le_mul_right _ (Nat.le_add_right _ _)

theorem dec_ge (l : List Nat) (h : 49 ≤ l.getD 0 0) : 10 ^ (l.length - 1) ≤ dec l := by
  cases l with
  | nil => simp at h
  | cons x r =>
    simp at h
    have := foldl_ge r (x - 48)
    simp only [dec, List.foldl_cons, List.length_cons, Nat.add_sub_cancel, Nat.zero_mul, Nat.zero_add]
    refine Nat.le_trans ?_ this
    exact Nat.le_mul_of_pos_left _ (by omega)

theorem Plain.big {l : List Nat} (h : Plain l) (hl : 309 < l.length) : lim ≤ dec l := by
  obtain ⟨h1, h2, h3⟩ := h
  have h4 := h3 0 h1
  have h5 : 49 ≤ l.getD 0 0 := by
    have : ¬ l.getD 0 0 = 48 := fun e => h2 ⟨e, by omega⟩
    omega
  exact Nat.le_trans (lim_dec (l.length - 1) (by omega)) (dec_ge l h5)

/-- A sign ahead. -/
def pneg (l : List Nat) : Bool := l.getD 0 0 == 45
/-- The digits behind it. -/
def pbody (l : List Nat) : List Nat := if pneg l = true then l.drop 1 else l
/-- A number's text: its sign, its digits. -/
def GoodB (neg : Bool) (l : List Nat) : Prop := Plain l ∧ ¬ (neg = true ∧ l = [48])
def Good (l : List Nat) : Prop := GoodB (pneg l) (pbody l)
/-- Its number. -/
def pval (l : List Nat) : Int := sv (pneg l) (dec (pbody l))
/-- What Parse answers. -/
def ParseR (w : World) (v : Value) (c : Int) (neg : Bool) (l : List Nat) : Prop := (¬ GoodB neg l ∧ c = 10 ∧ AInt w v 0) ∨ (GoodB neg l ∧ Held w v c (sv neg (dec l)))

theorem Plain.allDig {s : ByteArray} (h : Plain (bs s)) : AllDig (bs s) s.size := by
  intro i hi
  exact h.2.2 i (by rw [bs_length]; exact hi)

theorem ParseR.big {w : World} {v : Value} {neg : Bool} {l : List Nat} (hg : GoodB neg l) (hl : 309 < l.length) (hv : AInt w v 0) : ParseR w v 11 neg l :=
  Or.inr ⟨hg, Or.inr ⟨rfl, by rw [sv_natAbs]; exact hg.1.big hl, hv⟩⟩

set_option maxHeartbeats 1000000 in
/-- Parse behind the cut of the sign: 'd' the digits. -/
theorem parse_aux (s d : ByteArray) (neg : Bool) (w : World) (hld : d.size ≤ 10000) (hcut : ∀ w, Calls Tryz.prog 90 #[.string s, .string ⟨#[45]⟩] w fun e w' => e = .returned (.tuple #[.string d, .bool neg]) ∧ w' = w) :
    Calls Tryz.prog 52 #[.string s] w fun e w' => ∃ v c, e = .returned (.tuple #[v, .int .i64 c]) ∧ Below w.heap.size w w' ∧ ParseR w' v c neg (bs d) := by
  have HC : Hid (∀ w, Calls Tryz.prog 90 #[.string s, .string ⟨#[45]⟩] w fun e w' => e = .returned (.tuple #[.string d, .bool neg]) ∧ w' = w) := hcut
  clear hcut
  by_cases hp : Plain (bs d)
  · by_cases h0 : neg = true ∧ bs d = [48]
    · obtain ⟨rfl, h1⟩ := h0
      have h2 : (d.toList == [48]) = true := by rw [toList_beq, h1]; rfl
      have HP : Hid (Plain (bs d) ∧ bs d = [48]) := ⟨hp, h1⟩
      clear hp h1
      go_enter Tryz.func52, Tryz.ntmps52
      go_wp2_with (first
        | (go_at_call 90; refine (HC.out _).mono ?_; rintro e w' ⟨rfl, rfl⟩)
        | (go_at_call 91; refine (isPlain_yes d _ hld HP.out.1).mono ?_; rintro e w' ⟨rfl, rfl⟩))
      refine bodyPost_ret (v := .tuple #[.agg #[.bool false, .slice none 0 0], .int .i64 10]) (by simp [results, Tryz.results52, go_sem]) rfl ?_
      exact ⟨_, _, rfl, (Below.refl _ _).alloc (Nat.le_refl _) _, Or.inl ⟨fun h => h.2 ⟨rfl, HP.out.2⟩, rfl, AInt.zero _⟩⟩
    · have HG : Hid (GoodB neg (bs d)) := ⟨hp, h0⟩
      have hcase : neg = false ∨ (neg = true ∧ (d.toList == [48]) = false) := by
        cases neg with
        | false => left; rfl
        | true => right; refine ⟨rfl, ?_⟩; rw [toList_beq, decide_eq_false_iff_not]; exact fun h => h0 ⟨rfl, h⟩
      clear hp h0
      by_cases hbig : 309 < d.size
      · rcases hcase with rfl | ⟨rfl, h2⟩
        all_goals
          go_enter Tryz.func52, Tryz.ntmps52
          go_wp2_with (first
            | (go_at_call 90; refine (HC.out _).mono ?_; rintro e w' ⟨rfl, rfl⟩)
            | (go_at_call 91; refine (isPlain_yes d _ hld HG.out.1).mono ?_; rintro e w' ⟨rfl, rfl⟩))
          refine bodyPost_ret (v := .tuple #[.agg #[.bool false, .slice none 0 0], .int .i64 11]) (by simp [results, Tryz.results52, go_sem]) rfl ?_
          exact ⟨_, _, rfl, (Below.refl _ _).alloc (Nat.le_refl _) _, ParseR.big HG.out (by rw [bs_length]; exact hbig) (AInt.zero _)⟩
      · have hld' : d.size ≤ 1000 := by omega
        rcases hcase with rfl | ⟨rfl, h2⟩
        all_goals
          go_enter Tryz.func52, Tryz.ntmps52
          go_wp2_with (first
            | (go_at_call 90; refine (HC.out _).mono ?_; rintro e w' ⟨rfl, rfl⟩)
            | (go_at_call 91; refine (isPlain_yes d _ hld HG.out.1).mono ?_; rintro e w' ⟨rfl, rfl⟩)
            | (go_at_call 92; refine (readDigits_any d _ hld' HG.out.1.allDig).mono ?_; rintro e w1 ⟨ao, m, cap, ls, rfl, hlm, hmc, hcc, hsg, hdg, hvl, hb1⟩))
          refine (fitting_any _ ao m cap ls _ hlm hmc (by omega) hsg hdg).mono ?_
          rintro e w2 ⟨v, c, rfl, hheld, hb2⟩
          obtain ⟨x, a, n, c', rfl⟩ := hheld.shape
          have B0 := ((Blk.new w 31 #[.bool false, .slice none 0 0]).stay hb1).stay hb2
          obtain ⟨c0, c1, f0, f1⟩ := B0.two
          have HVL : Hid (val 4294967296 ls = dec (bs d)) := hvl
          clear hvl hlm hdg hsg
          go_wp2
          refine bodyPost_ret (v := .tuple #[.agg #[.bool x, .slice a n c'], .int .i64 c]) (by simp [results, Tryz.results52, go_sem, c0, c1]) rfl ?_
          refine ⟨_, _, rfl, below_store2 ((((Below.refl _ _).alloc (Nat.le_refl _) _).step hb1 (Nat.le_refl _)).step hb2 (Nat.le_refl _)) (Nat.le_refl _) _ _, Or.inr ⟨HG.out, ?_⟩⟩
          rw [← HVL.out]
          exact hheld.store2 B0 _ _ _ _
  · have HP : Hid (¬ Plain (bs d)) := hp
    clear hp
    go_enter Tryz.func52, Tryz.ntmps52
    go_wp2_with (first
      | (go_at_call 90; refine (HC.out _).mono ?_; rintro e w' ⟨rfl, rfl⟩)
      | (go_at_call 91; refine (isPlain_no d _ hld HP.out).mono ?_; rintro e w' ⟨rfl, rfl⟩))
    refine bodyPost_ret (v := .tuple #[.agg #[.bool false, .slice none 0 0], .int .i64 10]) (by simp [results, Tryz.results52, go_sem]) rfl ?_
    exact ⟨_, _, rfl, (Below.refl _ _).alloc (Nat.le_refl _) _, Or.inl ⟨fun h => HP.out h.1, rfl, AInt.zero _⟩⟩

theorem pneg_iff (s : ByteArray) : pneg (bs s) = true ↔ (1 ≤ s.size ∧ (bs s).getD 0 0 = 45) := by
  unfold pneg
  rw [beq_iff_eq]
  constructor
  · intro h
    refine ⟨?_, h⟩
    rcases Nat.lt_or_ge s.size 1 with h' | h'
    · have : bs s = [] := List.eq_nil_of_length_eq_zero (by rw [bs_length]; omega)
      rw [this] at h; simp at h
    · exact h'
  · exact fun h => h.2

/-- arith.Parse, at any text that isn't too long. -/
theorem parse_any (s : ByteArray) (w : World) (hl : s.size ≤ 10000) :
    Calls Tryz.prog 52 #[.string s] w fun e w' => ∃ v c, e = .returned (.tuple #[v, .int .i64 c]) ∧ Below w.heap.size w w' ∧ ParseR w' v c (pneg (bs s)) (pbody (bs s)) := by
  by_cases h : pneg (bs s) = true
  · have h' := (pneg_iff s).1 h
    have hb : pbody (bs s) = bs (s.extract 1 s.size) := by rw [pbody, if_pos h, bs_extract_from]
    rw [hb, h]
    have hsz : (s.extract 1 s.size).size ≤ 10000 := by rw [← bs_length, ← hb, pbody, if_pos h, List.length_drop, bs_length]; omega
    exact parse_aux s (s.extract 1 s.size) true w hsz (fun w => cut_yes s w hl h'.1 h'.2)
  · have h' := fun k => h ((pneg_iff s).2 k)
    have hb : pbody (bs s) = bs s := by rw [pbody, if_neg h]
    rw [hb, Bool.eq_false_iff.2 h]
    exact parse_aux s s false w hl (fun w => cut_no s w hl h')
end Go.Proofs.YteefniagebcagaaGreatDoor
/- Contract of arith.shrinkLimbs; it proves no statement of the seat. -/
namespace Go.Proofs.YteefniagebcagaaGreatDoor
open Go.RowKit

theorem set_mid (a b : List Nat) (x y j : Nat) (h : a.length = j) : ((a ++ [x]) ++ b).set j y = a ++ (y :: b) := by
  subst h
  simp

theorem or_shift (r x : Nat) (hr : r < 4294967296) (hx : x < 4294967296) : bits BinOp.or IntKind.u64 ((r : Int) * 4294967296) (x : Int) = ((r * 4294967296 + x : Nat) : Int) := by
  have e1 : (r : Int) * 4294967296 = ((r * 4294967296 : Nat) : Int) := by omega
  rw [e1, u64_or_nat _ _ (by omega) (by omega)]
  congr 1
  have := Nat.shiftLeft_add_eq_or_of_lt (b := x) (i := 32) hx r
  rw [Nat.shiftLeft_eq] at this
  rw [← show r * 2 ^ 32 = r * 4294967296 from rfl, ← this]

theorem drop_take_cons (zs : List Nat) (n j : Nat) (hj : j < n) (hn : n ≤ zs.length) : (zs.take n).drop j = zs.getD j 0 :: (zs.take n).drop (j + 1) := by
  have hl : j < (zs.take n).length := by rw [List.length_take]; omega
  rw [List.drop_eq_getElem_cons hl]
  congr 1
  simp [List.getElem_take, List.getElem?_eq_getElem (show j < zs.length by omega)]

theorem shrink_step (x B V r d q r' H : Nat) (h1 : H = r * B + x) (h2 : q * d + r' = H) : x + B * (V * d + r) = (q + B * V) * d + r' := by
  subst h1
  rw [Nat.mul_add, Nat.add_mul, ← Nat.mul_assoc, Nat.mul_comm B r]
  omega

set_option maxHeartbeats 1000000 in
theorem shrinkLimbs_any (g n cap d : Nat) (zs : List Nat) (w : World) (hn : n ≤ zs.length) (h1 : n ≤ 10000) (hr : Row .u32 167 w g zs) (hd : Digs 4294967296 zs) (hd0 : 0 < d) (hdl : d < 4294967296) :
    Calls Tryz.prog 112 #[.slice (some ⟨g, 0, none⟩) n cap, .int .u32 d] w fun e w' => ∃ r qs, e = .returned (.int .u32 ((r : Nat) : Int)) ∧ r < d ∧ qs.length = n ∧ Digs 4294967296 qs ∧ val 4294967296 (zs.take n) = val 4294967296 qs * d + r ∧ Row .u32 167 w' g (qs ++ zs.drop n) ∧ Only g w w' := by
  go_enter Tryz.func112, Tryz.ntmps112
  go_wp2
  go_loopw [5, 6] (fun v i wr => ∃ k r : Nat, ∃ qs : List Nat, k ≤ n ∧ i = .int .i64 ((k : Int) - 1) ∧ v = .int .u64 r ∧ r < d ∧ Hid (k + qs.length = n) ∧ Digs 4294967296 qs ∧ Hid (val 4294967296 ((zs.take n).drop k) = val 4294967296 qs * d + r) ∧
      Row .u32 167 wr g (zs.take k ++ (qs ++ zs.drop n)) ∧ Only g w wr) (fun _ i _ => (intOf i + 1).toNat)
  case atStart => exact ⟨n, 0, [], Nat.le_refl _, rfl, rfl, hd0, (by simp : _ = _), Digs.nil _, (by rw [List.drop_of_length_le (by rw [List.length_take]; omega)]; simp [val] : _ = _), by simpa using hr, Only.refl _ _⟩
  case round =>
    obtain ⟨k, r, qs, hk, rfl, rfl, hrd, HQ, hqd, HV, hrow, honly⟩ := hrel
    by_cases h0 : 0 < k
    · obtain ⟨j, rfl⟩ : ∃ j, k = j + 1 := ⟨k - 1, by omega⟩
      have hlen : (zs.take (j + 1) ++ (qs ++ zs.drop n)).length = zs.length := by
        have := HQ.out
        simp; omega
      have hcell := hrow.cell j (by rw [hlen]; omega)
      have hx0 : (zs.take (j + 1) ++ (qs ++ zs.drop n)).getD j 0 = zs.getD j 0 := by
        rw [List.getD_eq_getElem?_getD, List.getElem?_append_left (by simp; omega), List.getElem?_take, if_pos (by omega), ← List.getD_eq_getElem?_getD]
      rw [hx0] at hcell
      obtain ⟨x, hx⟩ : ∃ x, x = zs.getD j 0 := ⟨_, rfl⟩
      rw [← hx] at hcell
      have hxl : x < 4294967296 := hx ▸ hd.getD (by decide) j
      have HX : Hid (x = zs.getD j 0) := hx
      have hfr := hrow.frozen j
      obtain ⟨H, hH⟩ : ∃ H, H = r * 4294967296 + x := ⟨_, rfl⟩
      have hor : bits BinOp.or IntKind.u64 ((r : Int) * 4294967296) (x : Int) = (H : Int) := by rw [hH]; exact or_shift r x (by omega) hxl
      have hHl : (H : Int) < 18446744073709551616 := by omega
      have hq : H / d < 4294967296 := by
        rw [Nat.div_lt_iff_lt_mul hd0, hH]
        have : (r + 1) * 4294967296 ≤ d * 4294967296 := Nat.mul_le_mul_right _ hrd
        rw [Nat.mul_comm 4294967296 d]
        omega
      have hq' : (H : Int) / (d : Int) < 4294967296 := by rw [← Int.natCast_ediv]; omega
      have hq0 : 0 ≤ (H : Int) / (d : Int) := by rw [← Int.natCast_ediv]; exact Int.natCast_nonneg _
      have HH : Hid (H = r * 4294967296 + x) := hH
      clear hx hx0 hlen hH
      go_wp2
      go_roundw
      case rel =>
        refine ⟨j, H % d, H / d :: qs, by omega, rfl, by rw [Int.natCast_emod], Nat.mod_lt _ hd0, ?_, Digs.cons hq hqd, ?_, ?_, honly.set _ _⟩
        · show _ = _
          have := HQ.out
          simp; omega
        · show _ = _
          rw [drop_take_cons zs n j (by omega) hn, val_cons, HV.out, ← HX.out, val_cons]
          exact shrink_step _ _ _ _ _ _ _ _ HH.out (by rw [Nat.mul_comm]; exact Nat.div_add_mod _ _)
        · have e1 : zs.take (j + 1) = zs.take j ++ [zs.getD j 0] := take_snoc zs j (by omega)
          have e2 := hrow.set j ((H : Int) / (d : Int)) (H / d) (by rw [Int.natCast_ediv])
          rw [e1, set_mid _ _ _ _ _ (by rw [List.length_take]; omega)] at e2
          exact e2
      case measure => simp [intOf]
    · have hk0 : k = 0 := by omega
      subst hk0
      go_wp2
      go_ret
      refine ⟨r, qs, rfl, hrd, by have := HQ.out; omega, hqd, by have := HV.out; simpa using this, by simpa using hrow, honly⟩
end Go.Proofs.YteefniagebcagaaGreatDoor
