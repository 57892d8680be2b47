/- The texts of SyntaxBinds with any names: what Parse reads. No statement of the seat is proved here. -/
import Derived.Test.YtomldkljlbdnjaaGreatJoin8Binds
import Derived.Test.YtomldkljlbdnjaaGreatSynGaCutJBinds
namespace Go.Proofs.YtomldkljlbdnjaaGreat
open Go Go.RowKit
set_option linter.unusedVariables false
set_option linter.unusedSimpArgs false
namespace Syn
open Lex (T TL tx bs tkC FV IsNm hide)
/-- The places of a text's tokens. -/
def pls (N : Nat → List UInt8) : Nat → List It → List Nat
  | _, [] => []
  | p, .w x :: r => p :: pls N (p + x.length) r
  | p, .n i :: r => p :: pls N (p + (N i).length) r
  | p, .s x :: r => p :: pls N (p + x.length) r
  | p, .b :: r => pls N (p + 1) r
/-- No word and no sign is a name. -/
def chkW : List It → Bool
  | [] => true
  | .w x :: r => !decide (IsNm x) && chkW r
  | .s x :: r => !decide (IsNm x) && chkW r
  | _ :: r => chkW r
theorem prs_chkW : prs.all (fun x => chkW (its x.1) && chkW (its x.2)) = true ∧ chkW (its lst) = true := by decide
theorem tks_map {N T : Nat → List UInt8} {f : List UInt8 → List UInt8} {g : Nat → Nat} (hid : ∀ x, ¬ IsNm x → f x = x) (hT : ∀ i, f (T i) = N i) : ∀ (l : List It) (p j : Nat), chkW l = true → (∀ k, k < (pls N p l).length → g (j + k) = (pls N p l).getD k 0) → tks N p l = (tkt T j l).map (mt f g)
  | [], _, _, _, _ => rfl
  | .b :: r, p, j, hw, h => by
    simp only [tks, tkt]
    exact tks_map hid hT r _ _ (by simpa [chkW] using hw) h
  | .w x :: r, p, j, hw, h => by
    simp only [chkW, Bool.and_eq_true, Bool.not_eq_true', decide_eq_false_iff_not] at hw
    have h0 := h 0 (by simp [pls])
    simp [pls] at h0
    simp only [tks, tkt, List.map_cons, mt, hid x hw.1, h0]
    rw [tks_map hid hT r _ (j + 1) hw.2 (fun k hk => by have := h (k + 1) (by simpa [pls] using hk); simpa [pls, Nat.add_assoc, Nat.add_comm 1 k] using this)]
  | .s x :: r, p, j, hw, h => by
    simp only [chkW, Bool.and_eq_true, Bool.not_eq_true', decide_eq_false_iff_not] at hw
    have h0 := h 0 (by simp [pls])
    simp [pls] at h0
    simp only [tks, tkt, List.map_cons, mt, hid x hw.1, h0]
    rw [tks_map hid hT r _ (j + 1) hw.2 (fun k hk => by have := h (k + 1) (by simpa [pls] using hk); simpa [pls, Nat.add_assoc, Nat.add_comm 1 k] using this)]
  | .n i :: r, p, j, hw, h => by
    have h0 := h 0 (by simp [pls])
    simp [pls] at h0
    simp only [tks, tkt, List.map_cons, mt, hT i, h0]
    rw [tks_map hid hT r _ (j + 1) (by simpa [chkW] using hw) (fun k hk => by have := h (k + 1) (by simpa [pls] using hk); simpa [pls, Nat.add_assoc, Nat.add_comm 1 k] using this)]
/-- Three names. -/
def nms (A B C : List UInt8) : Nat → List UInt8
  | 0 => A
  | 1 => B
  | _ => C
def vB (x : List UInt8) : Bool := decide (x = ([118] : List UInt8))
/-- The template's names become these. -/
def fN (A B C : List UInt8) (x : List UInt8) : List UInt8 :=
  if x = tn (vB A) (vB B) (vB C) 0 then A else if x = tn (vB A) (vB B) (vB C) 1 then B else if x = tn (vB A) (vB B) (vB C) 2 then C else x
theorem fN_tn (A B C : List UInt8) (i : Nat) : fN A B C (tn (vB A) (vB B) (vB C) i) = nms A B C i := by
  by_cases hA : A = ([118] : List UInt8) <;> by_cases hB : B = ([118] : List UInt8) <;> by_cases hC : C = ([118] : List UInt8) <;> (match i with
    | 0 => simp [fN, tn, vB, nms, hA, hB, hC]
    | 1 => simp [fN, tn, vB, nms, hA, hB, hC]
    | i + 2 => simp [fN, tn, vB, nms, hA, hB, hC])
theorem fN_fm {A B C : List UInt8} (hA : IsNm A) (hB : IsNm B) (hC : IsNm C) : Fm (fN A B C) where
  nm x hx := by
    unfold fN
    repeat' split
    · exact hA
    · exact hB
    · exact hC
    · exact hx
  id x hx := by
    have k : ∀ i, x ≠ tn (vB A) (vB B) (vB C) i := by
      rintro i rfl
      refine hx ?_
      match i with
      | 0 => simp only [tn]; split <;> decide
      | 1 => simp only [tn]; split <;> decide
      | i + 2 => simp only [tn]; split <;> decide
    unfold fN
    rw [if_neg (k 0), if_neg (k 1), if_neg (k 2)]
  v x := by
    by_cases h1 : A = ([118] : List UInt8) <;> by_cases h2 : B = ([118] : List UInt8) <;> by_cases h3 : C = ([118] : List UInt8) <;> simp only [fN, tn, vB, h1, h2, h3, decide_true, decide_false, if_true, if_false, Bool.false_eq_true]
    all_goals
      constructor
      · intro h
        repeat' (split at h)
        all_goals first | assumption | (exact absurd h ‹_›) | (exact absurd h.symm ‹_›)
      · rintro rfl
        repeat' split
        all_goals first | rfl | (rename_i k; exact absurd k (by decide))
  op x hx := by
    have k : ∀ i, x ≠ tn (vB A) (vB B) (vB C) i := by
      rintro i rfl
      match i, hx with
      | 0, hx => simp only [tn] at hx; split at hx <;> exact absurd hx (by decide)
      | 1, hx => simp only [tn] at hx; split at hx <;> exact absurd hx (by decide)
      | i + 2, hx => simp only [tn] at hx; split at hx <;> exact absurd hx (by decide)
    unfold fN
    rw [if_neg (k 0), if_neg (k 1), if_neg (k 2)]
/-- The tokens of such a text, and what is read of them. -/
theorem bind_text {A B C : List UInt8} (hA : IsNm A) (hB : IsNm B) (hC : IsNm C) (l : List It) (hc : chkI (its l) = true) (hw : chkW (its l) = true) (s : ByteArray) (hs : bs s = rnd (nms A B C) (its l)) (hn : (pls (nms A B C) 0 (its l)).length ≤ 100) :
    ∃ ts g, Lex.Lx (bs s) 0 ts 0 0 ∧ (∀ k, k < (pls (nms A B C) 0 (its l)).length → g k = (pls (nms A B C) 0 (its l)).getD k 0) ∧ P s.size 120 .program 0 ts = mvX (fN A B C) g (trd (vB A) (vB B) (vB C) l) := by
  have hN : ∀ i, IsNm (nms A B C i) := fun i => by
    match i with
    | 0 => exact hA
    | 1 => exact hB
    | i + 2 => exact hC
  obtain ⟨g, hg⟩ : ∃ g : Nat → Nat, g = fun j => if j < (pls (nms A B C) 0 (its l)).length then (pls (nms A B C) 0 (its l)).getD j 0 else s.size := ⟨_, rfl⟩
  have hgk : ∀ k, k < (pls (nms A B C) 0 (its l)).length → g k = (pls (nms A B C) 0 (its l)).getD k 0 := fun k hk => by rw [hg]; simp only [if_pos hk]
  have h0 : g 0 = 0 := by rw [hgk 0 (by simp [its, pls])]; first | rfl | simp [its, pls]
  have hen : g 100 = s.size := by rw [hg]; simp only; rw [if_neg (by omega)]
  have hF := fN_fm hA hB hC
  refine ⟨tks (nms A B C) 0 (its l), g, by rw [hs]; exact tks_lx hN (its l) 0 hc, hgk, ?_⟩
  rw [tks_map (g := g) hF.id (fN_tn A B C) (its l) 0 0 hw (fun k hk => by rw [Nat.zero_add]; exact hgk k hk)]
  have := P_mv hF h0 100 120 .program 0 (tkt (tn (vB A) (vB B) (vB C)) 0 (its l)) True.intro
  rw [hen] at this
  exact this
end Syn
end Go.Proofs.YtomldkljlbdnjaaGreat
