/- The strings of SyntaxBinds are the texts. No statement of the seat is proved here. -/
import Derived.Test.YtomldkljlbdnjaaGreatSynIdCutJBinds
namespace Go.Proofs.YtomldkljlbdnjaaGreat
open Go Go.RowKit
set_option linter.unusedVariables false
set_option linter.unusedSimpArgs false
namespace Syn
open Lex (T TL tx bs tkC FV IsNm hide)
/-- What stands in the list of pairs, one behind the other. -/
def bx (a b c : ByteArray) : Nat → ByteArray
  | 0 => a ++ ⟨#[32, 43, 32]⟩ ++ b ++ ⟨#[32, 42, 32]⟩ ++ c
  | 1 => a ++ ⟨#[32, 43, 32, 40]⟩ ++ b ++ ⟨#[32, 42, 32]⟩ ++ c ++ ⟨#[41]⟩
  | 2 => a ++ ⟨#[32, 45, 32]⟩ ++ b ++ ⟨#[32, 45, 32]⟩ ++ c
  | 3 => ⟨#[40]⟩ ++ a ++ ⟨#[32, 45, 32]⟩ ++ b ++ ⟨#[41, 32, 45, 32]⟩ ++ c
  | 4 => a ++ ⟨#[32, 43, 32]⟩ ++ b ++ ⟨#[32, 60, 32]⟩ ++ c
  | 5 => ⟨#[40]⟩ ++ a ++ ⟨#[32, 43, 32]⟩ ++ b ++ ⟨#[41, 32, 60, 32]⟩ ++ c
  | 6 => a ++ ⟨#[32, 124, 124, 32]⟩ ++ b ++ ⟨#[32, 38, 38, 32]⟩ ++ c
  | 7 => a ++ ⟨#[32, 124, 124, 32, 40]⟩ ++ b ++ ⟨#[32, 38, 38, 32]⟩ ++ c ++ ⟨#[41]⟩
  | 8 => a ++ ⟨#[32, 61, 62, 32]⟩ ++ b ++ ⟨#[32, 61, 62, 32]⟩ ++ c
  | 9 => a ++ ⟨#[32, 61, 62, 32, 40]⟩ ++ b ++ ⟨#[32, 61, 62, 32]⟩ ++ c ++ ⟨#[41]⟩
  | 10 => a ++ ⟨#[32, 61, 62, 32]⟩ ++ b ++ ⟨#[32, 124, 124, 32]⟩ ++ c
  | 11 => a ++ ⟨#[32, 61, 62, 32, 40]⟩ ++ b ++ ⟨#[32, 124, 124, 32]⟩ ++ c ++ ⟨#[41]⟩
  | 12 => ⟨#[33]⟩ ++ a ++ ⟨#[32, 61, 61, 32]⟩ ++ b
  | 13 => ⟨#[40, 33]⟩ ++ a ++ ⟨#[41, 32, 61, 61, 32]⟩ ++ b
  | 14 => ⟨#[45]⟩ ++ a ++ ⟨#[46]⟩ ++ b ++ ⟨#[32, 42, 32]⟩ ++ c
  | 15 => ⟨#[40, 45, 40]⟩ ++ a ++ ⟨#[46]⟩ ++ b ++ ⟨#[41, 41, 32, 42, 32]⟩ ++ c
  | 16 => a ++ ⟨#[32, 61, 61, 32]⟩ ++ b ++ ⟨#[32, 38, 38, 32]⟩ ++ c
  | _ => ⟨#[40]⟩ ++ a ++ ⟨#[32, 61, 61, 32]⟩ ++ b ++ ⟨#[41, 32, 38, 38, 32]⟩ ++ c
/-- .. as it lies in memory. -/
def bcs (a b c : ByteArray) : Array Value := #[.string (bx a b c 0), .string (bx a b c 1), .string (bx a b c 2), .string (bx a b c 3), .string (bx a b c 4), .string (bx a b c 5), .string (bx a b c 6), .string (bx a b c 7), .string (bx a b c 8), .string (bx a b c 9), .string (bx a b c 10), .string (bx a b c 11), .string (bx a b c 12), .string (bx a b c 13), .string (bx a b c 14), .string (bx a b c 15), .string (bx a b c 16), .string (bx a b c 17)]
theorem bcs_at (a b c : ByteArray) (k : Nat) (hk : k < 9) : (bcs a b c)[k * 2]? = some (.string (bx a b c (2 * k))) ∧ (bcs a b c)[k * 2 + 1]? = some (.string (bx a b c (2 * k + 1))) := by
  match k, hk with
  | 0, _ | 1, _ | 2, _ | 3, _ | 4, _ | 5, _ | 6, _ | 7, _ | 8, _ => exact ⟨rfl, rfl⟩
def pre : ByteArray := ⟨#[109, 97, 105, 110, 32, 123, 32, 112, 114, 105, 110, 116, 32]⟩
def suf : ByteArray := ⟨#[59, 32, 125]⟩
theorem bs_app (x y : ByteArray) : bs (x ++ y) = bs x ++ bs y := by simp [bs]
theorem bs_lit (x : Array UInt8) : bs ⟨x⟩ = x.toList := rfl
theorem bx_text (a b c : ByteArray) (k : Nat) (hk : k < 9) : bs (pre ++ bx a b c (2 * k) ++ suf) = rnd (nms (bs a) (bs b) (bs c)) (its (prs.getD k ([], [])).1) ∧ bs (pre ++ bx a b c (2 * k + 1) ++ suf) = rnd (nms (bs a) (bs b) (bs c)) (its (prs.getD k ([], [])).2) := by
  match k, hk with
  | 0, _ | 1, _ | 2, _ | 3, _ | 4, _ | 5, _ | 6, _ | 7, _ | 8, _ => constructor <;> simp [bx, pre, suf, bs_app, bs_lit, rnd, its, prs, bet, opn, cls, nA, nB, nC, It.tx, nms]
theorem lst_text (a b c : ByteArray) : bs (pre ++ a ++ ⟨#[32, 60, 32]⟩ ++ b ++ ⟨#[32, 60, 32]⟩ ++ c ++ suf) = rnd (nms (bs a) (bs b) (bs c)) (its lst) := by
  simp [pre, suf, bs_app, bs_lit, rnd, its, lst, bet, nA, nB, nC, It.tx, nms]
theorem bx_size (a b c : ByteArray) (ha : a.size ≤ 40) (hb : b.size ≤ 40) (hc : c.size ≤ 40) (k : Nat) : (bx a b c k).size ≤ 200 := by
  rw [← Lex.bs_length]
  rw [← Lex.bs_length] at ha hb hc
  unfold bx
  split <;> simp [bs_app, bs_lit] <;> omega
/-- What is read of the k-th pair. -/
theorem bx_read {a b c : ByteArray} (hA : IsNm (bs a)) (hB : IsNm (bs b)) (hC : IsNm (bs c)) (k : Nat) (hk : k < 9) :
    ∃ m m', ParM (pre ++ bx a b c (2 * k) ++ suf) m ∧ ParM (pre ++ bx a b c (2 * k + 1) ++ suf) m' ∧ erL m = erL m' ∧ wfL m (sh 2) = true ∧ wfL m' (sh 2) = true :=
  pair_read hA hB hC k hk (bx_text a b c k hk).1 (bx_text a b c k hk).2
end Syn
end Go.Proofs.YtomldkljlbdnjaaGreat
