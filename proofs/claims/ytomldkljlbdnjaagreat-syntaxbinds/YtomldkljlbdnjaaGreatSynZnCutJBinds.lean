/- All methods of the reader at once, by induction on the fuel. No statement of the seat is proved here. -/
import Derived.Test.YtomldkljlbdnjaaGreatSynYgCutJBinds
import Derived.Test.YtomldkljlbdnjaaGreatSynYhCutJBinds
import Derived.Test.YtomldkljlbdnjaaGreatSynYiCutJBinds
import Derived.Test.YtomldkljlbdnjaaGreatSynYtCutJBinds
import Derived.Test.YtomldkljlbdnjaaGreatSynYvCutJBinds
import Derived.Test.YtomldkljlbdnjaaGreatSynZcCutJBinds
import Derived.Test.YtomldkljlbdnjaaGreatSynZeCutJBinds
import Derived.Test.YtomldkljlbdnjaaGreatSynZgCutJBinds
import Derived.Test.YtomldkljlbdnjaaGreatSynZjCutJBinds
namespace Go.Proofs.YtomldkljlbdnjaaGreat
open Go.RowKit
set_option linter.unusedVariables false
namespace Syn
open Lex (T TL tx bs tkC FV IsNm hide)
theorem nestOperand_sp (en g lo N : Nat) (h : Sp 189 ShE .operand en g lo N) : SpN 173 189 ShE .nestOperand en g lo (N + 1) := fun w dp st q hn =>
  nestE_any 189 (fun _ _ => by kernel_rfl) w g lo en dp st (fun d => P en N .operand d st) q hn (fun _ w2 q2 h2 => h w2 (dp + 1) st q2 h2)
theorem cut_typ (en : Nat) : ∀ (m dp : Nat) (st : List T), P en m .typ dp st = .out
  | 0, _, _ => rfl
  | _ + 1, _, _ => rfl
theorem cut_object (en : Nat) : ∀ (m dp : Nat) (st : List T), P en m .object dp st = .out
  | 0, _, _ => rfl
  | _ + 1, _, _ => rfl
theorem cut_giveBack (en : Nat) : ∀ (m dp : Nat) (st : List T), P en m .giveBack dp st = .out
  | 0, _, _ => rfl
  | _ + 1, _, _ => rfl
theorem cut_branch (en : Nat) : ∀ (m dp : Nat) (st : List T), P en m .branch dp st = .out
  | 0, _, _ => rfl
  | _ + 1, _, _ => rfl
theorem cut_let_ (en : Nat) : ∀ (m dp : Nat) (st : List T), P en m .let_ dp st = .out
  | 0, _, _ => rfl
  | _ + 1, _, _ => rfl
theorem cut_list (en : Nat) : ∀ (m dp : Nat) (st : List T), P en m .list dp st = .out
  | 0, _, _ => rfl
  | _ + 1, _, _ => rfl
theorem cut_wordless (en : Nat) : ∀ (m dp : Nat) (st : List T), P en m .wordless dp st = .out
  | 0, _, _ => rfl
  | _ + 1, _, _ => rfl
theorem cut_loop (en : Nat) : ∀ (m dp : Nat) (st : List T), P en m .loop dp st = .out
  | 0, _, _ => rfl
  | _ + 1, _, _ => rfl
theorem cut_class_ (en : Nat) : ∀ (m dp : Nat) (st : List T), P en m .class_ dp st = .out
  | 0, _, _ => rfl
  | _ + 1, _, _ => rfl
theorem cut_index (en : Nat) : ∀ (m : Nat) (e : List V) (dp : Nat) (st : List T), P en m (.index e) dp st = .out
  | 0, _, _, _ => rfl
  | _ + 1, _, _, _ => rfl
structure All (en g lo m : Nat) : Prop where
  expr : Sp 157 ShE .expr en g lo m
  block : Sp 57 (ShL 2) .block en g lo m
  stmts : Sp 107 (ShL 2) .stmts en g lo m
  lastExpr : Sp 139 (ShL 0) .lastExpr en g lo m
  inRound : Sp 177 (ShL 0) .inRound en g lo m
  alone : ∀ op, Sp1A 195 #[.pointer (some ⟨g, 0, none⟩), .string (tx op)] ShE (.alone op) en g lo m
  prefixed : ∀ op, Sp1A 191 #[.pointer (some ⟨g, 0, none⟩), .string (tx op)] ShE (.prefixed op) en g lo m
  nestOperand : SpN 173 189 ShE .nestOperand en g lo m
  stmt : Sp 143 ShS .stmt en g lo m
  primary : Sp 192 ShE .primary en g lo m
  part : SpB 193 ShE .part en g lo m
  operand : Sp 189 ShE .operand en g lo m
  operands : ∀ k : Nat, 2 ≤ k → k ≤ 7 → SpA 183 #[.pointer (some ⟨g, 0, none⟩), .int .i64 (k : Int)] ShE (.operands k) en g lo m
  program : Sp 26 ShR .program en g lo m
  implied : Sp 174 ShE .implied en g lo m
/-- What implied promises, if operands does. -/
def Imp (en g lo : Nat) : Prop := ∀ N, (∀ q, q ≤ N → ∀ k : Nat, 2 ≤ k → k ≤ 7 → SpA 183 #[.pointer (some ⟨g, 0, none⟩), .int .i64 (k : Int)] ShE (.operands k) en g lo q) → Sp 174 ShE .implied en g lo (N + 1)
theorem all_at (en g lo : Nat) (himp : Imp en g lo) (m : Nat) : All en g lo m := by
  induction m using Nat.strongRecOn with
  | ind m ih =>
  cases m with
  | zero => exact ⟨fun _ _ _ _ h => absurd rfl h, fun _ _ _ _ h => absurd rfl h, fun _ _ _ _ h => absurd rfl h, fun _ _ _ _ h => absurd rfl h, fun _ _ _ _ h => absurd rfl h, fun _ _ _ _ _ _ h => absurd rfl h, fun _ _ _ _ _ _ h => absurd rfl h, fun _ _ _ _ h => absurd rfl h, fun _ _ _ _ h => absurd rfl h, fun _ _ _ _ h => absurd rfl h, fun _ _ _ _ _ _ _ _ _ _ _ _ _ _ _ _ _ _ _ _ h => absurd rfl h, fun _ _ _ _ h => absurd rfl h, fun _ _ _ _ _ _ _ h => absurd rfl h, fun _ _ _ _ h => absurd rfl h, fun _ _ _ _ h => absurd rfl h⟩
  | succ N => exact ⟨expr_sp en g lo N (ih N (by omega)).implied,
      block_sp en g lo N (ih N (by omega)).stmts,
      stmts_sp en g lo N (fun k hk => (ih k (by omega)).stmt),
      lastExpr_sp en g lo N (ih N (by omega)).expr,
      inRound_sp en g lo N (ih N (by omega)).expr,
      fun op => alone_sp en g lo N op,
      fun op => prefixed_sp en g lo N op (ih N (by omega)).nestOperand,
      nestOperand_sp en g lo N (ih N (by omega)).operand,
      stmt_sp en g lo N (by intro w dp st; intros; rename_i h; exact absurd (cut_let_ en _ dp st) h) (by intro w dp st; intros; rename_i h; exact absurd (cut_branch en _ dp st) h) (by intro w dp st; intros; rename_i h; exact absurd (cut_loop en _ dp st) h) (by intro w dp st; intros; rename_i h; exact absurd (cut_giveBack en _ dp st) h) (ih N (by omega)).lastExpr (by intro w dp st; intros; rename_i h; exact absurd (cut_wordless en _ dp st) h),
      primary_sp en g lo N (ih N (by omega)).alone (by intro w dp st; intros; rename_i h; exact absurd (cut_object en _ dp st) h) (by intro w dp st; intros; rename_i h; exact absurd (cut_list en _ dp st) h) (ih N (by omega)).inRound,
      part_sp en g lo N (fun k hk => (ih k (by omega)).expr),
      operand_sp en g lo N (fun op k hk => (ih k (by omega)).prefixed op) (fun k hk => (ih k (by omega)).primary) (fun k hk => (ih k (by omega)).part) (fun k hk => by intro w dp st; intros; rename_i h; exact absurd (cut_index en _ _ dp st) h),
      fun k h2 h7 => operands_sp en g lo N k h2 h7 (ih N (by omega)).operand (fun q hq k2 a b => (ih q (by omega)).operands k2 a b),
      program_sp en g lo N (fun k hk w dp st _ h => absurd (cut_class_ en _ dp st) h) (fun k hk => (ih k (by omega)).block),
      himp N (fun q hq k2 a b => (ih q (by omega)).operands k2 a b)⟩
end Syn
end Go.Proofs.YtomldkljlbdnjaaGreat
