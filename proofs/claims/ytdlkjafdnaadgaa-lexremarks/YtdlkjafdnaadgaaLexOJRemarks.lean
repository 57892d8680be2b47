/- The walk of LexTokens. No statement of the seat is proved here. -/
import Derived.Test.YtdlkjafdnaadgaaLexNJRemarks
namespace Go.Proofs.Ytdlkjafdnaadgaa
open Go.RowKit
set_option linter.unusedVariables false
set_option linter.unusedSimpArgs false
namespace Lex
open Euf (OL App Stop wpList_push)

theorem Lx.count {l : List UInt8} {p : Nat} {ts : List T} {c a : Nat} (h : Lx l p ts c a) : ts.length ≤ l.length := by
  induction h with
  | done _ => simp
  | bad _ _ => simp
  | @tok l p k n c a ts h1 h2 h3 ih =>
    have := (tk_ok h2).1
    rw [List.length_drop] at ih
    rw [List.length_cons]; omega
theorem Out.count {s : List UInt8} {ts : List T} {c a : Nat} (h : Out s ts c a) : ts.length ≤ 65536 := by
  rcases h with ⟨_, rfl, _⟩ | ⟨h0, u, h, rfl⟩
  · simp
  · have := h.count
    split
    · omega
    · simp
theorem Lx.small {l : List UInt8} {p : Nat} {ts : List T} {c a : Nat} (h : Lx l p ts c a) : c ≤ 100 ∧ a ≤ p + l.length := by
  induction h with
  | done _ => omega
  | @bad l p c a h1 h2 =>
    have := tk_bad h2
    refine ⟨by omega, ?_⟩
    have h3 : a ≤ (l.drop (sk l)).length := by
      generalize l.drop (sk l) = u at h2
      rcases u with _ | ⟨d, r⟩
      · simp [tk] at h2; simp; omega
      · have hN := tw_le isD (d :: r)
        change spN _ ≤ _ at hN
        simp only [tk] at h2
        split at h2
        · split at h2
          · injection h2; omega
          · cases h2
        · split at h2
          · split at h2
            · injection h2; omega
            · split at h2
              · injection h2; omega
              · split at h2
                · injection h2; omega
                · cases h2
          · split at h2
            · injection h2; omega
            · cases h2
    rw [List.length_drop] at h3
    omega
  | @tok l p k n c a ts h1 h2 h3 ih =>
    have := (tk_ok h2).2
    rw [List.length_drop] at ih this
    omega
theorem Out.small {s : List UInt8} {ts : List T} {c a : Nat} (h : Out s ts c a) : c ≤ 100 ∧ a ≤ 65536 := by
  rcases h with ⟨_, _, rfl, rfl⟩ | ⟨h0, u, h, _⟩
  · omega
  · have := h.small; omega
end Lex
end Go.Proofs.Ytdlkjafdnaadgaa
