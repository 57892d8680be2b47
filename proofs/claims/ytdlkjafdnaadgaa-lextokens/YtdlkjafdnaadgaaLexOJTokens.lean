/- The walk of LexTokens. No statement of the seat is proved here. -/
import Derived.Test.YtdlkjafdnaadgaaLexNJTokens
namespace Go.Proofs.Ytdlkjafdnaadgaa
open Go.RowKit
set_option linter.unusedVariables false
set_option linter.unusedSimpArgs false
namespace Lex
open Euf (OL App Stop wpList_push)

theorem Lx.count {l : List UInt8} {p : Nat} {ts : List T} {c a : Nat} (h : Lx l p ts c a) : ts.length ≤ l.length := by
  induction h with
  | done _ => simp
  | bad _ _ => simp
  | @tok l p k n c a ts h1 h2 h3 ih =>
    have := (tk_ok h2).1
    rw [List.length_drop] at ih
    rw [List.length_cons]; omega
theorem Out.count {s : List UInt8} {ts : List T} {c a : Nat} (h : Out s ts c a) : ts.length ≤ 65536 := by
  rcases h with ⟨_, rfl, _⟩ | ⟨h0, u, h, rfl⟩
  · simp
  · have := h.count
    split
    · omega
    · simp
set_option maxHeartbeats 2000000 in
theorem lexTokens_any (s : ByteArray) (w : World) (hl : s.size ≤ maxLen) :
    Calls Try.prog 3 #[.string s] w fun e w' => e = .returned (.bool true) ∧ Below w.heap.size w w' := by
  have hs : s.size ≤ 9223372036854775807 := by unfold maxLen at hl; omega
  clear hl
  go_enter Try.func3, Try.ntmps3
  go_wp2_with fail
  refine (awake_any w).mono ?_
  rintro e w1 ⟨rfl, hb1⟩
  go_wp2_with fail
  refine (tokens_any s w1 hs).mono ?_
  rintro e w2 ⟨v, ts, c, a, rfl, hO, hL, -, hb2⟩
  obtain ⟨a1, c1, hv, -, -, -, -⟩ := hL.shape
  subst hv
  have HB2 := hide (hb1.step hb2 (Nat.le_refl _))
  have HL := hide hL
  have HO := hide hO
  clear hL hO hb1 hb2
  simp only [FV]
  have R0 := Blk.new w2 26 #[.int .i64 (c : Int), .int .i64 (a : Int)]
  have G0 : Below w2.heap.size w2 (w2.alloc (.cells #[.int .i64 (c : Int), .int .i64 (a : Int)] 26 (0, 0))) := by go_grown
  go_wp2_with fail
  refine (rTokens_any s _ hs).mono ?_
  rintro e w3 ⟨v', ts', c', a', rfl, hO', hL', -, hb3⟩
  obtain ⟨rfl, rfl, rfl⟩ := HO.out.det hO'
  obtain ⟨a2, c2, hv, -, -, -, -⟩ := hL'.shape
  subst hv
  have HL2 := hide ((HL.out.stay G0).stay hb3)
  have HL3 := hide hL'
  have R3 := R0.stay hb3
  have hcnt := hO'.count
  have HB3 := hide ((HB2.out.step G0 (Nat.le_refl _)).step hb3 (Nat.le_refl _))
  clear R0 G0 hL' hO' hb3 HL HB2 HO
  have hlt3 := R3.lt
  go_wp2_with fail
  refine (same_yes _ _ ts w3 HL2.out HL3.out hcnt).mono ?_
  rintro e w4 ⟨rfl, hb4⟩
  obtain ⟨r0, r1, -, -⟩ := (R3.stay hb4).two
  have HB4 := hide (HB3.out.step hb4 (Nat.le_refl _))
  clear HL2 HL3 R3 hb4 HB3
  go_wp2
  go_ret
  exact ⟨rfl, HB4.out⟩
end Lex
end Go.Proofs.Ytdlkjafdnaadgaa
