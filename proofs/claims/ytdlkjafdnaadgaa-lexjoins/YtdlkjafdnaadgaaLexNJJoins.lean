/- Are two lists of tokens the same; awake; the document's names. No statement of the seat is proved here. -/
import Derived.Test.YtdlkjafdnaadgaaLexKJJoins
namespace Go.Proofs.Ytdlkjafdnaadgaa
open Go.RowKit
set_option linter.unusedVariables false
set_option linter.unusedSimpArgs false
namespace Lex
open Euf (OL App Stop wpList_push)

theorem TL.stay {w w' : World} {v : Value} {ts : List T} (h : TL w v ts) (hb : Below w.heap.size w w') : TL w' v ts := OL.stay h fun b k => hb.block b (OL.lt h k)
theorem TL.at {w : World} {g cap : Nat} {ts : List T} (h : TL w (.slice (some ⟨g, 0, none⟩) ts.length cap) ts) (k : Nat) (t : T) (hk : ts[k]? = some t) :
    w.cell? ⟨g, k * 3, none⟩ = some (.int .i64 (t.k : Int)) ∧ w.cell? ⟨g, k * 3 + 1, none⟩ = some (.string (tx t.x)) ∧ w.cell? ⟨g, k * 3 + 2, none⟩ = some (.int .i64 (t.a : Int)) := by
  have hlt : k < ts.length := (List.getElem?_eq_some_iff.1 hk).1
  have hg : ts.getD k ⟨0, [], 0⟩ = t := by simp [hk]
  have c0 := OL.cell h hlt (j := 0) (by decide)
  have c1 := OL.cell h hlt (j := 1) (by decide)
  have c2 := OL.cell h hlt (j := 2) (by decide)
  simp only [tkC, hg, tv, Nat.add_zero] at c0 c1 c2
  exact ⟨c0, c1, c2⟩
/-- The page's example. -/
def exT : List T := [⟨1, [97], 0⟩, ⟨3, [60, 61], 1⟩, ⟨2, [49, 48], 3⟩]
theorem ex_lx : Lx [97, 60, 61, 49, 48] 0 exT 0 0 := by
  have h3 : Lx [] 5 [] 0 0 := .done (by decide)
  have h2 : Lx [49, 48] 3 [⟨2, [49, 48], 3⟩] 0 0 := Lx.tok (k := 2) (n := 2) (by decide) rfl h3
  have h1 : Lx [60, 61, 49, 48] 1 [⟨3, [60, 61], 1⟩, ⟨2, [49, 48], 3⟩] 0 0 := Lx.tok (k := 3) (n := 2) (by decide) rfl h2
  exact Lx.tok (k := 1) (n := 1) (by decide) rfl h1
theorem ex_out {ts : List T} {c a : Nat} (h : Out (bs ⟨#[97, 60, 61, 49, 48]⟩) ts c a) : ts = exT ∧ c = 0 ∧ a = 0 :=
  h.det (Or.inr ⟨by decide, exT, ex_lx, rfl⟩)
set_option maxHeartbeats 2000000 in
theorem awake_any (w : World) : Calls Try.prog 9 #[] w fun e w' => e = .returned (.bool true) ∧ Below w.heap.size w w' := by
  have HT := hide <| fun w => tokens_any ⟨#[97, 60, 61, 49, 48]⟩ w (by decide)
  have HW := hide <| fun w => isWord_any ⟨#[99, 108, 97, 115, 115]⟩ w
  rw [show decide (bs ⟨#[99, 108, 97, 115, 115]⟩ ∈ words) = true by decide] at HW
  have HN := hide <| fun w => isName_any ⟨#[97]⟩ w (by decide)
  rw [show decide (IsNm (bs ⟨#[97]⟩)) = true by decide] at HN
  go_enter Try.func9, Try.ntmps9
  go_wp2_with (first | (go_at_call 10; refine (HT.out _).mono ?_; rintro e w1 ⟨v, ts, c, a, rfl, hO, hL, hown, hb⟩; obtain ⟨rfl, rfl, rfl⟩ := ex_out hO; obtain ⟨g, cap, hv, hc1, hc2⟩ := OL.open hL 0 (by decide); subst hv; obtain ⟨x0, x1, x2⟩ := hL.at 0 _ rfl; obtain ⟨y0, y1, y2⟩ := hL.at 1 _ rfl; obtain ⟨z0, z1, z2⟩ := hL.at 2 _ rfl; have hgl := OL.lt hL (b := g) rfl; simp only [FV, exT, List.length_cons, List.length_nil, tx] at *) | (go_at_call 13; refine (HW.out _).mono ?_; rintro e w' ⟨rfl, rfl⟩) | (go_at_call 15; refine (HN.out _).mono ?_; rintro e w' ⟨rfl, rfl⟩))
  go_ret
  refine ⟨rfl, ?_⟩
  go_grown
  exact hb.size
end Lex
end Go.Proofs.Ytdlkjafdnaadgaa
