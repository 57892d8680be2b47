/- Are two lists of tokens the same; awake; the document's names. No statement of the seat is proved here. -/
import Derived.Test.YtdlkjafdnaadgaaLexKJLong
namespace Go.Proofs.Ytdlkjafdnaadgaa
open Go.RowKit
set_option linter.unusedVariables false
set_option linter.unusedSimpArgs false
namespace Lex
open Euf (OL App Stop wpList_push)

theorem TL.stay {w w' : World} {v : Value} {ts : List T} (h : TL w v ts) (hb : Below w.heap.size w w') : TL w' v ts := OL.stay h fun b k => hb.block b (OL.lt h k)
theorem TL.at {w : World} {g cap : Nat} {ts : List T} (h : TL w (.slice (some ⟨g, 0, none⟩) ts.length cap) ts) (k : Nat) (t : T) (hk : ts[k]? = some t) :
    w.cell? ⟨g, k * 3, none⟩ = some (.int .i64 (t.k : Int)) ∧ w.cell? ⟨g, k * 3 + 1, none⟩ = some (.string (tx t.x)) ∧ w.cell? ⟨g, k * 3 + 2, none⟩ = some (.int .i64 (t.a : Int)) := by
  have hlt : k < ts.length := (List.getElem?_eq_some_iff.1 hk).1
  have hg : ts.getD k ⟨0, [], 0⟩ = t := by simp [hk]
  have c0 := OL.cell h hlt (j := 0) (by decide)
  have c1 := OL.cell h hlt (j := 1) (by decide)
  have c2 := OL.cell h hlt (j := 2) (by decide)
  simp only [tkC, hg, tv, Nat.add_zero] at c0 c1 c2
  exact ⟨c0, c1, c2⟩
set_option maxHeartbeats 1000000 in
theorem same_yes (v1 v2 : Value) (ts : List T) (w : World) (h1 : TL w v1 ts) (h2 : TL w v2 ts) (hn : ts.length ≤ 65536) :
    Calls Try.prog 12 #[v1, v2] w fun e w' => e = .returned (.bool true) ∧ Below w.heap.size w w' := by
  obtain ⟨a1, c1, hv, -, -, -, -⟩ := h1.shape
  subst hv
  obtain ⟨a2, c2, hv, -, -, -, -⟩ := h2.shape
  subst hv
  have H1 := hide h1
  have H2 := hide h2
  have HB := hide (Below.refl w.heap.size w)
  clear h1 h2
  go_enter Try.func12, Try.ntmps12
  go_wp2
  go_loopw [5] (fun i wr => ∃ k : Nat, k ≤ ts.length ∧ i = .int .i64 k ∧ Hid (Below w.heap.size w wr)) (fun i _ => ts.length - (intOf i).toNat)
  case atStart => exact ⟨0, Nat.zero_le _, rfl, HB⟩
  case round =>
    rename World => wl
    clear HB
    obtain ⟨k, hk, rfl, HB⟩ := hrel
    by_cases hlt : k < ts.length
    · have hltI : (k : Int) < (ts.length : Int) := by omega
      have G1 := H1.out.stay HB.out
      have G2 := H2.out.stay HB.out
      obtain ⟨g1, cap1, hv, hc1, hc2⟩ := OL.open G1 k hlt
      simp only [Value.slice.injEq] at hv
      obtain ⟨rfl, -, rfl⟩ := hv
      obtain ⟨g2, cap2, hv, hd1, hd2⟩ := OL.open G2 k hlt
      simp only [Value.slice.injEq] at hv
      obtain ⟨rfl, -, rfl⟩ := hv
      obtain ⟨t, ht⟩ : ∃ t, ts[k]? = some t := ⟨ts[k], List.getElem?_eq_getElem hlt⟩
      obtain ⟨x0, x1, x2⟩ := G1.at k t ht
      obtain ⟨y0, y1, y2⟩ := G2.at k t ht
      clear G1 G2 ht hc1 hc2 hd1 hd2
      go_wp2
      go_region
      all_goals
        go_wp2
        go_roundw
        case rel => exact ⟨k + 1, by omega, by go_num, HB.out.drew⟩
        case measure => simp [intOf]; omega
    · have hltI : ¬ (k : Int) < (ts.length : Int) := by omega
      go_wp2
      go_ret
      exact ⟨rfl, HB.out⟩
/-- The page's example. -/
def exT : List T := [⟨1, [97], 0⟩, ⟨3, [60, 61], 1⟩, ⟨2, [49, 48], 3⟩]
theorem ex_lx : Lx [97, 60, 61, 49, 48] 0 exT 0 0 := by
  have h3 : Lx [] 5 [] 0 0 := .done (by decide)
  have h2 : Lx [49, 48] 3 [⟨2, [49, 48], 3⟩] 0 0 := Lx.tok (k := 2) (n := 2) (by decide) rfl h3
  have h1 : Lx [60, 61, 49, 48] 1 [⟨3, [60, 61], 1⟩, ⟨2, [49, 48], 3⟩] 0 0 := Lx.tok (k := 3) (n := 2) (by decide) rfl h2
  exact Lx.tok (k := 1) (n := 1) (by decide) rfl h1
theorem ex_out {ts : List T} {c a : Nat} (h : Out (bs ⟨#[97, 60, 61, 49, 48]⟩) ts c a) : ts = exT ∧ c = 0 ∧ a = 0 :=
  h.det (Or.inr ⟨by decide, exT, ex_lx, rfl⟩)
set_option maxHeartbeats 2000000 in
theorem awake_any (w : World) : Calls Try.prog 9 #[] w fun e w' => e = .returned (.bool true) ∧ Below w.heap.size w w' := by
  have HT := hide <| fun w => tokens_any ⟨#[97, 60, 61, 49, 48]⟩ w (by decide)
  have HW := hide <| fun w => isWord_any ⟨#[99, 108, 97, 115, 115]⟩ w
  rw [show decide (bs ⟨#[99, 108, 97, 115, 115]⟩ ∈ words) = true by decide] at HW
  have HN := hide <| fun w => isName_any ⟨#[97]⟩ w (by decide)
  rw [show decide (IsNm (bs ⟨#[97]⟩)) = true by decide] at HN
  go_enter Try.func9, Try.ntmps9
  go_wp2_with (first | (go_at_call 10; refine (HT.out _).mono ?_; rintro e w1 ⟨v, ts, c, a, rfl, hO, hL, hown, hb⟩; obtain ⟨rfl, rfl, rfl⟩ := ex_out hO; obtain ⟨g, cap, hv, hc1, hc2⟩ := OL.open hL 0 (by decide); subst hv; obtain ⟨x0, x1, x2⟩ := hL.at 0 _ rfl; obtain ⟨y0, y1, y2⟩ := hL.at 1 _ rfl; obtain ⟨z0, z1, z2⟩ := hL.at 2 _ rfl; have hgl := OL.lt hL (b := g) rfl; simp only [FV, exT, List.length_cons, List.length_nil, tx] at *) | (go_at_call 13; refine (HW.out _).mono ?_; rintro e w' ⟨rfl, rfl⟩) | (go_at_call 15; refine (HN.out _).mono ?_; rintro e w' ⟨rfl, rfl⟩))
  go_ret
  refine ⟨rfl, ?_⟩
  go_grown
  exact hb.size
end Lex
end Go.Proofs.Ytdlkjafdnaadgaa
