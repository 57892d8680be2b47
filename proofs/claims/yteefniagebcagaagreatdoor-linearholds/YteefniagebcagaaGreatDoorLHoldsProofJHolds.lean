/- LinearHolds answers true for every input, and leaves it as it was: the given statement LinearHoldsCardSaid. -/
import Derived.Test.YteefniagebcagaaGreatDoorRows
import Derived.Test.YteefniagebcagaaGreatDoorTie
import Derived.Test.YteefniagebcagaaGreatDoorCards
import Derived.Test.YteefniagebcagaaGreatDoorLinHoJHolds
import Derived.Test.YteefniagebcagaaGreatDoorLinOpJHolds
import Derived.WalkKit
import Derived.ProofKit
import Derived.Lay
import Derived.LaidOnce
import Derived.SevenTiedAt
import Derived.MakeChecks
import Derived.Lib.LaidTab
import Derived.Lib.LaidU8
namespace Go.Proofs.YteefniagebcagaaGreatDoor
open Go.ChangeShapes Go.WideShapes Go.ChangeAt Go.RowKit Go.Deep Go.Joins
set_option linter.unusedVariables false

theorem Tryz.laidOut : laidOutB Tryz.prog = true := by kernel_rfl
theorem Tryz.cells_row : Tryz.prog.cellsOf 79 = 2 := by kernel_rfl
theorem linearHolds_knob : ownKnob Tryz.prog.godebug = none := by kernel_rfl
theorem tab_of_reads {W : World} (h : Lib.VarReads Tryz.prog W "internal/strconv.uint64pow10" Rows.laid_internal_strconv_uint64pow10) : Tab W := by
  obtain ⟨g, t, cs, fuel, p, hg, ht, hvar, hd⟩ := h
  have k : (Tryz.prog.globalNamed "internal/strconv.uint64pow10").bind (fun g => (Tryz.prog.globals[g]?).map (·.type)) = some 211 := by kernel_rfl
  rw [hg] at k
  simp only [Option.bind_some] at k
  have e1 := ht.symm.trans k
  injection e1 with e1
  subst e1
  have e : (Rows.laid_internal_strconv_uint64pow10 : DataW Unit) = Lib.tabData .u64 Lib.pow10Tab := by kernel_rfl
  rw [e] at hd
  unfold Tab Lib.TabIs
  rw [hvar, ← Lib.cells_of_tab Tryz.underlying211 Tryz.underlying151 (by kernel_rfl) (by kernel_rfl) hd]
set_option maxRecDepth 100000 in
theorem linearHolds_lifted (os : Os) (started : os.Started) (H : Type) (enc : TypeId × Value → H) :
    ReturnsInHanded {} Tryz.checked os 7 .any (fun w args => (Rows.linearHoldsSpec.pre enc Tryz.prog Tryz.f7 [] false w args ∧ laidMetH Tryz.prog Rows.linearHoldsRow.laid w) ∧ sizedMet enc Tryz.prog Tryz.f7 (OpenSpec.ofChange Rows.linearHoldsSpec) false w args)
      (Rows.linearHoldsSpec.post enc Tryz.prog Tryz.f7 false true false false) := by
  refine returnsInHanded_of_change_and (C := Tryz.checked) (X := fun w _ => laidMetH Tryz.prog Rows.linearHoldsRow.laid w) (fun _ _ _ hh h => h.of_heap hh) linearHolds_knob started (by kernel_rfl) Tryz.func7
    (ChangeSpec.witness_shaped (enc := enc) (C := Tryz.checked) (os := os) (X := fun w _ => laidMetH Tryz.prog Rows.linearHoldsRow.laid w) false (World.laidAll Tryz.prog os Rows.linearHoldsRow.laid) #[.agg #[.slice none 0 0, .string ⟨#[]⟩], .slice none 0 0] 8 (World.laidAll_os _ _ _)
      (World.shaped_of_ZipB (by kernel_rfl) (by kernel_rfl)) (by kernel_rfl) (by kernel_rfl) (by kernel_rfl)
      (by rw [MakeChecks.laidMetH_plain _ _ _ (by kernel_rfl)]; exact laidMet_laidAll _ (by kernel_rfl) (by kernel_rfl))) ?_
  intro W base args ds gs before hval0 hW _ _ hL _
  have hval : ∀ (j : Nat) t v, Tryz.f7.params[j]? = some t → args[j]? = some v → Value.okWide Tryz.prog W .any base t v := hval0
  have hW' := hW
  obtain ⟨p, q, hA0, hV, rfl, hfz, hnd⟩ := hW
  have hA : DataW.TrodAll enc Tryz.prog W 0 (fun _ => true) true Tryz.f7.params.toList args.toList ds p := hA0
  rw [Tryz.params7] at hA hval
  obtain ⟨v0, v1, d0, d1, p0, p1, rfl, rfl, rfl, h0, h1⟩ := trodAll_two hA
  obtain ⟨rfl, rfl⟩ := trodVars_none hV
  simp only [List.append_nil] at hW'
  rw [MakeChecks.laidMetH_plain _ _ _ (by kernel_rfl)] at hL
  have ht : Tab W := tab_of_reads (Lib.laidMet.reads hL (.tail _ (.tail _ (.head _))))
  have b0 : ∀ W', Below W.heap.size W W' → DataW.Trod enc Tryz.prog W' 0 (fun b => decide (b < W.heap.size)) true 79 v0 d0 p0 := fun W' hb =>
    Below.trod Tryz.laidOut (by kernel_rfl) (of_decide_eq_true (by kernel_rfl)) h0 hb (fun x hx => by obtain ⟨fu, hf⟩ := h0; exact DataW.trod_lt fu _ _ _ hf x hx)
  have b1 : ∀ W', Below W.heap.size W W' → DataW.Trod enc Tryz.prog W' 0 (fun b => decide (b < W.heap.size)) true 23 v1 d1 p1 := fun W' hb =>
    Below.trod Tryz.laidOut (by kernel_rfl) (of_decide_eq_true (by kernel_rfl)) h1 hb (fun x hx => by obtain ⟨fu, hf⟩ := h1; exact DataW.trod_lt fu _ _ _ hf x hx)
  obtain ⟨c0, c1, y0, y1, m, e0, -, -, hy0, hy1⟩ := open_agg2 Tryz.underlying79 (by kernel_rfl) Tryz.cells_row (hval 0 79 v0 rfl rfl) h0
  obtain ⟨aX, nX, cX, ms, rfl, hl, hx, hm⟩ := marr_open hy0
  obtain ⟨S, e1, -, -⟩ := DataW.trod_string Tryz.underlying9 hy1
  injection e1 with e1
  subst e1
  subst e0
  obtain ⟨a1, len, cap, rfl⟩ := okWide_slice Tryz.underlying23 (hval 1 23 v1 rfl rfl)
  obtain ⟨Sx, hlen, hS, -⟩ := strs_again Tryz.underlying23 Tryz.underlying9 Tryz.cells_s h1
  obtain ⟨ss, hsl, hsa⟩ := sarr_of hS
  clear hA0 hval0
  refine (linearHolds_any aX nX cX S ms a1 len cap ss W ht hm hl hsa hsl hlen).mono fun e W' ⟨he, bel⟩ => ?_
  subst he
  exact ⟨_, rfl, _, _, _, [], p0 ++ p1, [], hW', trodAll_mk1 (shut_bool Tryz.underlying4 _), trodAll_mk2 (b0 W' bel) (b1 W' bel), rfl, bel.frame _, fun h => by cases h⟩

theorem linearHolds_row : Rows.LinearHoldsSaid :=
  OpenClaim.holds_of_wide 7 Tryz.f7 rfl rfl rfl rfl rfl rfl rfl ⟨rfl, rfl, rfl, rfl, rfl⟩ rfl rfl rfl rfl rfl (by kernel_rfl) Tryz.func7 (by kernel_rfl)
    (of_decide_eq_true (by kernel_rfl)) (by unfold Func.isWrapper; first | (rw [if_pos (by decide +kernel)]; kernel_rfl) | (rw [if_neg (by decide +kernel)]; exact ⟨rfl, rfl⟩))
    (fun os started H enc _ => linearHolds_lifted os started H enc)
/-- The given statement. -/
theorem linearHolds_holds : Rows.LinearHoldsCardSaid :=
  Claim7.holds_tied_plain_at .later [] [.data, .data, .data] true Rows.linearHoldsCard.stood.harness false
    linearHolds_row (fun _ h => by cases h) (by kernel_rfl) (fun _ h => by cases h) linearHolds_row_tie rfl ⟨rfl, rfl⟩ (by kernel_rfl) rfl
    (fun f fn hf hfn => by
      obtain rfl : f = 7 := Option.some.inj ((show Tryz.prog.funcNamed "surety/suretylaw03.LinearHolds" = some 7 by kernel_rfl).symm.trans hf) |>.symm
      obtain rfl : fn = Tryz.f7 := (Option.some.inj (Tryz.func7.symm.trans hfn)).symm
      exact ⟨by kernel_rfl, fun j t ht => by
        rw [Tryz.params7] at ht
        have hm : t ∈ [79, 23] := by simpa using Array.mem_of_getElem? ht
        have hall : ([79, 23].all fun u => !Tryz.prog.wantsStandIn u) = true := by kernel_rfl
        exact (show Tryz.prog.wantsStandIn t = false by simpa using List.all_eq_true.1 hall t hm)⟩)
    (by kernel_rfl)
#print axioms linearHolds_holds
end Go.Proofs.YteefniagebcagaaGreatDoor
