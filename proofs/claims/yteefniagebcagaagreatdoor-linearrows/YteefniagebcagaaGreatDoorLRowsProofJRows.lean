/- LinearRows answers true for every input, and leaves it as it was: the given statement LinearRowsCardSaid. -/
import Derived.Test.YteefniagebcagaaGreatDoorRows
import Derived.Test.YteefniagebcagaaGreatDoorTie
import Derived.Test.YteefniagebcagaaGreatDoorCards
import Derived.Test.YteefniagebcagaaGreatDoorLinRsJRows
import Derived.Test.YteefniagebcagaaGreatDoorLinOpJRows
import Derived.WalkKit
import Derived.ProofKit
import Derived.Lay
import Derived.LaidOnce
import Derived.SevenTiedAt
import Derived.MakeChecks
import Derived.Lib.LaidTab
import Derived.Lib.LaidU8
namespace Go.Proofs.YteefniagebcagaaGreatDoor
open Go.ChangeShapes Go.WideShapes Go.ChangeAt Go.RowKit Go.Deep Go.Joins
set_option linter.unusedVariables false

theorem Tryz.laidOut : laidOutB Tryz.prog = true := by kernel_rfl
theorem Tryz.cells_row : Tryz.prog.cellsOf 79 = 2 := by kernel_rfl
theorem linearRows_knob : ownKnob Tryz.prog.godebug = none := by kernel_rfl
theorem tab_of_reads {W : World} (h : Lib.VarReads Tryz.prog W "internal/strconv.uint64pow10" Rows.laid_internal_strconv_uint64pow10) : Tab W := by
  obtain ⟨g, t, cs, fuel, p, hg, ht, hvar, hd⟩ := h
  have k : (Tryz.prog.globalNamed "internal/strconv.uint64pow10").bind (fun g => (Tryz.prog.globals[g]?).map (·.type)) = some 211 := by kernel_rfl
  rw [hg] at k
  simp only [Option.bind_some] at k
  have e1 := ht.symm.trans k
  injection e1 with e1
  subst e1
  have e : (Rows.laid_internal_strconv_uint64pow10 : DataW Unit) = Lib.tabData .u64 Lib.pow10Tab := by kernel_rfl
  rw [e] at hd
  unfold Tab Lib.TabIs
  rw [hvar, ← Lib.cells_of_tab Tryz.underlying211 Tryz.underlying151 (by kernel_rfl) (by kernel_rfl) hd]
set_option maxRecDepth 100000 in
theorem linearRows_lifted (os : Os) (started : os.Started) (H : Type) (enc : TypeId × Value → H) :
    ReturnsInHanded {} Tryz.checked os 6 .any (fun w args => (Rows.linearRowsSpec.pre enc Tryz.prog Tryz.f6 [] false w args ∧ laidMetH Tryz.prog Rows.linearRowsRow.laid w) ∧ sizedMet enc Tryz.prog Tryz.f6 (OpenSpec.ofChange Rows.linearRowsSpec) false w args)
      (Rows.linearRowsSpec.post enc Tryz.prog Tryz.f6 false true false false) := by
  refine returnsInHanded_of_change_and (C := Tryz.checked) (X := fun w _ => laidMetH Tryz.prog Rows.linearRowsRow.laid w) (fun _ _ _ hh h => h.of_heap hh) linearRows_knob started (by kernel_rfl) Tryz.func6
    (ChangeSpec.witness_shaped (enc := enc) (C := Tryz.checked) (os := os) (X := fun w _ => laidMetH Tryz.prog Rows.linearRowsRow.laid w) false (World.laidAll Tryz.prog os Rows.linearRowsRow.laid) #[.agg #[.slice none 0 0, .string ⟨#[]⟩]] 8 (World.laidAll_os _ _ _)
      (World.shaped_of_ZipB (by kernel_rfl) (by kernel_rfl)) (by kernel_rfl) (by kernel_rfl) (by kernel_rfl)
      (by rw [MakeChecks.laidMetH_plain _ _ _ (by kernel_rfl)]; exact laidMet_laidAll _ (by kernel_rfl) (by kernel_rfl))) ?_
  intro W base args ds gs before hval0 hW _ _ hL _
  have hval : ∀ (j : Nat) t v, Tryz.f6.params[j]? = some t → args[j]? = some v → Value.okWide Tryz.prog W .any base t v := hval0
  have hW' := hW
  obtain ⟨p, q, hA0, hV, rfl, hfz, hnd⟩ := hW
  have hA : DataW.TrodAll enc Tryz.prog W 0 (fun _ => true) true Tryz.f6.params.toList args.toList ds p := hA0
  rw [Tryz.params6] at hA hval
  obtain ⟨v0, vs0, d0, ds0, p0, q0, hargs, rfl, rfl, h0, r0⟩ := trodAll_cons hA
  obtain ⟨rfl, rfl, rfl⟩ := trodAll_nil r0
  obtain rfl : args = #[v0] := by cases args; simp_all
  obtain ⟨rfl, rfl⟩ := trodVars_none hV
  simp only [List.append_nil] at hW'
  rw [MakeChecks.laidMetH_plain _ _ _ (by kernel_rfl)] at hL
  have ht : Tab W := tab_of_reads (Lib.laidMet.reads hL (.tail _ (.tail _ (.head _))))
  have b0 : ∀ W', Below W.heap.size W W' → DataW.Trod enc Tryz.prog W' 0 (fun b => decide (b < W.heap.size)) true 79 v0 d0 p0 := fun W' hb =>
    Below.trod Tryz.laidOut (by kernel_rfl) (of_decide_eq_true (by kernel_rfl)) h0 hb (fun x hx => by obtain ⟨fu, hf⟩ := h0; exact DataW.trod_lt fu _ _ _ hf x hx)
  obtain ⟨c00, c01, y00, y01, m0, e00, -, -, hy00, hy01⟩ := open_agg2 Tryz.underlying79 (by kernel_rfl) Tryz.cells_row (hval 0 79 v0 rfl rfl) h0
  obtain ⟨aX0, nX0, cX0, ms0, rfl, hl0, hx0, hm0⟩ := marr_open hy00
  obtain ⟨S0, e01, -, -⟩ := DataW.trod_string Tryz.underlying9 hy01
  injection e01 with e01
  subst e01
  subst e00
  clear hA0 hval0
  refine (linearRows_any aX0 nX0 cX0 S0 ms0 W ht hm0 hl0).mono fun e W' ⟨he, bel⟩ => ?_
  subst he
  exact ⟨_, rfl, _, _, _, [], _, [], hW', trodAll_mk1 (shut_bool Tryz.underlying4 _), (trodAll_cons_mk (b0 W' bel) trodAll_mk0), rfl, bel.frame _, fun h => by cases h⟩

theorem linearRows_row : Rows.LinearRowsSaid :=
  OpenClaim.holds_of_wide 6 Tryz.f6 rfl rfl rfl rfl rfl rfl rfl ⟨rfl, rfl, rfl, rfl, rfl⟩ rfl rfl rfl rfl rfl (by kernel_rfl) Tryz.func6 (by kernel_rfl)
    (of_decide_eq_true (by kernel_rfl)) (by unfold Func.isWrapper; first | (rw [if_pos (by decide +kernel)]; kernel_rfl) | (rw [if_neg (by decide +kernel)]; exact ⟨rfl, rfl⟩))
    (fun os started H enc _ => linearRows_lifted os started H enc)
/-- The given statement. -/
theorem linearRows_holds : Rows.LinearRowsCardSaid :=
  Claim7.holds_tied_plain_at .later [] [.data, .data, .data] true Rows.linearRowsCard.stood.harness false
    linearRows_row (fun _ h => by cases h) (by kernel_rfl) (fun _ h => by cases h) linearRows_row_tie rfl ⟨rfl, rfl⟩ (by kernel_rfl) rfl
    (fun f fn hf hfn => by
      obtain rfl : f = 6 := Option.some.inj ((show Tryz.prog.funcNamed "surety/suretylaw03.LinearRows" = some 6 by kernel_rfl).symm.trans hf) |>.symm
      obtain rfl : fn = Tryz.f6 := (Option.some.inj (Tryz.func6.symm.trans hfn)).symm
      exact ⟨by kernel_rfl, fun j t ht => by
        rw [Tryz.params6] at ht
        have hm : t ∈ [79] := by simpa using Array.mem_of_getElem? ht
        have hall : ([79].all fun u => !Tryz.prog.wantsStandIn u) = true := by kernel_rfl
        exact (show Tryz.prog.wantsStandIn t = false by simpa using List.all_eq_true.1 hall t hm)⟩)
    (by kernel_rfl)
#print axioms linearRows_holds
end Go.Proofs.YteefniagebcagaaGreatDoor
