/- LinearReckons answers true for every input, and leaves it as it was: the given statement LinearReckonsCardSaid. -/
import Derived.Test.YteefniagebcagaaGreatDoorRows
import Derived.Test.YteefniagebcagaaGreatDoorTie
import Derived.Test.YteefniagebcagaaGreatDoorCards
import Derived.Test.YteefniagebcagaaGreatDoorLinRkJReckons
import Derived.Test.YteefniagebcagaaGreatDoorLinOaJReckons
import Derived.WalkKit
import Derived.ProofKit
import Derived.Lay
import Derived.LaidOnce
import Derived.SevenTiedAt
import Derived.MakeChecks
import Derived.Lib.LaidTab
import Derived.Lib.LaidU8
namespace Go.Proofs.YteefniagebcagaaGreatDoor
open Go.ChangeShapes Go.WideShapes Go.ChangeAt Go.RowKit Go.Deep Go.Joins
set_option linter.unusedVariables false

theorem Tryz.laidOut : laidOutB Tryz.prog = true := by kernel_rfl
theorem Tryz.cells_ask : Tryz.prog.cellsOf 25 = 3 := by kernel_rfl
theorem linearReckons_knob : ownKnob Tryz.prog.godebug = none := by kernel_rfl
theorem tab_of_reads {W : World} (h : Lib.VarReads Tryz.prog W "internal/strconv.uint64pow10" Rows.laid_internal_strconv_uint64pow10) : Tab W := by
 obtain ⟨g,t,cs,fuel,p,hg,ht,hvar,hd⟩ := h;have k : (Tryz.prog.globalNamed "internal/strconv.uint64pow10").bind (fun g => (Tryz.prog.globals[g]?).map (·.type)) = some 211 := by kernel_rfl
 rw [hg] at k;simp only [Option.bind_some] at k;have e1 := ht.symm.trans k;injection e1 with e1;subst e1;have e : (Rows.laid_internal_strconv_uint64pow10 : DataW Unit) = Lib.tabData .u64 Lib.pow10Tab := by kernel_rfl
 rw [e] at hd;unfold Tab Lib.TabIs;rw [hvar,← Lib.cells_of_tab Tryz.underlying211 Tryz.underlying151 (by kernel_rfl) (by kernel_rfl) hd]
set_option maxRecDepth 100000 in
theorem linearReckons_lifted (os : Os) (started : os.Started) (H : Type) (enc : TypeId × Value → H) :
  ReturnsInHanded {} Tryz.checked os 3 .any (fun w args => (Rows.linearReckonsSpec.pre enc Tryz.prog Tryz.f3 [] false w args ∧ laidMetH Tryz.prog Rows.linearReckonsRow.laid w) ∧ sizedMet enc Tryz.prog Tryz.f3 (OpenSpec.ofChange Rows.linearReckonsSpec) false w args)
   (Rows.linearReckonsSpec.post enc Tryz.prog Tryz.f3 false true false false) := by
 refine returnsInHanded_of_change_and (C := Tryz.checked) (X := fun w _ => laidMetH Tryz.prog Rows.linearReckonsRow.laid w) (fun _ _ _ hh h => h.of_heap hh) linearReckons_knob started (by kernel_rfl) Tryz.func3
  (ChangeSpec.witness_shaped (enc := enc) (C := Tryz.checked) (os := os) (X := fun w _ => laidMetH Tryz.prog Rows.linearReckonsRow.laid w) false (World.laidAll Tryz.prog os Rows.linearReckonsRow.laid) #[.slice none 0 0,.slice none 0 0,.agg #[.string ⟨#[]⟩,.slice none 0 0,.int .i64 0]] 8 (World.laidAll_os _ _ _)
   (World.shaped_of_ZipB (by kernel_rfl) (by kernel_rfl)) (by kernel_rfl) (by kernel_rfl) (by kernel_rfl)
   (by rw [MakeChecks.laidMetH_plain _ _ _ (by kernel_rfl)];exact laidMet_laidAll _ (by kernel_rfl) (by kernel_rfl))) ?_
 intro W base args ds gs before hval0 hW _ _ hL _;have hval : ∀ (j : Nat) t v,Tryz.f3.params[j]? = some t → args[j]? = some v → Value.okWide Tryz.prog W .any base t v := hval0;have hW' := hW;obtain ⟨p,q,hA0,hV,rfl,hfz,hnd⟩ := hW;have hA : DataW.TrodAll enc Tryz.prog W 0 (fun _ => true) true Tryz.f3.params.toList args.toList ds p := hA0
 rw [Tryz.params3] at hA hval;obtain ⟨v0,vs0,d0,ds0,p0,q0,hargs,rfl,rfl,h0,r0⟩ := trodAll_cons hA;obtain ⟨v1,vs1,d1,ds1,p1,q1,rfl,rfl,rfl,h1,r1⟩ := trodAll_cons r0;obtain ⟨v2,vs2,d2,ds2,p2,q2,rfl,rfl,rfl,h2,r2⟩ := trodAll_cons r1;obtain ⟨rfl,rfl,rfl⟩ := trodAll_nil r2;obtain rfl : args = #[v0,v1,v2] := by cases args;simp_all
 obtain ⟨rfl,rfl⟩ := trodVars_none hV;simp only [List.append_nil] at hW';rw [MakeChecks.laidMetH_plain _ _ _ (by kernel_rfl)] at hL
 have ht : Tab W := tab_of_reads (Lib.laidMet.reads hL (.tail _ (.tail _ (.head _))));have b0 : ∀ W',Below W.heap.size W W' → DataW.Trod enc Tryz.prog W' 0 (fun b => decide (b < W.heap.size)) true 22 v0 d0 p0 := fun W' hb =>
  Below.trod Tryz.laidOut (by kernel_rfl) (of_decide_eq_true (by kernel_rfl)) h0 hb (fun x hx => by obtain ⟨fu,hf⟩ := h0;exact DataW.trod_lt fu _ _ _ hf x hx)
 have b1 : ∀ W',Below W.heap.size W W' → DataW.Trod enc Tryz.prog W' 0 (fun b => decide (b < W.heap.size)) true 22 v1 d1 p1 := fun W' hb =>
  Below.trod Tryz.laidOut (by kernel_rfl) (of_decide_eq_true (by kernel_rfl)) h1 hb (fun x hx => by obtain ⟨fu,hf⟩ := h1;exact DataW.trod_lt fu _ _ _ hf x hx)
 have b2 : ∀ W',Below W.heap.size W W' → DataW.Trod enc Tryz.prog W' 0 (fun b => decide (b < W.heap.size)) true 25 v2 d2 p2 := fun W' hb =>
  Below.trod Tryz.laidOut (by kernel_rfl) (of_decide_eq_true (by kernel_rfl)) h2 hb (fun x hx => by obtain ⟨fu,hf⟩ := h2;exact DataW.trod_lt fu _ _ _ hf x hx)
 obtain ⟨aX0,nX0,cX0,ms0,rfl,hl0,hx0,hm0⟩ : ∃ a0 len cap ms,v0 = .slice a0 len cap ∧ List.length ms = len ∧ len ≤ maxLen ∧ MArr W a0 ms := by
  obtain ⟨a0,len,cap,rfl⟩ := okWide_slice Tryz.und_monos (hval 0 22 v0 rfl rfl);obtain ⟨fu,hf⟩ := h0;exact marr_open hf
 obtain ⟨aX1,nX1,cX1,ms1,rfl,hl1,hx1,hm1⟩ : ∃ a0 len cap ms,v1 = .slice a0 len cap ∧ List.length ms = len ∧ len ≤ maxLen ∧ MArr W a0 ms := by
  obtain ⟨a0,len,cap,rfl⟩ := okWide_slice Tryz.und_monos (hval 1 22 v1 rfl rfl);obtain ⟨fu,hf⟩ := h1;exact marr_open hf
 obtain ⟨c20,c21,c22,y20,y21,y22,m2,e20,-,-,hy20,hy21,hy22⟩ := open_agg3 Tryz.underlying25 (by kernel_rfl) Tryz.cells_ask (hval 2 25 v2 rfl rfl) h2
 obtain ⟨S2,e21,-,-⟩ := DataW.trod_string Tryz.underlying9 hy20;injection e21 with e21;obtain ⟨a2,len2,cap2,ss2,e22,hsl2,hlen2,hsa2⟩ := sarr_open hy21;obtain ⟨z2,e23,-,-⟩ := DataW.trod_int Tryz.underlying3 hy22;injection e23 with e23;subst e21;subst e22;subst e23;subst e20;clear hA0 hval0;refine (linearReckons_any aX0 nX0 cX0 ms0 aX1 nX1 cX1 ms1 S2 a2 len2 cap2 ss2 z2 W ht hm0 hl0 hx0 hm1 hl1 hx1 hsa2 hsl2 hlen2).mono fun e W' ⟨he,bel⟩ => ?_
 subst he;exact ⟨_,rfl,_,_,_,[],_,[],hW',trodAll_mk1 (shut_bool Tryz.underlying4 _),(trodAll_cons_mk (b0 W' bel) (trodAll_cons_mk (b1 W' bel) (trodAll_cons_mk (b2 W' bel) trodAll_mk0))),rfl,bel.frame _,fun h => by cases h⟩

theorem linearReckons_row : Rows.LinearReckonsSaid :=
  OpenClaim.holds_of_wide 3 Tryz.f3 rfl rfl rfl rfl rfl rfl rfl ⟨rfl, rfl, rfl, rfl, rfl⟩ rfl rfl rfl rfl rfl (by kernel_rfl) Tryz.func3 (by kernel_rfl)
    (of_decide_eq_true (by kernel_rfl)) (by unfold Func.isWrapper; first | (rw [if_pos (by decide +kernel)]; kernel_rfl) | (rw [if_neg (by decide +kernel)]; exact ⟨rfl, rfl⟩))
    (fun os started H enc _ => linearReckons_lifted os started H enc)
/-- The given statement. -/
theorem linearReckons_holds : Rows.LinearReckonsCardSaid :=
 Claim7.holds_tied_plain_at .later [] [.data,.data,.data] true Rows.linearReckonsCard.stood.harness false
  linearReckons_row (fun _ h => by cases h) (by kernel_rfl) (fun _ h => by cases h) linearReckons_row_tie rfl ⟨rfl,rfl⟩ (by kernel_rfl) rfl
  (fun f fn hf hfn => by
   obtain rfl : f = 3 := Option.some.inj ((show Tryz.prog.funcNamed "surety/suretylaw03.LinearReckons" = some 3 by kernel_rfl).symm.trans hf) |>.symm
   obtain rfl : fn = Tryz.f3 := (Option.some.inj (Tryz.func3.symm.trans hfn)).symm;exact ⟨by kernel_rfl,fun j t ht => by
    rw [Tryz.params3] at ht;have hm : t ∈ [22,22,25] := by simpa using Array.mem_of_getElem? ht
    have hall : ([22,22,25].all fun u => !Tryz.prog.wantsStandIn u) = true := by kernel_rfl
    exact (show Tryz.prog.wantsStandIn t = false by simpa using List.all_eq_true.1 hall t hm)⟩)
  (by kernel_rfl)
#print axioms linearReckons_holds
end Go.Proofs.YteefniagebcagaaGreatDoor
