/- Two solvers beside each other: what one does leaves the other; it proves no statement of the seat. -/
import Derived.Test.YtbmkkhpoaicclacGreatSatBiJStays
import Derived.Test.YtbmkkhpoaicclacGreatSatXrJStays
namespace Go.Proofs.YtbmkkhpoaicclacGreat
open Go Go.RowKit
set_option linter.unusedVariables false
namespace Sat
open Euf (OL App)
theorem add_one (g:Nat) (d:Dt) (a:Key→Value) (I:List (List Nat)) (A:Nat) (U:List Nat) (z:Int) (w w1:World) (s:SW w g d a) (i:Idl d I A U) (hn:d.nv=9) (hA:A≤80000000) (hI:I.length < 65536) (hz:Okl 9 z) (hw:w.alloc (.cells #[.int .i64 z] 3 (0,0))=w1) :
  Calls Tryz.prog 10 #[.pointer (some ⟨g,0,none⟩),.slice (some ⟨w.heap.size,0,none⟩) 1 1] w1 fun e w'=>∃ (d':Dt) (a':Key→Value),e=.returned (.tuple #[.int .i64 (I.length:Nat),.int .i64 0])∧SW w' g d' a'∧Mq g d a w1 d' a' w'∧Idl d' (I ++ [[lit z]]) (A + 1) U∧d'.nv=9:=by
 have hzI:InI z:=by obtain ⟨-,h1,h2⟩:=hz;exact ⟨by omega,by omega⟩
 have b1:Below w.heap.size w w1:=by rw [← hw];exact (Below.refl _ _).alloc (Nat.le_refl _) _
 have hr:w1.heap[w.heap.size]?=some (.cells #[.int .i64 z] 3 (0,0)):=by rw [← hw];exact heap_alloc_new w _
 have il:IL w1 (some ⟨w.heap.size,0,none⟩) 1 1 [z]:=by
  refine ⟨rfl,Nat.le_refl _,by unfold maxLen;decide,(fun k=>by cases k),Or.inr ⟨w.heap.size,0,rfl,(Array.getElem?_eq_some_iff.1 hr).1,fun j hj=>?_⟩,fun y hy=>?_⟩
  ·
   rw [cell_of_row _ _ _ _ _ _ hr];obtain rfl:j=0:=by omega
   rfl
  · simp at hy;subst hy;exact hzI
 have had:=i.ic.ad;have h9:=addC_any g d a I A U _ 1 1 [z] w1 (s.below b1) i il (fun _ b off e9 hF=>by cases e9;exact absurd (s.foLt hF) (Nat.lt_irrefl _)) (fun y hy=>by simp at hy;subst hy;rw [hn];exact hz) (by omega) (by omega) (by omega) (by omega)
 rw [had] at h9;refine h9.mono ?_;rintro e w' ⟨he,d',a',s',m',i',hn',-⟩;exact ⟨d',a',he,s',m',i',hn'.trans hn⟩
end Sat
end Go.Proofs.YtbmkkhpoaicclacGreat
