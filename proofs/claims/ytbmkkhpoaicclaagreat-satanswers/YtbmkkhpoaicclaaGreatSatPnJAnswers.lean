/- Proof of a solver that isn't refuted; a model as bits; they prove no statement of the seat. -/
import Derived.Test.YtbmkkhpoaicclaaGreatJoin23Answers
import Derived.Test.YtbmkkhpoaicclaaGreatSatHdJAnswers
namespace Go.Proofs.YtbmkkhpoaicclaaGreat
open Go Go.RowKit
set_option linter.unusedVariables false
namespace Sat
open Euf (OL App)
set_option maxRecDepth 20000 in
theorem proof_nil (g:Nat) (w:World) (hg:g < w.heap.size) (h5:w.cell? ⟨g,5,none⟩=some (.bool false)) :
  Calls Tryz.prog 15 #[.pointer (some ⟨g,0,none⟩)] w fun e w'=>e=.returned (.slice none 0 0)∧Below w.heap.size w w':=by
 obtain ⟨w2,hw2⟩:∃ w2,w.alloc (.cells #[.pointer (some ⟨g,0,none⟩)] 26 (0,0))=w2:=⟨_,rfl⟩;obtain ⟨pb,hpb⟩:∃ pb,w.heap.size=pb:=⟨_,rfl⟩;have bl2:Below w.heap.size w w2:=by rw [← hw2];exact (Below.refl _ _).alloc (Nat.le_refl _) _
 have kb2:w2.heap[pb]?=some (.cells #[.pointer (some ⟨g,0,none⟩)] 26 (0,0)):=by rw [← hw2,← hpb];exact heap_alloc_new w _
 have lg2:g < w2.heap.size:=Nat.lt_of_lt_of_le hg bl2.size;have lp2:pb < w2.heap.size:=(Array.getElem?_eq_some_iff.1 kb2).1;have cp2:w2.cell? ⟨pb,0,none⟩=some (.pointer (some ⟨g,0,none⟩)):=cell_of_row w2 pb 0 _ 26 (0,0) kb2;have cr2:w2.cell? ⟨g,5,none⟩=some (.bool false):=(World.cell?_of_block (a:=⟨g,5,none⟩) (bl2.block g hg)).trans h5;have HB2:=hide bl2;clear bl2 kb2;go_enter Tryz.func15,Tryz.ntmps15;go_wp2;go_ret
 exact ⟨rfl,HB2.out⟩
theorem isPlace_any (q:Option Addr) (n cap:Nat) (k:Int) (w:World) :
  Calls Tryz.prog 73 #[.slice q n cap,.int .i64 k] w fun e w'=>e=.returned (.bool (decide (0≤k∧k < (n:Int))))∧w'=w:=by
 by_cases h0:0≤k
 ·
  by_cases h1:k < (n:Int)
  ·
   have hd:decide (0≤k∧k < (n:Int))=true:=by simp [h0,h1]
   rw [hd];go_enter Tryz.func73,Tryz.ntmps73;go_wp2;go_ret
   exact ⟨rfl,rfl⟩
  ·
   have hd:decide (0≤k∧k < (n:Int))=false:=by simp [h1]
   rw [hd];go_enter Tryz.func73,Tryz.ntmps73;go_wp2;go_ret
   exact ⟨rfl,rfl⟩
 ·
  have hd:decide (0≤k∧k < (n:Int))=false:=by simp [h0]
  rw [hd];go_enter Tryz.func73,Tryz.ntmps73;go_wp2;go_ret
  exact ⟨rfl,rfl⟩
end Sat
end Go.Proofs.YtbmkkhpoaicclaaGreat
