/- The page's clauses as they are laid in memory. It proves no statement of the seat. -/
import Derived.Test.YtbmkkhpoaicclabGreatSatYqJGrows
import Derived.Test.YtbmkkhpoaicclabGreatSatLlJGrows
namespace Go.Proofs.YtbmkkhpoaicclabGreat
open Go Go.RowKit
set_option linter.unusedVariables false
set_option linter.unusedSimpArgs false
namespace Sat
def exL:List (List Int):=[[1,2],[-1,2],[1,-2],[-1,-2]]
def exW (w:World):World :=
  ((((w.alloc (.cells #[.int .i64 1,.int .i64 2] 3 (0,0))).alloc (.cells #[.int .i64 (-1),.int .i64 2] 3 (0,0))).alloc (.cells #[.int .i64 1,.int .i64 (-2)] 3 (0,0))).alloc (.cells #[.int .i64 (-1),.int .i64 (-2)] 3 (0,0))).alloc
    (.cells #[.slice (some ⟨w.heap.size,0,none⟩) 2 2,.slice (some ⟨w.heap.size+1,0,none⟩) 2 2,.slice (some ⟨w.heap.size+2,0,none⟩) 2 2,.slice (some ⟨w.heap.size+3,0,none⟩) 2 2] 35 (0,0))
theorem exW_size (w:World):(exW w).heap.size=w.heap.size+5:=by simp[exW]
theorem exW_below (w:World):Below w.heap.size w (exW w):=by
 unfold exW;exact (((((Below.refl _ _).alloc (by simp) _).alloc (by simp) _).alloc (by simp;omega) _).alloc (by simp;omega) _).alloc (by simp;omega) _
theorem exW_rows (w:World):(exW w).heap[w.heap.size]?=some (.cells #[.int .i64 1,.int .i64 2] 3 (0,0))∧(exW w).heap[w.heap.size+1]?=some (.cells #[.int .i64 (-1),.int .i64 2] 3 (0,0))∧(exW w).heap[w.heap.size+2]?=some (.cells #[.int .i64 1,.int .i64 (-2)] 3 (0,0))∧(exW w).heap[w.heap.size+3]?=some (.cells #[.int .i64 (-1),.int .i64 (-2)] 3 (0,0)) ∧
  (exW w).heap[w.heap.size+4]?=some (.cells #[.slice (some ⟨w.heap.size,0,none⟩) 2 2,.slice (some ⟨w.heap.size+1,0,none⟩) 2 2,.slice (some ⟨w.heap.size+2,0,none⟩) 2 2,.slice (some ⟨w.heap.size+3,0,none⟩) 2 2] 35 (0,0)):=by
 have new:∀(v:World) (o:Obj) (n:Nat),n=v.heap.size→(v.alloc o).heap[n]?=some o:=fun v o n h=>by rw[h];exact heap_alloc_new v o
 unfold exW;refine⟨?_,?_,?_,?_,?_⟩
 ·
  rw[Below.heap_alloc _ _ _ (by simp;omega),Below.heap_alloc _ _ _ (by simp;omega),Below.heap_alloc _ _ _ (by simp;omega),Below.heap_alloc _ _ _ (by simp)]
  exact new _ _ _ (by simp)
 ·
  rw[Below.heap_alloc _ _ _ (by simp),Below.heap_alloc _ _ _ (by simp),Below.heap_alloc _ _ _ (by simp)]
  exact new _ _ _ (by simp)
 ·
  rw[Below.heap_alloc _ _ _ (by simp),Below.heap_alloc _ _ _ (by simp)]
  exact new _ _ _ (by simp)
 ·
  rw[Below.heap_alloc _ _ _ (by simp)]
  exact new _ _ _ (by simp)
 · exact new _ _ _ (by simp)
theorem exW_il {w:World} {i:Nat} {x y:Int} (h:(exW w).heap[w.heap.size+i]?=some (.cells #[.int .i64 x,.int .i64 y] 3 (0,0))) (hi:i<4) (hx:InI x) (hy:InI y):IL (exW w) (some ⟨w.heap.size+i,0,none⟩) 2 2 [x,y]:=by
 refine⟨rfl,Nat.le_refl _,by unfold maxLen;decide,(fun k=>by cases k),Or.inr ⟨w.heap.size+i,0,rfl,by rw[exW_size];omega,fun j hj=>?_⟩,fun z hz=>?_⟩
 · rw[cell_of_row _ _ _ _ _ _ h];rcases (by omega:j=0∨j=1) with rfl|rfl<;>rfl
 ·
  simp at hz;rcases hz with rfl|rfl
  · exact hx
  · exact hy
theorem ex_ll (w:World):LL (exW w) (exW w).heap.size (some ⟨w.heap.size+4,0,none⟩) 4 4 exL∧LL (exW w) (exW w).heap.size (some ⟨w.heap.size+4,0,none⟩) 3 4 (exL.take 3):=by
 obtain⟨r0,r1,r2,r3,r4⟩:=exW_rows w;have n1:InI 1:=⟨by omega,by omega⟩
 have n2:InI 2:=⟨by omega,by omega⟩
 have m1:InI (-1):=⟨by omega,by omega⟩
 have m2:InI (-2):=⟨by omega,by omega⟩
 have i0:=exW_il (i:=0) r0 (by decide) n1 n2
 have i1:=exW_il (i:=1) r1 (by decide) m1 n2
 have i2:=exW_il (i:=2) r2 (by decide) n1 m2
 have i3:=exW_il (i:=3) r3 (by decide) m1 m2
 have hs:=exW_size w;have lo:∀i (hi:i<4) {zs:List Int},Lo (exW w).heap.size (some ⟨w.heap.size+i,0,none⟩) zs:=fun i hi zs _ b off hq=>by
  cases hq;rw[hs];omega
 have all:∀i,i<4→∃qi ci,(exW w).cell? ⟨w.heap.size+4,0+i,none⟩=some (.slice qi (exL.getD i []).length ci)∧IL (exW w) qi (exL.getD i []).length ci (exL.getD i [])∧Lo (exW w).heap.size qi (exL.getD i []):=by
  intro i hi;rw[cell_of_row _ _ _ _ _ _ r4];rcases (by omega:i=0∨i=1∨i=2∨i=3) with rfl|rfl|rfl|rfl
  · exact⟨_,_,rfl,i0,lo 0 (by decide)⟩
  · exact⟨_,_,rfl,i1,lo 1 (by decide)⟩
  · exact⟨_,_,rfl,i2,lo 2 (by decide)⟩
  · exact⟨_,_,rfl,i3,lo 3 (by decide)⟩
 refine⟨⟨rfl,Nat.le_refl _,by unfold maxLen;decide,(fun k=>by cases k),Or.inr ⟨_,0,rfl,by omega,by omega,all⟩⟩,⟨rfl,by decide,by unfold maxLen;decide,(fun k=>by cases k),Or.inr ⟨_,0,rfl,by omega,by omega,fun i hi=>?_⟩⟩⟩
 have h9:=all i (by omega)
 have e:(exL.take 3).getD i []=exL.getD i []:=by rcases (by omega:i=0∨i=1∨i=2) with rfl|rfl|rfl<;>rfl
 rw[e];exact h9
end Sat
end Go.Proofs.YtbmkkhpoaicclabGreat
