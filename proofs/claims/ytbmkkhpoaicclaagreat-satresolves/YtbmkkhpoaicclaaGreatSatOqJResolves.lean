/- What comes in is opened: lists of numbers, lists of lists, chains; it proves no statement of the seat. -/
import Derived.Test.YtbmkkhpoaicclaaGreatSatLlJResolves
import Derived.Test.YtbmkkhpoaicclaaGreatSatCkJResolves
import Derived.ChangeArms
import Derived.ChangeSlices
namespace Go.Proofs.YtbmkkhpoaicclaaGreat
open Go Go.ChangeShapes Go.WideShapes Go.ChangeAt Go.RowKit
set_option linter.unusedVariables false
namespace Sat
theorem uIntQ:Tryz.prog.underlying 3=some (.int .i64):=by kernel_rfl
theorem uIntsQ:Tryz.prog.underlying 39=some (.slice 3):=by kernel_rfl
theorem onesQ:Tryz.prog.cellsOf 3=1∧Tryz.prog.cellsOf 39=1:=⟨by kernel_rfl, by kernel_rfl⟩
theorem addr9 (b off j:Nat):((⟨b,off,none⟩:Addr).add j)=⟨b,off + j,none⟩:=by
 unfold Addr.add;split
 · rename_i h;subst h;rfl
 · rfl
theorem spot9 {w:World} {a:Addr} {v:Value} (h:w.cell? a=some v):a=⟨a.block,a.off,none⟩:=by
 unfold World.cell? at h;obtain ⟨b,off,sp⟩:=a;cases sp with
 | none=>rfl
 | some x=>split at h <;> simp at h
theorem wf_in {z:Int} (h:(Lit.int .i64 z).wf=true):InI z:=by
 have h9:(decide (IntKind.min .i64≤z) && decide (z≤IntKind.max .i64))=true:=h;simp only [Bool.and_eq_true,decide_eq_true_eq] at h9;have e1:IntKind.min .i64=-9223372036854775808:=by decide
 have e2:IntKind.max .i64=9223372036854775807:=by decide
 unfold InI;rw [e1,e2] at h9;omega
section
variable {H:Type} {enc:TypeId × Value→H} {w:World} {base:Nat} {sp:Nat→Bool} {held:Bool}
theorem open_il {fuel:Nat} {v:Value} {x:DataW H × List MemPlace} (h:DataW.trod enc Tryz.prog w base sp held fuel 39 [v]=some x):∃ (q:Option Addr) (cap:Nat) (zs:List Int),v=.slice q zs.length cap∧IL w q zs.length cap zs:=by
 rcases open_ints uIntsQ uIntQ onesQ.1 h with ⟨e,-⟩ | ⟨a,len,cap,zs,e,-,hl,hm,hz,-,hc,hw⟩
 · injection e with e;exact ⟨none,0,[],e,rfl,Nat.le_refl _,Nat.zero_le _,fun _=>rfl,Or.inl rfl,fun z hz=>by cases hz⟩
 ·
  injection e with e;have hlz:len≤zs.length:=by rw [hz];split <;> omega
  refine ⟨some a,cap,zs.take len,by rw [List.length_take,Nat.min_eq_left hlz];exact e,rfl,by rw [List.length_take,Nat.min_eq_left hlz];exact hl,hm,(fun e=>by cases e),?_,fun z hz=>wf_in (hw z (List.mem_of_mem_take hz))⟩
  by_cases h0:len=0
  · left;rw [h0];rfl
  ·
   right
   have c0:=hc 0 (by omega)
   have e0:a.add 0=a:=by unfold Addr.add;rw [if_pos rfl]
   rw [e0] at c0;have hs:=spot9 c0;refine ⟨a.block,a.off,by rw [← hs],World.block_lt_of_cell? w a c0,fun i hi=>?_⟩
   rw [List.length_take] at hi;have ci:=hc i (by omega)
   rw [hs,addr9] at ci;rw [ci,List.getD_eq_getElem?_getD,List.getD_eq_getElem?_getD,List.getElem?_take,if_pos (by omega)]
theorem IL.lo {q:Option Addr} {n cap:Nat} {zs:List Int} (h:IL w q n cap zs):Lo w.heap.size q zs:=fun e b off hq=>by
  rcases h.at_ with h0 | ⟨b', off', h1, h2, -⟩
  · exact absurd h0 e
  · rw [h1] at hq; cases hq; exact h2
end
end Sat
end Go.Proofs.YtbmkkhpoaicclaaGreat
