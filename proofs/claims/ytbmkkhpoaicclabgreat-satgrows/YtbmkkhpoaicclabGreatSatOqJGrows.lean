/- What comes in is opened: lists of numbers, lists of lists, chains; it proves no statement of the seat. -/
import Derived.Test.YtbmkkhpoaicclabGreatSatLlJGrows
import Derived.Test.YtbmkkhpoaicclabGreatSatCkJGrows
import Derived.ChangeArms
import Derived.ChangeSlices
namespace Go.Proofs.YtbmkkhpoaicclabGreat
open Go Go.ChangeShapes Go.WideShapes Go.ChangeAt Go.RowKit
set_option linter.unusedVariables false
namespace Sat
theorem uIntQ:Tryz.prog.underlying 3=some (.int .i64):=by kernel_rfl
theorem uIntsQ:Tryz.prog.underlying 35=some (.slice 3):=by kernel_rfl
theorem uRowsQ:Tryz.prog.underlying 22=some (.slice 35):=by kernel_rfl
theorem onesQ:Tryz.prog.cellsOf 3=1∧Tryz.prog.cellsOf 35=1:=⟨by kernel_rfl,by kernel_rfl⟩
theorem addr9 (b off j:Nat):((⟨b,off,none⟩:Addr).add j)=⟨b,off+j,none⟩:=by
 unfold Addr.add;split
 · rename_i h;subst h;rfl
 · rfl
theorem spot9 {w:World} {a:Addr} {v:Value} (h:w.cell? a=some v):a=⟨a.block,a.off,none⟩:=by
 unfold World.cell? at h;obtain⟨b,off,sp⟩:=a;cases sp with
 | none=>rfl
 | some x=>split at h<;>simp at h
theorem wf_in {z:Int} (h:(Lit.int .i64 z).wf=true):InI z:=by
 have h9:(decide (IntKind.min .i64≤z) && decide (z≤IntKind.max .i64))=true:=h;simp only[Bool.and_eq_true,decide_eq_true_eq]at h9;have e1:IntKind.min .i64=-9223372036854775808:=by decide
 have e2:IntKind.max .i64=9223372036854775807:=by decide
 unfold InI;rw[e1,e2]at h9;omega
section
variable {H:Type} {enc:TypeId × Value→H} {w:World} {base:Nat} {sp:Nat→Bool} {held:Bool}
theorem open_il {fuel:Nat} {v:Value} {x:DataW H × List MemPlace} (h:DataW.trod enc Tryz.prog w base sp held fuel 35 [v]=some x):∃(q:Option Addr) (cap:Nat) (zs:List Int),v=.slice q zs.length cap∧IL w q zs.length cap zs:=by
 rcases open_ints uIntsQ uIntQ onesQ.1 h with⟨e,-⟩|⟨a,len,cap,zs,e,-,hl,hm,hz,-,hc,hw⟩
 · injection e with e;exact⟨none,0,[],e,rfl,Nat.le_refl _,Nat.zero_le _,fun _=>rfl,Or.inl rfl,fun z hz=>by cases hz⟩
 ·
  injection e with e;have hlz:len≤zs.length:=by rw[hz];split<;>omega
  refine⟨some a,cap,zs.take len,by rw[List.length_take,Nat.min_eq_left hlz];exact e,rfl,by rw[List.length_take,Nat.min_eq_left hlz];exact hl,hm,(fun e=>by cases e),?_,fun z hz=>wf_in (hw z (List.mem_of_mem_take hz))⟩
  by_cases h0:len=0
  · left;rw[h0];rfl
  ·
   right
   have c0:=hc 0 (by omega)
   have e0:a.add 0=a:=by unfold Addr.add;rw[if_pos rfl]
   rw[e0]at c0;have hs:=spot9 c0;refine⟨a.block,a.off,by rw[← hs],World.block_lt_of_cell? w a c0,fun i hi=>?_⟩
   rw[List.length_take]at hi;have ci:=hc i (by omega)
   rw[hs,addr9]at ci;rw[ci,List.getD_eq_getElem?_getD,List.getD_eq_getElem?_getD,List.getElem?_take,if_pos (by omega)]
theorem IL.lo {q:Option Addr} {n cap:Nat} {zs:List Int} (h:IL w q n cap zs):Lo w.heap.size q zs:=fun e b off hq=>by
  rcases h.at_ with h0|⟨b',off',h1,h2,-⟩
  · exact absurd h0 e
  · rw[h1]at hq;cases hq;exact h2
theorem open_ll {fuel:Nat} {v:Value} {x:DataW H × List MemPlace} (h:DataW.trod enc Tryz.prog w base sp held fuel 22 [v]=some x):∃(q:Option Addr) (cap:Nat) (ls:List (List Int)),v=.slice q ls.length cap∧LL w w.heap.size q ls.length cap ls:=by
 rcases DataW.trod_slice uRowsQ h with⟨e,-⟩|⟨a,len,cap,elems,rest,n,-,e,-,-,hl,hm,hlen,hel,-⟩
 · injection e with e;exact⟨none,0,[],e,LL.nil w _⟩
 ·
  injection e with e;rw[onesQ.2]at hel;have key:∀i,∃zs:List Int,i<len→∃(qi:Option Addr) (ci:Nat),w.cell? (a.add i)=some (.slice qi zs.length ci)∧IL w qi zs.length ci zs:=by
   intro i;by_cases hi:i<len
   ·
    have h1:=hel i hi;rw[List.getElem?_eq_getElem (by omega)]at h1
    obtain⟨cs,h2,h3⟩:=Option.bind_eq_some_iff.1 h1;obtain⟨-,hlc,h4⟩:=World.cells?_some h2;obtain⟨c,rfl⟩:∃c,cs=[c]:=by
     match cs,hlc with
     | [c],_=>exact⟨c,rfl⟩
    obtain⟨qi,ci,zs,rfl,il⟩:=open_il h3;have h5:=h4 0 (by omega)
    refine⟨zs,fun _=>⟨qi,ci,?_,il⟩⟩
    rw[Nat.mul_one]at h5;have e0:(a.add i).add 0=a.add i:=by generalize a.add i=a9;unfold Addr.add;rw[if_pos rfl]
    rw[e0]at h5;exact h5
   · exact⟨[],fun h=>absurd h hi⟩
  obtain⟨f,hf⟩:=Classical.skolem.1 key;have hlen2:((List.range len).map f).length=len:=by simp
  refine⟨some a,cap,(List.range len).map f,by rw[hlen2];exact e,hlen2.trans hlen2.symm,by rw[hlen2];exact hl,hm,(fun e=>by cases e),?_⟩
  rw[hlen2];by_cases h0:len=0
  · left;rw[h0];rfl
  ·
   right
   obtain⟨q0,c0,s0,-⟩:=hf 0 (by omega)
   have e0:a.add 0=a:=by unfold Addr.add;rw[if_pos rfl]
   rw[e0]at s0;have hs:=spot9 s0;refine⟨a.block,a.off,by rw[← hs],World.block_lt_of_cell? w a s0,World.block_lt_of_cell? w a s0,fun i hi=>?_⟩
   obtain⟨qi,ci,hc,il⟩:=hf i hi;have eo:((List.range len).map f).getD i []=f i:=by
    rw[List.getD_eq_getElem?_getD,List.getElem?_map,List.getElem?_range hi];rfl
   rw[eo];rw[hs,addr9]at hc;exact⟨qi,ci,hc,il,il.lo⟩
end
end Sat
end Go.Proofs.YtbmkkhpoaicclabGreat
