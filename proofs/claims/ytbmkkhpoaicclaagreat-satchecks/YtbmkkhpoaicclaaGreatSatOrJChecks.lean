/- Chains that come in are opened; it proves no statement of the seat. -/
import Derived.Test.YtbmkkhpoaicclaaGreatSatOqJChecks
namespace Go.Proofs.YtbmkkhpoaicclaaGreat
open Go Go.ChangeShapes Go.WideShapes Go.ChangeAt Go.RowKit
set_option linter.unusedVariables false
namespace Sat
theorem uLinksQ:Tryz.prog.underlying 46=some (.slice 90):=by kernel_rfl
theorem uChainsQ:Tryz.prog.underlying 32=some (.slice 48):=by kernel_rfl
theorem szQ:Tryz.prog.cellsOf 90=2∧Tryz.prog.cellsOf 48=3∧Tryz.prog.cellsOf 46=1:=⟨by kernel_rfl, by kernel_rfl, by kernel_rfl⟩
def layOf (u:TypeDesc):Option (List (TypeId × Nat)):=match u with
  | .struct fs=>some (fs.toList.map (fun f=>(f.type, f.offset)))
  | _=>none
theorem linkLay0:(Tryz.prog.underlying 90).map layOf=some (some [(3,0),(3,1)]):=by kernel_rfl
theorem chainLay0:(Tryz.prog.underlying 48).map layOf=some (some [(39,0),(3,1),(46,2)]):=by kernel_rfl
theorem lay_fs {t:TypeId} {l:List (TypeId × Nat)} (h:(Tryz.prog.underlying t).map layOf=some (some l)):∃ fs,Tryz.prog.underlying t=some (.struct fs)∧fs.toList.map (fun f=>(f.type,f.offset))=l:=by
 obtain ⟨u,h1,h2⟩:=Option.map_eq_some_iff.1 h;unfold layOf at h2;split at h2
 ·
  rename_i fs
  injection h2 with h2;exact ⟨fs,h1,h2⟩
 · cases h2
theorem lay_f {fs:Array Field} {l:List (TypeId × Nat)} (hl:fs.toList.map (fun f=>(f.type,f.offset))=l) (i:Nat) (p:TypeId × Nat) (h:l[i]?=some p):∃ f,fs[i]?=some f∧f.type=p.1∧f.offset=p.2:=by
 rw [← hl,List.getElem?_map] at h;obtain ⟨f,h1,h2⟩:=Option.map_eq_some_iff.1 h;refine ⟨f,by simpa using h1,?_,?_⟩
 · rw [← h2]
 · rw [← h2]
theorem list2 {α:Type} (l:List α) (h:l.length=2):∃ a b,l=[a,b]:=by
 match l,h with
 | [a,b],_=>exact ⟨a,b,rfl⟩
theorem list3 {α:Type} (l:List α) (h:l.length=3):∃ a b c,l=[a,b,c]:=by
 match l,h with
 | [a,b,c],_=>exact ⟨a,b,c,rfl⟩
section
variable {H:Type} {enc:TypeId × Value→H} {w:World} {base:Nat} {sp:Nat→Bool} {held:Bool}
theorem open_link {fuel:Nat} {cs:List Value} {x:DataW H × List MemPlace} (h:DataW.trod enc Tryz.prog w base sp held fuel 90 cs=some x):∃ p:Int × Int,cs=[.int .i64 p.1,.int .i64 p.2]∧InI p.1∧InI p.2:=by
 obtain ⟨fs,uOp,hLay⟩:=lay_fs linkLay0;obtain ⟨xs,n,-,-,hl,hlen,hf⟩:=DataW.trod_struct uOp h;rw [szQ.1] at hl;have hfs:fs.size=2:=by
  have:=congrArg List.length hLay;simpa using this
 rw [hfs] at hlen;obtain ⟨c0,c1,rfl⟩:=list2 cs hl;obtain ⟨x0,x1,rfl⟩:=list2 xs hlen;obtain ⟨f0,k0,t0,o0⟩:=lay_f hLay 0 _ rfl;obtain ⟨f1,k1,t1,o1⟩:=lay_f hLay 1 _ rfl;have h0:=hf 0 f0 k0;have h1:=hf 1 f1 k1;rw [t0,o0] at h0;rw [t1,o1] at h1;simp only [onesQ.1,List.drop,List.take,List.getElem?_cons_zero,List.getElem?_cons_succ] at h0 h1;obtain ⟨z0,e0,-,w0⟩:=DataW.trod_int uIntQ h0;obtain ⟨z1,e1,-,w1⟩:=DataW.trod_int uIntQ h1;injection e0 with e0;injection e1 with e1;subst e0 e1;exact ⟨(z0,z1),rfl,wf_in w0,wf_in w1⟩
theorem open_rk {fuel:Nat} {v:Value} {x:DataW H × List MemPlace} (h:DataW.trod enc Tryz.prog w base sp held fuel 46 [v]=some x):∃ (q:Option Addr) (cap:Nat) (st:List (Int × Int)),v=.slice q st.length cap∧RK w q st.length st∧(∀ p∈st,InI p.1∧InI p.2)∧st.length≤cap∧cap≤maxLen:=by
 rcases DataW.trod_slice uLinksQ h with ⟨e,-⟩ | ⟨a,len,cap,elems,rest,n,-,e,-,-,hl,hm,hlen,hel,-⟩
 · injection e with e;exact ⟨none,0,[],e,⟨rfl,Or.inl rfl⟩,fun p hp=>(by cases hp),Nat.le_refl _,Nat.zero_le _⟩
 ·
  injection e with e;rw [szQ.1] at hel;have key:∀ i,∃ p:Int × Int,(i < len→(∀ j,j < 2→w.cell? ((a.add (i*2)).add j)=[Value.int .i64 p.1,.int .i64 p.2][j]?))∧InI p.1∧InI p.2:=by
   intro i;by_cases hi:i < len
   ·
    have h1:=hel i hi;rw [List.getElem?_eq_getElem (by omega)] at h1
    obtain ⟨cs,h2,h3⟩:=Option.bind_eq_some_iff.1 h1;obtain ⟨-,-,h4⟩:=World.cells?_some h2;obtain ⟨p,rfl,i1,i2⟩:=open_link h3;exact ⟨p,fun _=>h4,i1,i2⟩
   · exact ⟨(0,0),fun h=>absurd h hi,⟨by omega,by omega⟩,⟨by omega,by omega⟩⟩
  obtain ⟨f,hf⟩:=Classical.skolem.1 key;have hlen2:((List.range len).map f).length=len:=by simp
  refine ⟨some a,cap,(List.range len).map f,by rw [hlen2];exact e,⟨rfl,?_⟩,fun p hp=>?_,by rw [hlen2];exact hl,hm⟩
  ·
   by_cases h0:len=0
   · left;rw [h0];rfl
   ·
    right
    have s0:=(hf 0).1 (by omega) 0 (by omega)
    have e0:(a.add (0*2)).add 0=a:=by unfold Addr.add;rfl
    rw [e0] at s0;have hs:=spot9 s0;refine ⟨a.block,a.off,by rw [← hs],World.block_lt_of_cell? w a s0,fun i p hp=>?_⟩
    have hi:i < len:=by have:=(List.getElem?_eq_some_iff.1 hp).1;rw [hlen2] at this;exact this
    rw [List.getElem?_map,List.getElem?_range hi] at hp;simp at hp;have hc:=(hf i).1 hi;rw [hs,addr9] at hc;have c0:=hc 0 (by omega)
    have c1:=hc 1 (by omega)
    rw [addr9] at c0 c1;rw [← hp];exact ⟨c0,c1⟩
  · obtain ⟨i,-,rfl⟩:=List.mem_map.1 hp;exact (hf i).2
theorem open_chain {fuel:Nat} {cs:List Value} {x:DataW H × List MemPlace} (h:DataW.trod enc Tryz.prog w base sp held fuel 48 cs=some x):∃ (c:Chn) (qc:Option Addr) (cc:Nat) (qs:Option Addr) (cs9:Nat),cs=[.slice qc c.clause.length cc,.int .i64 c.first,.slice qs c.steps.length cs9]∧InI c.first∧(∀ p∈c.steps,InI p.1∧InI p.2)∧IL w qc c.clause.length cc c.clause∧RK w qs c.steps.length c.steps∧c.steps.length≤cs9∧cs9≤maxLen:=by
 obtain ⟨fs,uOp,hLay⟩:=lay_fs chainLay0;obtain ⟨xs,n,-,-,hl,hlen,hf⟩:=DataW.trod_struct uOp h;rw [szQ.2.1] at hl;have hfs:fs.size=3:=by
  have:=congrArg List.length hLay;simpa using this
 rw [hfs] at hlen;obtain ⟨c0,c1,c2,rfl⟩:=list3 cs hl;obtain ⟨x0,x1,x2,rfl⟩:=list3 xs hlen;obtain ⟨f0,k0,t0,o0⟩:=lay_f hLay 0 _ rfl;obtain ⟨f1,k1,t1,o1⟩:=lay_f hLay 1 _ rfl;obtain ⟨f2,k2,t2,o2⟩:=lay_f hLay 2 _ rfl;have h0:=hf 0 f0 k0;have h1:=hf 1 f1 k1;have h2:=hf 2 f2 k2;rw [t0,o0] at h0;rw [t1,o1] at h1;rw [t2,o2] at h2;simp only [onesQ.1,onesQ.2,szQ.2.2,List.drop,List.take,List.getElem?_cons_zero,List.getElem?_cons_succ] at h0 h1 h2;obtain ⟨qc,cc,zs,e0,il⟩:=open_il h0;obtain ⟨z1,e1,-,w1⟩:=DataW.trod_int uIntQ h1;obtain ⟨qs,cs9,st,e2,rk,s1,s2,s3⟩:=open_rk h2;injection e1 with e1;subst e0 e1 e2;exact ⟨⟨zs,z1,st⟩,qc,cc,qs,cs9,rfl,wf_in w1,s1,il,rk,s2,s3⟩
structure RC0 (w:World) (q:Option Addr) (n:Nat) (pf:List Chn):Prop where
  len:pf.length=n
  mx:n≤maxLen
  ok:∀ x∈pf, InI x.first∧(∀ p∈x.steps, InI p.1∧InI p.2)
  at_:pf=[]∨∃ b off, q=some ⟨b, off, none⟩∧b < w.heap.size∧∀ (t:Nat) (x:Chn), pf[t]?=some x→∃ qc cc qs cs, w.cell? ⟨b, off + t*3, none⟩=some (.slice qc x.clause.length cc)∧w.cell? ⟨b, off + t*3 + 1, none⟩=some (.int .i64 x.first)∧w.cell? ⟨b, off + t*3 + 2, none⟩=some (.slice qs x.steps.length cs)∧IL w qc x.clause.length cc x.clause∧RK w qs x.steps.length x.steps∧x.steps.length≤cs∧cs≤maxLen
theorem RC0.rc {q:Option Addr} {n:Nat} {pf:List Chn} (h:RC0 w q n pf) (hn:n≤900000) (hb:∀ x∈pf,x.steps.length≤1000000∧x.clause.length≤1000000):RC w q n pf:=by
 refine ⟨h.len,hn,fun x hx=>⟨(h.ok x hx).1,(h.ok x hx).2,(hb x hx).1,(hb x hx).2⟩,?_⟩
 rcases h.at_ with e | ⟨b,off,e,l,hc⟩
 · exact Or.inl e
 ·
  refine Or.inr ⟨b,off,e,l,fun t x hx=>?_⟩
  obtain ⟨qc,cc,qs,cs,h1,h2,h3,h4,h5,-,-⟩:=hc t x hx;exact ⟨qc,cc,qs,cs,h1,h2,h3,h4,h5⟩
theorem RC0.below {w':World} {q:Option Addr} {n:Nat} {pf:List Chn} (h:RC0 w q n pf) (hb:Below w.heap.size w w'):RC0 w' q n pf:=by
 refine ⟨h.len,h.mx,h.ok,?_⟩;rcases h.at_ with e | ⟨b,off,e,l,hc⟩
 · exact Or.inl e
 ·
  refine Or.inr ⟨b,off,e,Nat.lt_of_lt_of_le l hb.size,fun t x hx=>?_⟩
  obtain ⟨qc,cc,qs,cs,h1,h2,h3,h4,h5,h6⟩:=hc t x hx;exact ⟨qc,cc,qs,cs,(World.cell?_of_block (a:=⟨b,off + t*3,none⟩) (hb.block b l)).trans h1,(World.cell?_of_block (a:=⟨b,off + t*3 + 1,none⟩) (hb.block b l)).trans h2,(World.cell?_of_block (a:=⟨b,off + t*3 + 2,none⟩) (hb.block b l)).trans h3,h4.below hb,h5.below hb,h6⟩
theorem open_rc {fuel:Nat} {v:Value} {x:DataW H × List MemPlace} (h:DataW.trod enc Tryz.prog w base sp held fuel 32 [v]=some x):∃ (q:Option Addr) (cap:Nat) (pf:List Chn),v=.slice q pf.length cap∧RC0 w q pf.length pf:=by
 rcases DataW.trod_slice uChainsQ h with ⟨e,-⟩ | ⟨a,len,cap,elems,rest,n,-,e,-,-,hl,hm,hlen,hel,-⟩
 · injection e with e;exact ⟨none,0,[],e,rfl,Nat.zero_le _,fun p hp=>(by cases hp),Or.inl rfl⟩
 ·
  injection e with e;rw [szQ.2.1] at hel;have key:∀ i,∃ c:Chn,(i < len→∃ (qc:Option Addr) (cc:Nat) (qs:Option Addr) (cs9:Nat),(∀ j,j < 3→w.cell? ((a.add (i*3)).add j)=[Value.slice qc c.clause.length cc,.int .i64 c.first,.slice qs c.steps.length cs9][j]?)∧IL w qc c.clause.length cc c.clause∧RK w qs c.steps.length c.steps∧c.steps.length≤cs9∧cs9≤maxLen)∧InI c.first∧(∀ p∈c.steps,InI p.1∧InI p.2):=by
   intro i;by_cases hi:i < len
   ·
    have h1:=hel i hi;rw [List.getElem?_eq_getElem (by omega)] at h1
    obtain ⟨cs,h2,h3⟩:=Option.bind_eq_some_iff.1 h1;obtain ⟨-,-,h4⟩:=World.cells?_some h2;obtain ⟨c,qc,cc,qs,cs9,rfl,i1,i2,il,rk,s⟩:=open_chain h3;exact ⟨c,fun _=>⟨qc,cc,qs,cs9,h4,il,rk,s⟩,i1,i2⟩
   · exact ⟨⟨[],0,[]⟩,fun h=>absurd h hi,⟨by show (-9223372036854775808:Int)≤0;omega,by show (0:Int) < 9223372036854775808;omega⟩,fun p hp=>by cases hp⟩
  obtain ⟨f,hf⟩:=Classical.skolem.1 key;have hlen2:((List.range len).map f).length=len:=by simp
  refine ⟨some a,cap,(List.range len).map f,by rw [hlen2];exact e,rfl,by rw [hlen2];omega,fun x hx=>?_,?_⟩
  · obtain ⟨i,-,rfl⟩:=List.mem_map.1 hx;exact (hf i).2
  ·
   by_cases h0:len=0
   · left;rw [h0];rfl
   ·
    right
    obtain ⟨qc0,cc0,qs0,cs0,s0,-⟩:=(hf 0).1 (by omega)
    have s0:=s0 0 (by omega)
    have e0:(a.add (0*3)).add 0=a:=by unfold Addr.add;rfl
    rw [e0] at s0;have hs:=spot9 s0;refine ⟨a.block,a.off,by rw [← hs],World.block_lt_of_cell? w a s0,fun i p hp=>?_⟩
    have hi:i < len:=by have:=(List.getElem?_eq_some_iff.1 hp).1;rw [hlen2] at this;exact this
    rw [List.getElem?_map,List.getElem?_range hi] at hp;simp at hp;obtain ⟨qc,cc,qs,cs9,hc,r⟩:=(hf i).1 hi;rw [hs,addr9] at hc;have c0:=hc 0 (by omega)
    have c1:=hc 1 (by omega)
    have c2:=hc 2 (by omega)
    rw [addr9] at c0 c1 c2;rw [← hp];exact ⟨qc,cc,qs,cs9,c0,c1,c2,r⟩
end
end Sat
end Go.Proofs.YtbmkkhpoaicclaaGreat
