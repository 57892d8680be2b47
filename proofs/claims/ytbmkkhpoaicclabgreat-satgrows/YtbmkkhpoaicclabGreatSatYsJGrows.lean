/- The document's Set: the walk of suretyref04.Set. It proves no statement of the seat. -/
import Derived.Test.YtbmkkhpoaicclabGreatSatRhJGrows
import Derived.Test.YtbmkkhpoaicclabGreatJoin11Grows
import Derived.Test.YtbmkkhpoaicclabGreatJoin17Grows
namespace Go.Proofs.YtbmkkhpoaicclabGreat
open Go Go.RowKit
set_option linter.unusedVariables false
set_option linter.unusedSimpArgs false
namespace Sat
open Euf (OL App)
theorem bw_irr (a:Int):¬ bw a a:=by unfold bw;omega
theorem bw_trans {a b c:Int} (h:bw a b) (k:bw b c):bw a c:=by unfold bw at *;omega
theorem bw_tri (a b:Int):bw a b∨a=b∨bw b a:=by unfold bw;omega
def SetB (zs s:List Int):Prop:=s.Pairwise bw∧∀x,x∈s↔x∈zs
theorem SetB.nil:SetB [] []:=⟨List.Pairwise.nil,fun _=>Iff.rfl⟩
theorem SetB.skip {l s:List Int} {x:Int} (h:SetB l s) (hx:x∈s):SetB (l++[x]) s:=⟨h.1,fun z=>by
  rw[h.2 z,List.mem_append,List.mem_singleton]
  refine⟨Or.inl,fun k=>k.elim id (fun e=>?_)⟩
  subst e;exact (h.2 _).1 hx⟩
theorem SetB.put {l p r:List Int} {x:Int} (h:SetB l (p++r)) (hp:∀y∈p,bw y x) (hr:∀y∈r,bw x y):SetB (l++[x]) (p++x::r):=by
 obtain⟨h1,h2⟩:=h;rw[List.pairwise_append]at h1;refine⟨?_,fun z=>?_⟩
 ·
  rw[List.pairwise_append,List.pairwise_cons];refine⟨h1.1,⟨hr,h1.2.1⟩,fun a ha b hb=>?_⟩
  rcases List.mem_cons.1 hb with rfl|hb
  · exact hp a ha
  · exact h1.2.2 a ha b hb
 ·
  rw[List.mem_append,List.mem_cons,List.mem_append,List.mem_singleton,← h2 z,List.mem_append];constructor
  ·
   rintro (k|k|k)
   · exact Or.inl (Or.inl k)
   · exact Or.inr k
   · exact Or.inl (Or.inr k)
  ·
   rintro ((k|k)|k)
   · exact Or.inl k
   · exact Or.inr (Or.inr k)
   · exact Or.inr (Or.inl k)
theorem SetB.rest {l s:List Int} {x:Int} {k:Nat} (h:SetB l s) (hk:k<s.length) (hx:bw x (s.getD k 0)):∀y∈s.drop k,bw x y:=by
 intro y hy;have hd:s.drop k=s[k]::s.drop (k+1):=List.drop_eq_getElem_cons hk;have hg:s.getD k 0=s[k]:=by simp[hk]
 rw[hg]at hx;rw[hd]at hy;rcases List.mem_cons.1 hy with rfl|hy
 · exact hx
 · have h1:(s.drop k).Pairwise bw:=h.1.sublist (List.drop_sublist _ _);rw[hd,List.pairwise_cons]at h1;exact bw_trans hx (h1.1 y hy)
theorem bw_bv {a b:Int} (ha:a≠-9223372036854775808) (hb:b≠-9223372036854775808):bw a b↔bv a b:=by
 unfold bw bv rz;rw[if_neg ha,if_neg hb];omega
theorem SetB.setOf {l s:List Int} (h:SetB l s) (hm:(-9223372036854775808:Int) ∉ l):SetOf l s:=by
 refine⟨?_,h.2⟩;have hs:∀z∈s,z≠-9223372036854775808:=fun z hz e=>hm (by rw[← e];exact (h.2 z).1 hz)
 exact List.Pairwise.imp_of_mem (fun ha hb k=>(bw_bv (hs _ ha) (hs _ hb)).1 k) h.1
theorem SetB.len {zs s:List Int} (h:SetB zs s):s.length≤zs.length :=
  nodup_subI zs s (h.1.imp (fun hb e=>by subst e;exact bw_irr _ hb)) (fun x hx=>(h.2 x).1 hx)
structure YS (w0 wr:World) (v:Value) (s:List Int):Prop where
  bel:Below w0.heap.size w0 wr
  list:OL 1 3 wr v s.length (izC s)
  own:∀c,v.ownBlock=some c→w0.heap.size≤c
theorem YS.drewN {w0 wr:World} {v:Value} {s:List Int} (h:YS w0 wr v s) (k:Nat):YS w0 (wr.drewN k) v s :=
  ⟨h.bel.trans ⟨rfl,rfl,rfl,Nat.le_refl _,fun _ _=>rfl⟩,h.list.stay fun b hb=>rfl,h.own⟩
theorem step_app {P:Program} {w:World} {ops:Array Oper} {o:Oper} {act:Act} {K:Act→World→Prop} {Q:Exit→Act→World→Prop} {E:Prop} (hgd:o.guard=none) (s x:Operand) (t:TypeId) (hop:o.op=.call { callee:=.builtin .append,args:=#[s,x],argTypes:=#[t,t] })
  (sz:Nat) (e:TypeId) (z:Value) (bytes:Nat) (h1:P.underlying t=some (.slice e)) (h2:(P.info? e).map (fun i=>(i.zero,i.size,i.bytes))=some (some z,sz,bytes)) (hby:bytes≤1000) (hzs:z.cells.size=sz) (hsz:0<sz)
  (v:Value) (n:Nat) (f:Nat→List Value) (hs:act.eval s=v) (hown:OL sz e w v n f) (hlf:∀k,k<n→(f k).length=sz) (v2:Value) (m:Nat) (f2:Nat→List Value) (hx:act.eval x=v2) (h3:OL sz e w v2 m f2) (hl2:∀k,k<m→(f2 k).length=sz) (ho2:∀u∈Euf.flat f2 m,u.oneCell'=true) (hn:n+m≤1000000000)
  (f':Nat→List Value) (hf1:∀k,k<n→f' k=f k) (hf2:∀k,k<m→f' (n+k)=f2 k)
  (h:∀v' w',OL sz e w' v' (n+m) f'→App v v' w w'→K (act.put o.dst v') w'):if Region.wanted o (yielded ops act.tmps)=true then Oper.wp P o act w K Q else E:=by
 have hw:Region.wanted o (yielded ops act.tmps)=true:=by simp[Region.wanted,hgd]
 rw[if_pos hw];exact Euf.wp_append_list s x t hop sz e z bytes h1 h2 hby hzs hsz v n f hs hown hlf v2 m f2 hx h3 hl2 ho2 hn f' hf1 hf2 h
theorem flat_one (zs:List Int):∀m,∀u∈Euf.flat (izC zs) m,u.oneCell'=true
  | 0,u,hu=>by simp[Euf.flat]at hu
  | m+1,u,hu=>by
    rw[Euf.flat,List.mem_append]at hu
    rcases hu with hu|hu
    · exact flat_one zs m u hu
    · simp[izC]at hu;subst hu;rfl
theorem YS.rest_ {w0 W w6:World} {v v6:Value} {s:List Int} (h:YS w0 W v s) (ha:App (.slice (some ⟨W.heap.size,0,none⟩) 0 0) v6 (W.alloc (.cells #[] 3 (0,0))) w6) :
  YS w0 w6 v s∧W.heap.size≤w6.heap.size∧(∀c,v6.ownBlock=some c→v.ownBlock≠some c):=by
 have hs:=h.bel.size;have hz:=ha.size;simp only[World.size_alloc]at hz;have oth:∀b,b<W.heap.size→w6.heap[b]?=W.heap[b]?:=fun b hb=>(ha.other b (by simp;omega) (fun k=>by simp[Value.ownBlock]at k;omega)).trans (Below.heap_alloc W _ b hb)
 refine⟨⟨⟨ha.os.trans h.bel.os,ha.tape.trans h.bel.tape,ha.output.trans h.bel.output,by omega,fun b hb=>(oth b (by omega)).trans (h.bel.block b hb)⟩,h.list.stay fun b hb=>oth b (h.list.lt hb),h.own⟩,by omega,fun c hc k=>?_⟩
 have hlt:=h.list.lt k;rcases ha.at_ with q|⟨b',q,q2⟩
 · rw[hc]at q;simp[Value.ownBlock]at q;omega
 · rw[hc]at q;injection q with q;simp only[World.size_alloc]at q2;omega
theorem YS.fin {w0 w6 w7 w8:World} {v vk v7 v8:Value} {s t:List Int} (h:YS w0 w6 v s) (hk:∀c,vk.ownBlock=some c→v.ownBlock=some c) (a1:App vk v7 w6 w7) (a2:App v7 v8 w7 w8) (hl:OL 1 3 w8 v8 t.length (izC t)):YS w0 w8 v8 t:=by
 have hs:=h.bel.size;have hz:=a1.size;have hz2:=a2.size;have own7:∀c,v7.ownBlock=some c→w0.heap.size≤c:=by
  intro c hc;rcases a1.at_ with q|⟨b',q,q2⟩
  · exact h.own c (hk c (q ▸ hc))
  · rw[hc]at q;injection q with q;omega
 refine⟨⟨a2.os.trans (a1.os.trans h.bel.os),a2.tape.trans (a1.tape.trans h.bel.tape),a2.output.trans (a1.output.trans h.bel.output),by omega,fun b hb=>?_⟩,hl,?_⟩
 ·
  rw[a2.other b (by omega) (fun k=>absurd (own7 b k) (by omega)),a1.other b (by omega) (fun k=>absurd (h.own b (hk b k)) (by omega))]
  exact h.bel.block b hb
 ·
  intro c hc;rcases a2.at_ with q|⟨b',q,q2⟩
  · exact own7 c (q ▸ hc)
  · rw[hc]at q;injection q with q;omega
theorem izC_facts (s:List Int) (k:Nat) (x:Int) (hk:k≤s.length):(∀i,i<k→izC (s.take k++[x]) i=izC (s.take k) i)∧izC (s.take k++[x]) k=[.int .i64 x]∧(∀i,i<k+1→izC (s.take k++x::s.drop k) i=izC (s.take k++[x]) i)∧∀i,i<s.length - k→izC (s.take k++x::s.drop k) (k+1+i)=izC (s.drop k) i:=by
 have hkl:(s.take k).length=k:=by rw[List.length_take];omega
 have e1:s.take k++x::s.drop k=(s.take k++[x])++s.drop k:=by simp
 have hk2:(s.take k++[x]).length=k+1:=by rw[List.length_append,hkl];rfl
 refine⟨fun i hi=>?_,?_,fun i hi=>?_,fun i hi=>?_⟩
 · unfold izC;rw[List.getD_eq_getElem?_getD,List.getElem?_append_left (by omega),← List.getD_eq_getElem?_getD]
 · unfold izC;rw[List.getD_eq_getElem?_getD,List.getElem?_append_right (by omega),hkl];simp
 · rw[e1];unfold izC;rw[List.getD_eq_getElem?_getD,List.getElem?_append_left (by omega),← List.getD_eq_getElem?_getD]
 · rw[e1];unfold izC;rw[List.getD_eq_getElem?_getD,List.getElem?_append_right (by omega),hk2,Nat.add_sub_cancel_left,← List.getD_eq_getElem?_getD]
theorem addr_add (g k j:Nat):((⟨g,k,none⟩:Addr).add j)=⟨g,k+j,none⟩:=by
 unfold Addr.add;split
 · rename_i h;subst h;rfl
 · rfl
theorem izC_take (s:List Int) (k i:Nat) (h:i<k):izC (s.take k) i=izC s i:=by simp[izC,List.getElem?_take,h]
set_option maxRecDepth 20000 in
set_option maxHeartbeats 8000000 in
theorem rset_any (q:Option Addr) (n cap:Nat) (zs:List Int) (w:World) (h:IL w q n cap zs) (hn:n≤1000000) :
  Calls Tryz.prog 21 #[.slice q n cap] w fun e w'=>∃v s,e=.returned v∧SetB zs s∧OL 1 3 w' v s.length (izC s)∧(∀b,v.ownBlock=some b→w.heap.size≤b)∧Below w.heap.size w w':=by
 have H:=hide h;have hlen:=h.len;clear h;have H0:Hid (YS w w (.slice none 0 0) []∧SetB (zs.take 0) []):=⟨⟨Below.refl _ _,OL.nil _ _ _ _,fun c h=>by cases h⟩,SetB.nil⟩
 go_enter Tryz.func21,Tryz.ntmps21;go_wp2;go_loopw [3,4] (fun v3 v4 wr=>∃(i:Nat) (s:List Int),v4=.int .i64 (i:Int)∧i≤n∧Hid (YS w wr v3 s∧SetB (zs.take i) s)) (fun _ v _=>n - (intOf v).toNat)
 case atStart=>exact⟨0,[],rfl,Nat.zero_le _,H0⟩
 case round =>
  rename World=>wl
  clear H0;obtain⟨i,s,rfl,hi,HY⟩:=hrel;obtain⟨aL,cL,hv,-,-,haL,haP⟩:=HY.out.1.list.shape;subst hv;by_cases hlt:i<n
  ·
   have hltI:(i:Int)<(n:Int):=by omega
   obtain⟨x,hx⟩:∃x,zs[i]?=some x:=⟨zs[i]'(by omega),List.getElem?_eq_getElem _⟩
   have HTK:Hid (zs.take (i+1)=zs.take i++[x]):=by show _=_;rw[List.take_add_one,hx];rfl
   have hxI:InI x:=H.out.ok x (List.mem_of_getElem? hx);have hsl:s.length≤i:=by have:=HY.out.2.len;rw[List.length_take]at this;omega
   obtain⟨b,off,hq,lb,cx⟩:∃b off,q=some ⟨b,off,none⟩∧b<w.heap.size∧w.cell? ⟨b,off+i,none⟩=some (.int .i64 x):=by
    rcases H.out.at_ with h0|⟨b,off,h1,h2,h3⟩
    · rw[h0]at hlen;simp at hlen;omega
    · refine⟨b,off,h1,h2,?_⟩;have:=h3 i hlt;rwa [List.getD_eq_getElem?_getD,hx]at this
   subst hq;have HIN:Hid (∀y∈s,InI y):=fun y hy=>H.out.ok y (List.take_subset _ _ ((HY.out.2.2 y).1 hy))
   have HCX:Hid (∀wq v,YS w wq v s→wq.cell? ⟨b,off+i,none⟩=some (.int .i64 x)∧b<wq.heap.size):=fun wq v hq=>⟨(World.cell?_of_block (a:=⟨b,off+i,none⟩) (hq.bel.block b lb)).trans cx,Nat.lt_of_lt_of_le lb hq.bel.size⟩
   have HSB:=hide HY.out.2;clear hx cx;go_wp2;go_loopw [5] (fun v5 wq=>∃k:Nat,v5=.int .i64 (k:Int)∧k≤s.length∧Hid (YS w wq (.slice aL s.length cL) s∧∀j,j<k→bw (s.getD j 0) x)) (fun v _=>s.length - (intOf v).toNat)
   case atStart=>exact⟨0,rfl,Nat.zero_le _,HY.out.1,fun j hj=>absurd hj (Nat.not_lt_zero _)⟩
   case round =>
    rename World=>wq
    clear HY;obtain⟨k,rfl,hk,HK⟩:=hrel;obtain⟨cxq,lbq⟩:=HCX.out wq _ HK.out.1;have HREST:Hid (∀nq,YS w (wq.drewN nq) (.slice aL s.length cL) s):=fun nq=>HK.out.1.drewN nq
    by_cases hlk:k<s.length
    ·
     have hlkI:(k:Int)<(s.length:Int):=by omega
     obtain⟨g,cp,hv,hc1,hc2⟩:=HK.out.1.list.open k hlk;simp only[Value.slice.injEq]at hv;obtain⟨rfl,-,rfl⟩:=hv;have cy:=HK.out.1.list.cell (i:=k) (j:=0) hlk (by decide)
     have lg:=HK.out.1.list.lt (b:=g) rfl;simp only[Nat.mul_one,Nat.add_zero,izC,List.getElem?_cons_zero]at cy;have hmem:s.getD k 0∈s:=by simp[hlk]
     obtain⟨y,hy⟩:∃y,s.getD k 0=y:=⟨_,rfl⟩;rw[hy]at cy hmem;have hyI:=HIN.out y hmem;by_cases hb:bw y x
     ·
      have HA:Hid (∀w9,Calls Tryz.prog 42 #[.int .i64 y,.int .i64 x] w9 fun e w'=>e=.returned (.bool true)∧w'=w9):=fun w9=>(rahead_any y x w9 hyI hxI).mono (by rintro e w' ⟨⟨b9,rfl,h9⟩,rfl⟩;exact⟨by rw[h9.2 hb],rfl⟩)
      have HE:Hid (∀nq,YS w (wq.drewN nq) (.slice (some ⟨g,0,none⟩) s.length cL) s∧∀j,j<k+1→bw (s.getD j 0) x):=fun nq=>⟨HK.out.1.drewN nq,fun j hj=>by
       by_cases e:j=k
       · subst e;rw[hy];exact hb
       · exact HK.out.2 j (by omega)⟩
      clear hb hyI hxI hmem hy;go_wp2_with fail
      go_quiet ((go_at_call 42;refine Calls.quiet_of_same (HA.out _)))
      go_wp2;go_roundw
      case rel=>exact⟨k+1,by go_num,by omega,HE.out _⟩
      case measure=>simp[intOf]<;>omega
     ·
      have HA:Hid (∀w9,Calls Tryz.prog 42 #[.int .i64 y,.int .i64 x] w9 fun e w'=>e=.returned (.bool false)∧w'=w9):=fun w9=>(rahead_any y x w9 hyI hxI).mono (by rintro e w' ⟨⟨b9,rfl,h9⟩,rfl⟩;exact⟨by cases b9;rfl;exact absurd (h9.1 rfl) hb,rfl⟩)
      by_cases hyx:y=x
      ·
       have HE:Hid (∀nq,YS w (wq.drewN nq) (.slice (some ⟨g,0,none⟩) s.length cL) s∧SetB (zs.take (i+1)) s):=fun nq=>⟨HK.out.1.drewN nq,by rw[HTK.out];exact HSB.out.skip (hyx ▸ hmem)⟩
       have hyB:(y == x)=true:=by simpa using hyx
       clear hb hyI hxI hmem hy hyx;go_wp2_with fail
       go_quiet ((go_at_call 42;refine Calls.quiet_of_same (HA.out _)))
       go_wp2_with fail
       go_quiet (fail)
       go_wp2;go_roundw
       case rel=>exact⟨i+1,s,by go_num,by omega,HE.out _⟩
       case measure=>simp[intOf]<;>omega
      ·
       have hyB:(y == x)=false:=by simpa using hyx
       have HP:Hid (∀z∈s.take k,bw z x):=by
        intro z hz;obtain⟨j,hj,rfl⟩:=List.mem_iff_getElem.1 hz;rw[List.length_take]at hj;have:=HK.out.2 j (by omega)
        rw[List.getElem_take];rwa [List.getD_eq_getElem?_getD,List.getElem?_eq_getElem (by omega)]at this
       have HR:Hid (∀z∈s.drop k,bw x z):=HSB.out.rest hlk (by rw[hy];rcases bw_tri y x with h9|h9|h9;exact absurd h9 hb;exact absurd h9 hyx;exact h9)
       clear hb hyI hxI hmem hy hyx;go_wp2_with fail
       go_quiet ((go_at_call 42;refine Calls.quiet_of_same (HA.out _)))
       go_wp2_with fail
       go_quiet (fail)
       go_wp2_with (at_builtin;refine Euf.Stop.of ?_)
       show wpList _ _ _ _ _ _
       refine Euf.wpList_append rfl (.tmp 45) (.tmp 48) 35 rfl 1 3 _ 8 uInts iInt (by decide) rfl (by decide) (.slice (some ⟨wq.heap.size,0,none⟩) 0 0) 0 (izC []) rfl (Or.inr ⟨wq.heap.size,0,#[],rfl,heap_alloc_new _ _,Nat.le_refl _,Nat.zero_le _,rfl,fun i hi=>absurd hi (Nat.not_lt_zero _)⟩) (fun _ _=>rfl) ⟨g,k,none⟩ (s.length - k) (cL - k) rfl ((s.drop k).map fun z=>Value.int .i64 z) (by simp) ?hnews (by intro u hu;obtain⟨z,_,rfl⟩:=List.mem_map.1 hu;rfl) (Or.inr (by simp)) (by omega) (izC (s.drop k)) (fun i hi=>absurd hi (Nat.not_lt_zero _)) ?hf2 ?_
       case hnews =>
        intro j u hj;rw[List.getElem?_map,List.getElem?_drop]at hj;obtain⟨z,hz,rfl⟩:=Option.map_eq_some_iff.1 hj;have hz2:k+j<s.length:=(List.getElem?_eq_some_iff.1 hz).1;have hc:=HK.out.1.list.cell (i:=k+j) (j:=0) hz2 (by decide)
        simp only[Nat.mul_one,Nat.add_zero,izC,List.getElem?_cons_zero,List.getD_eq_getElem?_getD,hz,Option.getD_some]at hc;rw[addr_add];exact (World.cell?_of_block (a:=⟨g,k+j,none⟩) (Below.heap_alloc _ _ g lg)).trans hc
       case hf2 =>
        intro q9 hq9 j9 hj9;obtain rfl:j9=0:=by omega
        have hq10:q9<(s.drop k).length:=by rw[List.length_drop];exact hq9
        simp only[Nat.zero_add,Nat.mul_one,Nat.add_zero,izC,List.getElem?_cons_zero,List.getD_eq_getElem?_getD,List.getElem?_map,List.getElem?_eq_getElem hq10,Option.getD_some,Option.map_some]
       intro v6 w6 hol6 hap6 hne6;obtain⟨k1,k2,k3⟩:=(HREST.out _).rest_ hap6;obtain⟨a6,c6,hv6,-,-,-,-⟩:=hol6.shape;rw[Nat.zero_add]at hv6 hol6;subst hv6;have H6:Hid (YS w w6 (.slice (some ⟨g,0,none⟩) s.length cL) s∧OL 1 3 w6 (.slice a6 (s.length - k) c6) (s.length - k) (izC (s.drop k))∧(∀c,(Value.slice a6 (s.length - k) c6).ownBlock=some c→(Value.slice (some ⟨g,0,none⟩) k cL).ownBlock≠some c)∧OL 1 3 (w6.drew.alloc (.cells #[.int .i64 x] 3 (0,0))) (.slice (some ⟨g,0,none⟩) k cL) k (izC (s.take k))) :=
        ⟨k1,hol6,fun c hc=>k3 c hc,((k1.list.take k hk).congr (fun i hi=>izC_take s k i hi)).stay fun b hb=>Below.heap_alloc w6.drew _ b (k1.list.lt hb)⟩
       clear hol6 hap6 hne6 k1 k2 k3 cy cxq lg lbq HREST HA;obtain⟨cx6,lb6⟩:=HCX.out w6 _ H6.out.1;have hkc:k≤cL:=by omega
       have hkl:(s.take k).length=k:=by rw[List.length_take];omega
       have HI:Hid ((∀i,i<k→izC (s.take k++[x]) i=izC (s.take k) i)∧izC (s.take k++[x]) k=[.int .i64 x]∧(∀i,i<k+1→izC (s.take k++x::s.drop k) i=izC (s.take k++[x]) i)∧∀i,i<s.length - k→izC (s.take k++x::s.drop k) (k+1+i)=izC (s.drop k) i):=izC_facts s k x hk;have HOK:Hid (OL 1 3 (w6.drew.alloc (.cells #[.int .i64 x] 3 (0,0))) (.slice (some ⟨g,0,none⟩) k cL) k (izC (s.take k))):=H6.out.2.2.2;have HPU:Hid (∀v7 w7,OL 1 3 w7 v7 (k+1) (izC (s.take k++[x]))→App (.slice (some ⟨g,0,none⟩) k cL) v7 (w6.drew.alloc (.cells #[.int .i64 x] 3 (0,0))) w7→(∃q7 c7,v7=.slice q7 (k+1) c7)∧Hid (OL 1 3 w7 v7 (k+1) (izC (s.take k++[x]))∧App (.slice (some ⟨g,0,none⟩) k cL) v7 w6 w7∧OL 1 3 w7 (.slice a6 (s.length - k) c6) (s.length - k) (izC (s.drop k)))):=by
        intro v7 w7 h7 p7;have hbl:Below w6.heap.size w6 (w6.drew.alloc (.cells #[.int .i64 x] 3 (0,0))):=⟨rfl,rfl,rfl,by simp,fun b9 hb9=>Below.heap_alloc w6.drew _ b9 hb9⟩
        have p6:=Euf_ofBelow p7 hbl;obtain⟨q7,c7,hv7,-⟩:=h7.shape;exact⟨⟨q7,c7,hv7⟩,h7,p6,H6.out.2.1.stay fun c hc=>p6.other c (H6.out.2.1.lt hc) (fun e=>H6.out.2.2.1 c hc e)⟩
       have HFI:Hid (∀v7 v8 w7 w8,App (.slice (some ⟨g,0,none⟩) k cL) v7 w6 w7→App v7 v8 w7 w8→OL 1 3 w8 v8 (k+1+(s.length - k)) (izC (s.take k++x::s.drop k))→∃q8 n8 c8,v8=.slice q8 n8 c8∧Hid (YS w w8 v8 (s.take k++x::s.drop k))):=by
        intro v7 v8 w7 w8 p1 p2 h8;have hl8:(s.take k++x::s.drop k).length=k+1+(s.length - k):=by rw[List.length_append,hkl,List.length_cons,List.length_drop];omega
        rw[← hl8]at h8;obtain⟨q8,c8,hv8,-⟩:=h8.shape;exact⟨q8,_,c8,hv8,H6.out.1.fin (vk:=(.slice (some ⟨g,0,none⟩) k cL)) (fun c hc=>hc) p1 p2 h8⟩
       have HSN:Hid (SetB (zs.take (i+1)) (s.take k++x::s.drop k)):=by rw[HTK.out];exact SetB.put (by rw[List.take_append_drop];exact HSB.out) HP.out HR.out
       go_wp2;go_region_law (first|(refine step_push rfl (.tmp 52) (.tmp 57) 35 rfl 1 3 _ 8 uInts iInt (by decide) rfl (by decide) (.slice (some ⟨g,0,none⟩) k cL) k (izC (s.take k)) (by kernel_rfl) HOK.out (fun _ _=>rfl) [.int .i64 x] 3 (.slice (some ⟨w6.drew.heap.size,0,none⟩) 1 1) (one5_alloc _ _ _) (by kernel_rfl) rfl (by intro u hu;simp at hu;subst hu;rfl) (by omega) (izC (s.take k++[x])) HI.out.1 HI.out.2.1 ?_;intro v7 w7 hol7 hap7 hne7;obtain⟨⟨q7,c7,rfl⟩,H7⟩:=HPU.out v7 w7 hol7 hap7;clear hol7 hap7 hne7)|(refine step_app rfl (.tmp 58) (.tmp 59) 35 rfl 1 3 _ 8 uInts iInt (by decide) rfl (by decide) (.slice q7 (k+1) c7) (k+1) (izC (s.take k++[x])) (by kernel_rfl) H7.out.1 (fun _ _=>rfl) (.slice a6 (s.length - k) c6) (s.length - k) (izC (s.drop k)) (by kernel_rfl) H7.out.2.2 (fun _ _=>rfl) (flat_one _ _) (by omega) (izC (s.take k++x::s.drop k)) HI.out.2.2.1 HI.out.2.2.2 ?_;intro v8 w8 hol8 hap8;obtain⟨q8,n8,c8,rfl,H8⟩:=HFI.out _ v8 w7 w8 H7.out.2.1 hap8 hol8;clear hol8 hap8))
       all_goals
        go_wp2;go_roundw
        case rel=>exact⟨i+1,s.take k++x::s.drop k,by go_num,by omega,H8.out,HSN.out⟩
        case measure=>simp[intOf]<;>omega
    ·
     have hlkI:¬ (k:Int)<(s.length:Int):=by omega
     cases aL with
     | none =>
      obtain⟨hs0,hc0⟩:=haL rfl;obtain rfl:s=[]:=List.eq_nil_of_length_eq_zero hs0;obtain rfl:cL=0:=hc0;obtain rfl:k=0:=by simpa using hk
      simp only[List.length_nil,show ((0:Nat):Int)=0 from rfl]at *
      clear haL haP HIN hlkI;try clear hs0
      try clear hc0
      have HS0:Hid (YS w wq (.slice none 0 0) []):=HK.out.1;clear HK HREST;have HREST:Hid (∀nq,YS w (wq.drewN nq) (.slice none 0 0) []):=fun nq=>HS0.out.drewN nq
      go_wp2_with fail
      go_quiet (fail)
      go_wp2_with fail
      go_quiet (fail)
      go_wp2_with (at_builtin;refine Euf.Stop.of ?_)
      show wpList _ _ _ _ _ _
      refine wpList_plain rfl fun _ hK9=>Euf.wp_append_list (.tmp 45) (.tmp 48) 35 rfl 1 3 _ 8 uInts iInt (by decide) rfl (by decide) (.slice (some ⟨wq.heap.size,0,none⟩) 0 0) 0 (izC []) rfl (Or.inr ⟨wq.heap.size,0,#[],rfl,heap_alloc_new _ _,Nat.le_refl _,Nat.zero_le _,rfl,fun i hi=>absurd hi (Nat.not_lt_zero _)⟩) (fun _ _=>rfl) (.slice none 0 0) 0 (izC []) rfl (OL.nil _ _ _ _) (fun _ _=>rfl) (flat_one _ _) (by omega) (izC ([]:List Int)) (fun i hi=>rfl) (fun i hi=>absurd hi (Nat.not_lt_zero _)) fun v6 w6 hol6 hap6=>hK9 _ _ ?_
      obtain⟨k1,k2,k3⟩:=(HREST.out _).rest_ hap6;obtain⟨a6,c6,hv6,-,-,-,-⟩:=hol6.shape;rw[Nat.zero_add]at hv6 hol6;subst hv6;have H6:Hid (YS w w6 (.slice none 0 0) []∧OL 1 3 w6 (.slice a6 0 c6) 0 (izC [])):=⟨k1,hol6⟩;clear hol6 hap6 k1 k2 k3 cxq lbq HREST hK9 HS0;obtain⟨cx6,lb6⟩:=HCX.out w6 _ H6.out.1;have HPU:Hid (∀v7 w7,OL 1 3 w7 v7 1 (izC [x])→App (.slice none 0 0) v7 (w6.drew.alloc (.cells #[.int .i64 x] 3 (0,0))) w7→(∃q7 c7,v7=.slice q7 1 c7)∧Hid (OL 1 3 w7 v7 1 (izC [x])∧App (.slice none 0 0) v7 w6 w7∧OL 1 3 w7 (.slice a6 0 c6) 0 (izC []))):=by
       intro v7 w7 h7 p7;have hbl:Below w6.heap.size w6 (w6.drew.alloc (.cells #[.int .i64 x] 3 (0,0))):=⟨rfl,rfl,rfl,by simp,fun b9 hb9=>Below.heap_alloc w6.drew _ b9 hb9⟩
       have p6:=Euf_ofBelow p7 hbl;obtain⟨q7,c7,hv7,-⟩:=h7.shape;exact⟨⟨q7,c7,hv7⟩,h7,p6,H6.out.2.stay fun c hc=>p6.other c (H6.out.2.lt hc) (fun e=>by cases e)⟩
      have HFI:Hid (∀v7 v8 w7 w8,App (.slice none 0 0) v7 w6 w7→App v7 v8 w7 w8→OL 1 3 w8 v8 (1+0) (izC [x])→∃q8 n8 c8,v8=.slice q8 n8 c8∧Hid (YS w w8 v8 [x])):=by
       intro v7 v8 w7 w8 p1 p2 h8;obtain⟨q8,c8,hv8,-⟩:=h8.shape;exact⟨q8,_,c8,hv8,H6.out.1.fin (vk:=.slice none 0 0) (fun c hc=>by cases hc) p1 p2 h8⟩
      have HSN:Hid (SetB (zs.take (i+1)) [x]):=by rw[HTK.out];exact SetB.put (p:=[]) (r:=[]) HSB.out (by simp) (by simp)
      go_wp2;go_region_law (first|(refine step_push rfl (.tmp 52) (.tmp 57) 35 rfl 1 3 _ 8 uInts iInt (by decide) rfl (by decide) (.slice none 0 0) 0 (izC []) (by kernel_rfl) (OL.nil _ _ _ _) (fun _ _=>rfl) [.int .i64 x] 3 (.slice (some ⟨w6.drew.heap.size,0,none⟩) 1 1) (one5_alloc _ _ _) (by kernel_rfl) rfl (by intro u hu;simp at hu;subst hu;rfl) (by omega) (izC [x]) (fun i hi=>absurd hi (Nat.not_lt_zero _)) rfl ?_;intro v7 w7 hol7 hap7 hne7;obtain⟨⟨q7,c7,rfl⟩,H7⟩:=HPU.out v7 w7 hol7 hap7;clear hol7 hap7 hne7)|(refine step_app rfl (.tmp 58) (.tmp 59) 35 rfl 1 3 _ 8 uInts iInt (by decide) rfl (by decide) (.slice q7 1 c7) 1 (izC [x]) (by kernel_rfl) H7.out.1 (fun _ _=>rfl) (.slice a6 0 c6) 0 (izC []) (by kernel_rfl) H7.out.2.2 (fun _ _=>rfl) (flat_one _ _) (by omega) (izC [x]) (fun i hi=>rfl) (fun i hi=>absurd hi (Nat.not_lt_zero _)) ?_;intro v8 w8 hol8 hap8;obtain⟨q8,n8,c8,rfl,H8⟩:=HFI.out _ v8 w7 w8 H7.out.2.1 hap8 hol8;clear hol8 hap8))
      all_goals
       go_wp2;go_roundw
       case rel=>exact⟨i+1,[x],by go_num,by omega,H8.out,HSN.out⟩
       case measure=>simp[intOf]<;>omega
     | some p9 =>
      obtain⟨g,o9,s9⟩:=p9;obtain⟨h9,h10⟩:=haP _ rfl;simp only at h9 h10;subst h9 h10;have HP:Hid (∀z∈s.take k,bw z x):=by
       intro z hz;obtain⟨j,hj,rfl⟩:=List.mem_iff_getElem.1 hz;rw[List.length_take]at hj;have:=HK.out.2 j (by omega)
       rw[List.getElem_take];rwa [List.getD_eq_getElem?_getD,List.getElem?_eq_getElem (by omega)]at this
      have HR:Hid (∀z∈s.drop k,bw x z):=by intro z hz;rw[List.drop_eq_nil_of_le (by omega)]at hz;cases hz
      obtain⟨a10,c10,hv10,hc1,-⟩:=HK.out.1.list.shape;simp only[Value.slice.injEq]at hv10;obtain⟨-,-,rfl⟩:=hv10;have hsk:s.length - k=0:=by omega
      have HKE:Hid (s.length=k):=(by omega:s.length=k)
      have hkc:k≤cL:=by omega
      rcases Nat.eq_or_lt_of_le hkc with hck|hck
      ·
       obtain rfl:cL=k:=hck.symm;have HS0:Hid (YS w wq (.slice (some ⟨g,0,none⟩) cL cL) s):=by have h9:=HK.out.1;rw[HKE.out]at h9;exact h9
       have HSN:Hid (SetB (zs.take (i+1)) (s++[x])):=by
        rw[HTK.out];refine SetB.put (p:=s) (r:=[]) (by rw[List.append_nil];exact HSB.out) ?_ (by simp)
        have h9:=HP.out;rwa [List.take_of_length_le (by have:=HKE.out;omega)]at h9
       have hk9:cL+1≤1000000000:=by omega
       clear haL haP HK HREST HP HR hc1;have HREST:Hid (∀nq,YS w (wq.drewN nq) (.slice (some ⟨g,0,none⟩) cL cL) s):=fun nq=>HS0.out.drewN nq
       go_wp2_with fail
       go_quiet (fail)
       go_wp2_with fail
       go_quiet (fail)
       go_wp2_with (at_builtin;refine Euf.Stop.of ?_)
       all_goals
        show wpList _ _ _ _ _ _
        refine Euf.wpList_append rfl (.tmp 45) (.tmp 48) 35 rfl 1 3 _ 8 uInts iInt (by decide) rfl (by decide) (.slice (some ⟨wq.heap.size,0,none⟩) 0 0) 0 (izC []) rfl (Or.inr ⟨wq.heap.size,0,#[],rfl,heap_alloc_new _ _,Nat.le_refl _,Nat.zero_le _,rfl,fun i hi=>absurd hi (Nat.not_lt_zero _)⟩) (fun _ _=>rfl) _ 0 _ rfl [] rfl (by simp) (by simp) (Or.inr (by simp)) (by omega) (izC ([]:List Int)) (fun i hi=>absurd hi (Nat.not_lt_zero _)) (fun i hi=>absurd hi (Nat.not_lt_zero _)) ?_
        intro v6 w6 hol6 hap6 hne6;obtain⟨k1,k2,k3⟩:=(HREST.out _).rest_ hap6;obtain⟨a6,c6,hv6,-,-,-,-⟩:=hol6.shape;rw[Nat.zero_add]at hv6 hol6;subst hv6;have H6:Hid (YS w w6 (.slice (some ⟨g,0,none⟩) cL cL) s∧OL 1 3 w6 (.slice a6 0 c6) 0 (izC [])∧(∀c,(Value.slice a6 0 c6).ownBlock=some c→(Value.slice (some ⟨g,0,none⟩) cL cL).ownBlock≠some c)∧OL 1 3 (w6.drew.alloc (.cells #[.int .i64 x] 3 (0,0))) (.slice (some ⟨g,0,none⟩) cL cL) cL (izC s)) :=
         ⟨k1,hol6,k3,(by have h9:=k1.list;rw[HKE.out]at h9;exact h9.stay fun b hb=>Below.heap_alloc w6.drew _ b (h9.lt hb))⟩
        clear hol6 hap6 hne6 k1 k2 k3;obtain⟨cx6,lb6⟩:=HCX.out w6 _ H6.out.1;have HI:Hid ((∀i,i<cL→izC (s++[x]) i=izC s i)∧izC (s++[x]) cL=[.int .i64 x]):=by
         have h9:=izC_facts s s.length x (Nat.le_refl _);rw[List.take_length,HKE.out]at h9;exact⟨h9.1,h9.2.1⟩
        have HPU:Hid (∀v7 w7,OL 1 3 w7 v7 (cL+1) (izC (s++[x]))→App (.slice (some ⟨g,0,none⟩) cL cL) v7 (w6.drew.alloc (.cells #[.int .i64 x] 3 (0,0))) w7→(∃q7 c7,v7=.slice q7 (cL+1) c7)∧Hid (OL 1 3 w7 v7 (cL+1) (izC (s++[x]))∧App (.slice (some ⟨g,0,none⟩) cL cL) v7 w6 w7∧OL 1 3 w7 (.slice a6 0 c6) 0 (izC []))):=by
         intro v7 w7 h7 p7;have hbl:Below w6.heap.size w6 (w6.drew.alloc (.cells #[.int .i64 x] 3 (0,0))):=⟨rfl,rfl,rfl,by simp,fun b9 hb9=>Below.heap_alloc w6.drew _ b9 hb9⟩
         have p6:=Euf_ofBelow p7 hbl;obtain⟨q7,c7,hv7,-⟩:=h7.shape;exact⟨⟨q7,c7,hv7⟩,h7,p6,H6.out.2.1.stay fun c hc=>p6.other c (H6.out.2.1.lt hc) (fun e=>H6.out.2.2.1 c hc e)⟩
        have HFI:Hid (∀v7 v8 w7 w8,App (.slice (some ⟨g,0,none⟩) cL cL) v7 w6 w7→App v7 v8 w7 w8→OL 1 3 w8 v8 (cL+1+0) (izC (s++[x]))→∃q8 n8 c8,v8=.slice q8 n8 c8∧Hid (YS w w8 v8 (s++[x]))):=by
         intro v7 v8 w7 w8 p1 p2 h8;rw[show cL+1+0=(s++[x]).length by rw[List.length_append,HKE.out];rfl]at h8
         obtain⟨q8,c8,hv8,-⟩:=h8.shape;exact⟨q8,_,c8,hv8,H6.out.1.fin (vk:=(.slice (some ⟨g,0,none⟩) cL cL)) (fun c hc=>hc) p1 p2 h8⟩
        go_wp2;go_region_law (first|(refine step_push rfl (.tmp 52) (.tmp 57) 35 rfl 1 3 _ 8 uInts iInt (by decide) rfl (by decide) (.slice (some ⟨g,0,none⟩) cL cL) cL (izC s) (by kernel_rfl) H6.out.2.2.2 (fun _ _=>rfl) [.int .i64 x] 3 (.slice (some ⟨w6.drew.heap.size,0,none⟩) 1 1) (one5_alloc _ _ _) (by kernel_rfl) rfl (by intro u hu;simp at hu;subst hu;rfl) (by omega) (izC (s++[x])) HI.out.1 HI.out.2 ?_;intro v7 w7 hol7 hap7 hne7;obtain⟨⟨q7,c7,rfl⟩,H7⟩:=HPU.out v7 w7 hol7 hap7;clear hol7 hap7 hne7)|(refine step_app rfl (.tmp 58) (.tmp 59) 35 rfl 1 3 _ 8 uInts iInt (by decide) rfl (by decide) (.slice q7 (cL+1) c7) (cL+1) (izC (s++[x])) (by kernel_rfl) H7.out.1 (fun _ _=>rfl) (.slice a6 0 c6) 0 (izC []) (by kernel_rfl) H7.out.2.2 (fun _ _=>rfl) (flat_one _ _) (by omega) (izC (s++[x])) (fun i hi=>rfl) (fun i hi=>absurd hi (Nat.not_lt_zero _)) ?_;intro v8 w8 hol8 hap8;obtain⟨q8,n8,c8,rfl,H8⟩:=HFI.out _ v8 w7 w8 H7.out.2.1 hap8 hol8;clear hol8 hap8))
        all_goals
         go_wp2;go_roundw
         case rel=>exact⟨i+1,s++[x],by go_num,by omega,H8.out,HSN.out⟩
         case measure=>simp[intOf]<;>omega
      ·
       have hcn:¬ cL=k:=by omega
       have HS0:Hid (YS w wq (.slice (some ⟨g,0,none⟩) k cL) s):=by have h9:=HK.out.1;rw[HKE.out]at h9;exact h9
       have HSN:Hid (SetB (zs.take (i+1)) (s++[x])):=by
        rw[HTK.out];refine SetB.put (p:=s) (r:=[]) (by rw[List.append_nil];exact HSB.out) ?_ (by simp)
        have h9:=HP.out;rwa [List.take_of_length_le (by have:=HKE.out;omega)]at h9
       have hk9:k+1≤1000000000:=by omega
       clear haL haP HK HREST HP HR hc1;have HREST:Hid (∀nq,YS w (wq.drewN nq) (.slice (some ⟨g,0,none⟩) k cL) s):=fun nq=>HS0.out.drewN nq
       go_wp2_with fail
       go_quiet (fail)
       go_wp2_with fail
       go_quiet (fail)
       go_wp2_with (at_builtin;refine Euf.Stop.of ?_)
       all_goals
        show wpList _ _ _ _ _ _
        refine Euf.wpList_append rfl (.tmp 45) (.tmp 48) 35 rfl 1 3 _ 8 uInts iInt (by decide) rfl (by decide) (.slice (some ⟨wq.heap.size,0,none⟩) 0 0) 0 (izC []) rfl (Or.inr ⟨wq.heap.size,0,#[],rfl,heap_alloc_new _ _,Nat.le_refl _,Nat.zero_le _,rfl,fun i hi=>absurd hi (Nat.not_lt_zero _)⟩) (fun _ _=>rfl) _ 0 _ rfl [] rfl (by simp) (by simp) (Or.inr (by simp)) (by omega) (izC ([]:List Int)) (fun i hi=>absurd hi (Nat.not_lt_zero _)) (fun i hi=>absurd hi (Nat.not_lt_zero _)) ?_
        intro v6 w6 hol6 hap6 hne6;obtain⟨k1,k2,k3⟩:=(HREST.out _).rest_ hap6;obtain⟨a6,c6,hv6,-,-,-,-⟩:=hol6.shape;rw[Nat.zero_add]at hv6 hol6;subst hv6;have H6:Hid (YS w w6 (.slice (some ⟨g,0,none⟩) k cL) s∧OL 1 3 w6 (.slice a6 0 c6) 0 (izC [])∧(∀c,(Value.slice a6 0 c6).ownBlock=some c→(Value.slice (some ⟨g,0,none⟩) k cL).ownBlock≠some c)∧OL 1 3 (w6.drew.alloc (.cells #[.int .i64 x] 3 (0,0))) (.slice (some ⟨g,0,none⟩) k cL) k (izC s)) :=
         ⟨k1,hol6,k3,(by have h9:=k1.list;rw[HKE.out]at h9;exact h9.stay fun b hb=>Below.heap_alloc w6.drew _ b (h9.lt hb))⟩
        clear hol6 hap6 hne6 k1 k2 k3;obtain⟨cx6,lb6⟩:=HCX.out w6 _ H6.out.1;have HI:Hid ((∀i,i<k→izC (s++[x]) i=izC s i)∧izC (s++[x]) k=[.int .i64 x]):=by
         have h9:=izC_facts s s.length x (Nat.le_refl _);rw[List.take_length,HKE.out]at h9;exact⟨h9.1,h9.2.1⟩
        have HPU:Hid (∀v7 w7,OL 1 3 w7 v7 (k+1) (izC (s++[x]))→App (.slice (some ⟨g,0,none⟩) k cL) v7 (w6.drew.alloc (.cells #[.int .i64 x] 3 (0,0))) w7→(∃q7 c7,v7=.slice q7 (k+1) c7)∧Hid (OL 1 3 w7 v7 (k+1) (izC (s++[x]))∧App (.slice (some ⟨g,0,none⟩) k cL) v7 w6 w7∧OL 1 3 w7 (.slice a6 0 c6) 0 (izC []))):=by
         intro v7 w7 h7 p7;have hbl:Below w6.heap.size w6 (w6.drew.alloc (.cells #[.int .i64 x] 3 (0,0))):=⟨rfl,rfl,rfl,by simp,fun b9 hb9=>Below.heap_alloc w6.drew _ b9 hb9⟩
         have p6:=Euf_ofBelow p7 hbl;obtain⟨q7,c7,hv7,-⟩:=h7.shape;exact⟨⟨q7,c7,hv7⟩,h7,p6,H6.out.2.1.stay fun c hc=>p6.other c (H6.out.2.1.lt hc) (fun e=>H6.out.2.2.1 c hc e)⟩
        have HFI:Hid (∀v7 v8 w7 w8,App (.slice (some ⟨g,0,none⟩) k cL) v7 w6 w7→App v7 v8 w7 w8→OL 1 3 w8 v8 (k+1+0) (izC (s++[x]))→∃q8 n8 c8,v8=.slice q8 n8 c8∧Hid (YS w w8 v8 (s++[x]))):=by
         intro v7 v8 w7 w8 p1 p2 h8;rw[show k+1+0=(s++[x]).length by rw[List.length_append,HKE.out];rfl]at h8
         obtain⟨q8,c8,hv8,-⟩:=h8.shape;exact⟨q8,_,c8,hv8,H6.out.1.fin (vk:=(.slice (some ⟨g,0,none⟩) k cL)) (fun c hc=>hc) p1 p2 h8⟩
        go_wp2;go_region_law (first|(refine step_push rfl (.tmp 52) (.tmp 57) 35 rfl 1 3 _ 8 uInts iInt (by decide) rfl (by decide) (.slice (some ⟨g,0,none⟩) k cL) k (izC s) (by kernel_rfl) H6.out.2.2.2 (fun _ _=>rfl) [.int .i64 x] 3 (.slice (some ⟨w6.drew.heap.size,0,none⟩) 1 1) (one5_alloc _ _ _) (by kernel_rfl) rfl (by intro u hu;simp at hu;subst hu;rfl) (by omega) (izC (s++[x])) HI.out.1 HI.out.2 ?_;intro v7 w7 hol7 hap7 hne7;obtain⟨⟨q7,c7,rfl⟩,H7⟩:=HPU.out v7 w7 hol7 hap7;clear hol7 hap7 hne7)|(refine step_app rfl (.tmp 58) (.tmp 59) 35 rfl 1 3 _ 8 uInts iInt (by decide) rfl (by decide) (.slice q7 (k+1) c7) (k+1) (izC (s++[x])) (by kernel_rfl) H7.out.1 (fun _ _=>rfl) (.slice a6 0 c6) 0 (izC []) (by kernel_rfl) H7.out.2.2 (fun _ _=>rfl) (flat_one _ _) (by omega) (izC (s++[x])) (fun i hi=>rfl) (fun i hi=>absurd hi (Nat.not_lt_zero _)) ?_;intro v8 w8 hol8 hap8;obtain⟨q8,n8,c8,rfl,H8⟩:=HFI.out _ v8 w7 w8 H7.out.2.1 hap8 hol8;clear hol8 hap8))
        all_goals
         go_wp2;go_roundw
         case rel=>exact⟨i+1,s++[x],by go_num,by omega,H8.out,HSN.out⟩
         case measure=>simp[intOf]<;>omega
  ·
   have hltI:¬ (i:Int)<(n:Int):=by omega
   obtain rfl:i=n:=by omega
   have HF:Hid (SetB zs s):=by have:=HY.out.2;rw[List.take_of_length_le (by omega)]at this;exact this
   go_wp2;go_ret
   exact⟨_,rfl,s,HF.out,HY.out.1.list,HY.out.1.own,HY.out.1.bel⟩
end Sat
end Go.Proofs.YtbmkkhpoaicclabGreat
