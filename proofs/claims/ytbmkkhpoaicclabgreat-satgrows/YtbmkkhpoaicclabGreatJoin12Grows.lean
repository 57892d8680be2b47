/- Joined: SatSl, SatBl, SatBw, SatT: words and contracts; no statement of the seat is proved here. -/
import Derived.Test.YtbmkkhpoaicclabGreatJoin11Grows
import Derived.Test.YtbmkkhpoaicclabGreatJoin10Grows
namespace Go.Proofs.YtbmkkhpoaicclabGreat
open Go.RowKit
set_option linter.unusedVariables false
namespace Sat
open Euf (OL App)
structure SL (g:Nat) (dB:Dt) (aB:Key→Value) (w0:World) (d:Dt) (a:Key→Value) (v:Value) (A:List Nat) (w:World):Prop where
  sw:SW w g d a
  mo:Mo g dB aB w0 d a w
  nb:∀b,v.ownBlock=some b→¬ Fo g d a b∧w0.heap.size≤b
  ol:OL 1 106 w v A.length (i32C A)
section
variable {g:Nat} {dB:Dt} {aB:Key→Value} {w0:World} {d d':Dt} {a a':Key→Value} {v v':Value} {A:List Nat} {w w':World}
theorem SL.call (s:SL g dB aB w0 d a v A w) (h:SW w' g d' a') (m:Mo g d a w d' a' w'):SL g dB aB w0 d' a' v A w' :=
  ⟨h,s.mo.trans m,fun b hb=>⟨fun hf=>by
    rcases m.fo b hf with h9|h9
    · exact (s.nb b hb).1 h9
    · have:=s.ol.lt hb;omega,(s.nb b hb).2⟩,s.ol.stay (fun b hb=>m.mv.other b (s.ol.lt hb) (s.nb b hb).1)⟩
theorem SL.below (s:SL g dB aB w0 d a v A w) (hb:Below w.heap.size w w'):SL g dB aB w0 d a v A w' :=
  ⟨s.sw.below hb,s.mo.below hb,s.nb,s.ol.stay (fun b h=>hb.block b (s.ol.lt h))⟩
theorem SL.drewN (s:SL g dB aB w0 d a v A w) (n:Nat):SL g dB aB w0 d a v A (w.drewN n):=⟨s.sw.drewN n,s.mo.drewN n,s.nb,s.ol.stay (fun _ _=>rfl)⟩
theorem i32C_oth (A:List Nat) (i m x:Nat) (hm:m≠i):i32C (A.set i x) m=i32C A m:=by simp[i32C,List.getElem?_set_ne (Ne.symm hm)]
theorem i32C_st (A:List Nat) (i x:Nat) (hi:i<A.length):i32C (A.set i x) i=(i32C A i).set 0 (.int .i32 (x:Nat)):=by simp[i32C,hi]
theorem SL.set {b cap i:Nat} (s:SL g dB aB w0 d a (.slice (some ⟨b,0,none⟩) A.length cap) A w) (hi:i<A.length) (x:Nat):SL g dB aB w0 d a (.slice (some ⟨b,0,none⟩) A.length cap) (A.set i x) (w.setCell ⟨b,i,none⟩ (.int .i32 (x:Nat))):=by
 have hb:(Value.slice (some ⟨b,0,none⟩) A.length cap).ownBlock=some b:=rfl;refine⟨s.sw.keep (fun c hc=>heap_setCell_other w ⟨b,i,none⟩ c _ (fun e=>?_)),⟨s.mo.mv.set (a:=⟨b,i,none⟩) (Or.inr (s.nb b hb).2) _,s.mo.fo,s.mo.ad,s.mo.nn⟩,s.nb,?_⟩
 · have e':c=b:=e;exact (s.nb b hb).1 (e' ▸ hc)
 ·
  have h9:=s.ol.set (i:=i) (j:=0) hi (by decide) (.int .i32 (x:Nat)) (f':=i32C (A.set i x)) (fun _ _=>rfl) (i32C_st A i x hi) (fun k _ hk=>i32C_oth A i k x hk)
  rw[Nat.mul_one]at h9;rw[List.length_set];exact h9
theorem SL.get {b cap n:Nat} (s:SL g dB aB w0 d a (.slice (some ⟨b,0,none⟩) n cap) A w):n=A.length∧b<w.heap.size∧n≤cap∧cap≤maxLen∧(∀i (hi:i<A.length),w.cell? ⟨b,i,none⟩=some (.int .i32 (A[i]:Nat)))∧∀o,w.frozen? ⟨b,o,none⟩=false:=by
 obtain⟨q,cap',e,h1,h2,-,-⟩:=s.ol.shape;simp only[Value.slice.injEq]at e;obtain⟨rfl,rfl,rfl⟩:=e;refine⟨rfl,s.ol.lt rfl,h1,h2,fun i hi=>?_,s.ol.frozen⟩
 have h9:=s.ol.cell (j:=0) hi (by decide)
 rw[Nat.mul_one]at h9;rw[Nat.add_zero]at h9;rw[h9];simp[i32C,hi]
theorem SL.push {x:Nat} {w1:World} (s:SL g dB aB w0 d a v A w) (hap:App v v' w w1) (hol:OL 1 106 w1 v' (A.length+1) (i32C (A++[x]))):SL g dB aB w0 d a v' (A++[x]) w1:=by
 refine⟨s.sw.keep (fun c hc=>hap.other c (s.sw.foLt hc) (fun e=>(s.nb c e).1 hc)),⟨s.mo.mv.app hap (fun b hb=>Or.inr (s.nb b hb).2),s.mo.fo,s.mo.ad,s.mo.nn⟩,fun b hb=>?_,by rw[List.length_append];exact hol⟩
 rcases hap.at_ with e|⟨b',e1,e2⟩
 · exact s.nb b (by rw[← e];exact hb)
 · rw[e1]at hb;injection hb with hb;subst hb;exact⟨fun hf=>by have:=s.sw.foLt hf;omega,Nat.le_trans s.mo.mv.size e2⟩
end
theorem wpList_push_room {P:Program} {w:World} {ops:Array Oper} {rest:List Oper} {o:Oper} {act:Act} {Q:Exit→Act→World→Prop} (hgd:o.guard=none) (s x:Operand) (t:TypeId) (hop:o.op=.call { callee:=.builtin .append,args:=#[s,x],argTypes:=#[t,t] })
  (e:TypeId) (h1:P.underlying t=some (.slice e)) (h2:(P.info? e).map (·.size)=some 1) (b k cap:Nat) (hs:act.eval s=.slice (some ⟨b,0,none⟩) k cap) (u:Value) (te:TypeId) (c:Nat) (hx:act.eval x=.slice (some ⟨w.heap.size,0,none⟩) 1 c) (ho:u.oneCell'=true) (hroom:k+1≤cap) (z:Value) (hc:w.cell? ⟨b,k,none⟩=some z) (hf:w.frozen? ⟨b,k,none⟩=false) (hb:b<w.heap.size)
  (h:wpList P ops Q rest (act.put o.dst (.slice (some ⟨b,0,none⟩) (k+1) cap)) ((w.alloc (.cells #[u] te (0,0))).setCell ⟨b,k,none⟩ u)):wpList P ops Q (o::rest) act (w.alloc (.cells #[u] te (0,0))):=by
 cases hq:P.info? e with
 | none=>simp[hq]at h2
 | some i =>
  have hi:i.size=1:=by simpa [hq] using h2
  have hcell:∀(o:Nat),(w.alloc (.cells #[u] te (0,0))).cell? ⟨b,o,none⟩=w.cell? ⟨b,o,none⟩:=fun o=>by simp[World.cell?,Below.heap_alloc w _ b hb]
  have hfro:∀(o:Nat),(w.alloc (.cells #[u] te (0,0))).frozen? ⟨b,o,none⟩=w.frozen? ⟨b,o,none⟩:=fun o=>by simp[World.frozen?,Below.heap_alloc w _ b hb]
  have hrun:=run_append_room_cells (P:=P) (w.alloc (.cells #[u] te (0,0))) t o.type e i h1 hq b 0 k cap ⟨w.heap.size,0,none⟩ 1 c [u] (by simp[hi]) (Euf.cell_new_list w [u] te) (by intro u' hu;simp at hu;subst hu;exact ho) hroom
   (fun j hj=>by
    have:j=0:=by simpa using hj
    subst this;rw[hi,Nat.zero_add,Nat.mul_one,Nat.add_zero,hcell,hc];rfl)
   (fun j hj=>by
    have:j=0:=by simpa using hj
    subst this;rw[hi,Nat.zero_add,Nat.mul_one,Nat.add_zero,hfro,hf])
  refine wpList_plain hgd fun K hK'=>?_
  unfold Oper.wp;simp[execOp,hop,resolve,invoke,builtin,hs,hx,hrun,Result.andThen];refine hK' _ _ ?_;have e9:(w.alloc (.cells #[u] te (0,0))).setCells b (k*i.size) [u]=(w.alloc (.cells #[u] te (0,0))).setCell ⟨b,k,none⟩ u:=by rw[hi,Nat.mul_one];rfl
  rw[e9];exact h
theorem iLit1:(Tryz.prog.info? 106).map (·.size)=some 1:=by kernel_rfl
theorem SL.take {g:Nat} {dB:Dt} {aB:Key→Value} {w0:World} {d:Dt} {a:Key→Value} {A L:List Nat} {w:World} {b cap n:Nat} (s:SL g dB aB w0 d a (.slice (some ⟨b,0,none⟩) n cap) A w) (k:Nat) (hk:k≤n) (hL:A.take k=L):SL g dB aB w0 d a (.slice (some ⟨b,0,none⟩) k cap) L w:=by
 have hn:=s.get.1;have hl:L.length=k:=by rw[← hL,List.length_take];omega
 refine⟨s.sw,s.mo,s.nb,?_⟩;have h0:=s.ol;rw[← hn]at h0;have h9:=h0.take k hk;rw[hl];refine h9.congr (fun i hi=>?_)
 unfold i32C;rw[List.getD_eq_getElem?_getD,List.getD_eq_getElem?_getD,← hL,List.getElem?_take,if_pos hi]
structure ShI (g:Nat) (dB:Dt) (aB:Key→Value) (w0:World) (d0:Dt) (M0:Nat→Int) (x:Nat) (out:List Nat) (b cap:Nat) (j:Nat) (d:Dt) (a:Key→Value) (A o:List Nat) (w:World):Prop where
  sl:SL g dB aB w0 d a (.slice (some ⟨b,0,none⟩) (out.length+1) cap) A w
  ji:JI g d0 d a w
  ex:Ext M0 d.M
  tk:A.take (o.length+1)=x::o
  le:o.length≤j
  re:∀p,j+1≤p→A[p]?=(x::out)[p]?
  su:o.Sublist (out.take j)
  fo:∀m∈out.take j,m ∉ o→Fol d0.F d0.C d.M (m / 2)
section
variable {g:Nat} {dB:Dt} {aB:Key→Value} {w0:World} {d0:Dt} {M0:Nat→Int} {x:Nat} {out:List Nat} {b cap j:Nat} {d d':Dt} {a a':Key→Value} {A o:List Nat} {w w':World}
theorem ShI.len (h:ShI g dB aB w0 d0 M0 x out b cap j d a A o w):A.length=out.length+1:=h.sl.get.1.symm
theorem ShI.call (h:ShI g dB aB w0 d0 M0 x out b cap j d a A o w) {n:Nat} (e:JE g d0 d a w n d' a' w'):ShI g dB aB w0 d0 M0 x out b cap j d' a' A o w' :=
  { h with sl:=h.sl.call e.ji.sw e.mo,ji:=e.ji,ex:=h.ex.trans e.ex,fo:=fun m h1 h2=>(h.fo m h1 h2).ext e.ex }
theorem ShI.skip (h:ShI g dB aB w0 d0 M0 x out b cap j d a A o w) (hj:j<out.length) {l:Nat} (hl:out[j]=l) (hf:Fol d0.F d0.C d.M (l / 2)):ShI g dB aB w0 d0 M0 x out b cap (j+1) d a A o w:=by
 have e:out.take (j+1)=out.take j++[l]:=by rw[List.take_succ_eq_append_getElem hj,hl]
 refine { h with le:=Nat.le_succ_of_le h.le,re:=fun p hp=>h.re p (by omega),su:=by rw[e];exact h.su.trans (List.sublist_append_left _ _),fo:=fun m h1 h2=>?_ }
 rw[e]at h1;rcases List.mem_append.1 h1 with h1|h1
 · exact h.fo m h1 h2
 · simp at h1;subst h1;exact hf
theorem ShI.keep (h:ShI g dB aB w0 d0 M0 x out b cap j d a A o w) (hj:j<out.length) {l:Nat} (hl:out[j]=l):ShI g dB aB w0 d0 M0 x out b cap (j+1) d a (A.set (o.length+1) l) (o++[l]) (w.setCell ⟨b,o.length+1,none⟩ (.int .i32 (l:Nat))):=by
 have e:out.take (j+1)=out.take j++[l]:=by rw[List.take_succ_eq_append_getElem hj,hl]
 have hA:=h.len;have hlo:=h.le;have sl:SL g dB aB w0 d a (.slice (some ⟨b,0,none⟩) (out.length+1) cap) (A.set (o.length+1) l) (w.setCell ⟨b,o.length+1,none⟩ (.int .i32 (l:Nat))):=by
  have h9:=h.sl;rw[← hA]at h9 ⊢;exact h9.set (by omega) l
 refine { sl:=sl,ji:=⟨sl.sw,h.ji.fm,h.ji.mk_,h.ji.jm⟩,ex:=h.ex,tk:=?_,le:=by simp;omega,re:=fun p hp=>?_,su:=by rw[e];exact h.su.append (List.Sublist.refl _),fo:=fun m h1 h2=>?_ }
 ·
  rw[List.length_append,List.length_singleton,List.take_succ_eq_append_getElem (by rw[List.length_set];omega),List.take_set_of_le (by omega),h.tk]
  simp
 · rw[List.getElem?_set_ne (by omega)];exact h.re p (by omega)
 ·
  rw[e]at h1;simp only[List.mem_append,List.mem_singleton,not_or]at h2;rcases List.mem_append.1 h1 with h1|h1
  · exact h.fo m h1 h2.1
  · simp at h1;exact absurd h1 h2.2
end
def ShEnd (g:Nat) (dB:Dt) (aB:Key→Value) (w0:World) (d0:Dt) (M0:Nat→Int) (x:Nat) (out:List Nat) (b cap:Nat) (e:Ending) (w':World):Prop :=
  ∃d a o,e=.returned (.slice (some ⟨b,0,none⟩) (o.length+1) cap)∧SL g dB aB w0 d a (.slice (some ⟨b,0,none⟩) (o.length+1) cap) (x::o) w'∧JI g d0 d a w'∧Ext M0 d.M∧o.Sublist out∧∀m∈out,m ∉ o→Fol d0.F d0.C d.M (m / 2)
set_option maxRecDepth 20000 in
set_option maxHeartbeats 16000000 in
theorem shorten_any (g:Nat) (dB:Dt) (aB:Key→Value) (w0:World) (d0 d:Dt) (a:Key→Value) (x:Nat) (out:List Nat) (b cap:Nat) (w:World) (hsl:SL g dB aB w0 d a (.slice (some ⟨b,0,none⟩) (out.length+1) cap) (x::out) w) (hji:JI g d0 d a w) (ti:TI d0.nv d0.V d0.T d0.S d0.F d0.nc d0.C) (ci:CI d0.nv d0.nc d0.C) (hn:d0.nv≤5000) (hnc:d0.nc≤100000000) (hout:∀m∈out,ng m∈d0.T) (hol:out.length≤10000) :
  Calls Tryz.prog 96 #[.pointer (some ⟨g,0,none⟩),.slice (some ⟨b,0,none⟩) (out.length+1) cap] w fun e w'=>ShEnd g dB aB w0 d0 d.M x out b cap e w':=by
 obtain⟨-,lb,hcap,hcm,-,-⟩:=hsl.get;obtain⟨n,hnn⟩:∃n,out.length=n:=⟨_,rfl⟩;have HN:=hide hnn;have H0:Hid (ShI g dB aB w0 d0 d.M x out b cap 0 d a (x::out) [] w):=⟨hsl,hji,Ext.refl _,by simp,Nat.le_refl _,fun _ _=>rfl,by simp,fun m h1=>by simp at h1⟩
 have HTC:=hide (And.intro ti (And.intro ci hout));have hcap1:(1:Int)≤(cap:Int):=by omega
 have hcap1N:1≤cap:=by omega
 rw[hnn]at hcap;have hcapI:(n:Int)+1≤(cap:Int):=by omega
 have hn1:(1:Int)≤(n:Int)+1:=by omega
 clear hsl hji ti ci hout;rw[hnn];by_cases hc1:cap=1
 ·
  subst hc1;obtain rfl:n=0:=by omega
  have HE:Hid (ShEnd g dB aB w0 d0 d.M x out b 1 (.returned (.slice (some ⟨b,0,none⟩) 1 1)) w):=by
   have ho:out=[]:=List.eq_nil_of_length_eq_zero HN.out;have h9:=H0.out;subst ho;exact⟨d,a,[],rfl,h9.sl,h9.ji,h9.ex,List.Sublist.refl _,fun m hm=>by cases hm⟩
  clear H0 hnn;go_enter Tryz.func96,Tryz.ntmps96;go_wp2;go_loopw [5,13] (fun v5 v13 wr=>v13=.int .i64 0∧v5=.slice (some ⟨b,0,none⟩) 1 1∧w=wr) (fun _ _ _=>0)
  case atStart=>exact⟨rfl,rfl,rfl⟩
  case round =>
   rename World=>wl
   obtain⟨rfl,rfl,rfl⟩:=hrel;go_wp2;go_ret
   exact HE.out
 ·
  go_enter Tryz.func96,Tryz.ntmps96;go_wp2;go_loopw [5,13] (fun v5 v13 wr=>∃(j k:Nat) (d2:Dt) (a2:Key→Value) (A o:List Nat),v13=.int .i64 (j:Nat)∧v5=.slice (some ⟨b,0,none⟩) k cap∧j≤n∧Hid (k=o.length+1∧ShI g dB aB w0 d0 d.M x out b cap j d2 a2 A o wr)) (fun _ v _=>n - (intOf v).toNat)
  case atStart=>exact⟨0,1,d,a,_,[],rfl,rfl,Nat.zero_le _,rfl,H0.out⟩
  case round =>
   rename World=>wl
   clear H0 lb;obtain⟨j,k,d2,a2,A,o,rfl,rfl,hj,H⟩:=hrel;by_cases hlt:j<n
   ·
    have hltI:(j:Int)<(n:Int):=by omega
    have hlen:=H.out.2.len;obtain⟨-,lb,-,-,qA,zA⟩:=H.out.2.sl.get;have hjo:j<out.length:=by rw[HN.out];exact hlt
    have hAj:A[j+1]'(by omega)=out[j]:=by
     have h9:=H.out.2.re (j+1) (Nat.le_refl _);rw[List.getElem?_eq_getElem (by omega),List.getElem?_cons_succ,List.getElem?_eq_getElem hjo]at h9
     exact Option.some.inj h9
    have qj:=qA (j+1) (by omega)
    rw[hAj]at qj;obtain⟨l,hl⟩:∃l,out[j]=l:=⟨_,rfl⟩;rw[hl]at qj;rw[Nat.add_comm j 1]at qj;have hlm:l∈out:=by rw[← hl];exact List.getElem_mem hjo
    obtain⟨i,hi,ei⟩:=List.mem_iff_getElem.1 (HTC.out.2.2 l hlm);have hok:=HTC.out.1.ok _ (List.getElem_mem hi);rw[ei]at hok;have hl2:l<20000:=by have:=ng_lt hok.2;rw[ng_ng]at this;omega
    have hiv:d0.T[i] / 2=l / 2:=by rw[ei,ng_var]
    have HFO:=hide (follows_any g d0 d2 a2 wl i hi HTC.out.1 HTC.out.2.1 hn hnc H.out.2.ji);rw[hiv]at HFO;have HVC:=hide (fun w9=>variable_any l w9 hl2)
    obtain⟨u,hu⟩:∃u,l / 2=u:=⟨_,rfl⟩;rw[hu]at HFO HVC;have HU:=hide hu;have HJ:Hid (∃hjo:j<out.length,out[j]=l):=⟨hjo,hl⟩;have hlg:=H.out.2.sl.sw.lt;have HKE:=hide H.out.1;have hkn:k≤n:=by have h8:=H.out.1;have h9:=H.out.2.le;omega
    have hkA:k<A.length:=by omega
    clear qA zA hAj hlm ei hiv hu hl hjo hok;go_wp2_with (first|(go_at_call 62;refine (HVC.out _).mono ?_;rintro e w9 ⟨rfl,hw9⟩;obtain rfl:=hw9.symm)|fail)
    refine HFO.out.mono ?_;rintro e w3 ⟨bb,d3,a3,rfl,hje,hfol⟩;have H3:=hide (H.out.2.call hje);have HF3:=hide hfol;cases bb with
    | true =>
     have HE:=hide (H3.out.skip HJ.out.1 HJ.out.2 (by rw[HU.out];exact HF3.out rfl))
     clear hje hfol HFO HVC;go_wp2;go_roundw
     case rel=>exact⟨j+1,k,d3,a3,A,o,by go_num,rfl,by omega,HKE.out,HE.out⟩
     case measure=>simp[intOf]<;>omega
    | false =>
     obtain⟨-,lb3,-,-,qA3,zA3⟩:=H3.out.sl.get;obtain⟨z,qk⟩:∃z,w3.cell? ⟨b,k,none⟩=some z:=⟨_,qA3 k hkA⟩;have zk:=zA3 k;have hkc:k+1≤cap:=by omega
     have HE:Hid (ShI g dB aB w0 d0 d.M x out b cap (j+1) d3 a3 (A.set k l) (o++[l]) ((w3.alloc (.cells #[.int .i32 (l:Nat)] 106 (0,0))).setCell ⟨b,k,none⟩ (.int .i32 (l:Nat)))):=by
      have h4:ShI g dB aB w0 d0 d.M x out b cap j d3 a3 A o (w3.alloc (.cells #[.int .i32 (l:Nat)] 106 (0,0))):=by
       have hbl:Below w3.heap.size w3 (w3.alloc (.cells #[.int .i32 (l:Nat)] 106 (0,0))):=⟨rfl,rfl,rfl,by simp,fun b9 hb9=>Below.heap_alloc w3 _ b9 hb9⟩
       have h5:=H3.out;exact { h5 with sl:=h5.sl.below hbl,ji:=⟨h5.ji.sw.below hbl,h5.ji.fm,h5.ji.mk_,h5.ji.jm⟩ }
      have h6:=h4.keep HJ.out.1 HJ.out.2;rw[← HKE.out]at h6;exact h6
     have HKE2:Hid (k+1=(o++[l]).length+1):=by show _=_;rw[List.length_append,HKE.out];rfl
     clear hje hfol HFO HVC qA3 zA3 H3 H lb qj;go_wp2_with (at_builtin;refine Euf.Stop.of ?_)
     show wpList _ _ _ _ _ _
     refine wpList_push_room rfl (.tmp 22) (.tmp 24) 61 rfl 106 uLits iLit1 b k cap rfl (.int .i32 (l:Nat)) 106 1 rfl rfl hkc _ qk zk lb3 ?_;generalize (w3.alloc (.cells #[.int .i32 (l:Nat)] 106 (0,0))).setCell ⟨b,k,none⟩ (.int .i32 (l:Nat))=w4 at HE ⊢;clear qk zk lb3;go_wp2;go_roundw
     case rel=>exact⟨j+1,k+1,d3,a3,_,_,by go_num,rfl,by omega,HKE2.out,HE.out⟩
     case measure=>simp[intOf]<;>omega
   ·
    have hltI:¬ ((j:Int)<(n:Int)):=by omega
    obtain rfl:j=n:=by omega
    have HE:Hid (ShEnd g dB aB w0 d0 d.M x out b cap (.returned (.slice (some ⟨b,0,none⟩) k cap)) wl):=by
     have hke:=H.out.1;have h9:=H.out.2;have ht:out.take j=out:=by rw[← HN.out];exact List.take_length
     have hlo:=h9.su.length_le;rw[ht]at hlo;refine⟨d2,a2,o,by rw[hke],?_,h9.ji,h9.ex,by have:=h9.su;rwa [ht]at this,fun m hm hno=>h9.fo m (by rw[ht];exact hm) hno⟩
     have h8:=h9.sl;exact h8.take (o.length+1) (by omega) h9.tk
    clear H;go_wp2;go_ret
    exact HE.out
end Sat
namespace Sat
open Euf (OL App)
structure BM (d d2:Dt):Prop where
  eq:d2={ d with F:=d2.F,mks:=d2.mks,hp:=d2.hp,at_:=d2.at_,bz:=d2.bz,wt:=d2.wt }
  fm:∀v,d2.F v=(d.F v).mk_ (d2.F v).mark
  oi:OI d.nv d2.hp d2.at_
  pm:d2.hp.Perm d.hp
section
variable {d d2:Dt}
theorem BM.refl (o:OI d.nv d.hp d.at_):BM d d:=⟨rfl,fun _=>rfl,o,List.Perm.refl _⟩
theorem BM.nv (h:BM d d2):d2.nv=d.nv:=by rw[h.eq]
theorem BM.nc (h:BM d d2):d2.nc=d.nc:=by rw[h.eq]
theorem BM.C (h:BM d d2):d2.C=d.C:=by rw[h.eq]
theorem BM.T (h:BM d d2):d2.T=d.T:=by rw[h.eq]
theorem BM.level (h:BM d d2) (v:Nat):(d2.F v).level=(d.F v).level:=by rw[h.fm v]
theorem BM.reason (h:BM d d2) (v:Nat):(d2.F v).reason=(d.F v).reason:=by rw[h.fm v]
theorem BM.mark_ (h:BM d d2) (v:Nat) (m:Int) (l:List Nat):BM d { d2 with F:=upd d2.F v ((d2.F v).mk_ m),mks:=l }:=by
 refine⟨by rw[h.eq],fun u=>?_,h.oi,h.pm⟩
 show upd d2.F v _ u=(d.F u).mk_ (upd d2.F v _ u).mark
 by_cases e:u=v
 · subst e;rw[upd_same,h.fm u]
 · rw[upd_other _ _ e];exact h.fm u
theorem BM.ord (h:BM d d2) {hp':List Nat} {at':Nat→Nat} {bz':Nat→Int} {wt':Int} (o:OI d.nv hp' at') (p:hp'.Perm d2.hp):BM d { d2 with hp:=hp',at_:=at',bz:=bz',wt:=wt' }:=⟨by rw[h.eq],h.fm,o,p.trans h.pm⟩
theorem BM.base (h:BM d d2):FM { d with hp:=d2.hp,at_:=d2.at_,bz:=d2.bz,wt:=d2.wt } d2:=⟨h.eq,h.fm⟩
end
structure BLI (g:Nat) (d:Dt) (a:Key→Value) (w:World) (clash:Nat) (E out pre:List Nat) (from_ at_:Nat) (d2:Dt) (a2:Key→Value) (v:Value) (wr:World):Prop where
  sl:SL g d a w d2 a2 v (0::out) wr
  bm:BM d d2
  mk_:MK d2
  bi:BI d.nv d.T d.S d.F d.nc d.C clash d2.M E out from_ pre at_
  ne:E≠[]∨∀u,d2.M u≠2
section
variable {g:Nat} {d:Dt} {a:Key→Value} {w:World} {clash:Nat} {E out pre:List Nat} {from_ at_:Nat} {d2:Dt} {a2:Key→Value} {v v':Value} {wr wr':World}
theorem BLI.drewN (h:BLI g d a w clash E out pre from_ at_ d2 a2 v wr) (n:Nat):BLI g d a w clash E out pre from_ at_ d2 a2 v (wr.drewN n):={ h with sl:=h.sl.drewN n }
theorem BLI.skip (h:BLI g d a w clash E out pre from_ at_ d2 a2 v wr) {l:Nat} (hl:d2.M (l / 2)≠0∨(d.F (l / 2)).level=0):BLI g d a w clash E out (pre++[l]) from_ at_ d2 a2 v wr:={ h with bi:=h.bi.skip hl }
theorem BLI.marked (h:BLI g d a w clash E out pre from_ at_ d2 a2 v wr) (ti:TI d.nv d.V d.T d.S d.F d.nc d.C) {l:Nat} (hl:l∈(d.C from_).lits) (h0:d2.M (l / 2)=0) (hz:(d.F (l / 2)).level≠0) (hv:l / 2≤d.nv) {a3:Key→Value} {w3 w4:World}
  (s3:SW w3 g { d2 with F:=upd d2.F (l / 2) ((d2.F (l / 2)).mk_ 1),mks:=d2.mks++[l / 2] } a3) (m3:Mo g d2 a2 wr { d2 with F:=upd d2.F (l / 2) ((d2.F (l / 2)).mk_ 1),mks:=d2.mks++[l / 2] } a3 w3)
  {hp':List Nat} {at':Nat→Nat} {bz':Nat→Int} {wt':Int} (s4:SW w4 g { d2 with F:=upd d2.F (l / 2) ((d2.F (l / 2)).mk_ 1),mks:=d2.mks++[l / 2],hp:=hp',at_:=at',bz:=bz',wt:=wt' } a3) (m4:Mo g { d2 with F:=upd d2.F (l / 2) ((d2.F (l / 2)).mk_ 1),mks:=d2.mks++[l / 2] } a3 w3 { d2 with F:=upd d2.F (l / 2) ((d2.F (l / 2)).mk_ 1),mks:=d2.mks++[l / 2],hp:=hp',at_:=at',bz:=bz',wt:=wt' } a3 w4) (o4:OI d2.nv hp' at') (p4:hp'.Perm d2.hp) :
  ∃d4,d4.nv=d.nv∧(∀u,(d4.F u).level=(d.F u).level)∧SL g d a w d4 a3 v (0::out) w4∧BM d d4∧MK d4∧BI d.nv d.T d.S d.F d.nc d.C clash d4.M (if (d.F (l / 2)).level=d.S.length then E++[l / 2] else E) (if (d.F (l / 2)).level=d.S.length then out else out++[l]) from_ (pre++[l]) at_∧(E≠[]∨∀u,d4.M u≠2)∧Mo g d a w d4 a3 w4:=by
 have bm3:=h.bm.mark_ (l / 2) 1 (d2.mks++[l / 2]);have mk3:=h.mk_.mark_ (v:=l / 2) (m:=1) h0 (by rw[h.bm.nv];exact hv) (by decide)
 have bm4:=bm3.ord (bz':=bz') (wt':=wt') (by rw[← h.bm.nv];exact o4) p4
 have sl4:=(h.sl.call s3 m3).call s4 m4;have eM:({ d2 with F:=upd d2.F (l / 2) ((d2.F (l / 2)).mk_ 1),mks:=d2.mks++[l / 2],hp:=hp',at_:=at',bz:=bz',wt:=wt' }:Dt).M=upd d2.M (l / 2) 1:=M_upd d2 (l / 2) 1 (d2.mks++[l / 2]);refine⟨_,bm4.nv,fun u=>bm4.level u,sl4,bm4,⟨mk3.nd,mk3.iff_,mk3.le⟩,by rw[eM];exact h.bi.mark ti hl h0 hz,?_,sl4.mo⟩
 rcases h.ne with h9|h9
 · exact Or.inl h9
 ·
  right
  intro u;rw[eM];by_cases e:u=l / 2
  · rw[e,upd_same];decide
  · rw[upd_other _ _ e];exact h9 u
theorem BLI.there (h:BLI g d a w clash E out (d.C from_).lits from_ at_ d2 a2 v wr) (two:∃m∈(d.C clash).lits,(d.F (m / 2)).level=(d.S.length:Int)) (hS:d.S≠[]):E≠[]:=by
 rcases h.ne with h9|h9
 · exact h9
 ·
  obtain⟨m,hm,hlv⟩:=two;have hpos:d.S.length≠0:=fun e=>hS (List.length_eq_zero_iff.1 e)
  have hM:d2.M (m / 2)≠0:=by
   rcases h.bi.cl m hm with⟨e1,e2⟩|e|e
   · subst e1;exact absurd hm e2
   · omega
   · exact e
  have h1:d2.M (m / 2)=1:=by
   rcases h.bi.va (m / 2) with e|e|e
   · exact absurd e hM
   · exact e
   · exact absurd e (h9 _)
  exact List.ne_nil_of_mem ((h.bi.le (m / 2)).2 ⟨h1,hlv⟩)
theorem BLI.lies (h:BLI g d a w clash E out pre from_ at_ d2 a2 v wr) (hE:E≠[]):∃i,∃hi:i<d.T.length,i<at_∧d2.M (d.T[i] / 2)≠0:=by
 obtain⟨u,hu⟩:=List.exists_mem_of_ne_nil _ hE;obtain⟨h1,h2⟩:=(h.bi.le u).1 hu;obtain⟨i,hi,e,-,h3,-⟩:=h.bi.on u (by omega)
 exact⟨i,hi,h3 h1,by rw[e];omega⟩
def BlEnd (g:Nat) (d:Dt) (a:Key→Value) (clash:Nat) (w:World) (e:Ending) (w':World):Prop :=
  ∃d2 a2 x out b cap,e=.returned (.slice (some ⟨b,0,none⟩) (out.length+1) cap)∧SL g d a w d2 a2 (.slice (some ⟨b,0,none⟩) (out.length+1) cap) (x::out) w'∧BM d d2∧MK d2∧Bp d.T d.S d.F d.C clash d2.M x out
theorem BLI.done (h:BLI g d a w clash E out (d.C from_).lits from_ at_ d2 a2 v wr) (ti:TI d.nv d.V d.T d.S d.F d.nc d.C) (hc:∀m∈(d.C clash).lits,ng m∈d.T) {i:Nat} (hi:i<d.T.length) (hia:i<at_) (hm:d2.M (d.T[i] / 2)≠0) (hmax:∀j (hj:j<d.T.length),i<j→j<at_→d2.M (d.T[j] / 2)=0) (hE:E.length=1) {b cap n:Nat} (hv:v=.slice (some ⟨b,0,none⟩) n cap) :
  BlEnd g d a clash w (.returned v) (wr.setCell ⟨b,0,none⟩ (.int .i32 (ng d.T[i]:Nat))):=by
 have hne:E≠[]:=fun e=>by rw[e]at hE;simp at hE
 obtain⟨-,t2⟩:=h.bi.top ti hi hia hm hmax hne;have eE:E=[d.T[i] / 2]:=by
  match E,hE,t2 with
  | [u],_,t2=>simp at t2;rw[t2]
 have hn:=(by have:=h.sl;rw[hv]at this;exact this.get.1)
 have hn:n=out.length+1:=by simpa using hn
 subst hn;subst hv;refine⟨d2,a2,ng d.T[i],out,b,cap,rfl,?_,h.bm,h.mk_,h.bi.bp ti hc hi eE⟩;have h9:SL g d a w d2 a2 (.slice (some ⟨b,0,none⟩) (0::out).length cap) (0::out) wr:=h.sl;have h8:=h9.set (i:=0) (by simp) (ng d.T[i])
 simpa using h8
theorem BLI.next (h:BLI g d a w clash E out (d.C from_).lits from_ at_ d2 a2 v wr) (ti:TI d.nv d.V d.T d.S d.F d.nc d.C) {i:Nat} (hi:i<d.T.length) (hia:i<at_) (hm:d2.M (d.T[i] / 2)≠0) (hmax:∀j (hj:j<d.T.length),i<j→j<at_→d2.M (d.T[j] / 2)=0) (hE:1<E.length) {bF cF:Nat} (hF:a2 kFac=.slice (some ⟨bF,0,none⟩) (d.nv+1) cF) :
  ∃r,r<d.nc∧(d.F (d.T[i] / 2)).reason=(r:Int)∧∃d3,(∀u,(d3.F u).reason=(d.F u).reason)∧BLI g d a w clash (E.erase (d.T[i] / 2)) out [] r i d3 a2 v (wr.setCell ⟨bF,d.T[i] / 2*6+5,none⟩ (.int .i8 2))∧(E.erase (d.T[i] / 2)).length+1=E.length:=by
 have hne:E≠[]:=fun e=>by rw[e]at hE;simp at hE
 obtain⟨t1,t2⟩:=h.bi.top ti hi hia hm hmax hne;obtain⟨r,r1,r2,b2⟩:=h.bi.next ti hi hia t1 t2 hmax hE;have hvn:d.T[i] / 2<d2.nv+1:=by have:=ti.ok _ (List.getElem_mem hi);rw[h.bm.nv];omega
 have hF2:a2 kFac=.slice (some ⟨bF,0,none⟩) (d2.nv+1) cF:=by rw[h.bm.nv];exact hF
 obtain⟨s3,m3⟩:=h.sl.sw.setF hF2 hvn 5 (by decide) (.int .i8 2) ((d2.F (d.T[i] / 2)).mk_ 2) (by unfold facC;rw[upd_same];rfl)
 have bm3:=h.bm.mark_ (d.T[i] / 2) 2 d2.mks;have hl:(E.erase (d.T[i] / 2)).length+1=E.length:=by rw[List.length_erase_of_mem t2];omega
 refine⟨r,r1,r2,_,fun u=>bm3.reason u,⟨h.sl.call s3 m3,bm3,?_,by rw[M_upd];exact b2,Or.inl (fun e=>by rw[e]at hl;simp at hl;omega)⟩,hl⟩
 refine⟨h.mk_.nd,fun u=>?_,h.mk_.le⟩
 show u∈d2.mks↔(upd d2.F (d.T[i] / 2) _ u).mark≠0
 by_cases e:u=d.T[i] / 2
 · rw[e,upd_same,h.mk_.iff_];exact⟨fun _=>(show (2:Int)≠0 by decide),fun _=>hm⟩
 · rw[upd_other _ _ e];exact h.mk_.iff_ u
end
end Sat
namespace Sat
open Euf (OL App)
theorem ol_one (w:World) (x:Nat):OL 1 106 (w.alloc (.cells #[.int .i32 (x:Nat)] 106 (0,0))) (.slice (some ⟨w.heap.size,0,none⟩) 1 1) 1 (i32C [x]):=by
 refine Or.inr ⟨w.heap.size,1,#[.int .i32 (x:Nat)],rfl,heap_alloc_new w _,Nat.le_refl _,by decide,rfl,fun i hi j hj=>?_⟩
 obtain rfl:i=0:=by omega
 obtain rfl:j=0:=by omega
 rfl
section
variable {g:Nat} {d:Dt} {a:Key→Value} {w:World} {clash:Nat} {E out pre:List Nat} {from_ at_:Nat} {d2:Dt} {a2:Key→Value} {v v':Value} {wr wr':World}
theorem BLI.elen (h:BLI g d a w clash E out pre from_ at_ d2 a2 v wr) (ti:TI d.nv d.V d.T d.S d.F d.nc d.C):E.length≤d.nv+1:=nodup_le (d.nv+1) E h.bi.en (fun u hu=>by
  obtain⟨h1,-⟩:=(h.bi.le u).1 hu
  obtain⟨i,hi,e,-⟩:=h.bi.on u (by omega)
  have:=(ti.ok _ (List.getElem_mem hi)).2
  omega)
theorem BLI.olen (h:BLI g d a w clash E out pre from_ at_ d2 a2 v wr) (ti:TI d.nv d.V d.T d.S d.F d.nc d.C):out.length≤d.nv+1:=by
 have h9:=nodup_le (d.nv+1) (out.map (· / 2)) h.bi.nd (fun u hu=>by
  obtain⟨m,hm,rfl⟩:=List.mem_map.1 hu;have:=(ti.ok _ (h.bi.ou m hm).1).2;have h8:=ng_lt this;rw[ng_ng]at h8;omega)
 rwa [List.length_map]at h9
end
set_option maxRecDepth 20000 in
set_option maxHeartbeats 16000000 in
theorem blame_any (g:Nat) (d:Dt) (a:Key→Value) (clash:Nat) (w:World) (h:SW w g d a) (ti:TI d.nv d.V d.T d.S d.F d.nc d.C) (ci:CI d.nv d.nc d.C) (oi:OI d.nv d.hp d.at_) (hM:∀v,(d.F v).mark=0) (hmk:d.mks=[]) (hS:d.S≠[]) (hcl:clash<d.nc) (hf:∀m∈(d.C clash).lits,ng m∈d.T) (two:∃m∈(d.C clash).lits,(d.F (m / 2)).level=(d.S.length:Int)) (hn:d.nv≤5000) (hnc:d.nc≤100000000) :
  Calls Tryz.prog 95 #[.pointer (some ⟨g,0,none⟩),.int .i64 (clash:Nat)] w fun e w'=>BlEnd g d a clash w e w':=by
 have hTl:=ti.len;have hSl:=ti.lenS;have hlg:=h.lt;obtain⟨qS,cS,hSv,-,-,-⟩:=h.len (k:=kSta) (by exact⟨by decide,rfl⟩)
 obtain⟨qT,cT,hTv,-,-,-⟩:=h.len (k:=kTra) (by exact⟨by decide,rfl⟩)
 have c10:w.cell? ⟨g,10,none⟩=some (.slice qS d.S.length cS):=(h.cell 10).trans (congrArg some hSv);have c9:w.cell? ⟨g,9,none⟩=some (.slice qT d.T.length cT):=(h.cell 9).trans (congrArg some hTv);have hbl:Below w.heap.size w (w.alloc (.cells #[.int .i32 0] 106 (0,0))):=⟨rfl,rfl,rfl,by simp,fun b9 hb9=>Below.heap_alloc w _ b9 hb9⟩
 have H0:Hid (BLI g d a w clash [] [] [] clash d.T.length d a (.slice (some ⟨w.heap.size,0,none⟩) 1 1) (w.alloc (.cells #[.int .i32 0] 106 (0,0)))):=by
  refine⟨⟨h.below hbl,(Mo.refl _ _ _ _).below hbl,fun b hb=>?_,ol_one w 0⟩,BM.refl oi,⟨by rw[hmk];simp,fun v=>by rw[hmk,hM v];simp,fun v hv=>by rw[hmk]at hv;cases hv⟩,BI.start hcl hf hM,Or.inr (fun u=>by show (d.F u).mark≠2;rw[hM u];decide)⟩
  have e:w.heap.size=b:=by simpa [Value.ownBlock] using hb
  exact⟨fun hf=>by have:=h.foLt hf;omega,by omega⟩
 have HT:=hide (And.intro ti (And.intro ci (And.intro two (And.intro hS hf))));have HTV:Hid (a kTra=.slice qT d.T.length cT):=hTv;obtain⟨nS,hnS⟩:∃nS,d.S.length=nS:=⟨_,rfl⟩;obtain⟨nT,hnT⟩:∃nT,d.T.length=nT:=⟨_,rfl⟩;rw[hnS]at c10 hSl;rw[hnT]at c9 hTl H0 HTV;have HNS:=hide hnS;have HNT:=hide hnT;have HCL:=hide hcl;clear h ti ci oi hM hmk hS hf two hSv hTv hbl hnS hnT;go_enter Tryz.func95,Tryz.ntmps95;go_wp2;clear c10 c9 hlg;go_loopw [5,7,8,9] (fun v5 v7 v8 v9 wr=>∃(E out:List Nat) (from_ at_:Nat) (d2:Dt) (a2:Key→Value) (q:Option Addr) (k cap:Nat),v5=.slice q k cap∧v7=.int .i64 (E.length:Nat)∧v8=.int .i64 (at_:Nat)∧v9=.int .i64 (from_:Nat)∧from_<d.nc∧at_≤nT∧Hid (BLI g d a w clash E out [] from_ at_ d2 a2 (.slice q k cap) wr)) (fun _ _ v _ _=>(intOf v).toNat)
 case atStart=>exact⟨[],[],clash,nT,d,a,_,1,1,rfl,rfl,rfl,rfl,hcl,Nat.le_refl _,H0.out⟩
 case round =>
  rename World=>wl
  clear H0;obtain⟨E,out,from_,at_,d2,a2,q,k,cap,rfl,rfl,rfl,rfl,hfr,hat,H⟩:=hrel;have hnc2:=H.out.bm.nc;have hC2:=H.out.bm.C;have hfr2:from_<d2.nc:=by omega
  have hfrI:(from_:Int)<(d2.nc:Int):=by omega
  obtain⟨bC,cC,hC,lC,qC,-⟩:=H.out.sl.sw.clzR (by omega)
  have c2:wl.cell? ⟨g,2,none⟩=some (.slice (some ⟨bC,0,none⟩) d2.nc cC):=(H.out.sl.sw.cell 2).trans (congrArg some hC);have qc:wl.cell? ⟨bC,from_*4,none⟩=some (a2 (kLit from_)):=(qC from_ hfr2).1;obtain⟨qL,cL,hL,-,-,-⟩:=H.out.sl.sw.len (k:=kLit from_) (by exact hfr2)
  have hL:a2 (kLit from_)=.slice qL (d2.C from_).lits.length cL:=hL;rw[hC2]at hL;obtain⟨m,hm⟩:∃m,(d.C from_).lits.length=m:=⟨_,rfl⟩;rw[hL,hm]at qc;have hml:=HT.out.2.1.len hfr;have hm8:m≤5001:=by omega
  have HLV:Hid (a (kLit from_)=.slice qL m cL):=by
   have h9:=H.out.sl.mo.ad (kLit from_) hfr;rw[← h9,← hm];exact hL
  have HM:=hide hm;have hlg:=H.out.sl.sw.lt;clear hC qC hL hm hml;go_wp2;clear c2 qc lC hlg;go_loopw [5,7,35] (fun v5 v7 v35 wr=>∃(j:Nat) (E out:List Nat) (d2:Dt) (a2:Key→Value) (q:Option Addr) (k cap:Nat),v35=.int .i64 (j:Nat)∧v5=.slice q k cap∧v7=.int .i64 (E.length:Nat)∧j≤m∧Hid (BLI g d a w clash E out ((d.C from_).lits.take j) from_ at_ d2 a2 (.slice q k cap) wr)) (fun _ _ v _=>m - (intOf v).toNat)
  case atStart=>exact⟨0,E,out,d2,a2,q,k,cap,rfl,rfl,rfl,Nat.zero_le _,H.out⟩
  case round =>
   rename World=>wi
   clear H;obtain⟨j,E,out,d2,a2,q,k,cap,rfl,rfl,rfl,hj,H⟩:=hrel;by_cases hlt:j<m
   ·
    have hltI:(j:Int)<(m:Int):=by omega
    have hnc2:=H.out.bm.nc;have hC2:=H.out.bm.C;have hnv2:=H.out.bm.nv;have hfr2:from_<d2.nc:=by omega
    have hav:a2 (kLit from_)=a (kLit from_):=H.out.sl.mo.ad (kLit from_) hfr;obtain⟨b,capL,hvb,lb,-,-,qb,-⟩:=H.out.sl.sw.litR (c:=from_) hfr2 (by rw[hC2,HM.out];omega)
    have e1:=(hav.trans HLV.out).symm.trans hvb;simp only[Value.slice.injEq]at e1;obtain⟨rfl,-,rfl⟩:=e1;rw[hC2]at qb;have hjl:j<(d.C from_).lits.length:=by rw[HM.out];exact hlt
    have qj:=qb j hjl;obtain⟨l,hl⟩:∃l,(d.C from_).lits[j]=l:=⟨_,rfl⟩;rw[hl]at qj;have HTK:Hid ((d.C from_).lits.take (j+1)=(d.C from_).lits.take j++[l]):=by show _=_;rw[List.take_succ_eq_append_getElem hjl,hl]
    have hlm:l∈(d.C from_).lits:=by rw[← hl];exact List.getElem_mem hjl
    have hlo:=HT.out.2.1.ok from_ hfr l hlm;have hl2:l<20000:=by omega
    have HVC:=hide (fun w9=>variable_any l w9 hl2)
    obtain⟨u,hu⟩:∃u,l / 2=u:=⟨_,rfl⟩;rw[hu]at HVC;have hun:u≤d.nv:=by omega
    have hul:u<d2.nv+1:=by omega
    have huI:(u:Int)<(d2.nv:Int)+1:=by omega
    have HU:=hide hu;have HLM:=hide hlm;obtain⟨bF,cF,hF,lF,q0,-,q5⟩:=H.out.sl.sw.wh hul;have c8:wi.cell? ⟨g,8,none⟩=some (.slice (some ⟨bF,0,none⟩) (d2.nv+1) cF):=(H.out.sl.sw.cell 8).trans (congrArg some hF);rw[H.out.bm.level u]at q0;have hlg:=H.out.sl.sw.lt;have HF:=hide hF;clear hvb qb hav hl hjl hlm hu hF;go_wp2_with fail
    go_quiet ((go_at_call 62;refine Calls.quiet_of_same (HVC.out _)))
    obtain⟨w1,hw1⟩:∃w1,wi.drewN nq=w1:=⟨_,rfl⟩;rw[hw1];have H1:Hid (BLI g d a w clash E out ((d.C from_).lits.take j) from_ at_ d2 a2 (.slice q k cap) w1):=by rw[← hw1];exact H.out.drewN _
    have r0:w1.cell? ⟨bF,u*6,none⟩=some (.int .i64 (d.F u).level):=by rw[← hw1];exact q0
    have r5:w1.cell? ⟨bF,u*6+5,none⟩=some (.int .i8 (d2.F u).mark):=by rw[← hw1];exact q5
    have lF1:bF<w1.heap.size:=by rw[← hw1];exact lF
    have hlg1:=H1.out.sl.sw.lt;clear hw1 H q0 q5 lF hlg c8 qj lb;by_cases hm0:(d2.F u).mark=0
    ·
     rw[hm0]at r5;by_cases hl0:(d.F u).level=0
     ·
      rw[hl0]at r0;have HE:Hid (BLI g d a w clash E out ((d.C from_).lits.take (j+1)) from_ at_ d2 a2 (.slice q k cap) w1):=by
       rw[HTK.out];exact H1.out.skip (Or.inr (by rw[HU.out];exact hl0))
      clear hl0 hm0;go_wp2;go_roundw
      case rel=>exact⟨j+1,E,out,d2,a2,q,k,cap,by go_num,rfl,rfl,by omega,HE.out⟩
      case measure=>simp[intOf]<;>omega
     ·
      have hl0I:¬ ((d.F u).level=0):=hl0;have hl0B:((d.F u).level == 0)=false:=by simpa using hl0
      have hl2:=H1.out.mk_.len;have hEl:E.length≤5001:=by have:=H1.out.elen HT.out.1;omega
      have hOl:out.length≤5001:=by have:=H1.out.olen HT.out.1;omega
      have HSM:=hide (setMark_any g d2 a2 u 1 w1 H1.out.sl.sw (by omega) (by omega))
      have HL0:=hide hl0;have HM0:=hide hm0;obtain⟨lv,hlv⟩:∃lv,(d.F u).level=lv:=⟨_,rfl⟩;rw[hlv]at r0 hl0I hl0B;have HLV2:=hide hlv;have HFK:=hide ((H1.out.sl.mo.ad kFac trivial).symm.trans HF.out);clear hl0 hm0 hlv;go_wp2_with (first|(go_at_call 62;refine (HVC.out _).mono ?_;rintro e w9 ⟨rfl,hw9⟩;obtain rfl:=hw9.symm)|fail)
      refine HSM.out.mono ?_;rintro e w3 ⟨rfl,a3,s3,m3⟩;have HS3:=hide (And.intro s3 m3);have hlg3:=s3.lt;have HBU:=hide (bump_any g _ a3 u w3.drew s3.drew (by have:=H1.out.bm.oi;rw[← hnv2]at this;exact this) (by show u≤d2.nv;omega) (by show d2.nv≤5000;omega))
      clear s3 m3 HSM r0 r5 lF1 hlg1;have HMK:Hid (∀hp' at' bz' wt' w4,SW w4 g { d2 with F:=upd d2.F u ((d2.F u).mk_ 1),mks:=d2.mks++[u],hp:=hp',at_:=at',bz:=bz',wt:=wt' } a3→Mo g { d2 with F:=upd d2.F u ((d2.F u).mk_ 1),mks:=d2.mks++[u] } a3 w3.drew { d2 with F:=upd d2.F u ((d2.F u).mk_ 1),mks:=d2.mks++[u],hp:=hp',at_:=at',bz:=bz',wt:=wt' } a3 w4→OI d2.nv hp' at'→hp'.Perm d2.hp→∃d4,d4.nv=d.nv∧(∀u,(d4.F u).level=(d.F u).level)∧SL g d a w d4 a3 (.slice q k cap) (0::out) w4∧BM d d4∧MK d4∧BI d.nv d.T d.S d.F d.nc d.C clash d4.M (if (d.F u).level=d.S.length then E++[u] else E) (if (d.F u).level=d.S.length then out else out++[l]) from_ ((d.C from_).lits.take (j+1)) at_∧(E≠[]∨∀u,d4.M u≠2)∧Mo g d a w d4 a3 w4):=by
       intro hp' at' bz' wt' w4 s4 m4 o4 p4;have e:=HU.out;have h9:=H1.out.marked HT.out.1 HLM.out (by rw[e];exact HM0.out) (by rw[e];exact HL0.out) (by rw[e];exact hun) (a3:=a3) (w3:=w3.drew) (w4:=w4) (by rw[e];exact HS3.out.1.drew) (by rw[e];exact HS3.out.2.trans (Mo.drew _ _ _ _)) (hp':=hp') (at':=at') (bz':=bz') (wt':=wt') (by rw[e];exact s4) (by rw[e];exact m4) o4 p4
       rw[e,← HTK.out]at h9;exact h9
      go_wp2_with fail
      go_cut [66] (fun v66 wx=>∃d4,d4.nv=d.nv∧(∀u,(d4.F u).level=(d.F u).level)∧SL g d a w d4 a3 (.slice q k cap) (0::out) wx∧BM d d4∧MK d4∧BI d.nv d.T d.S d.F d.nc d.C clash d4.M (if (d.F u).level=d.S.length then E++[u] else E) (if (d.F u).level=d.S.length then out else out++[l]) from_ ((d.C from_).lits.take (j+1)) at_∧(E≠[]∨∀u,d4.M u≠2)∧Mo g d a w d4 a3 wx)
      case first =>
       go_region_with (first|(go_at_call 62;refine (HVC.out _).mono ?_;rintro e w9 ⟨rfl,hw9⟩;obtain rfl:=hw9.symm)|(go_at_call 123;refine HBU.out.mono ?_;rintro e w9 ⟨rfl,hp',at',bz',wt',s4,m4,o4,p4⟩;have HE4:=hide (HMK.out hp' at' bz' wt' w9 s4 m4 o4 p4);clear s4 m4 o4 p4))
       all_goals (go_wp2_with fail;go_meet)
       all_goals exact HE4.out
      case rest =>
       obtain⟨d4,hnv4,hlv4,s4,bm4,mk4,bi4,ne4,mo4⟩:=hcut;have H4:=hide (And.intro s4 (And.intro bm4 (And.intro mk4 (And.intro bi4 ne4))));have hF4:=(mo4.ad kFac trivial).trans HFK.out;obtain⟨bF',cF',hF',lF4,r0,-,-⟩:=s4.sw.wh (v:=u) (by rw[hnv4];omega)
       have e1:=hF4.symm.trans hF';simp only[Value.slice.injEq,Option.some.injEq,Addr.mk.injEq]at e1;obtain⟨⟨rfl,-,-⟩,-,-⟩:=e1;rw[hlv4 u,HLV2.out]at r0;clear s4 bm4 mk4 bi4 ne4 mo4 hF4 hF' HMK HBU HS3 hlv4 hlg3;by_cases hls:lv=(nS:Int)
       ·
        have HE:Hid (BLI g d a w clash (E++[u]) out ((d.C from_).lits.take (j+1)) from_ at_ d4 a3 (.slice q k cap) wc):=by
         have e:(d.F u).level=d.S.length:=by rw[HLV2.out,HNS.out];exact hls
         have h9:=H4.out.2.2.2.1;rw[if_pos e,if_pos e]at h9;exact⟨H4.out.1,H4.out.2.1,H4.out.2.2.1,h9,Or.inl (by simp)⟩
        subst hls;have hE1:((E++[u]).length:Int)=(E.length:Int)+1:=by simp
        have HE1:=hide hE1;clear H4 hE1;go_wp2;go_roundw
        case rel=>exact⟨j+1,E++[u],out,d4,a3,q,k,cap,by go_num,rfl,by rw[HE1.out],by omega,HE.out⟩
        case measure=>simp[intOf]<;>omega
       ·
        have hlsI:¬ (lv=(nS:Int)):=hls;have hlsB:(lv == (nS:Int))=false:=by simpa using hls
        have HB4:Hid (BI d.nv d.T d.S d.F d.nc d.C clash d4.M E (out++[l]) from_ ((d.C from_).lits.take (j+1)) at_):=by
         have e:¬ ((d.F u).level=d.S.length):=by rw[HLV2.out,HNS.out];exact hls
         have h9:=H4.out.2.2.2.1;rw[if_neg e,if_neg e]at h9;exact h9
        have hol0:OL 1 106 wc (.slice q k cap) (out.length+1) (i32C (0::out)):=H4.out.1.ol;have HO0:=hide hol0;obtain⟨hk4,-⟩:k=out.length+1∧True:=by
         obtain⟨q9,c9,e9,-⟩:=hol0.shape;simp only[Value.slice.injEq]at e9;exact⟨e9.2.1,trivial⟩
        have HK4:=hide hk4;clear hls hol0 hk4;go_wp2_with (at_builtin;refine Euf.Stop.of ?_)
        show wpList _ _ _ _ _ _
        have hol3:OL 1 106 (wc.alloc (.cells #[.int .i32 (l:Nat)] 106 (0,0))) (.slice q k cap) (out.length+1) (i32C (0::out)):=HO0.out.stay fun b hb=>Below.heap_alloc wc _ b (HO0.out.lt hb)
        refine Euf.wpList_push rfl (.tmp 76) (.tmp 78) 61 rfl 1 106 _ 4 uLits iLit (by decide) rfl (by decide) (.slice q k cap) (out.length+1) (i32C (0::out)) rfl [.int .i32 (l:Nat)] 106 hol3 (fun _ _=>rfl) 1 rfl rfl (by intro u hu;simp at hu;subst hu;rfl) (by omega) (i32C (0::(out++[l]))) (fun q hq=>by unfold i32C;rw[List.getD_eq_getElem?_getD,List.getD_eq_getElem?_getD,← List.cons_append,List.getElem?_append_left (by simpa using hq)]) (by simp[i32C]) ?_
        intro v7 w7 hol7 hap7 hne7;replace hap7:=hap7.of_alloc (fun b hb=>HO0.out.lt hb)
        have hs7:=H4.out.1.push (x:=l) hap7 (by simpa using hol7)
        obtain⟨q7,c7,hv7,-⟩:=hol7.shape;subst hv7;have HE:Hid (BLI g d a w clash E (out++[l]) ((d.C from_).lits.take (j+1)) from_ at_ d4 a3 (.slice q7 (out.length+1+1) c7) w7):=⟨hs7,H4.out.2.1,H4.out.2.2.1,HB4.out,H4.out.2.2.2.2⟩;clear hol3 hol7 hap7 hne7 hs7 H4 HB4 HO0 r0 lF4;go_wp2;go_roundw
        case rel=>exact⟨j+1,E,out++[l],d4,a3,_,_,_,by go_num,rfl,rfl,by omega,HE.out⟩
        case measure=>simp[intOf]<;>omega
    ·
     have hm0I:¬ ((d2.F u).mark=0):=hm0;have hm0B:((d2.F u).mark != 0)=true:=by simpa using hm0
     have HE:Hid (BLI g d a w clash E out ((d.C from_).lits.take (j+1)) from_ at_ d2 a2 (.slice q k cap) w1):=by
      rw[HTK.out];exact H1.out.skip (Or.inl (by rw[HU.out];exact hm0))
     generalize (d2.F u).mark=mk0 at r5 hm0I hm0B hm0;generalize (d.F u).level=lv0 at r0;go_wp2;go_roundw
     case rel=>exact⟨j+1,E,out,d2,a2,q,k,cap,by go_num,rfl,rfl,by omega,HE.out⟩
     case measure=>simp[intOf]<;>omega
   ·
    have hltI:¬ ((j:Int)<(m:Int)):=by omega
    obtain rfl:j=m:=by omega
    have hne:=(by have h9:=H.out;rw[← HM.out,List.take_length]at h9;exact h9:BLI g d a w clash E out (d.C from_).lits from_ at_ d2 a2 (.slice q k cap) wi)
    have HB:=hide hne;have hEne:=hne.there HT.out.2.2.1 HT.out.2.2.2.1;obtain⟨i0,hi0,hia0,hmi0⟩:=hne.lies hEne;have hEl:E.length≤5001:=by have:=hne.elen HT.out.1;omega
    have hat1:1≤at_:=by omega
    have HI0:Hid (∃hi:i0<d.T.length,d2.M (d.T[i0] / 2)≠0):=⟨hi0,hmi0⟩;have hE0:E.length≠0:=fun e=>hEne (List.length_eq_zero_iff.1 e)
    have hnv2:=hne.bm.nv;have hatI:((at_ - 1:Nat):Int)=(at_:Int) - 1:=by omega
    have HATI:=hide hatI;clear H hne hEne hmi0 hi0 hatI;go_wp2;go_loopw [8] (fun v8 wr=>∃(p:Nat),v8=.int .i64 (p:Nat)∧p<at_∧i0≤p∧Hid (BLI g d a w clash E out (d.C from_).lits from_ at_ d2 a2 (.slice q k cap) wr∧∀x (hx:x<d.T.length),p<x→x<at_→d2.M (d.T[x] / 2)=0)) (fun v _=>(intOf v).toNat)
    case atStart=>exact⟨at_ - 1,by rw[HATI.out],by omega,by omega,HB.out,fun x hx h1 h2=>absurd h1 (by omega)⟩
    case round =>
     rename World=>wk
     clear HB;obtain⟨p,rfl,hp,hip,H⟩:=hrel;have hpT:p<d.T.length:=by rw[HNT.out];omega
     have hpI:(p:Int)<(nT:Int):=by omega
     have hT2:=H.out.1.bm.T;obtain⟨bT,cT',hT',lT,-,-,qT',-⟩:=H.out.1.sl.sw.traR (by rw[hT2];omega)
     rw[hT2,HNT.out]at hT';have c9:wk.cell? ⟨g,9,none⟩=some (.slice (some ⟨bT,0,none⟩) nT cT'):=(H.out.1.sl.sw.cell 9).trans (congrArg some hT');rw[hT2]at qT';have qp:=qT' p hpT;have hok:=HT.out.1.ok _ (List.getElem_mem hpT);obtain⟨l,hl⟩:∃l,d.T[p]=l:=⟨_,rfl⟩;rw[hl]at qp hok;have hl2:l<20000:=by omega
     have HVC:=hide (fun w9=>variable_any l w9 hl2)
     obtain⟨u,hu⟩:∃u,l / 2=u:=⟨_,rfl⟩;rw[hu]at HVC;have HPU:Hid (∃hp:p<d.T.length,d.T[p]=l∧l / 2=u):=⟨hpT,hl,hu⟩;have hul:u<d2.nv+1:=by omega
     have huI:(u:Int)<(d2.nv:Int)+1:=by omega
     obtain⟨bF,cF,hF,lF,q0,q2,q5⟩:=H.out.1.sl.sw.wh hul;have c8:wk.cell? ⟨g,8,none⟩=some (.slice (some ⟨bF,0,none⟩) (d2.nv+1) cF):=(H.out.1.sl.sw.cell 8).trans (congrArg some hF);have hlg:=H.out.1.sl.sw.lt;have HF:Hid (a2 kFac=.slice (some ⟨bF,0,none⟩) (d.nv+1) cF):=by rw[← hnv2];exact hF
     have hpl:p≤5001:=by omega
     clear hT' qT' hl hu hF hT2 q0 q2;by_cases hm0:(d2.F u).mark=0
     ·
      rw[hm0]at q5;have hip2:i0<p:=by
       rcases Nat.lt_or_eq_of_le hip with h9|h9
       · exact h9
       ·
        exfalso
        subst h9;obtain⟨h1,h2⟩:=HI0.out;obtain⟨h3,h4,h5⟩:=HPU.out;apply h2
        rw[h4,h5];exact hm0
      have HE:Hid (∀nn,BLI g d a w clash E out (d.C from_).lits from_ at_ d2 a2 (.slice q k cap) (wk.drewN nn)∧∀x (hx:x<d.T.length),p - 1<x→x<at_→d2.M (d.T[x] / 2)=0):=fun nn=>⟨H.out.1.drewN nn,fun x hx h1 h2=>by
       by_cases e:x=p
       · subst e;obtain⟨h3,h4,h5⟩:=HPU.out;rw[h4,h5];exact hm0
       · exact H.out.2 x hx (by omega) h2⟩
      have hp1:((p - 1:Nat):Int)=(p:Int) - 1:=by omega
      have HP1:=hide hp1;clear H hm0 hp1;go_wp2_with fail
      go_quiet ((go_at_call 62;refine Calls.quiet_of_same (HVC.out _)))
      go_wp2;go_roundw
      case rel=>exact⟨p - 1,by rw[HP1.out],by omega,by omega,HE.out _⟩
      case measure=>simp[intOf]<;>omega
     ·
      have hm0I:¬ ((d2.F u).mark=0):=hm0;have hm0B:((d2.F u).mark == 0)=false:=by simpa using hm0
      have HMU:Hid (∃hp:p<d.T.length,d2.M (d.T[p] / 2)≠0):=by
       obtain⟨h3,h4,h5⟩:=HPU.out;exact⟨h3,by rw[h4,h5];exact hm0⟩
      generalize (d2.F u).mark=mk0 at q5 hm0I hm0B hm0;go_wp2_with fail
      go_quiet ((go_at_call 62;refine Calls.quiet_of_same (HVC.out _)))
      obtain⟨w1,hw1⟩:∃w1,wk.drewN nq=w1:=⟨_,rfl⟩;rw[hw1];have H1:Hid (BLI g d a w clash E out (d.C from_).lits from_ at_ d2 a2 (.slice q k cap) w1∧∀x (hx:x<d.T.length),p<x→x<at_→d2.M (d.T[x] / 2)=0):=by rw[← hw1];exact⟨H.out.1.drewN _,H.out.2⟩
      have r9:w1.cell? ⟨g,9,none⟩=some (.slice (some ⟨bT,0,none⟩) nT cT'):=by rw[← hw1];exact c9
      have rp:w1.cell? ⟨bT,p,none⟩=some (.int .i32 (l:Nat)):=by rw[← hw1];exact qp
      have lT1:bT<w1.heap.size:=by rw[← hw1];exact lT
      have hlg1:=H1.out.1.sl.sw.lt;clear hw1 H c9 qp lT hlg q5 c8 lF;by_cases hE1:E.length=1
      ·
       have hol:=H1.out.1.sl.ol;obtain⟨bO,capO,eO,-,-⟩:=hol.open 0 (by simp)
       simp only[Value.slice.injEq]at eO;obtain⟨rfl,-,rfl⟩:=eO;have hkk:=H1.out.1.sl.get;have hk0:0<k:=by have:=hkk.1;simp at this;omega
       have hk0I:(0:Int)<(k:Int):=by omega
       have qO:w1.cell? ⟨bO,0,none⟩=some (.int .i32 (0:Nat)):=hkk.2.2.2.2.1 0 (by simp)
       have zO:=hkk.2.2.2.2.2 0;have lO:=hkk.2.1;have HEN:Hid (BlEnd g d a clash w (.returned (.slice (some ⟨bO,0,none⟩) k cap)) (w1.setCell ⟨bO,0,none⟩ (.int .i32 (ng l:Nat)))):=by
        obtain⟨h3,h4,h5⟩:=HPU.out;obtain⟨h6,h7⟩:=HMU.out;have h9:=H1.out.1.done HT.out.1 HT.out.2.2.2.2 h3 hp h7 H1.out.2 hE1 rfl;rw[h4]at h9;exact h9
       have hE1I:(E.length:Int)=1:=by omega
       rw[hE1I];clear hol hkk H1;go_wp2_with (go_at_call 72;refine (opposite_any l _ hl2).mono ?_;rintro e w9 ⟨rfl,hw9⟩;obtain rfl:=hw9.symm)
       go_ret
       exact HEN.out
      ·
       have hE2:1<E.length:=by omega
       have hE2I:¬ ((E.length:Int) - 1=0):=by omega
       have hE2B:((E.length:Int) - 1 == 0)=false:=by simpa using hE2I
       have c8:w1.cell? ⟨g,8,none⟩=some (.slice (some ⟨bF,0,none⟩) (d2.nv+1) cF):=(H1.out.1.sl.sw.cell 8).trans (congrArg some (by rw[hnv2];exact HF.out))
       have lF1:bF<w1.heap.size:=H1.out.1.sl.sw.foLt (Or.inr ⟨kFac,⟨by decide,rfl⟩,by rw[HF.out];rfl⟩)
       have hwE:IntKind.i64.wrap ((E.length:Int) - 1)=(E.length:Int) - 1:=by rw[IntWalk.i64_left,IntWalk.wrap64_in _ (by omega)]
       go_wp2_with fail
       go_quiet ((go_at_call 62;refine Calls.quiet_of_same (HVC.out _)))
       obtain⟨w2,hw2⟩:∃w2,w1.drewN nq=w2:=⟨_,rfl⟩;rw[hw2];have H2:Hid (BLI g d a w clash E out (d.C from_).lits from_ at_ d2 a2 (.slice q k cap) w2∧∀x (hx:x<d.T.length),p<x→x<at_→d2.M (d.T[x] / 2)=0):=by rw[← hw2];exact⟨H1.out.1.drewN _,H1.out.2⟩
       clear hw2 H1 r9 rp lT1 hlg1 c8 lF1;obtain⟨r,hrn,hre,d3,hd3,hB3,hl3⟩:=(by
        obtain⟨h3,h4,h5⟩:=HPU.out;obtain⟨h6,h7⟩:=HMU.out;have h9:=H2.out.1.next HT.out.1 h3 hp h7 H2.out.2 hE2 HF.out;rw[h4,h5]at h9;exact h9:∃r,r<d.nc∧(d.F u).reason=(r:Int)∧∃d3,(∀u,(d3.F u).reason=(d.F u).reason)∧BLI g d a w clash (E.erase u) out [] r p d3 a2 (.slice q k cap) (w2.setCell ⟨bF,u*6+5,none⟩ (.int .i8 2))∧(E.erase u).length+1=E.length)
       obtain⟨bF',cF',hF',lF2,qF,zF⟩:=H2.out.1.sl.sw.facR;have e1:=HF.out.symm.trans hF';simp only[Value.slice.injEq,Option.some.injEq,Addr.mk.injEq]at e1;obtain⟨⟨rfl,-,-⟩,-,-⟩:=e1;have q5:=(qF u hul).2.2.2.2.2;have z5:=zF (u*6+5);obtain⟨wd,hwd⟩:∃wd,w2.setCell ⟨bF,u*6+5,none⟩ (.int .i8 2)=wd:=⟨_,rfl⟩;rw[hwd]at hB3;have H3:=hide hB3;obtain⟨bF'',cF'',hF'',lF3,-,q23,-⟩:=hB3.sl.sw.wh (v:=u) (by rw[hB3.bm.nv];omega)
       have e1:=HF.out.symm.trans hF'';simp only[Value.slice.injEq,Option.some.injEq,Addr.mk.injEq]at e1;obtain⟨⟨rfl,-,-⟩,-,-⟩:=e1;rw[hd3 u,hre]at q23;have HL3:Hid ((E.length:Int) - 1=((E.erase u).length:Int)):=by show _=_;omega
       generalize (d2.F u).mark=mk1 at q5;clear hB3 hF' hF'' qF zF hre hd3 hl3 H2;go_wp2;go_roundw
       case rel=>exact⟨E.erase u,out,r,p,d3,a2,q,k,cap,rfl,by rw[HL3.out],rfl,rfl,hrn,by omega,H3.out⟩
       case measure=>simp[intOf]<;>omega
end Sat
namespace Sat
structure TR (F:Nat→Fc) (C:Nat→Cl) (clash:Nat) (keep:List Nat) (M:Nat→Int) (G X Z:List Nat):Prop where
  ma:∀v,M v≠0↔v∈keep∨v∈G∨v∈X
  gk:∀v∈G,Rc F C clash keep v∧v ∉ keep∧0<(F v).level
  xk:∀v∈X,Rc F C clash keep v∧v ∉ keep∧(F v).level=0
  ng_:G.Nodup
  nx:X.Nodup
  zz:∀m∈Z,M (m / 2)≠0
section
variable {F:Nat→Fc} {C:Nat→Cl} {clash:Nat} {keep:List Nat} {M:Nat→Int} {G X Z:List Nat}
theorem TR.start (hM:∀v,M v≠0↔v∈keep):TR F C clash keep M [] [] [] :=
  ⟨fun v=>by rw[hM v];simp,fun v hv=>(by cases hv),fun v hv=>(by cases hv),by simp,by simp,fun m hm=>(by cases hm)⟩
theorem TR.skip (t:TR F C clash keep M G X Z) {l:Nat} (h:M (l / 2)≠0):TR F C clash keep M G X (Z++[l]):=by
 refine { t with zz:=fun m hm=>?_ }
 rcases List.mem_append.1 hm with hm|hm
 · exact t.zz m hm
 · simp at hm;subst hm;exact h
theorem TR.zset (t:TR F C clash keep M G X Z) {l:Nat} {x:Int} (hx:x≠0):∀m∈Z++[l],upd M (l / 2) x (m / 2)≠0:=fun m hm=>by
  by_cases e:m / 2=l / 2
  · rw[e,upd_same];exact hx
  · rw[upd_other _ _ e]
    rcases List.mem_append.1 hm with hm|hm
    · exact t.zz m hm
    · simp at hm;subst hm;exact absurd rfl e
theorem TR.fix (t:TR F C clash keep M G X Z) {l:Nat} {x:Int} (hx:x≠0) (h:M (l / 2)=0) (hr:Rc F C clash keep (l / 2)) (h0:(F (l / 2)).level=0):TR F C clash keep (upd M (l / 2) x) G (X++[l / 2]) (Z++[l]):=by
 have hk:=fun v=>t.ma v
 have n0:¬ (l / 2∈keep∨l / 2∈G∨l / 2∈X):=fun h9=>((hk _).2 h9) h
 refine⟨fun v=>?_,t.gk,fun v hv=>?_,t.ng_,?_,t.zset hx⟩
 ·
  by_cases e:v=l / 2
  · subst e;rw[upd_same];simp[hx]
  · rw[upd_other _ _ e,hk v];simp[e]
 ·
  rcases List.mem_append.1 hv with hv|hv
  · exact t.xk v hv
  · simp at hv;subst hv;exact⟨hr,fun h9=>n0 (Or.inl h9),h0⟩
 ·
  rw[List.nodup_append];refine⟨t.nx,by simp,fun a ha b hb=>?_⟩
  simp at hb;subst hb;rintro rfl;exact n0 (Or.inr (Or.inr ha))
theorem TR.go (t:TR F C clash keep M G X Z) {l:Nat} {x:Int} (hx:x≠0) (h:M (l / 2)=0) (hr:Rc F C clash keep (l / 2)) (h0:0<(F (l / 2)).level):TR F C clash keep (upd M (l / 2) x) (G++[l / 2]) X (Z++[l]):=by
 have hk:=fun v=>t.ma v
 have n0:¬ (l / 2∈keep∨l / 2∈G∨l / 2∈X):=fun h9=>((hk _).2 h9) h
 refine⟨fun v=>?_,fun v hv=>?_,t.xk,?_,t.nx,t.zset hx⟩
 ·
  by_cases e:v=l / 2
  · subst e;rw[upd_same];simp[hx]
  · rw[upd_other _ _ e,hk v];simp[e]
 ·
  rcases List.mem_append.1 hv with hv|hv
  · exact t.gk v hv
  · simp at hv;subst hv;exact⟨hr,fun h9=>n0 (Or.inl h9),h0⟩
 ·
  rw[List.nodup_append];refine⟨t.ng_,by simp,fun a ha b hb=>?_⟩
  simp at hb;subst hb;rintro rfl;exact n0 (Or.inr (Or.inl ha))
theorem TR.all (t:TR F C clash keep M G X Z) (hc:∀m∈(C clash).lits,m∈Z) (hg:∀v∈G,∀r:Nat,(F v).reason=(r:Int)→∀m∈(C r).lits,m∈Z) {v:Nat} (hr:Rc F C clash keep v):M v≠0:=by
 induction hr with
 | @base m hm=>exact t.zz m (hc m hm)
 | @step u r m hu hk hl hr hm ih =>
  rcases (t.ma u).1 ih with h1|h1|h1
  · exact absurd h1 hk
  · exact t.zz m (hg u h1 r hr m hm)
  · have:=(t.xk u h1).2.2;omega
theorem TR.ends (t:TR F C clash keep M G X Z) (hc:∀m∈(C clash).lits,m∈Z) (hg:∀v∈G,∀r:Nat,(F v).reason=(r:Int)→∀m∈(C r).lits,m∈Z) (hk:∀v∈keep,0<(F v).level) :
  (∀v,v∈G↔Rc F C clash keep v∧v ∉ keep∧0<(F v).level)∧∀v,v∈X↔Rc F C clash keep v∧(F v).level=0:=by
 refine⟨fun v=>⟨t.gk v,fun⟨h1,h2,h3⟩=>?_⟩,fun v=>⟨fun h=>⟨(t.xk v h).1,(t.xk v h).2.2⟩,fun⟨h1,h2⟩=>?_⟩⟩
 ·
  rcases (t.ma v).1 (t.all hc hg h1) with h4|h4|h4
  · exact absurd h4 h2
  · exact h4
  · have:=(t.xk v h4).2.2;omega
 ·
  rcases (t.ma v).1 (t.all hc hg h1) with h4|h4|h4
  · have:=hk v h4;omega
  · have:=(t.gk v h4).2.2;omega
  · exact h4
end
/-! ## The latest of the others comes second -/
structure LS (f:Nat→Int) (L0:List Nat) (i:Nat) (L:List Nat):Prop where
  pe:L.Perm L0
  h0:L[0]?=L0[0]?
  mx:∀j (hj:j<L.length) (h1:1<L.length),1≤j→j<i→f L[j]≤f L[1]
section
variable {f:Nat→Int} {L0 L:List Nat} {i:Nat}
theorem LS.start (f:Nat→Int) (L0:List Nat):LS f L0 2 L0:=⟨List.Perm.refl _,rfl,fun j hj h1 h2 h3=>by
 have:j=1:=by omega
 subst this;exact Int.le_refl _⟩
theorem LS.skip (s:LS f L0 i L) (hi:i<L.length) (h1:1<L.length) (h:f L[i]≤f L[1]):LS f L0 (i+1) L:=⟨s.pe,s.h0,fun j hj h1 h2 h3=>by
  by_cases e:j=i
  · subst e;exact h
  · exact s.mx j hj h1 h2 (by omega)⟩
theorem LS.swap (s:LS f L0 i L) (h2:2≤i) (hi:i<L.length) (h1:1<L.length) (h:f L[1]≤f L[i]):LS f L0 (i+1) ((L.set 1 L[i]).set i L[1]):=by
 refine⟨(swap_perm h1 hi).trans s.pe,?_,fun j hj h3 h4 h5=>?_⟩
 · rw[List.getElem?_set_ne (by omega),List.getElem?_set_ne (by omega)];exact s.h0
 ·
  have hj':j<L.length:=by simpa using hj
  have e1:((L.set 1 L[i]).set i L[1])[1]=L[i]:=by rw[List.getElem_set_ne (by omega)];simp
  rw[e1];by_cases e:j=i
  · subst e;simp;exact h
  ·
   rw[List.getElem_set_ne (by omega)]
   by_cases e2:j=1
   · subst e2;simp
   · rw[List.getElem_set_ne (by omega)];exact Int.le_trans (s.mx j hj' h1 h4 (by omega)) h
end
end Sat
end Go.Proofs.YtbmkkhpoaicclabGreat
