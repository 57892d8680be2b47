/- The contract of sat.Check; it proves no statement of the seat. -/
import Derived.Test.YtbmkkhpoaicclabGreatSatOcJGrows
import Derived.Test.YtbmkkhpoaicclabGreatSatEqJGrows
import Derived.Test.YtbmkkhpoaicclabGreatJoin22Grows
namespace Go.Proofs.YtbmkkhpoaicclabGreat
open Go Go.RowKit
set_option linter.unusedVariables false
namespace Sat
open Euf (OL App)
theorem uIts:Tryz.prog.underlying 22=some (.slice 35):=by kernel_rfl
theorem iIts:(Tryz.prog.info? 35).map (fun i=>(i.zero,i.size,i.bytes))=some (some (.slice none 0 0),1,24):=by kernel_rfl
structure RC (w:World) (q:Option Addr) (n:Nat) (pf:List Chn):Prop where
  len:pf.length=n
  bd:n≤900000
  ok:∀x∈pf,InI x.first∧(∀p∈x.steps,InI p.1∧InI p.2)∧x.steps.length≤1000000∧x.clause.length≤1000000
  at_:pf=[]∨∃b off,q=some ⟨b,off,none⟩∧b<w.heap.size∧∀(t:Nat) (x:Chn),pf[t]?=some x→∃qc cc qs cs,w.cell? ⟨b,off+t*3,none⟩=some (.slice qc x.clause.length cc)∧w.cell? ⟨b,off+t*3+1,none⟩=some (.int .i64 x.first)∧w.cell? ⟨b,off+t*3+2,none⟩=some (.slice qs x.steps.length cs)∧IL w qc x.clause.length cc x.clause∧RK w qs x.steps.length x.steps
theorem RC.below {w w':World} {q:Option Addr} {n:Nat} {pf:List Chn} (h:RC w q n pf) (hb:Below w.heap.size w w'):RC w' q n pf:=by
 refine⟨h.len,h.bd,h.ok,?_⟩;rcases h.at_ with e|⟨b,off,e,l,hc⟩
 · exact Or.inl e
 ·
  refine Or.inr ⟨b,off,e,Nat.lt_of_lt_of_le l hb.size,fun t x hx=>?_⟩
  obtain⟨qc,cc,qs,cs,h1,h2,h3,h4,h5⟩:=hc t x hx;exact⟨qc,cc,qs,cs,(World.cell?_of_block (a:=⟨b,off+t*3,none⟩) (hb.block b l)).trans h1,(World.cell?_of_block (a:=⟨b,off+t*3+1,none⟩) (hb.block b l)).trans h2,(World.cell?_of_block (a:=⟨b,off+t*3+2,none⟩) (hb.block b l)).trans h3,h4.below hb,h5.below hb⟩
def Sets (ls ps:List (List Int)):Prop:=ps.length=ls.length∧∀(i:Nat) (z p:List Int),ls[i]?=some z→ps[i]?=some p→SetOf z p
theorem Sets.snoc {ls ps:List (List Int)} {k:Nat} {z p:List Int} (h:Sets (ls.take k) ps) (hz:ls[k]?=some z) (hp:SetOf z p):Sets (ls.take (k+1)) (ps++[p]):=by
 have hk:=(List.getElem?_eq_some_iff.1 hz).1;have e1:ls.take (k+1)=ls.take k++[z]:=by rw[List.take_add_one,hz];rfl
 refine⟨by rw[e1];simp[h.1],fun i z' p' h1 h2=>?_⟩
 rw[e1]at h1;by_cases hi:i<ps.length
 ·
  rw[List.getElem?_append_left hi]at h2;rw[List.getElem?_append_left (by rw[← h.1];exact hi)]at h1
  exact h.2 i z' p' h1 h2
 ·
  have e2:i=ps.length:=by
   have:=(List.getElem?_eq_some_iff.1 h2).1;simp at this;omega
  subst e2;rw[h.1]at h1;simp at h1 h2;subst h2;rw[← h1];exact hp
theorem Acc.cons_iff {ps:List (List Int)} {c:Chn} {pf:List Chn} {b r:List Int} (h1:0≤c.first) (h2:ps[c.first.toNat]?=some b) (h3:Out ps b c.steps r) (h4:SetOf c.clause r) (qs:List (List Int)):Acc ps (c::pf) qs↔Acc (ps++[r]) pf qs:=by
 constructor
 · rintro⟨b',r',k1,k2,k3,k4,k5⟩;rw[SetOf.uniq h4 k4];exact k5
 · intro h;exact⟨b,r,h1,h2,h3,h4,h⟩
theorem Out.det {ps:List (List Int)} {now:List Int} {st:List (Int × Int)} {r:List Int} (h:Out ps now st r):∀{r':List Int},Out ps now st r'→r=r':=by
 induction h with
 | nil now=>intro r' h';cases h';rfl
 | cons hk hb hr hs hm h ih =>
  intro r' h';exact ih ((Out.cons_iff hk hb hr hs hm r').1 h')
def CkEnd (ls:List (List Int)) (pf:List Chn) (e:Ending):Prop :=
  ((¬ ∀c∈ls,∀z∈c,Okl 4096 z)∧e=.returned (.int .i64 40)) ∨
  ((∀c∈ls,∀z∈c,Okl 4096 z)∧∃ps,Sets ls ps∧((OkPf ps pf∧e=.returned (.int .i64 0))∨(¬ OkPf ps pf∧e=.returned (.int .i64 41))))
structure PlM (B:Nat) (ps:List (List Int)) (vp:Value) (vl:Nat→Value) (w wr:World):Prop where
  bl:Below B w wr
  pl:Plc wr vp ps vl
  bp:∀c,vp.ownBlock=some c→B≤c
theorem PlM.below {B:Nat} {ps:List (List Int)} {vp:Value} {vl:Nat→Value} {w wr wr':World} (h:PlM B ps vp vl w wr) (hB:B≤wr.heap.size) (hb:Below wr.heap.size wr wr'):PlM B ps vp vl w wr':=⟨h.bl.trans (hb.mono hB),h.pl.below hb,h.bp⟩
theorem PlM.push {B:Nat} {ps:List (List Int)} {vp:Value} {vl:Nat→Value} {w wr wr':World} (h:PlM B ps vp vl w wr) (hB:B≤wr.heap.size) {p:List Int} {u v':Value} (ou:OL 1 3 wr u p.length (izC p)) (hp:Srt p∧∀z∈p,Lim z) (ap:App vp v' wr wr') (ho:OL 1 35 wr' v' (ps.length+1) (fun i=>[upd vl ps.length u i])):PlM B (ps++[p]) v' (upd vl ps.length u) w wr':=by
 have tp:∀{sz:Nat} {e:TypeId} {v:Value} {n:Nat} {f:Nat→List Value},OL sz e wr v n f→e≠35→OL sz e wr' v n f:=by
  intro sz e v n f ho9 he;refine ho9.stay (fun b hb=>ap.other b (ho9.lt hb) (fun e9=>?_))
  exact h.pl.op.ne ho9 (fun e9=>he e9.symm) (b:=b) e9 hb
 refine⟨h.bl.trans (App.toB ap hB h.bp),⟨by rw[List.length_append];exact ho,fun i q hq=>?_,fun q hq=>?_⟩,fun c hc=>?_⟩
 ·
  by_cases hi:i<ps.length
  ·
   rw[List.getElem?_append_left hi]at hq;rw[upd_other _ _ (by omega)]
   exact tp (h.pl.ol i q hq) (by decide)
  ·
   have e2:i=ps.length:=by
    have:=(List.getElem?_eq_some_iff.1 hq).1;simp at this;omega
   subst e2;simp at hq;subst hq;rw[upd_same];exact tp ou (by decide)
 ·
  rcases List.mem_append.1 hq with h9|h9
  · exact h.pl.so q h9
  · simp at h9;subst h9;exact hp
 ·
  rcases ap.at_ with e9|⟨b9,e9,h9⟩
  · exact h.bp c (by rw[← e9];exact hc)
  · rw[e9]at hc;cases hc;omega
set_option maxRecDepth 20000 in
set_option maxHeartbeats 16000000 in
theorem check_any (N:Nat) (qL:Option Addr) (nL cL:Nat) (ls:List (List Int)) (qP:Option Addr) (nP cP:Nat) (pf:List Chn) (w:World) (hl:LL w N qL nL cL ls) (hN:N≤w.heap.size) (hnL:nL≤100000) (hlc:∀c∈ls,c.length≤1000000) (hpf:RC w qP nP pf) :
  Calls Tryz.prog 30 #[.slice qL nL cL,.slice qP nP cP] w fun e w'=>CkEnd ls pf e∧Below w.heap.size w w':=by
 have hnI:(nL:Int)≤100000:=by omega
 have hnP:(nP:Int)≤900000:=by have:=hpf.bd;omega
 have H:=hide (And.intro hl (And.intro hN (And.intro hlc hpf)));clear hl hN hlc hpf;go_enter Tryz.func30,Tryz.ntmps30;go_wp2_with fail
 go_loopw [16] (fun v16 wr=>∃(i:Nat),v16=.int .i64 (i:Nat)∧i≤nL∧Hid (w=wr∧∀(j:Nat) (c:List Int),j<i→ls[j]?=some c→∀z∈c,Okl 4096 z)) (fun v _=>nL - (intOf v).toNat)
 case atStart=>exact⟨0,rfl,Nat.zero_le _,rfl,fun j c hj=>absurd hj (Nat.not_lt_zero _)⟩
 case round =>
  rename World=>wl
  obtain⟨i,rfl,hi,HJ⟩:=hrel;obtain rfl:=HJ.out.1;by_cases hlt:i<nL
  ·
   have hltI:(i:Int)<(nL:Int):=by omega
   obtain⟨b,off,qi,ci,zi,rfl,lb,hmem,hget,hcell,il,lo⟩:=H.out.1.get hlt;obtain⟨ni,hni⟩:∃ni,zi.length=ni:=⟨_,rfl⟩;rw[hni]at hcell il;have HW:=hide (within_any qi ni ci zi 4096 w il (by omega))
   have HI:=hide (And.intro hmem (And.intro hget hni));clear hmem hget hni il lo;go_wp2_with fail
   refine HW.out.mono ?_;rintro e w1 ⟨⟨bv,rfl,hb⟩,h1⟩;have h1':=h1.symm;clear h1;subst h1';cases bv with
   | false =>
    have HE:Hid (CkEnd ls pf (.returned (.int .i64 40))):=Or.inl ⟨fun h9=>(by have h8:=hb.2 (h9 zi HI.out.1);cases h8),rfl⟩
    clear hb HW;go_wp2;go_ret
    exact⟨HE.out,Below.refl _ _⟩
   | true =>
    have HE:Hid (w=w∧∀(j:Nat) (c:List Int),j<i+1→ls[j]?=some c→∀z∈c,Okl 4096 z):=⟨rfl,fun j c hj hc=>by
     by_cases e:j=i
     ·
      subst e;rw[HI.out.2.1]at hc;cases hc
      exact hb.1 rfl
     · exact HJ.out.2 j c (by omega) hc⟩
    clear hb HW HJ;go_wp2;go_roundw
    case rel=>exact⟨i+1,by go_num,by omega,HE.out⟩
    case measure=>simp[intOf]<;>omega
  ·
   have hltI:¬ ((i:Int)<(nL:Int)):=by omega
   obtain rfl:i=nL:=by omega
   have HOK:Hid (∀c∈ls,∀z∈c,Okl 4096 z):=fun c hc=>by
    obtain⟨j,hj⟩:=List.mem_iff_getElem?.1 hc;exact HJ.out.2 j c (by have:=(List.getElem?_eq_some_iff.1 hj).1;rw[H.out.1.len]at this;exact this) hj
   clear HJ;obtain⟨cm,hcm⟩:∃cm:Nat,(i:Int)+(nP:Int)=(cm:Int):=⟨i+nP,by omega⟩
   have hcmI:cm≤1100000:=by omega
   go_wp2_with (at_make;go_loud (refine wpList_make_ol _ rfl _ _ 22 rfl 35 (.slice none 0 0) 1 24 uIts iIts rfl _ _ _ _ 0 cm rfl rfl (by first|rfl|simp) (by first|exact hcm|rfl|(rw[← hcm];rfl)) (Nat.zero_le _) (by decide) (by omega) ?_;intro w2 hr2 hb2 hz2;have H2:=hide (And.intro hr2 hb2);clear hr2 hb2 hz2))
   clear hcm hcmI;go_wp2_with fail
   go_loopw [7,32] (fun v7 v32 wr=>∃(k:Nat) (ps:List (List Int)) (qp:Option Addr) (cp:Nat) (vl:Nat→Value),v7=.slice qp k cp∧v32=.int .i64 (k:Nat)∧k≤i∧Hid (PlM w.heap.size ps (.slice qp k cp) vl w wr∧Sets (ls.take k) ps∧ps.length=k)) (fun _ v _=>i - (intOf v).toNat)
   case atStart =>
    exact⟨0,[],_,_,fun _=>.slice none 0 0,rfl,rfl,Nat.zero_le _,⟨H2.out.2,⟨H2.out.1.congr (fun j hj=>absurd hj (Nat.not_lt_zero _)),fun j p hp=>(by simp at hp),fun p hp=>(by cases hp)⟩,fun c hc=>(by cases hc;exact Nat.le_refl _)⟩,⟨by simp,fun j z p hz=>(by simp at hz)⟩,rfl⟩
   case round =>
    rename World=>wl
    clear H2;obtain⟨k,ps,qp,cp,vl,rfl,rfl,hk,HJ⟩:=hrel;have bw:=HJ.out.1.bl;by_cases hlt:k<i
    ·
     have hltI:(k:Int)<(i:Int):=by omega
     obtain⟨b,off,qi,ci,zi,rfl,lb,hmem,hget,hcell,il,lo⟩:=(H.out.1.below (bw.mono H.out.2.1)).get hlt;obtain⟨ni,hni⟩:∃ni,zi.length=ni:=⟨_,rfl⟩;rw[hni]at hcell il;have HW:=hide (set_any qi ni ci zi wl il (by have:=H.out.2.2.1 zi hmem;omega))
     have HI:=hide (And.intro hmem (And.intro hget hni));clear hmem hget hni il lo bw;go_wp2_with fail
     refine HW.out.mono ?_;rintro e w3 ⟨v3,s,rfl,hset,ho3,hf3,hb3⟩;obtain⟨q3,c3,ev3,-⟩:=ho3.shape;obtain⟨n3,hn3⟩:∃n3,s.length=n3:=⟨_,rfl⟩;rw[hn3]at ev3;subst ev3;obtain⟨w6,hw6⟩:∃w6,w3.alloc (.cells [.slice q3 n3 c3].toArray 35 (0,0))=w6:=⟨_,rfl⟩;have bl6:Below w3.heap.size w3 w6:=by rw[← hw6];exact (Below.refl _ _).alloc (Nat.le_refl _) _
     have blw:Below wl.heap.size wl w6:=hb3.trans (bl6.mono hb3.size);have hBw:w.heap.size≤wl.heap.size:=HJ.out.1.bl.size;have P6:=HJ.out.1.below hBw blw;have op6:=P6.pl.op;rw[HJ.out.2.2]at op6;have HOL:Hid (OL 1 35 (w3.alloc (.cells [.slice q3 n3 c3].toArray 35 (0,0))) (.slice qp k cp) k (fun j=>[vl j])):=by rw[hw6];exact op6
     have HF1:Hid (∀t,t<k→(fun j=>[upd vl k (.slice q3 n3 c3) j]) t=(fun j=>[vl j]) t):=fun t ht=>by simp[upd_other _ _ (show t≠k by omega)]
     have HF2:Hid ((fun j=>[upd vl k (.slice q3 n3 c3) j]) k=[.slice q3 n3 c3]):=by show _=_;simp[upd_same]
     have HLEN:Hid (k+1≤1000000000):=by show _≤_;omega
     have HDN:Hid (∀(wa:World) (v:Value),OL 1 35 wa v (k+1) (fun j=>[upd vl k (.slice q3 n3 c3) j])→App (.slice qp k cp) v w6 wa→PlM w.heap.size (ps++[s]) v (upd vl k (.slice q3 n3 c3)) w wa∧Sets (ls.take (k+1)) (ps++[s])∧(ps++[s]).length=k+1):=by
      intro wa v ho hap;have e9:=HJ.out.2.2;refine⟨?_,HJ.out.2.1.snoc HI.out.2.1 hset,by simp[e9]⟩
      have h9:=P6.push (p:=s) (u:=.slice q3 n3 c3) (Nat.le_trans hBw blw.size) (ho3.stay (fun c hc=>bl6.block c (ho3.lt hc))) ⟨hset.1,fun z hz=>by
       have h8:=HOK.out zi HI.out.1 z ((hset.2 z).1 hz);unfold Okl at h8;unfold Lim;omega⟩ hap (by rw[e9];exact ho)
      rw[e9]at h9;exact h9
     have HW6:=hide hw6;clear hset ho3 hf3 hb3 hn3 hw6 bl6 blw P6 op6 HW HJ;go_wp2_with (at_builtin;go_loud (refine Euf.wpList_push rfl (.tmp 36) (.tmp 39) 22 rfl 1 35 _ 24 uIts iIts (by decide) rfl (by decide) (.slice qp k cp) k (fun j=>[vl j]) rfl [.slice q3 n3 c3] 35 HOL.out (fun _ _=>rfl) 1 rfl rfl (by intro u hu;simp at hu;subst hu;rfl) HLEN.out (fun j=>[upd vl k (.slice q3 n3 c3) j]) HF1.out HF2.out ?_;intro v9 w9 hol9 hap9 hne9;rw[HW6.out]at hap9;obtain⟨q8,c8,hv8,-⟩:=hol9.shape;have d4:=HDN.out w9 v9 hol9 hap9;subst hv8;have HE:=hide d4;clear d4 hol9 hap9 hne9))
     go_roundw
     case rel=>exact⟨k+1,ps++[s],q8,c8,upd vl k (.slice q3 n3 c3),rfl,by go_num,by omega,HE.out⟩
     case measure=>simp[intOf]<;>omega
    ·
     have hltI:¬ ((k:Int)<(i:Int)):=by omega
     obtain rfl:k=i:=by omega
     have HP0:Hid (PlM w.heap.size ps (.slice qp k cp) vl w wl∧ps.length=k):=⟨HJ.out.1,HJ.out.2.2⟩;have HSE:Hid (Sets ls ps):=by
      have h9:=HJ.out.2.1;rw[← H.out.1.len,List.take_length]at h9;exact h9
     clear HJ bw;go_wp2_with fail
     go_loopw [7,44] (fun v7 v44 wr=>∃(t np:Nat) (rs:List (List Int)) (qp:Option Addr) (cp:Nat) (vl:Nat→Value),v7=.slice qp np cp∧v44=.int .i64 (t:Nat)∧t≤nP∧Hid (np=k+t)∧Hid (PlM w.heap.size rs (.slice qp np cp) vl w wr∧rs.length=np∧∀Q,Acc ps pf Q↔Acc rs (pf.drop t) Q)) (fun _ v _=>nP - (intOf v).toNat)
     case atStart=>exact⟨0,k,ps,qp,cp,vl,rfl,rfl,Nat.zero_le _,(show _=_ by omega),HP0.out.1,HP0.out.2,fun Q=>Iff.rfl⟩
     case round =>
      rename World=>wm
      clear HP0;obtain⟨t,np,rs,qp,cp,vl,rfl,rfl,ht,hnp,HK⟩:=hrel;have hnpI:(np:Int)≤1000000:=by have:=hnp.out;omega
      have bw:=HK.out.1.bl;by_cases hlt3:t<nP
      ·
       have hltI3:(t:Int)<(nP:Int):=by omega
       have hpf:=H.out.2.2.2.below bw;have htl:t<pf.length:=by rw[hpf.len];exact hlt3
       obtain⟨x,hx⟩:∃x,pf[t]?=some x:=⟨_,List.getElem?_eq_getElem htl⟩;have hdrop:pf.drop t=x::pf.drop (t+1):=by
        rw[List.drop_eq_getElem_cons htl];rw[List.getElem?_eq_getElem htl]at hx;injection hx with hx;rw[hx]
       rcases hpf.at_ with e0|⟨bx,ox,rfl,lbx,hcx⟩
       · rw[e0]at htl;simp at htl
       obtain⟨qc,cc,qs,cs,x0,x1,x2,ilc,rks⟩:=hcx t x hx;obtain⟨okf,oks,lks,lkc⟩:=hpf.ok x (List.mem_of_getElem? hx);obtain⟨lc,hlc⟩:∃lc,x.clause.length=lc:=⟨_,rfl⟩;obtain⟨ns,hns⟩:∃ns,x.steps.length=ns:=⟨_,rfl⟩;obtain⟨fs,hfs⟩:∃fs,x.first=fs:=⟨_,rfl⟩
       rw[hlc]at x0 ilc;rw[hns]at x2 rks;rw[hfs]at x1 okf;obtain⟨CB,hCB⟩:∃CB,wm.heap.size=CB:=⟨_,rfl⟩;obtain⟨w5,hw5⟩:∃w5,wm.alloc (.cells #[.slice qc lc cc,.int .i64 fs,.slice qs ns cs] 98 (0,0))=w5:=⟨_,rfl⟩;have bl5:Below wm.heap.size wm w5:=by rw[← hw5];exact (Below.refl _ _).alloc (Nat.le_refl _) _
       have kb5:w5.heap[CB]?=some (.cells #[.slice qc lc cc,.int .i64 fs,.slice qs ns cs] 98 (0,0)):=by rw[← hw5,← hCB];exact heap_alloc_new wm _
       have lC5:CB<w5.heap.size:=(Array.getElem?_eq_some_iff.1 kb5).1;have y0:w5.cell? ⟨CB,0,none⟩=some (.slice qc lc cc):=cell_of_row w5 CB 0 _ 98 (0,0) kb5;have y1:w5.cell? ⟨CB,1,none⟩=some (.int .i64 fs):=cell_of_row w5 CB 1 _ 98 (0,0) kb5;have y2:w5.cell? ⟨CB,2,none⟩=some (.slice qs ns cs):=cell_of_row w5 CB 2 _ 98 (0,0) kb5;have hBm:w.heap.size≤wm.heap.size:=bw.size;have P5:=HK.out.1.below hBm bl5;have HOU:=hide (outcome_any (.slice qp np cp) rs vl qc lc cc fs qs ns cs x.steps w5 P5.pl (rks.below bl5) oks okf (by rw[HK.out.2.1];omega) lks)
       have b5w:Below w.heap.size w w5:=P5.bl;have NoE:(¬ ∃b r,0≤fs∧rs[fs.toNat]?=some b∧Out rs b x.steps r∧SetOf x.clause r)→CkEnd ls pf (.returned (.int .i64 41)):=by
        intro hno;refine Or.inr ⟨HOK.out,ps,HSE.out,Or.inr ⟨?_,rfl⟩⟩;rintro⟨-,Q,hQ,-⟩;have h9:=(HK.out.2.2 Q).1 hQ;rw[hdrop]at h9;obtain⟨b,r,k1,k2,k3,k4,-⟩:=h9;rw[hfs]at k1 k2;exact hno ⟨b,r,k1,k2,k3,k4⟩
       have HNO:=hide NoE;have HX:=hide (And.intro hdrop (And.intro hlc (And.intro hfs (And.intro (ilc.below bl5) lkc))));have HP5:=hide (And.intro P5 (And.intro kb5 hBm));have HKA:=hide HK.out.2;have HB5:=hide b5w;have hsz5:wm.heap.size≤w5.heap.size:=bl5.size;clear hpf hx hdrop hcx ilc rks okf oks lks lkc hlc hns hfs bl5 kb5 P5 NoE HK bw b5w hBm;go_wp2_with fail
       refine HOU.out.mono ?_;rintro e w6 ⟨hb6,hend⟩;rcases hend with⟨b,r,vr,k1,k2,k3,rfl,k5,k6,k7,k8⟩|⟨k1,rfl⟩
       ·
        have b6:Below w.heap.size w w6:=HB5.out.trans (hb6.mono HB5.out.size);have ilc6:=HX.out.2.2.2.1.below hb6;have kb6:=(hb6.block CB lC5).trans HP5.out.2.1;have y06:w6.cell? ⟨CB,0,none⟩=some (.slice qc lc cc):=cell_of_row w6 CB 0 _ 98 (0,0) kb6;have lC6:CB<w6.heap.size:=Nat.lt_of_lt_of_le lC5 hb6.size;have HW:=hide (set_any qc lc cc x.clause w6 ilc6 (by have h9:=HX.out.2.2.2.2;rw[HX.out.2.1]at h9;omega))
        obtain⟨qr,cr,evr,-⟩:=k7.shape;obtain⟨nr,hnr⟩:∃nr,r.length=nr:=⟨_,rfl⟩;rw[hnr]at evr;subst evr;have P6:=HP5.out.1.below (Nat.le_trans HP5.out.2.2 hsz5) hb6;have H6:=hide (And.intro k1 (And.intro k2 (And.intro k3 (And.intro k5 (And.intro k6 (And.intro k7 hnr))))));have HP6:=hide (And.intro P6 b6);have HIC:=hide ilc6;clear k1 k2 k3 k5 k6 k7 k8 hb6 b6 ilc6 kb6 P6 hnr HOU y0 y1 y2;go_wp2_with fail
        refine HW.out.mono ?_;rintro e w7 ⟨v7,s,rfl,hset,ho7,hf7,hb7⟩;have or7:=H6.out.2.2.2.2.2.1.stay (fun c hc=>hb7.block c (H6.out.2.2.2.2.2.1.lt hc))
        obtain⟨qa,ca,eva,ila⟩:=Sat.OL.il or7 (fun z hz=>by have h9:=H6.out.2.2.2.2.1 z hz;unfold Lim at h9;exact⟨by omega,by omega⟩)
        obtain⟨qb,cb,evb,ilb⟩:=Sat.OL.il ho7 (fun z hz=>HIC.out.ok z ((hset.2 z).1 hz))
        have HEQ0:=equal_any qa r.length ca r qb s.length cb s w7 ila ilb;rw[← eva]at HEQ0;rw[H6.out.2.2.2.2.2.2]at or7;obtain⟨nb,hnb⟩:∃nb,s.length=nb:=⟨_,rfl⟩;rw[hnb]at evb HEQ0;subst evb;have HEQ:=hide HEQ0;have H7:=hide (And.intro hset (And.intro or7 hb7));clear hset ho7 hf7 hb7 or7 ila ilb eva HEQ0 hnb HW;go_wp2_with fail
        refine HEQ.out.mono ?_;rintro e w8 ⟨⟨bv,rfl,hbv⟩,kq,hw8⟩;have b8w:Below w.heap.size w w8:=by
         have h9:Below w7.heap.size w7 w8:=by rw[hw8];exact⟨rfl,rfl,rfl,Nat.le_refl _,fun _ _=>rfl⟩
         have h8:=HP6.out.2.trans (H7.out.2.2.mono HP6.out.2.size);exact h8.trans (h9.mono h8.size)
        cases bv with
        | false =>
         have HE:Hid (CkEnd ls pf (.returned (.int .i64 41))∧Below w.heap.size w w8):=by
          refine⟨HNO.out ?_,b8w⟩;rintro⟨b',r',h1,h2,h3,h4⟩;rw[H6.out.2.1]at h2;cases h2
          have e1:r=r':=H6.out.2.2.1.det h3;subst e1;have h5:=hbv.2 (h4.uniq H7.out.1);cases h5
         clear hbv hw8 b8w HEQ;go_wp2;go_ret
         exact HE.out
        | true =>
         have er:r=s:=hbv.1 rfl;have hsr:SetOf x.clause r:=by rw[er];exact H7.out.1
         have bl78:Below w7.heap.size w7 w8:=by rw[hw8];exact⟨rfl,rfl,rfl,Nat.le_refl _,fun _ _=>rfl⟩
         have bl68:Below w6.heap.size w6 w8:=H7.out.2.2.trans (bl78.mono H7.out.2.2.size);obtain⟨w9,hw9⟩:∃w9,w8.alloc (.cells [.slice qr nr cr].toArray 35 (0,0))=w9:=⟨_,rfl⟩;have bl89:Below w8.heap.size w8 w9:=by rw[← hw9];exact (Below.refl _ _).alloc (Nat.le_refl _) _
         have bl69:Below w6.heap.size w6 w9:=bl68.trans (bl89.mono bl68.size);have P9:=HP6.out.1.below HP6.out.2.size bl69;have or9:=H6.out.2.2.2.2.2.1.stay (fun c hc=>bl69.block c (H6.out.2.2.2.2.2.1.lt hc))
         have op9:=P9.pl.op;rw[HKA.out.1]at op9;have HOL:Hid (OL 1 35 (w8.alloc (.cells [.slice qr nr cr].toArray 35 (0,0))) (.slice qp np cp) np (fun j=>[vl j])):=by rw[hw9];exact op9
         have HF1:Hid (∀t,t<np→(fun j=>[upd vl np (.slice qr nr cr) j]) t=(fun j=>[vl j]) t):=fun t ht=>by simp[upd_other _ _ (show t≠np by omega)]
         have HF2:Hid ((fun j=>[upd vl np (.slice qr nr cr) j]) np=[.slice qr nr cr]):=by show _=_;simp[upd_same]
         have HLEN:Hid (np+1≤1000000000):=by show _≤_;omega
         have HDN:Hid (∀(wa:World) (v:Value),OL 1 35 wa v (np+1) (fun j=>[upd vl np (.slice qr nr cr) j])→App (.slice qp np cp) v w9 wa→PlM w.heap.size (rs++[r]) v (upd vl np (.slice qr nr cr)) w wa∧(rs++[r]).length=np+1∧∀Q,Acc ps pf Q↔Acc (rs++[r]) (pf.drop (t+1)) Q):=by
          intro wa v ho hap;have e9:=HKA.out.1;refine⟨?_,by simp[e9],fun Q=>?_⟩
          ·
           have h9:=P9.push (p:=r) (u:=.slice qr nr cr) (Nat.le_trans HP6.out.2.size bl69.size) or9 ⟨H6.out.2.2.2.1,H6.out.2.2.2.2.1⟩ hap (by rw[e9];exact ho)
           rw[e9]at h9;exact h9
          · rw[HKA.out.2 Q,HX.out.1];exact Acc.cons_iff (by rw[HX.out.2.2.1];exact H6.out.1) (by rw[HX.out.2.2.1];exact H6.out.2.1) H6.out.2.2.1 hsr Q
         have HW9:=hide hw9;have HNP:Hid (np+1=k+(t+1)):=by have:=hnp.out;show _=_;omega
         clear hbv hw8 b8w HEQ er hsr bl78 bl68 hw9 bl89 bl69 P9 or9 op9;go_wp2_with (at_builtin;go_loud (refine Euf.wpList_push rfl (.tmp 64) (.tmp 66) 22 rfl 1 35 _ 24 uIts iIts (by decide) rfl (by decide) (.slice qp np cp) np (fun j=>[vl j]) rfl [.slice qr nr cr] 35 HOL.out (fun _ _=>rfl) 1 rfl rfl (by intro u hu;simp at hu;subst hu;rfl) HLEN.out (fun j=>[upd vl np (.slice qr nr cr) j]) HF1.out HF2.out ?_;intro v9 w9' hol9 hap9 hne9;rw[HW9.out]at hap9;obtain⟨q8,c8,hv8,-⟩:=hol9.shape;have d4:=HDN.out w9' v9 hol9 hap9;subst hv8;have HE:=hide d4;clear d4 hol9 hap9 hne9))
         go_roundw
         case rel=>exact⟨t+1,np+1,rs++[r],q8,c8,upd vl np (.slice qr nr cr),rfl,by go_num,by omega,HNP.out,HE.out⟩
         case measure=>simp[intOf]<;>omega
       ·
        have HE:Hid (CkEnd ls pf (.returned (.int .i64 41))∧Below w.heap.size w w6):=⟨HNO.out (fun⟨b,r,h1,h2,h3,_⟩=>k1 ⟨b,r,h1,h2,h3⟩),HB5.out.trans (hb6.mono HB5.out.size)⟩
        clear k1 hb6 HOU;go_wp2;go_ret
        exact HE.out
      ·
       have hltI3:¬ ((t:Int)<(nP:Int)):=by omega
       obtain rfl:t=nP:=by omega
       have hacc:∀Q,Acc ps pf Q↔Q=rs:=fun Q=>by
        rw[HK.out.2.2 Q,← H.out.2.2.2.len,List.drop_length];exact Iff.rfl
       have mk:(OkPf ps pf→CkEnd ls pf (.returned (.int .i64 0)))∧(¬ OkPf ps pf→CkEnd ls pf (.returned (.int .i64 41))):=⟨fun h9=>Or.inr ⟨HOK.out,ps,HSE.out,Or.inl ⟨h9,rfl⟩⟩,fun h9=>Or.inr ⟨HOK.out,ps,HSE.out,Or.inr ⟨h9,rfl⟩⟩⟩
       by_cases h0:t=0
       ·
        have h0I:(t:Int)=0:=by omega
        have HE:Hid (CkEnd ls pf (.returned (.int .i64 41))∧Below w.heap.size w wm):=⟨mk.2 (fun h9=>h9.1 (List.eq_nil_of_length_eq_zero (by rw[H.out.2.2.2.len];exact h0))),bw⟩
        clear hacc mk HK bw;go_wp2;go_ret
        exact HE.out
       ·
        have h0I:¬ ((t:Int)=0):=by omega
        obtain⟨m,hm⟩:∃m,np=m+1:=⟨np - 1,by have:=hnp.out;omega⟩
        have hml:m<rs.length:=by rw[HK.out.2.1];omega
        obtain⟨p,hp⟩:∃p,rs[m]?=some p:=⟨_,List.getElem?_eq_getElem hml⟩;have opn:=HK.out.1.pl.op;obtain⟨bp,cp',hbp,-⟩:=opn.open m hml;rw[HK.out.2.1]at hbp;cases hbp
        have lbp:bp<wm.heap.size:=opn.lt rfl;have olp:=HK.out.1.pl.ol m p hp;obtain⟨ql,cl,evl,-⟩:=olp.shape;obtain⟨ll,hll⟩:∃ll,p.length=ll:=⟨_,rfl⟩;rw[hll]at evl;have cm:wm.cell? ⟨bp,m,none⟩=some (.slice ql ll cl):=by
         rw[HK.out.2.1]at opn;have h9:=opn.cell (i:=m) (by omega) (show 0<1 by decide)
         rw[Nat.mul_one,Nat.add_zero]at h9;rw[h9,← evl];rfl
        have hlast:rs.getLast?=some p:=by
         rw[List.getLast?_eq_getElem?,HK.out.2.1,hm];exact hp
        have hpn:pf≠[]:=fun e9=>h0 (by rw[← H.out.2.2.2.len,e9];rfl)
        have hok:OkPf ps pf↔p=[]:=by
         constructor
         · rintro⟨-,Q,h1,h2⟩;rw[(hacc Q).1 h1,hlast]at h2;injection h2
         · intro e9;exact⟨hpn,rs,(hacc rs).2 rfl,by rw[hlast,e9]⟩
        have hidx:(np:Int) - 1=(m:Int):=by omega
        have hmI:(m:Int)<(np:Int):=by omega
        have hlI:(ll:Int)≤8193:=by have h9:=lim_len (HK.out.1.pl.so p (List.mem_of_getElem? hp)).1 (HK.out.1.pl.so p (List.mem_of_getElem? hp)).2;omega
        clear hm hml;by_cases hl0:ll=0
        ·
         have hl0I:¬ ((0:Int)<(ll:Int)):=by omega
         have HE:Hid (CkEnd ls pf (.returned (.int .i64 0))∧Below w.heap.size w wm):=⟨mk.1 (hok.2 (List.eq_nil_of_length_eq_zero (by omega))),bw⟩
         clear hacc mk HK bw hok hlast hpn opn olp evl hll hp hnp;go_wp2;go_ret
         exact HE.out
        ·
         have hl0I:(0:Int)<(ll:Int):=by omega
         have HE:Hid (CkEnd ls pf (.returned (.int .i64 41))∧Below w.heap.size w wm):=⟨mk.2 (fun h9=>hl0 (by rw[← hll,hok.1 h9];rfl)),bw⟩
         clear hacc mk HK bw hok hlast hpn opn olp evl hll hp hnp;go_wp2;go_ret
         exact HE.out
end Sat
end Go.Proofs.YtbmkkhpoaicclabGreat
