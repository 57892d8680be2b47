/- The contract of outcome; it proves no statement of the seat. -/
import Derived.Test.YtbmkkhpoaicclabGreatJoin17Grows
import Derived.Test.YtbmkkhpoaicclabGreatSatPnJGrows
namespace Go.Proofs.YtbmkkhpoaicclabGreat
open Go Go.RowKit
set_option linter.unusedVariables false
namespace Sat
open Euf (OL App)
def Lim (z:Int):Prop:=-4096≤z∧z≤4096
theorem lim_len {s:List Int} (h:Srt s) (hl:∀z∈s,Lim z):s.length≤8193:=by
 have h9:=nodup_subI ((List.range 8193).map (fun (n:Nat)=>(n:Int) - 4096)) s (h.imp (fun {a b} hab e=>by subst e;unfold bv at hab;omega)) (fun x hx=>by
  obtain⟨h1,h2⟩:=hl x hx;exact List.mem_map.2 ⟨(x+4096).toNat,List.mem_range.2 (by omega),by omega⟩)
 simpa using h9
structure Plc (w:World) (vp:Value) (ps:List (List Int)) (vl:Nat→Value):Prop where
  op:OL 1 35 w vp ps.length (fun i=>[vl i])
  ol:∀(i:Nat) (p:List Int),ps[i]?=some p→OL 1 3 w (vl i) p.length (izC p)
  so:∀p∈ps,Srt p∧∀z∈p,Lim z
theorem Plc.below {w w':World} {vp:Value} {ps:List (List Int)} {vl:Nat→Value} (h:Plc w vp ps vl) (hb:Below w.heap.size w w'):Plc w' vp ps vl :=
  ⟨h.op.stay (fun b hb9=>hb.block b (h.op.lt hb9)),fun i p hp=>(h.ol i p hp).stay (fun b hb9=>hb.block b ((h.ol i p hp).lt hb9)),h.so⟩
structure RK (w:World) (q:Option Addr) (n:Nat) (st:List (Int × Int)):Prop where
  len:st.length=n
  at_:st=[]∨∃b off,q=some ⟨b,off,none⟩∧b<w.heap.size∧∀(j:Nat) (p:Int × Int),st[j]?=some p→w.cell? ⟨b,off+j*2,none⟩=some (.int .i64 p.1)∧w.cell? ⟨b,off+j*2+1,none⟩=some (.int .i64 p.2)
theorem RK.below {w w':World} {q:Option Addr} {n:Nat} {st:List (Int × Int)} (h:RK w q n st) (hb:Below w.heap.size w w'):RK w' q n st:=by
 refine⟨h.len,?_⟩;rcases h.at_ with e|⟨b,off,e,l,hc⟩
 · exact Or.inl e
 · exact Or.inr ⟨b,off,e,Nat.lt_of_lt_of_le l hb.size,fun j p hp=>⟨(World.cell?_of_block (a:=⟨b,off+j*2,none⟩) (hb.block b l)).trans (hc j p hp).1,(World.cell?_of_block (a:=⟨b,off+j*2+1,none⟩) (hb.block b l)).trans (hc j p hp).2⟩⟩
theorem OL.rk {w:World} {v:Value} {st:List (Int × Int)} (h:OL 2 100 w v st.length (skC st)):∃q cap,v=.slice q st.length cap∧RK w q st.length st:=by
 by_cases h0:st=[]
 · obtain⟨q,cap,e,-⟩:=h.shape;exact⟨q,cap,e,rfl,Or.inl h0⟩
 ·
  obtain⟨g,cap,e,-⟩:=h.open 0 (List.length_pos_iff.2 h0);refine⟨_,cap,e,rfl,Or.inr ⟨g,0,rfl,?_,fun j p hp=>?_⟩⟩
  · rw[e]at h;exact h.lt rfl
  ·
   rw[e]at h;have hj:=(List.getElem?_eq_some_iff.1 hp).1;have e0:=h.cell hj (show 0<2 by decide)
   have e1:=h.cell hj (show 1<2 by decide)
   rw[Nat.add_zero]at e0;rw[Nat.zero_add,e0,e1];simp[skC,hp]
def OuEnd (ps:List (List Int)) (fs:Int) (st:List (Int × Int)) (w:World) (e:Ending) (w':World):Prop :=
  Below w.heap.size w w' ∧
  ((∃b r vr,0≤fs∧ps[fs.toNat]?=some b∧Out ps b st r∧e=.returned (.tuple #[vr,.bool true])∧Srt r∧(∀z∈r,Lim z)∧OL 1 3 w' vr r.length (izC r)∧∀c,vr.ownBlock=some c→w.heap.size≤c) ∨
   ((¬ ∃b r,0≤fs∧ps[fs.toNat]?=some b∧Out ps b st r)∧e=.returned (.tuple #[.slice none 0 0,.bool false])))
structure OuM (ps:List (List Int)) (b:List Int) (st:List (Int × Int)) (k:Nat) (now:List Int) (vn vsp:Value) (mp:Nat) (w2 wr:World):Prop where
  bl:Below w2.heap.size w2 wr
  eq:∀r,Out ps b st r↔Out ps now (st.drop k) r
  so:Srt now
  li:∀z∈now,Lim z
  on:OL 1 3 wr vn now.length (izC now)
  os:∃f,OL 1 3 wr vsp mp f
  bn:∀c,vn.ownBlock=some c→w2.heap.size≤c
  bs:∀c,vsp.ownBlock=some c→w2.heap.size≤c
  ne:∀c,vsp.ownBlock=some c→vn.ownBlock≠some c
theorem Out.cons_iff {ps:List (List Int)} {now:List Int} {k v:Int} {st:List (Int × Int)} {b s:List Int} {l:Int} (hk:0≤k) (hb:ps[k.toNat]?=some b) (hr:Rsv now b v l) (hs:Srt s) (hm:∀x,x∈s↔RI now b l x) (r:List Int):Out ps now ((k,v)::st) r↔Out ps s st r:=by
 constructor
 ·
  intro h;cases h with
  | cons hk' hb' hr' hs' hm' h' =>
   rw[hb]at hb';cases hb'
   have e:=hr.uniq hr';subst e;rename_i s'
   have e2:s=s':=hs.ext hs' (fun x=>(hm x).trans (hm' x).symm)
   rw[e2];exact h'
 · intro h;exact Out.cons hk hb hr hs hm h
theorem Out.no {ps:List (List Int)} {now:List Int} {k v:Int} {st:List (Int × Int)} (h:¬ ∃b l,0≤k∧ps[k.toNat]?=some b∧Rsv now b v l) (r:List Int):¬ Out ps now ((k,v)::st) r:=by
 intro h9;cases h9 with
 | cons hk' hb' hr' hs' hm' h'=>exact h ⟨_,_,hk',hb',hr'⟩
set_option maxRecDepth 20000 in
set_option maxHeartbeats 16000000 in
theorem outcome_any (vp:Value) (ps:List (List Int)) (vl:Nat→Value) (qc:Option Addr) (lc cc:Nat) (fs:Int) (qs:Option Addr) (ns cs9:Nat) (st:List (Int × Int)) (w:World) (hp:Plc w vp ps vl) (hs:RK w qs ns st) (hst:∀p∈st,InI p.1∧InI p.2) (hfs:InI fs) (hln:ps.length≤1000000) (hsl:st.length≤1000000) :
  Calls Tryz.prog 56 #[vp,.agg #[.slice qc lc cc,.int .i64 fs,.slice qs ns cs9]] w fun e w'=>OuEnd ps fs st w e w':=by
 obtain⟨qP,cP,evp,-⟩:=hp.op.shape;obtain⟨np,hnp⟩:∃np,ps.length=np:=⟨_,rfl⟩;rw[hnp]at evp;subst evp;have hns:=hs.len;obtain⟨w2,hw2⟩:∃w2,w.alloc (.cells #[.slice qc lc cc,.int .i64 fs,.slice qs ns cs9] 98 (0,0))=w2:=⟨_,rfl⟩;obtain⟨pb,hpb⟩:∃pb,w.heap.size=pb:=⟨_,rfl⟩;have bl2:Below w.heap.size w w2:=by rw[← hw2];exact (Below.refl _ _).alloc (Nat.le_refl _) _
 have kb2:w2.heap[pb]?=some (.cells #[.slice qc lc cc,.int .i64 fs,.slice qs ns cs9] 98 (0,0)):=by rw[← hw2,← hpb];exact heap_alloc_new w _
 have lp2:pb<w2.heap.size:=(Array.getElem?_eq_some_iff.1 kb2).1;have c1:w2.cell? ⟨pb,1,none⟩=some (.int .i64 fs):=cell_of_row w2 pb 1 _ 98 (0,0) kb2;have p2:=hp.below bl2;have hs2:=hs.below bl2;have HB2:=hide (And.intro bl2 kb2);have HST:=hide (And.intro hst (And.intro hsl (And.intro hnp hns)));have HP2:=hide (And.intro p2 hs2);have hnpI:(np:Int)≤1000000:=by omega
 have hnsI:(ns:Int)≤1000000:=by omega
 clear hp hs hst bl2 kb2 p2 hs2 hnp hns hsl hln;by_cases hpl:0≤fs∧fs<(np:Int)
 ·
  have hd:decide (0≤fs∧fs<(np:Int))=true:=decide_eq_true hpl;obtain⟨ff,hff⟩:∃ff:Nat,fs=(ff:Int):=⟨fs.toNat,by omega⟩
  have hffI:(ff:Int)<(np:Int):=by omega
  have hfl:ff<ps.length:=by rw[HST.out.2.2.1];omega
  obtain⟨b,hb⟩:∃b,ps[ff]?=some b:=⟨_,List.getElem?_eq_getElem hfl⟩;have opn:=HP2.out.1.op;obtain⟨bP,cP',hbP,-⟩:=opn.open ff hfl;rw[HST.out.2.2.1]at hbP;cases hbP
  have lbP:bP<w2.heap.size:=opn.lt rfl;have ob:=HP2.out.1.ol ff b hb;obtain⟨qb,cb,evb,-⟩:=ob.shape;obtain⟨nb,hnb⟩:∃nb,b.length=nb:=⟨_,rfl⟩;rw[hnb]at evb;have cb0:w2.cell? ⟨bP,ff,none⟩=some (.slice qb nb cb):=by
   rw[HST.out.2.2.1]at opn;have h9:=opn.cell (i:=ff) (by omega) (show 0<1 by decide)
   rw[Nat.mul_one,Nat.add_zero]at h9;rw[h9,← evb];rfl
  have hbs:=HP2.out.1.so b (List.mem_of_getElem? hb);have HCL:Hid (Calls Tryz.prog 47 #[.slice qb nb cb] w2 fun e w'=>∃v',e=.returned v'∧Cle w2.heap.size b.length b v' w'∧Below w2.heap.size w2 w'):=by
   rw[evb]at ob;exact cloneO ob (by have:=lim_len hbs.1 hbs.2;omega)
  have HBB:=hide (And.intro hb (And.intro hbs hff));have hIP:∀w0,Calls Tryz.prog 87 #[.slice (some ⟨bP,0,none⟩) np cP,.int .i64 fs] w0 fun e w'=>e=.returned (.bool true)∧w0=w':=fun w0=>by
   have h9:=isPlace_any (some ⟨bP,0,none⟩) np cP fs w0;rw[hd]at h9;exact h9.mono (fun e w' h8=>⟨h8.1,h8.2.symm⟩)
  have HIP:=hide hIP;subst hff;clear hd opn ob evb hnb hb hbs hIP;go_enter Tryz.func56,Tryz.ntmps56;go_wp2_with (first|(go_at_call 87;refine (HIP.out _).mono ?_;rintro e w' ⟨rfl,rfl⟩)|(go_at_call 47;refine HCL.out.mono ?_;rintro e w3 ⟨vn,rfl,hcl3,bl3⟩;obtain⟨qn,cn,evn,-⟩:=hcl3.1.shape;obtain⟨nn,hnn⟩:∃nn,b.length=nn:=⟨_,rfl⟩;rw[hnn]at evn;subst evn;have H3:=hide (And.intro hcl3 (And.intro bl3 hnn));have c33:w3.cell? ⟨pb,2,none⟩=some (.slice qs ns cs9):=(World.cell?_of_block (a:=⟨pb,2,none⟩) (bl3.block pb lp2)).trans (cell_of_row w2 pb 2 _ 98 (0,0) HB2.out.2);have lp3:pb<w3.heap.size:=Nat.lt_of_lt_of_le lp2 bl3.size;clear hcl3 bl3 hnn))
  go_wp2_with fail
  go_loopw [6,7,26] (fun v6 v7 v26 wr=>∃(k:Nat) (now:List Int) (qn:Option Addr) (nn cn:Nat) (qp:Option Addr) (mp cp:Nat),v6=.slice qn nn cn∧v7=.slice qp mp cp∧v26=.int .i64 (k:Nat)∧k≤ns∧Hid (OuM ps b st k now (.slice qn nn cn) (.slice qp mp cp) mp w2 wr∧now.length=nn)) (fun _ _ v _=>ns - (intOf v).toNat)
  case atStart =>
   refine⟨0,b,qn,nn,cn,none,0,0,rfl,rfl,rfl,Nat.zero_le _,⟨H3.out.2.1,fun r=>Iff.rfl,HBB.out.2.1.1,HBB.out.2.1.2,H3.out.1.1,⟨fun _=>[],OL.nil _ _ _ _⟩,H3.out.1.2,fun c hc=>(by cases hc),fun c hc=>(by cases hc)⟩,H3.out.2.2⟩
  case round =>
   rename World=>wl
   clear H3 c33 lp3;obtain⟨k,now,qn,nn,cn,qp,mp,cp,rfl,rfl,rfl,hk,HJ⟩:=hrel;by_cases hlt:k<ns
   ·
    have hltI:(k:Int)<(ns:Int):=by omega
    have hkl:k<st.length:=by rw[HST.out.2.2.2];exact hlt
    obtain⟨⟨kv,v⟩,hp⟩:∃p,st[k]?=some p:=⟨_,List.getElem?_eq_getElem hkl⟩;have hdrop:st.drop k=(kv,v)::st.drop (k+1):=by
     rw[List.drop_eq_getElem_cons hkl];rw[List.getElem?_eq_getElem hkl]at hp;injection hp with hp;rw[hp]
    obtain⟨hi1,hi2⟩:=HST.out.1 (kv,v) (List.mem_of_getElem? hp);rcases (HP2.out.2.below HJ.out.1.bl).at_ with e0|⟨bk,ok,rfl,hlb,hck⟩
    · rw[e0]at hkl;simp at hkl
    obtain⟨l0,l1⟩:=hck k (kv,v) hp;simp only at l0 l1;clear hck;obtain⟨LB,hLB⟩:∃LB,wl.heap.size=LB:=⟨_,rfl⟩;obtain⟨w5,hw5⟩:∃w5,wl.alloc (.cells #[.int .i64 kv,.int .i64 v] 100 (0,0))=w5:=⟨_,rfl⟩;have bl5:Below wl.heap.size wl w5:=by rw[← hw5];exact (Below.refl _ _).alloc (Nat.le_refl _) _
    have kb5:w5.heap[LB]?=some (.cells #[.int .i64 kv,.int .i64 v] 100 (0,0)):=by rw[← hw5,← hLB];exact heap_alloc_new wl _
    have lL5:LB<w5.heap.size:=(Array.getElem?_eq_some_iff.1 kb5).1;have c50:w5.cell? ⟨LB,0,none⟩=some (.int .i64 kv):=cell_of_row w5 LB 0 _ 100 (0,0) kb5;have b25:Below w2.heap.size w2 w5:=HJ.out.1.bl.trans (bl5.mono HJ.out.1.bl.size);have NoE:∀w9,(¬ ∃p l,0≤kv∧ps[kv.toNat]?=some p∧Rsv now p v l)→Below w2.heap.size w2 w9→OuEnd ps (ff:Int) st w (.returned (.tuple #[.slice none 0 0,.bool false])) w9:=by
     intro w9 hno hb9;refine⟨HB2.out.1.trans (hb9.mono HB2.out.1.size),Or.inr ⟨?_,rfl⟩⟩;rintro⟨b',r,-,h2,h3⟩;have e9:b'=b:=by
      have h9:=HBB.out.1;simp at h2;rw[h9]at h2;injection h2 with h2;exact h2.symm
     subst e9;have h4:=(HJ.out.1.eq r).1 h3;rw[hdrop]at h4;exact Out.no hno r h4
    by_cases hpl2:0≤kv∧kv<(np:Int)
    ·
     obtain⟨kk,hkk⟩:∃kk:Nat,kv=(kk:Int):=⟨kv.toNat,by omega⟩
     subst hkk;have hkkI:(kk:Int)<(np:Int):=by omega
     have hkkl:kk<ps.length:=by rw[HST.out.2.2.1];omega
     have HIP2:Hid (∀w0,Calls Tryz.prog 87 #[.slice (some ⟨bP,0,none⟩) np cP,.int .i64 (kk:Nat)] w0 fun e w'=>e=.returned (.bool true)∧w0=w'):=fun w0=>by
      have h9:=isPlace_any (some ⟨bP,0,none⟩) np cP (kk:Int) w0;rw[decide_eq_true hpl2]at h9;exact h9.mono (fun e w' h8=>⟨h8.1,h8.2.symm⟩)
     obtain⟨p,hpp⟩:∃p,ps[kk]?=some p:=⟨_,List.getElem?_eq_getElem hkkl⟩;have opn:=HP2.out.1.op;have op2:=HP2.out.1.ol kk p hpp;obtain⟨qb,cb,evb,-⟩:=op2.shape;obtain⟨nb,hnb⟩:∃nb,p.length=nb:=⟨_,rfl⟩;rw[hnb]at evb;have cb2:w2.cell? ⟨bP,kk,none⟩=some (.slice qb nb cb):=by
      rw[HST.out.2.2.1]at opn;have h9:=opn.cell (i:=kk) (by omega) (show 0<1 by decide)
      rw[Nat.mul_one,Nat.add_zero]at h9;rw[h9,← evb];rfl
     have hps:=HP2.out.1.so p (List.mem_of_getElem? hpp);obtain⟨fsp,osp⟩:=HJ.out.1.os;have h9:=HJ.out.1;have spB:∀c,(Value.slice qp mp cp).ownBlock=some c→w2.heap.size≤c∧c<wl.heap.size:=fun c hc=>⟨h9.bs c hc,osp.lt hc⟩
     have own0:(Value.slice qp 0 cp).ownBlock=(Value.slice qp mp cp).ownBlock:=by cases qp<;>rfl
     have on5:=h9.on.stay (fun c hc=>bl5.block c (h9.on.lt hc))
     have os5:=osp.stay (fun c hc=>bl5.block c (osp.lt hc))
     obtain⟨MvX,hMvX⟩:∃MvX:World→Prop,MvX=fun wr=>Mv (fun c=>(Value.slice qp mp cp).ownBlock=some c) w5 wr:=⟨_,rfl⟩
     obtain⟨Rx,hRx⟩:∃Rx:Value→Bool→World→Prop,Rx=fun x y wr=>MvX wr∧((y=true∧∃l s qx nx cx,x=.slice qx nx cx∧s.length=nx∧Rsv now p v l∧Srt s∧(∀z,z∈s↔RI now p l z)∧OL 1 3 wr (.slice qx nx cx) nx (izC s)∧((Value.slice qx nx cx).ownBlock=(Value.slice qp mp cp).ownBlock∨∃c,(Value.slice qx nx cx).ownBlock=some c∧w5.heap.size≤c))∨(y=false∧x=.slice none 0 0∧¬ ∃l,Rsv now p v l)):=⟨_,rfl⟩
     obtain⟨Rx5,hRx5⟩:∃Rx5:World→Prop,Rx5=fun wr=>∃x y,Rx x y wr:=⟨_,rfl⟩
     have lP5:bP<w5.heap.size:=Nat.lt_of_lt_of_le lbP b25.size;have HM5:Hid (∀wr,(Below w5.heap.size w5 wr∨∃x y,Rx x y wr)→wr.cell? ⟨LB,0,none⟩=some (.int .i64 (kk:Nat))∧wr.cell? ⟨LB,1,none⟩=some (.int .i64 v)∧wr.cell? ⟨bP,kk,none⟩=some (.slice qb nb cb)∧LB<wr.heap.size∧bP<wr.heap.size):=fun wr hor=>by
      have key:wr.heap[LB]?=w5.heap[LB]?∧wr.heap[bP]?=w5.heap[bP]?∧w5.heap.size≤wr.heap.size:=by
       rcases hor with hb|⟨x,y,hx⟩
       · exact⟨hb.block _ lL5,hb.block _ lP5,hb.size⟩
       · rw[hRx]at hx;have hm:=hx.1;rw[hMvX]at hm;exact⟨hm.other _ lL5 (fun hc=>by have:=(spB _ hc).2;omega),hm.other _ lP5 (fun hc=>by have:=(spB _ hc).1;omega),hm.size⟩
      have k2:=key.1.trans kb5;exact⟨cell_of_row wr LB 0 _ 100 (0,0) k2,cell_of_row wr LB 1 _ 100 (0,0) k2,((World.cell?_of_block (a:=⟨bP,kk,none⟩) key.2.1).trans (World.cell?_of_block (a:=⟨bP,kk,none⟩) (b25.block bP lbP))).trans cb2,Nat.lt_of_lt_of_le lL5 key.2.2,Nat.lt_of_lt_of_le lP5 key.2.2⟩
     have HRV:Hid (∀wr,Below w5.heap.size w5 wr→Calls Tryz.prog 88 #[.slice qp 0 cp,.slice qn nn cn,.slice qb nb cb,.int .i64 v] wr fun e w'=>∃x y,e=.returned (.tuple #[x,.bool y])∧Rx x y w'):=fun wr hb=>by
      have o0:OL 1 3 wr (.slice qp 0 cp) 0 (izC []):=by
       have h8:=os5.stay (fun c hc=>hb.block c (os5.lt hc))
       rcases h8 with⟨e8,-⟩|⟨g8,cap8,cur8,e8,k1,k2,k3,k4,k5⟩
       · injection e8 with e81 e82 e83;subst e81 e83;exact Or.inl ⟨rfl,rfl⟩
       · injection e8 with e81 e82 e83;subst e81 e83;exact Or.inr ⟨g8,cp,cur8,rfl,k1,Nat.zero_le _,k3,k4,fun i hi=>absurd hi (Nat.not_lt_zero _)⟩
      have oa:=on5.stay (fun c hc=>hb.block c (on5.lt hc))
      have b2r:=b25.trans (hb.mono b25.size);have ob:=op2.stay (fun c hc=>b2r.block c (op2.lt hc))
      have bb:∀c,(vl kk).ownBlock=some c→c<w2.heap.size:=fun c hc=>op2.lt hc
      rw[evb]at ob bb;have l1:=lim_len h9.so h9.li;have l2:=lim_len hps.1 hps.2;refine (resolved_any (.slice qp 0 cp) (.slice qn nn cn) (.slice qb nb cb) now p v wr ⟨o0,oa,ob,h9.so,hps.1,fun z hz=>by have:=h9.li z hz;unfold Lim at this;exact⟨by omega,by omega⟩,fun z hz=>by have:=hps.2 z hz;unfold Lim at this;exact⟨by omega,by omega⟩,fun c hc=>h9.ne c (by rw[← own0];exact hc),fun c hc hc2=>by rw[own0]at hc;have h1:=(spB c hc).1;have h2:=bb c hc2;omega,by omega⟩ hi2).mono ?_
      intro e w' hend;have mvb:Mv (fun c=>(Value.slice qp 0 cp).ownBlock=some c) wr w'→Mv (fun c=>(Value.slice qp mp cp).ownBlock=some c) w5 w':=fun hm=>by
       rw[own0]at hm;exact (Mv.below (F:=fun c=>(Value.slice qp mp cp).ownBlock=some c) hb).trans hm (fun c hc=>Or.inl hc)
      rcases hend with⟨l,vr,s,h1,rfl,h3,h4,h5,h6,h7⟩|⟨h1,rfl,h6⟩
      ·
       obtain⟨qx,cx,ex,-⟩:=h5.shape;refine⟨vr,true,rfl,?_⟩;rw[hRx,hMvX];refine⟨mvb h6,Or.inl ⟨rfl,l,s,qx,s.length,cx,ex,rfl,h1,h3,h4,by rw[← ex];exact h5,?_⟩⟩
       rw[← ex];rcases h7 with e7|⟨c,e7,h7⟩
       · exact Or.inl (e7.trans own0)
       · exact Or.inr ⟨c,e7,Nat.le_trans hb.size h7⟩
      · refine⟨.slice none 0 0,false,rfl,?_⟩;rw[hRx,hMvX];exact⟨mvb h6,Or.inr ⟨rfl,rfl,h1⟩⟩
     have HGO:Hid (∀x y wr,Rx x y wr→(y=true∧∃qx nx cx s,x=.slice qx nx cx∧OuM ps b st (k+1) s (.slice qx nx cx) (.slice qn nn cn) nn w2 wr∧s.length=nx)∨(y=false∧x=.slice none 0 0∧OuEnd ps (ff:Int) st w (.returned (.tuple #[.slice none 0 0,.bool false])) wr)):=by
      intro x y wr hx;rw[hRx,hMvX]at hx;obtain⟨hm,hx⟩:=hx;have b2r:Below w2.heap.size w2 wr:=b25.trans ⟨hm.os,hm.tape,hm.output,hm.size,fun c hc=>hm.other c (Nat.lt_of_lt_of_le hc b25.size) (fun e9=>by have:=(spB c e9).1;omega)⟩
      rcases hx with⟨rfl,l,s,qx,nx,cx,rfl,h2,h3,h4,h5,h6,h7⟩|⟨rfl,rfl,h1⟩
      ·
       refine Or.inl ⟨rfl,qx,nx,cx,s,rfl,⟨b2r,fun r=>?_,h4,fun z hz=>?_,by rw[h2];exact h6,⟨izC now,?_⟩,fun c hc=>?_,h9.bn,fun c hc hc2=>?_⟩,h2⟩
       · rw[h9.eq r,hdrop];exact Out.cons_iff (by omega) (by simpa using hpp) h3 h4 h5 r
       ·
        rcases (h5 z).1 hz with⟨k1,-⟩|⟨k1,-⟩
        · exact h9.li z k1
        · exact hps.2 z k1
       ·
        have o8:=on5.stay (fun c hc=>hm.other c (on5.lt hc) (fun e9=>h9.ne c e9 hc))
        rw[HJ.out.2]at o8;exact o8
       ·
        rcases h7 with e7|⟨c',e7,h7⟩
        · exact (spB c (by rw[← e7];exact hc)).1
        · rw[e7]at hc;cases hc;have:=b25.size;omega
       ·
        rcases h7 with e7|⟨c',e7,h7⟩
        · exact h9.ne c (by rw[← e7];exact hc2) hc
        · rw[e7]at hc2;cases hc2;have:=on5.lt hc;omega
      ·
       refine Or.inr ⟨rfl,rfl,NoE wr ?_ b2r⟩;rintro⟨p',l,-,k2,k3⟩;simp at k2;rw[hpp]at k2;cases k2
       exact h1 ⟨l,k3⟩
     clear NoE hdrop HJ hp kb5 bl5 b25 hpl2 opn op2 evb hnb hps osp spB own0 on5 os5 h9 hMvX cb2 hpp;go_wp2_with (go_at_call 87;refine (HIP2.out _).mono ?_;rintro e w' ⟨rfl,rfl⟩)
     refine wp_region_E (by kernel_rfl) [some 36,some 37,some 38,some 39,some 40,some 41,some 42,some 43,some 44,some 45,some 46,some 35,some 47,some 48,some 10,some 11] [none,none,none,none,none,none,none,none,none,none,some 10,some 11,none,none,none,none,none,none,none,none,none,none,none,none,none,none,none,none,none,none,none,none,none,none,none,some 35,some 36,some 37,some 38,some 39,some 40,some 41,some 42,some 43,some 44,some 45,some 46,some 47,some 48] (fun U=>by kernel_rfl) [fun u=>u=(.slice qp mp cp),fun u=>u=(.slice qp 0 cp),fun u=>u=(.slice qn nn cn),fun u=>u=(.slice (some ⟨bP,0,none⟩) np cP),fun u=>u=(.pointer (some ⟨LB,0,none⟩)),fun u=>u=(.int .i64 (kk:Nat)),fun u=>u=(.pointer (some ⟨bP,kk,none⟩)),fun u=>u=(.slice qb nb cb),fun u=>u=(.pointer (some ⟨LB,1,none⟩)),fun u=>u=(.int .i64 v),fun _=>True,fun _=>True,fun _=>True,fun _=>True,fun _=>True,fun _=>True] (fun L U wr=>(L 10=false→Below w5.heap.size w5 wr)∧(L 10=true→∃x y,U 46=.tuple #[x,.bool y]∧Rx x y wr∧(L 11=true→U 35=.tuple #[x,.bool y])∧(L 12=true→U 47=x)∧(L 13=true→U 48=.bool y)∧(L 14=true→U 10=x)∧(L 15=true→U 11=.bool y))) (by kernel_rfl) (by decide) (by kernel_rfl) (by kernel_rfl) ?_ ?_ ?_
     · exact fun U=>⟨fun _=>(Below.refl _ _).drew,(fun h=>by cases h)⟩
     ·
      refine StepsE.run rfl ?_ ?_
      ·
       intro L U wr hC hP hlk hcl haf A K hFm hK;simp[Aft,Region.binds]at haf;have e7:A.tmps[7]?=some (.slice qp mp cp):=(hFm.old 7 (by decide)).trans (by kernel_rfl)
       refine⟨?_⟩;have HC:Hid _:=hC;clear hC;go_simp;refine hK _ _ rfl ?_;refine⟨fun h=>HC.out.1 (by simpa using h),fun h=>?_⟩
       obtain⟨x9,y9,h1,h2,h3,h4,h5,h6,h7⟩:=HC.out.2 (by simpa using h)
       exact⟨x9,y9,by simpa [updO,Go.Proofs.YtbmkkhpoaicclabGreat.upd] using h1,h2,fun h=>by simpa [updO,Go.Proofs.YtbmkkhpoaicclabGreat.upd] using h3 (by simpa using h),fun h=>by simpa [updO,Go.Proofs.YtbmkkhpoaicclabGreat.upd] using h4 (by simpa using h),fun h=>by simpa [updO,Go.Proofs.YtbmkkhpoaicclabGreat.upd] using h5 (by simpa using h),fun h=>by simpa [updO,Go.Proofs.YtbmkkhpoaicclabGreat.upd] using h6 (by simpa using h),fun h=>by simpa [updO,Go.Proofs.YtbmkkhpoaicclabGreat.upd] using h7 (by simpa using h)⟩
      refine StepsE.run rfl ?_ ?_
      ·
       intro L U wr hC hP hlk hcl haf A K hFm hK;simp[Aft,Region.binds]at haf;have g0:U 36=(.slice qp mp cp):=hP 0 36 (by simp[haf]) rfl
       have e36:A.tmps[36]?=some (.slice qp mp cp):=hFm.is 0 36 rfl g0;refine⟨?_⟩;have HC:Hid _:=hC;clear hC;go_simp;refine hK _ _ rfl ?_;refine⟨fun h=>HC.out.1 (by simpa using h),fun h=>?_⟩
       obtain⟨x9,y9,h1,h2,h3,h4,h5,h6,h7⟩:=HC.out.2 (by simpa using h)
       exact⟨x9,y9,by simpa [updO,Go.Proofs.YtbmkkhpoaicclabGreat.upd] using h1,h2,fun h=>by simpa [updO,Go.Proofs.YtbmkkhpoaicclabGreat.upd] using h3 (by simpa using h),fun h=>by simpa [updO,Go.Proofs.YtbmkkhpoaicclabGreat.upd] using h4 (by simpa using h),fun h=>by simpa [updO,Go.Proofs.YtbmkkhpoaicclabGreat.upd] using h5 (by simpa using h),fun h=>by simpa [updO,Go.Proofs.YtbmkkhpoaicclabGreat.upd] using h6 (by simpa using h),fun h=>by simpa [updO,Go.Proofs.YtbmkkhpoaicclabGreat.upd] using h7 (by simpa using h)⟩
      refine StepsE.run rfl ?_ ?_
      ·
       intro L U wr hC hP hlk hcl haf A K hFm hK;simp[Aft,Region.binds]at haf;have e6:A.tmps[6]?=some (.slice qn nn cn):=(hFm.old 6 (by decide)).trans (by kernel_rfl)
       refine⟨?_⟩;have HC:Hid _:=hC;clear hC;go_simp;refine hK _ _ rfl ?_;refine⟨fun h=>HC.out.1 (by simpa using h),fun h=>?_⟩
       obtain⟨x9,y9,h1,h2,h3,h4,h5,h6,h7⟩:=HC.out.2 (by simpa using h)
       exact⟨x9,y9,by simpa [updO,Go.Proofs.YtbmkkhpoaicclabGreat.upd] using h1,h2,fun h=>by simpa [updO,Go.Proofs.YtbmkkhpoaicclabGreat.upd] using h3 (by simpa using h),fun h=>by simpa [updO,Go.Proofs.YtbmkkhpoaicclabGreat.upd] using h4 (by simpa using h),fun h=>by simpa [updO,Go.Proofs.YtbmkkhpoaicclabGreat.upd] using h5 (by simpa using h),fun h=>by simpa [updO,Go.Proofs.YtbmkkhpoaicclabGreat.upd] using h6 (by simpa using h),fun h=>by simpa [updO,Go.Proofs.YtbmkkhpoaicclabGreat.upd] using h7 (by simpa using h)⟩
      refine StepsE.run rfl ?_ ?_
      ·
       intro L U wr hC hP hlk hcl haf A K hFm hK;simp[Aft,Region.binds]at haf;have e0:A.tmps[0]?=some (.slice (some ⟨bP,0,none⟩) np cP):=(hFm.old 0 (by decide)).trans (by kernel_rfl)
       refine⟨?_⟩;have HC:Hid _:=hC;clear hC;go_simp;refine hK _ _ rfl ?_;refine⟨fun h=>HC.out.1 (by simpa using h),fun h=>?_⟩
       obtain⟨x9,y9,h1,h2,h3,h4,h5,h6,h7⟩:=HC.out.2 (by simpa using h)
       exact⟨x9,y9,by simpa [updO,Go.Proofs.YtbmkkhpoaicclabGreat.upd] using h1,h2,fun h=>by simpa [updO,Go.Proofs.YtbmkkhpoaicclabGreat.upd] using h3 (by simpa using h),fun h=>by simpa [updO,Go.Proofs.YtbmkkhpoaicclabGreat.upd] using h4 (by simpa using h),fun h=>by simpa [updO,Go.Proofs.YtbmkkhpoaicclabGreat.upd] using h5 (by simpa using h),fun h=>by simpa [updO,Go.Proofs.YtbmkkhpoaicclabGreat.upd] using h6 (by simpa using h),fun h=>by simpa [updO,Go.Proofs.YtbmkkhpoaicclabGreat.upd] using h7 (by simpa using h)⟩
      refine StepsE.run rfl ?_ ?_
      ·
       intro L U wr hC hP hlk hcl haf A K hFm hK;simp[Aft,Region.binds]at haf;have e9:A.tmps[9]?=some (.pointer (some ⟨LB,0,none⟩)):=(hFm.old 9 (by decide)).trans (by kernel_rfl)
       refine⟨?_⟩;have HC:Hid _:=hC;clear hC;go_simp;refine hK _ _ rfl ?_;refine⟨fun h=>HC.out.1 (by simpa using h),fun h=>?_⟩
       obtain⟨x9,y9,h1,h2,h3,h4,h5,h6,h7⟩:=HC.out.2 (by simpa using h)
       exact⟨x9,y9,by simpa [updO,Go.Proofs.YtbmkkhpoaicclabGreat.upd] using h1,h2,fun h=>by simpa [updO,Go.Proofs.YtbmkkhpoaicclabGreat.upd] using h3 (by simpa using h),fun h=>by simpa [updO,Go.Proofs.YtbmkkhpoaicclabGreat.upd] using h4 (by simpa using h),fun h=>by simpa [updO,Go.Proofs.YtbmkkhpoaicclabGreat.upd] using h5 (by simpa using h),fun h=>by simpa [updO,Go.Proofs.YtbmkkhpoaicclabGreat.upd] using h6 (by simpa using h),fun h=>by simpa [updO,Go.Proofs.YtbmkkhpoaicclabGreat.upd] using h7 (by simpa using h)⟩
      refine StepsE.run rfl ?_ ?_
      ·
       intro L U wr hC hP hlk hcl haf A K hFm hK;simp[Aft,Region.binds]at haf;have g4:U 40=(.pointer (some ⟨LB,0,none⟩)):=hP 4 40 (by simp[haf]) rfl
       have e40:A.tmps[40]?=some (.pointer (some ⟨LB,0,none⟩)):=hFm.is 4 40 rfl g4;have hb8:Below w5.heap.size w5 wr∨∃x y,Rx x y wr:=by
        cases h:L 10 with
        | false=>exact Or.inl (hC.1 h)
        | true=>obtain⟨x9,y9,-,h9,-⟩:=hC.2 h;exact Or.inr ⟨x9,y9,h9⟩
       obtain⟨m0,m1,m2,m3,m4⟩:=HM5.out wr hb8;clear hb8;refine⟨?_⟩;have HC:Hid _:=hC;clear hC;go_simp;refine hK _ _ rfl ?_;refine⟨fun h=>HC.out.1 (by simpa using h),fun h=>?_⟩
       obtain⟨x9,y9,h1,h2,h3,h4,h5,h6,h7⟩:=HC.out.2 (by simpa using h)
       exact⟨x9,y9,by simpa [updO,Go.Proofs.YtbmkkhpoaicclabGreat.upd] using h1,h2,fun h=>by simpa [updO,Go.Proofs.YtbmkkhpoaicclabGreat.upd] using h3 (by simpa using h),fun h=>by simpa [updO,Go.Proofs.YtbmkkhpoaicclabGreat.upd] using h4 (by simpa using h),fun h=>by simpa [updO,Go.Proofs.YtbmkkhpoaicclabGreat.upd] using h5 (by simpa using h),fun h=>by simpa [updO,Go.Proofs.YtbmkkhpoaicclabGreat.upd] using h6 (by simpa using h),fun h=>by simpa [updO,Go.Proofs.YtbmkkhpoaicclabGreat.upd] using h7 (by simpa using h)⟩
      refine StepsE.run rfl ?_ ?_
      ·
       intro L U wr hC hP hlk hcl haf A K hFm hK;simp[Aft,Region.binds]at haf;have g3:U 39=(.slice (some ⟨bP,0,none⟩) np cP):=hP 3 39 (by simp[haf]) rfl
       have e39:A.tmps[39]?=some (.slice (some ⟨bP,0,none⟩) np cP):=hFm.is 3 39 rfl g3;have g5:U 41=(.int .i64 (kk:Nat)):=hP 5 41 (by simp[haf]) rfl
       have e41:A.tmps[41]?=some (.int .i64 (kk:Nat)):=hFm.is 5 41 rfl g5;refine⟨?_⟩;have HC:Hid _:=hC;clear hC;go_simp;refine hK _ _ rfl ?_;refine⟨fun h=>HC.out.1 (by simpa using h),fun h=>?_⟩
       obtain⟨x9,y9,h1,h2,h3,h4,h5,h6,h7⟩:=HC.out.2 (by simpa using h)
       exact⟨x9,y9,by simpa [updO,Go.Proofs.YtbmkkhpoaicclabGreat.upd] using h1,h2,fun h=>by simpa [updO,Go.Proofs.YtbmkkhpoaicclabGreat.upd] using h3 (by simpa using h),fun h=>by simpa [updO,Go.Proofs.YtbmkkhpoaicclabGreat.upd] using h4 (by simpa using h),fun h=>by simpa [updO,Go.Proofs.YtbmkkhpoaicclabGreat.upd] using h5 (by simpa using h),fun h=>by simpa [updO,Go.Proofs.YtbmkkhpoaicclabGreat.upd] using h6 (by simpa using h),fun h=>by simpa [updO,Go.Proofs.YtbmkkhpoaicclabGreat.upd] using h7 (by simpa using h)⟩
      refine StepsE.run rfl ?_ ?_
      ·
       intro L U wr hC hP hlk hcl haf A K hFm hK;simp[Aft,Region.binds]at haf;have g6:U 42=(.pointer (some ⟨bP,kk,none⟩)):=hP 6 42 (by simp[haf]) rfl
       have e42:A.tmps[42]?=some (.pointer (some ⟨bP,kk,none⟩)):=hFm.is 6 42 rfl g6;have hb8:Below w5.heap.size w5 wr∨∃x y,Rx x y wr:=by
        cases h:L 10 with
        | false=>exact Or.inl (hC.1 h)
        | true=>obtain⟨x9,y9,-,h9,-⟩:=hC.2 h;exact Or.inr ⟨x9,y9,h9⟩
       obtain⟨m0,m1,m2,m3,m4⟩:=HM5.out wr hb8;clear hb8;refine⟨?_⟩;have HC:Hid _:=hC;clear hC;go_simp;refine hK _ _ rfl ?_;refine⟨fun h=>HC.out.1 (by simpa using h),fun h=>?_⟩
       obtain⟨x9,y9,h1,h2,h3,h4,h5,h6,h7⟩:=HC.out.2 (by simpa using h)
       exact⟨x9,y9,by simpa [updO,Go.Proofs.YtbmkkhpoaicclabGreat.upd] using h1,h2,fun h=>by simpa [updO,Go.Proofs.YtbmkkhpoaicclabGreat.upd] using h3 (by simpa using h),fun h=>by simpa [updO,Go.Proofs.YtbmkkhpoaicclabGreat.upd] using h4 (by simpa using h),fun h=>by simpa [updO,Go.Proofs.YtbmkkhpoaicclabGreat.upd] using h5 (by simpa using h),fun h=>by simpa [updO,Go.Proofs.YtbmkkhpoaicclabGreat.upd] using h6 (by simpa using h),fun h=>by simpa [updO,Go.Proofs.YtbmkkhpoaicclabGreat.upd] using h7 (by simpa using h)⟩
      refine StepsE.run rfl ?_ ?_
      ·
       intro L U wr hC hP hlk hcl haf A K hFm hK;simp[Aft,Region.binds]at haf;have e9:A.tmps[9]?=some (.pointer (some ⟨LB,0,none⟩)):=(hFm.old 9 (by decide)).trans (by kernel_rfl)
       refine⟨?_⟩;have HC:Hid _:=hC;clear hC;go_simp;refine hK _ _ rfl ?_;refine⟨fun h=>HC.out.1 (by simpa using h),fun h=>?_⟩
       obtain⟨x9,y9,h1,h2,h3,h4,h5,h6,h7⟩:=HC.out.2 (by simpa using h)
       exact⟨x9,y9,by simpa [updO,Go.Proofs.YtbmkkhpoaicclabGreat.upd] using h1,h2,fun h=>by simpa [updO,Go.Proofs.YtbmkkhpoaicclabGreat.upd] using h3 (by simpa using h),fun h=>by simpa [updO,Go.Proofs.YtbmkkhpoaicclabGreat.upd] using h4 (by simpa using h),fun h=>by simpa [updO,Go.Proofs.YtbmkkhpoaicclabGreat.upd] using h5 (by simpa using h),fun h=>by simpa [updO,Go.Proofs.YtbmkkhpoaicclabGreat.upd] using h6 (by simpa using h),fun h=>by simpa [updO,Go.Proofs.YtbmkkhpoaicclabGreat.upd] using h7 (by simpa using h)⟩
      refine StepsE.run rfl ?_ ?_
      ·
       intro L U wr hC hP hlk hcl haf A K hFm hK;simp[Aft,Region.binds]at haf;have g8:U 44=(.pointer (some ⟨LB,1,none⟩)):=hP 8 44 (by simp[haf]) rfl
       have e44:A.tmps[44]?=some (.pointer (some ⟨LB,1,none⟩)):=hFm.is 8 44 rfl g8;have hb8:Below w5.heap.size w5 wr∨∃x y,Rx x y wr:=by
        cases h:L 10 with
        | false=>exact Or.inl (hC.1 h)
        | true=>obtain⟨x9,y9,-,h9,-⟩:=hC.2 h;exact Or.inr ⟨x9,y9,h9⟩
       obtain⟨m0,m1,m2,m3,m4⟩:=HM5.out wr hb8;clear hb8;refine⟨?_⟩;have HC:Hid _:=hC;clear hC;go_simp;refine hK _ _ rfl ?_;refine⟨fun h=>HC.out.1 (by simpa using h),fun h=>?_⟩
       obtain⟨x9,y9,h1,h2,h3,h4,h5,h6,h7⟩:=HC.out.2 (by simpa using h)
       exact⟨x9,y9,by simpa [updO,Go.Proofs.YtbmkkhpoaicclabGreat.upd] using h1,h2,fun h=>by simpa [updO,Go.Proofs.YtbmkkhpoaicclabGreat.upd] using h3 (by simpa using h),fun h=>by simpa [updO,Go.Proofs.YtbmkkhpoaicclabGreat.upd] using h4 (by simpa using h),fun h=>by simpa [updO,Go.Proofs.YtbmkkhpoaicclabGreat.upd] using h5 (by simpa using h),fun h=>by simpa [updO,Go.Proofs.YtbmkkhpoaicclabGreat.upd] using h6 (by simpa using h),fun h=>by simpa [updO,Go.Proofs.YtbmkkhpoaicclabGreat.upd] using h7 (by simpa using h)⟩
      refine StepsE.run rfl ?_ ?_
      ·
       intro L U wr hC hP hlk hcl haf A K hFm hK;simp[Aft,Region.binds]at haf;have g1:U 37=(.slice qp 0 cp):=hP 1 37 (by simp[haf]) rfl
       have e37:A.tmps[37]?=some (.slice qp 0 cp):=hFm.is 1 37 rfl g1;have g2:U 38=(.slice qn nn cn):=hP 2 38 (by simp[haf]) rfl
       have e38:A.tmps[38]?=some (.slice qn nn cn):=hFm.is 2 38 rfl g2;have g7:U 43=(.slice qb nb cb):=hP 7 43 (by simp[haf]) rfl
       have e43:A.tmps[43]?=some (.slice qb nb cb):=hFm.is 7 43 rfl g7;have g9:U 45=(.int .i64 v):=hP 9 45 (by simp[haf]) rfl
       have e45:A.tmps[45]?=some (.int .i64 v):=hFm.is 9 45 rfl g9;refine⟨?_⟩;have hb8:=hC.1 hlk;have HC:Hid _:=hC;clear hC;go_simp;refine (HRV.out wr hb8).mono ?_;rintro e w9 ⟨x9,y9,rfl,hr9⟩;have HR9:=hide hr9;clear hr9;go_simp;refine hK _ _ trivial ⟨fun h=>by simp at h,fun _=>⟨x9,y9,by simp[updO,Go.Proofs.YtbmkkhpoaicclabGreat.upd],HR9.out,?_,?_,?_,?_,?_⟩⟩
       ·
        intro h;have h:L 11=true:=by simpa using h
        have h9:=hcl 11 _ rfl h;simp[Aft,Region.binds,hlk]at h9
       ·
        intro h;have h:L 12=true:=by simpa using h
        have h9:=hcl 12 _ rfl h;simp[Aft,Region.binds]at h9;have h8:=hcl 11 _ rfl (by simp[h9]);simp[Aft,Region.binds,hlk]at h8
       ·
        intro h;have h:L 13=true:=by simpa using h
        have h9:=hcl 13 _ rfl h;simp[Aft,Region.binds]at h9;have h8:=hcl 11 _ rfl (by simp[h9]);simp[Aft,Region.binds,hlk]at h8
       ·
        intro h;have h:L 14=true:=by simpa using h
        have h9:=hcl 14 _ rfl h;simp[Aft,Region.binds]at h9;have h7:=hcl 12 _ rfl (by simp[h9]);simp[Aft,Region.binds]at h7;have h8:=hcl 11 _ rfl (by simp[h7]);simp[Aft,Region.binds,hlk]at h8
       ·
        intro h;have h:L 15=true:=by simpa using h
        have h9:=hcl 15 _ rfl h;simp[Aft,Region.binds]at h9;have h7:=hcl 13 _ rfl (by simp[h9]);simp[Aft,Region.binds]at h7;have h8:=hcl 11 _ rfl (by simp[h7]);simp[Aft,Region.binds,hlk]at h8
      refine StepsE.run rfl ?_ ?_
      ·
       intro L U wr hC hP hlk hcl haf A K hFm hK;simp[Aft,Region.binds]at haf;have e46:A.tmps[46]?=some (U 46):=hFm.got 10 46 rfl;have l10:L 10=true:=by simp[haf]
       have a10:=hcl 10 _ rfl l10;simp[Aft,Region.binds]at a10;have l1:L 1=true:=by simp[a10]
       have l2:L 2=true:=by simp[a10]
       have l7:L 7=true:=by simp[a10]
       have l9:L 9=true:=by simp[a10]
       have a1:=hcl 1 _ rfl l1;simp[Aft,Region.binds]at a1;have l0:L 0=true:=by simp[a1]
       have a7:=hcl 7 _ rfl l7;simp[Aft,Region.binds]at a7;have l6:L 6=true:=by simp[a7]
       have a9:=hcl 9 _ rfl l9;simp[Aft,Region.binds]at a9;have l8:L 8=true:=by simp[a9]
       have a6:=hcl 6 _ rfl l6;simp[Aft,Region.binds]at a6;have l3:L 3=true:=by simp[a6]
       have l5:L 5=true:=by simp[a6]
       have a5:=hcl 5 _ rfl l5;simp[Aft,Region.binds]at a5;have l4:L 4=true:=by simp[a5]
       refine⟨?_⟩;obtain⟨x9,y9,h1,h2,h3,h4,h5,h6,h7⟩:=hC.2 l10;have eq9:=h1;rw[eq9]at e46;have HC:Hid _:=hC;have H9:=hide (And.intro h1 (And.intro h2 (And.intro h3 (And.intro h4 (And.intro h5 (And.intro h6 h7))))));clear hC h1 h2 h3 h4 h5 h6 h7 eq9;go_simp;obtain⟨h1,h2,h3,h4,h5,h6,h7⟩:=H9.out;refine hK _ _ trivial ⟨fun h=>HC.out.1 (by simpa using h),fun _=>⟨x9,y9,by simpa [updO,Go.Proofs.YtbmkkhpoaicclabGreat.upd] using h1,h2,fun _=>by simp[updO,Go.Proofs.YtbmkkhpoaicclabGreat.upd],fun h=>by simpa [updO,Go.Proofs.YtbmkkhpoaicclabGreat.upd] using h4 (by simpa using h),fun h=>by simpa [updO,Go.Proofs.YtbmkkhpoaicclabGreat.upd] using h5 (by simpa using h),fun h=>by simpa [updO,Go.Proofs.YtbmkkhpoaicclabGreat.upd] using h6 (by simpa using h),fun h=>by simpa [updO,Go.Proofs.YtbmkkhpoaicclabGreat.upd] using h7 (by simpa using h)⟩⟩
      refine StepsE.run rfl ?_ ?_
      ·
       intro L U wr hC hP hlk hcl haf A K hFm hK;simp[Aft,Region.binds]at haf;have e35:A.tmps[35]?=some (U 35):=hFm.got 11 35 rfl;have l11:L 11=true:=by simp[haf]
       have a11:=hcl 11 _ rfl l11;simp[Aft,Region.binds]at a11;have l10:L 10=true:=by simp[a11]
       have a10:=hcl 10 _ rfl l10;simp[Aft,Region.binds]at a10;have l1:L 1=true:=by simp[a10]
       have l2:L 2=true:=by simp[a10]
       have l7:L 7=true:=by simp[a10]
       have l9:L 9=true:=by simp[a10]
       have a1:=hcl 1 _ rfl l1;simp[Aft,Region.binds]at a1;have l0:L 0=true:=by simp[a1]
       have a7:=hcl 7 _ rfl l7;simp[Aft,Region.binds]at a7;have l6:L 6=true:=by simp[a7]
       have a9:=hcl 9 _ rfl l9;simp[Aft,Region.binds]at a9;have l8:L 8=true:=by simp[a9]
       have a6:=hcl 6 _ rfl l6;simp[Aft,Region.binds]at a6;have l3:L 3=true:=by simp[a6]
       have l5:L 5=true:=by simp[a6]
       have a5:=hcl 5 _ rfl l5;simp[Aft,Region.binds]at a5;have l4:L 4=true:=by simp[a5]
       refine⟨?_⟩;obtain⟨x9,y9,h1,h2,h3,h4,h5,h6,h7⟩:=hC.2 l10;have eq9:=h3 l11;rw[eq9]at e35;have HC:Hid _:=hC;have H9:=hide (And.intro h1 (And.intro h2 (And.intro h3 (And.intro h4 (And.intro h5 (And.intro h6 h7))))));clear hC h1 h2 h3 h4 h5 h6 h7 eq9;go_simp;obtain⟨h1,h2,h3,h4,h5,h6,h7⟩:=H9.out;refine hK _ _ trivial ⟨fun h=>HC.out.1 (by simpa using h),fun _=>⟨x9,y9,by simpa [updO,Go.Proofs.YtbmkkhpoaicclabGreat.upd] using h1,h2,fun h=>by simpa [updO,Go.Proofs.YtbmkkhpoaicclabGreat.upd] using h3 (by simpa using h),fun _=>by simp[updO,Go.Proofs.YtbmkkhpoaicclabGreat.upd],fun h=>by simpa [updO,Go.Proofs.YtbmkkhpoaicclabGreat.upd] using h5 (by simpa using h),fun h=>by simpa [updO,Go.Proofs.YtbmkkhpoaicclabGreat.upd] using h6 (by simpa using h),fun h=>by simpa [updO,Go.Proofs.YtbmkkhpoaicclabGreat.upd] using h7 (by simpa using h)⟩⟩
      refine StepsE.run rfl ?_ ?_
      ·
       intro L U wr hC hP hlk hcl haf A K hFm hK;simp[Aft,Region.binds]at haf;have e35:A.tmps[35]?=some (U 35):=hFm.got 11 35 rfl;have l11:L 11=true:=by simp[haf]
       have a11:=hcl 11 _ rfl l11;simp[Aft,Region.binds]at a11;have l10:L 10=true:=by simp[a11]
       have a10:=hcl 10 _ rfl l10;simp[Aft,Region.binds]at a10;have l1:L 1=true:=by simp[a10]
       have l2:L 2=true:=by simp[a10]
       have l7:L 7=true:=by simp[a10]
       have l9:L 9=true:=by simp[a10]
       have a1:=hcl 1 _ rfl l1;simp[Aft,Region.binds]at a1;have l0:L 0=true:=by simp[a1]
       have a7:=hcl 7 _ rfl l7;simp[Aft,Region.binds]at a7;have l6:L 6=true:=by simp[a7]
       have a9:=hcl 9 _ rfl l9;simp[Aft,Region.binds]at a9;have l8:L 8=true:=by simp[a9]
       have a6:=hcl 6 _ rfl l6;simp[Aft,Region.binds]at a6;have l3:L 3=true:=by simp[a6]
       have l5:L 5=true:=by simp[a6]
       have a5:=hcl 5 _ rfl l5;simp[Aft,Region.binds]at a5;have l4:L 4=true:=by simp[a5]
       refine⟨?_⟩;obtain⟨x9,y9,h1,h2,h3,h4,h5,h6,h7⟩:=hC.2 l10;have eq9:=h3 l11;rw[eq9]at e35;have HC:Hid _:=hC;have H9:=hide (And.intro h1 (And.intro h2 (And.intro h3 (And.intro h4 (And.intro h5 (And.intro h6 h7))))));clear hC h1 h2 h3 h4 h5 h6 h7 eq9;go_simp;obtain⟨h1,h2,h3,h4,h5,h6,h7⟩:=H9.out;refine hK _ _ trivial ⟨fun h=>HC.out.1 (by simpa using h),fun _=>⟨x9,y9,by simpa [updO,Go.Proofs.YtbmkkhpoaicclabGreat.upd] using h1,h2,fun h=>by simpa [updO,Go.Proofs.YtbmkkhpoaicclabGreat.upd] using h3 (by simpa using h),fun h=>by simpa [updO,Go.Proofs.YtbmkkhpoaicclabGreat.upd] using h4 (by simpa using h),fun _=>by simp[updO,Go.Proofs.YtbmkkhpoaicclabGreat.upd],fun h=>by simpa [updO,Go.Proofs.YtbmkkhpoaicclabGreat.upd] using h6 (by simpa using h),fun h=>by simpa [updO,Go.Proofs.YtbmkkhpoaicclabGreat.upd] using h7 (by simpa using h)⟩⟩
      refine StepsE.run rfl ?_ ?_
      ·
       intro L U wr hC hP hlk hcl haf A K hFm hK;simp[Aft,Region.binds]at haf;have e47:A.tmps[47]?=some (U 47):=hFm.got 12 47 rfl;have l12:L 12=true:=by simp[haf]
       have a12:=hcl 12 _ rfl l12;simp[Aft,Region.binds]at a12;have l11:L 11=true:=by simp[a12]
       have a11:=hcl 11 _ rfl l11;simp[Aft,Region.binds]at a11;have l10:L 10=true:=by simp[a11]
       have a10:=hcl 10 _ rfl l10;simp[Aft,Region.binds]at a10;have l1:L 1=true:=by simp[a10]
       have l2:L 2=true:=by simp[a10]
       have l7:L 7=true:=by simp[a10]
       have l9:L 9=true:=by simp[a10]
       have a1:=hcl 1 _ rfl l1;simp[Aft,Region.binds]at a1;have l0:L 0=true:=by simp[a1]
       have a7:=hcl 7 _ rfl l7;simp[Aft,Region.binds]at a7;have l6:L 6=true:=by simp[a7]
       have a9:=hcl 9 _ rfl l9;simp[Aft,Region.binds]at a9;have l8:L 8=true:=by simp[a9]
       have a6:=hcl 6 _ rfl l6;simp[Aft,Region.binds]at a6;have l3:L 3=true:=by simp[a6]
       have l5:L 5=true:=by simp[a6]
       have a5:=hcl 5 _ rfl l5;simp[Aft,Region.binds]at a5;have l4:L 4=true:=by simp[a5]
       refine⟨?_⟩;obtain⟨x9,y9,h1,h2,h3,h4,h5,h6,h7⟩:=hC.2 l10;have eq9:=h4 l12;rw[eq9]at e47;have HC:Hid _:=hC;have H9:=hide (And.intro h1 (And.intro h2 (And.intro h3 (And.intro h4 (And.intro h5 (And.intro h6 h7))))));clear hC h1 h2 h3 h4 h5 h6 h7 eq9;go_simp;obtain⟨h1,h2,h3,h4,h5,h6,h7⟩:=H9.out;refine hK _ _ trivial ⟨fun h=>HC.out.1 (by simpa using h),fun _=>⟨x9,y9,by simpa [updO,Go.Proofs.YtbmkkhpoaicclabGreat.upd] using h1,h2,fun h=>by simpa [updO,Go.Proofs.YtbmkkhpoaicclabGreat.upd] using h3 (by simpa using h),fun h=>by simpa [updO,Go.Proofs.YtbmkkhpoaicclabGreat.upd] using h4 (by simpa using h),fun h=>by simpa [updO,Go.Proofs.YtbmkkhpoaicclabGreat.upd] using h5 (by simpa using h),fun _=>by simp[updO,Go.Proofs.YtbmkkhpoaicclabGreat.upd],fun h=>by simpa [updO,Go.Proofs.YtbmkkhpoaicclabGreat.upd] using h7 (by simpa using h)⟩⟩
      refine StepsE.run rfl ?_ StepsE.nil
      ·
       intro L U wr hC hP hlk hcl haf A K hFm hK;simp[Aft,Region.binds]at haf;have e48:A.tmps[48]?=some (U 48):=hFm.got 13 48 rfl;have l13:L 13=true:=by simp[haf]
       have a13:=hcl 13 _ rfl l13;simp[Aft,Region.binds]at a13;have l11:L 11=true:=by simp[a13]
       have a11:=hcl 11 _ rfl l11;simp[Aft,Region.binds]at a11;have l10:L 10=true:=by simp[a11]
       have a10:=hcl 10 _ rfl l10;simp[Aft,Region.binds]at a10;have l1:L 1=true:=by simp[a10]
       have l2:L 2=true:=by simp[a10]
       have l7:L 7=true:=by simp[a10]
       have l9:L 9=true:=by simp[a10]
       have a1:=hcl 1 _ rfl l1;simp[Aft,Region.binds]at a1;have l0:L 0=true:=by simp[a1]
       have a7:=hcl 7 _ rfl l7;simp[Aft,Region.binds]at a7;have l6:L 6=true:=by simp[a7]
       have a9:=hcl 9 _ rfl l9;simp[Aft,Region.binds]at a9;have l8:L 8=true:=by simp[a9]
       have a6:=hcl 6 _ rfl l6;simp[Aft,Region.binds]at a6;have l3:L 3=true:=by simp[a6]
       have l5:L 5=true:=by simp[a6]
       have a5:=hcl 5 _ rfl l5;simp[Aft,Region.binds]at a5;have l4:L 4=true:=by simp[a5]
       refine⟨?_⟩;obtain⟨x9,y9,h1,h2,h3,h4,h5,h6,h7⟩:=hC.2 l10;have eq9:=h5 l13;rw[eq9]at e48;have HC:Hid _:=hC;have H9:=hide (And.intro h1 (And.intro h2 (And.intro h3 (And.intro h4 (And.intro h5 (And.intro h6 h7))))));clear hC h1 h2 h3 h4 h5 h6 h7 eq9;go_simp;obtain⟨h1,h2,h3,h4,h5,h6,h7⟩:=H9.out;refine hK _ _ trivial ⟨fun h=>HC.out.1 (by simpa using h),fun _=>⟨x9,y9,by simpa [updO,Go.Proofs.YtbmkkhpoaicclabGreat.upd] using h1,h2,fun h=>by simpa [updO,Go.Proofs.YtbmkkhpoaicclabGreat.upd] using h3 (by simpa using h),fun h=>by simpa [updO,Go.Proofs.YtbmkkhpoaicclabGreat.upd] using h4 (by simpa using h),fun h=>by simpa [updO,Go.Proofs.YtbmkkhpoaicclabGreat.upd] using h5 (by simpa using h),fun h=>by simpa [updO,Go.Proofs.YtbmkkhpoaicclabGreat.upd] using h6 (by simpa using h),fun _=>by simp[updO,Go.Proofs.YtbmkkhpoaicclabGreat.upd]⟩⟩
     ·
      intro L9 U9 w3 hL9 hC9 hP9;have y36:U9 36=(.slice qp mp cp):=hP9 0 36 rfl;have y37:U9 37=(.slice qp 0 cp):=hP9 1 37 rfl;have y38:U9 38=(.slice qn nn cn):=hP9 2 38 rfl;have y39:U9 39=(.slice (some ⟨bP,0,none⟩) np cP):=hP9 3 39 rfl;obtain⟨x9,y9,h1,h2,h3,h4,h5,h6,h7⟩:=hC9.2 (hL9 10 (by decide))
      have y35:=h3 (hL9 11 (by decide))
      have y47:=h4 (hL9 12 (by decide))
      have y48:=h5 (hL9 13 (by decide))
      have y10:=h6 (hL9 14 (by decide))
      have y11:=h7 (hL9 15 (by decide))
      have hgo:=HGO.out x9 y9 w3 h2;clear h3 h4 h5 h6 h7 hL9 hC9 hP9 HM5 HRV HGO h2 hRx hRx5;rcases hgo with⟨rfl,qx,nx,cx,s,rfl,hou,hsx⟩|⟨rfl,rfl,hou⟩
      ·
       have HE3:=hide (And.intro hou hsx);clear hou hsx;simp only[setM,y36,y37,y38,y39,h1,y35,y47,y48,y10,y11];clear y36 y37 y38 y39 h1 y35 y47 y48 y10 y11;go_wp2;go_roundw
       case rel=>exact⟨k+1,s,qx,nx,cx,qn,nn,cn,rfl,rfl,by go_num,by omega,HE3.out.1,HE3.out.2⟩
       case measure=>simp[intOf]<;>omega
      ·
       have HE3:=hide hou;clear hou;simp only[setM,y36,y37,y38,y39,h1,y35,y47,y48,y10,y11];clear y36 y37 y38 y39 h1 y35 y47 y48 y10 y11;go_wp2;go_ret2
       exact HE3.out
    ·
     have HIP2:Hid (∀w0,Calls Tryz.prog 87 #[.slice (some ⟨bP,0,none⟩) np cP,.int .i64 kv] w0 fun e w'=>e=.returned (.bool false)∧w0=w'):=fun w0=>by
      have h9:=isPlace_any (some ⟨bP,0,none⟩) np cP kv w0;rw[decide_eq_false hpl2]at h9;exact h9.mono (fun e w' h8=>⟨h8.1,h8.2.symm⟩)
     have HE:Hid (OuEnd ps (ff:Int) st w (.returned (.tuple #[.slice none 0 0,.bool false])) w5):=by
      refine NoE w5 ?_ b25;rintro⟨p,l,h1,h2,-⟩;have h3:=(List.getElem?_eq_some_iff.1 h2).1;rw[HST.out.2.2.1]at h3;exact hpl2 ⟨h1,by omega⟩
     clear NoE hdrop HJ hp kb5 bl5 b25 hpl2;go_wp2_with (go_at_call 87;refine (HIP2.out _).mono ?_;rintro e w' ⟨rfl,rfl⟩)
     go_ret2
     exact HE.out
   ·
    have hltI:¬ ((k:Int)<(ns:Int)):=by omega
    obtain rfl:k=ns:=by omega
    have HE:Hid (OuEnd ps (ff:Int) st w (.returned (.tuple #[.slice qn nn cn,.bool true])) wl):=by
     have h9:=HJ.out.1;have h8:=HB2.out.1;have e9:Out ps b st now:=(h9.eq now).2 (by rw[← HST.out.2.2.2,List.drop_length];exact Out.nil now)
     exact⟨h8.trans (h9.bl.mono h8.size),Or.inl ⟨b,now,_,by omega,by simpa using HBB.out.1,e9,rfl,h9.so,h9.li,h9.on,fun c hc=>Nat.le_trans h8.size (h9.bn c hc)⟩⟩
    clear HJ;go_wp2;go_ret2
    exact HE.out
 ·
  have hd:decide (0≤fs∧fs<(np:Int))=false:=decide_eq_false hpl;have HIP:Hid (∀w0,Calls Tryz.prog 87 #[.slice qP np cP,.int .i64 fs] w0 fun e w'=>e=.returned (.bool false)∧w'=w0):=fun w0=>by
   have h9:=isPlace_any qP np cP fs w0;rw[hd]at h9;exact h9
  have HE:Hid (OuEnd ps fs st w (.returned (.tuple #[.slice none 0 0,.bool false])) w2):=by
   refine⟨HB2.out.1,Or.inr ⟨?_,rfl⟩⟩;rintro⟨b,r,h1,h2,-⟩;have h3:=(List.getElem?_eq_some_iff.1 h2).1;rw[HST.out.2.2.1]at h3;exact hpl ⟨h1,by omega⟩
  clear hd hpl;go_enter Tryz.func56,Tryz.ntmps56;go_wp2_with (go_at_call 87;refine (HIP.out _).mono ?_;rintro e w' ⟨rfl,rfl⟩)
  go_ret2
  exact HE.out
end Sat
end Go.Proofs.YtbmkkhpoaicclabGreat
