/- A refuted solver, its proof laid or not: what a clause more and asking it again leave; it proves no statement of the seat. -/
import Derived.Test.YtbmkkhpoaicclabGreatSatYoJGrows
import Derived.Test.YtbmkkhpoaicclabGreatJoin23Grows
namespace Go.Proofs.YtbmkkhpoaicclabGreat
open Go Go.RowKit
set_option linter.unusedVariables false
namespace Sat
open Euf (OL App)
section
variable {w:World} {g nv ad:Nat} {st:Int} {T:List Chn→Prop}
theorem Rdy.blk (h:Rdy w g nv ad st T):∃z,w.heap[g]?=some (.cells z 78 (0,0))∧z[0]?=some (.int .i64 (nv:Nat))∧z[1]?=some (.int .i64 (ad:Nat))∧z[5]?=some (.bool true)∧z[17]?=some (.int .i64 st)∧∃v,z[18]?=some v:=by
 rcases h with⟨d,a,h,-,hr,h1,h2,h3,-⟩|⟨cs,vo,vc,vs,h,-⟩
 · refine⟨_,h.blk,?_,?_,?_,?_,?_⟩<;>simp[cellsOf,hr,h1,h2,h3]
 · obtain⟨z,k1,k2⟩:=h.bk;exact⟨z,k1,k2.z0,k2.z1,k2.z5,k2.z17,k2.z18⟩
theorem Lp.same {d d':Dt} (l:Lp d) (h1:d'.nc=d.nc) (h2:d'.nv=d.nv) (h3:d'.C=d.C):Lp d':=by
 refine⟨by rw[h1];exact l.n0,by rw[h1];exact l.nc,by rw[h2];exact l.nv,by rw[h1,h2,h3];exact l.ci,?_,by rw[h1,h3];exact l.nu,by rw[h1,h3];exact l.lk⟩
 have h9:=l.hd;unfold Ahd at h9 ⊢;rw[h1,h3];exact h9
theorem lay_same {d d':Dt} (h1:d'.nc=d.nc) (h3:d'.C=d.C) (hT:∀nd pl idx cs,Lay d nd d.nc pl idx cs→nd (d.nc - 1)=true→(∀c,c<d.nc→Clo d nd c)→T cs):∀nd pl idx cs,Lay d' nd d'.nc pl idx cs→nd (d'.nc - 1)=true→(∀c,c<d'.nc→Clo d' nd c)→T cs:=by
 intro nd pl idx cs L la clo;rw[h1]at L la clo;refine hT nd pl idx cs ⟨L.le,by have:=L.ad;rw[h3]at this;exact this,by have:=L.lr;rw[h3]at this;exact this,by have:=L.ix;rw[h3]at this;exact this,L.up,by have:=L.ch;rw[h3]at this;exact this⟩ la (fun c hc=>?_)
 have h9:=clo c hc;unfold Clo at h9 ⊢;rw[h3]at h9;exact h9
theorem PS.put {ad':Nat} {st':Int} {cs:List Chn} {vo:Value} {vc vs:Nat→Value} (h:PS w g nv ad st cs vo vc vs) (i:Nat) (v:Value) (hz:∀z,Pz z nv ad st vo→Pz (z.setIfInBounds i v) nv ad' st' vo):PS (w.setCell ⟨g,i,none⟩ v) g nv ad' st' cs vo vc vs:=by
 obtain⟨z,k1,k2⟩:=h.bk;have st:∀{sz:Nat} {e:TypeId} {v9:Value} {n:Nat} {f:Nat→List Value},OL sz e w v9 n f→e≠78→OL sz e (w.setCell ⟨g,i,none⟩ v) v9 n f:=by
  intro sz e v9 n f ho he;refine ho.stay (fun b hb9=>heap_setCell_other _ ⟨g,i,none⟩ b _ (fun e9=>?_))
  subst e9;exact ho.neB k1 he hb9
 exact⟨⟨_,heap_setCell_same w g i _ _ v k1,hz z k2⟩,st h.oo (by decide),h.bd,fun t x ht=>⟨st (h.cw t x ht).1 (by decide),st (h.cw t x ht).2 (by decide)⟩⟩
theorem Rdy.added (h:Rdy w g nv ad st T) (ad':Nat):Rdy (w.setCell ⟨g,1,none⟩ (.int .i64 (ad':Nat))) g nv ad' st T:=by
 rcases h with⟨d,a,h,l,hr,h1,h2,h3,hT⟩|⟨cs,vo,vc,vs,h,hT⟩
 · exact Or.inl ⟨_,a,(h.added_ ad').1,l.same rfl rfl rfl,hr,h1,rfl,h3,lay_same (d:=d) rfl rfl hT⟩
 ·
  refine Or.inr ⟨cs,vo,vc,vs,h.put 1 _ (fun z k=>?_),hT⟩
  have hs:1<z.size:=(Array.getElem?_eq_some_iff.1 k.z1).1;obtain⟨v18,hv18⟩:=k.z18;exact⟨by simp[k.z0],by simp[hs],by simp[k.z5],by simp[k.z17],⟨v18,by simp[hv18]⟩,by simp[k.z19],by simp[k.z20],by simp[k.z22]⟩
theorem Rdy.stepped (h:Rdy w g nv ad st T) (st':Int):Rdy (w.setCell ⟨g,17,none⟩ (.int .i64 st')) g nv ad st' T:=by
 rcases h with⟨d,a,h,l,hr,h1,h2,h3,hT⟩|⟨cs,vo,vc,vs,h,hT⟩
 · exact Or.inl ⟨_,a,(h.steps_ st').1,l.same rfl rfl rfl,hr,h1,h2,rfl,lay_same (d:=d) rfl rfl hT⟩
 ·
  refine Or.inr ⟨cs,vo,vc,vs,h.put 17 _ (fun z k=>?_),hT⟩
  have hs:17<z.size:=(Array.getElem?_eq_some_iff.1 k.z17).1;obtain⟨v18,hv18⟩:=k.z18;exact⟨by simp[k.z0],by simp[k.z1],by simp[k.z5],by simp[hs],⟨v18,by simp[hv18]⟩,by simp[k.z19],by simp[k.z20],by simp[k.z22]⟩
theorem Rdy.noModel (h:Rdy w g nv ad st T):Rdy (w.setCell ⟨g,18,none⟩ (.slice none 0 0)) g nv ad st T:=by
 rcases h with⟨d,a,h,l,hr,h1,h2,h3,hT⟩|⟨cs,vo,vc,vs,h,hT⟩
 · exact Or.inl ⟨_,_,h.nil_mo.1,l.same rfl rfl rfl,hr,h1,h2,h3,lay_same (d:=d) rfl rfl hT⟩
 ·
  refine Or.inr ⟨cs,vo,vc,vs,h.put 18 _ (fun z k=>?_),hT⟩
  obtain⟨v18,hv18⟩:=k.z18;have hs:18<z.size:=(Array.getElem?_eq_some_iff.1 hv18).1;exact⟨by simp[k.z0],by simp[k.z1],by simp[k.z5],by simp[k.z17],⟨.slice none 0 0,by simp[hs]⟩,by simp[k.z19],by simp[k.z20],by simp[k.z22]⟩
end
theorem mv_cell (w:World) (g i:Nat) (v:Value):Mv (·=g) w (w.setCell ⟨g,i,none⟩ v):=⟨rfl,rfl,rfl,by simp,fun b _ hb=>heap_setCell_other _ ⟨g,i,none⟩ b _ hb⟩
theorem Rdy.solve (g nv ad:Nat) (st:Int) (T:List Chn→Prop) (bu:Int) (w:World) (h:Rdy w g nv ad st T) :
  Calls Tryz.prog 15 #[.pointer (some ⟨g,0,none⟩),.int .i64 bu] w fun e w'=>e=.returned (.int .i64 2)∧Rdy w' g nv ad 0 T∧Mv (·=g) w w':=by
 obtain⟨z,hb,z0,z1,z5,z17,v18,z18⟩:=h.blk;have c18:w.cell? ⟨g,18,none⟩=some v18:=by rw[cell_of_row w g 18 _ 78 (0,0) hb];exact z18
 have f18:=frozen_of_row w g 18 _ 78 hb;have hlg:=h.lt;have H1:=hide (And.intro h.noModel (mv_cell w g 18 (.slice none 0 0)));obtain⟨w1,hw1⟩:∃w1,w.setCell ⟨g,18,none⟩ (.slice none 0 0)=w1:=⟨_,rfl⟩;rw[hw1]at H1;obtain⟨y,hb1,y0,y1,y5,y17,-⟩:=H1.out.1.blk;have c17:w1.cell? ⟨g,17,none⟩=some (.int .i64 st):=by rw[cell_of_row w1 g 17 _ 78 (0,0) hb1];exact y17
 have f17:=frozen_of_row w1 g 17 _ 78 hb1;have HST:=hide (store_any g 17 st 0 w1 c17 f17 H1.out.1.lt);have H2:=hide (And.intro (H1.out.1.stepped 0) (H1.out.2.trans (mv_cell w1 g 17 (.int .i64 0)) (fun b hb=>Or.inl hb)))
 obtain⟨w2,hw2⟩:∃w2,w1.setCell ⟨g,17,none⟩ (.int .i64 0)=w2:=⟨_,rfl⟩;rw[hw2]at H2 HST;have c5:w2.cell? ⟨g,5,none⟩=some (.bool true):=H2.out.1.refuted;have hlg1:=H1.out.1.lt;have hlg2:=H2.out.1.lt;clear h hb hb1 z0 z1 z5 z17 z18 y0 y1 y5 y17 c17 f17 H1;go_enter Tryz.func15,Tryz.ntmps15;go_wp2_with (go_at_call 36;refine HST.out.mono ?_;rintro e w9 ⟨rfl,hw9⟩;obtain rfl:=hw9.symm)
 go_ret
 exact⟨rfl,H2.out⟩
set_option maxRecDepth 20000 in
set_option maxHeartbeats 4000000 in
theorem Rdy.add (g nv ad:Nat) (st:Int) (T:List Chn→Prop) (q:Option Addr) (n cap:Nat) (zs:List Int) (w:World) (h:Rdy w g nv ad st T) (hz:IL w q n cap zs) (hne:zs≠[]→∀b off,q=some ⟨b,off,none⟩→b≠g) (hok:∀z∈zs,Okl nv z) (hn:n≤4096) (had:ad<65536) (hnv:nv≤5000) :
  Calls Tryz.prog 14 #[.pointer (some ⟨g,0,none⟩),.slice q n cap] w fun e w'=>e=.returned (.tuple #[.int .i64 (ad:Nat),.int .i64 0])∧Rdy w' g nv (ad+1) st T∧Mv (·=g) w w':=by
 obtain⟨z,hb,z0,z1,-,-,-⟩:=h.blk;have c0:w.cell? ⟨g,0,none⟩=some (.int .i64 (nv:Nat)):=by rw[cell_of_row w g 0 _ 78 (0,0) hb];exact z0
 have c1:w.cell? ⟨g,1,none⟩=some (.int .i64 (ad:Nat)):=by rw[cell_of_row w g 1 _ 78 (0,0) hb];exact z1
 have f1:=frozen_of_row w g 1 _ 78 hb;have hlg:=h.lt;have HWI:=hide (within_any q n cap zs nv w hz hnv);have H1:=hide (And.intro (h.added (ad+1)) (mv_cell w g 1 (.int .i64 ((ad+1:Nat):Int))));obtain⟨w1,hw1⟩:∃w1,w.setCell ⟨g,1,none⟩ (.int .i64 ((ad+1:Nat):Int))=w1:=⟨_,rfl⟩;rw[hw1]at H1;obtain⟨y,hb1,-,-,-,-,v18,y18⟩:=H1.out.1.blk;have c18:w1.cell? ⟨g,18,none⟩=some v18:=by rw[cell_of_row w1 g 18 _ 78 (0,0) hb1];exact y18
 have f18:=frozen_of_row w1 g 18 _ 78 hb1;have hlg1:=H1.out.1.lt;have H2:=hide (And.intro H1.out.1.noModel (H1.out.2.trans (mv_cell w1 g 18 (.slice none 0 0)) (fun b hb=>Or.inl hb)))
 obtain⟨w2,hw2⟩:∃w2,w1.setCell ⟨g,18,none⟩ (.slice none 0 0)=w2:=⟨_,rfl⟩;rw[hw2]at H2;have zl2:IL w2 q n cap zs:=hz.keep H2.out.2.size (fun e0 b off e hl=>H2.out.2.other b hl (hne e0 b off e))
 have HSE:=hide (set_any q n cap zs w2 zl2 (by omega))
 have hnI:(n:Int)≤4096:=by omega
 have hadI:(ad:Int)<65536:=by omega
 have hwa:((ad+1:Nat):Int)=(ad:Int)+1:=by omega
 rw[hwa]at hw1;have HOK:=hide hok;have hlg2:=H2.out.1.lt;clear h hz hne hok hb hb1 z0 z1 y18 zl2 H1 hwa;go_enter Tryz.func14,Tryz.ntmps14;go_wp2_with fail
 refine HWI.out.mono ?_;rintro e w9 ⟨⟨b9,rfl,hb9⟩,hw9⟩;obtain rfl:=hw9.symm;obtain rfl:b9=true:=hb9.2 HOK.out;clear hb9 HWI;have h17:decide ((65536:Int)≤(ad:Int))=false:=by simp;omega
 have h18:decide ((4096:Int)<(n:Int))=false:=by simp;omega
 have HADI:=hide hadI;clear hadI hnI;go_upto_if 24 with fail
 clear h17 h18;have hadJ:(ad:Int)≤100000:=by have:=HADI.out;omega
 go_wp2_with fail
 refine HSE.out.mono ?_;rintro e w3 ⟨v3,s,rfl,-,ol3,-,bl3⟩;have H3:=hide (And.intro (H2.out.1.below bl3) (H2.out.2.trans (Mv.below (F:=(·=g)) bl3) (fun b hb=>Or.inl hb)))
 have c5':w3.cell? ⟨g,5,none⟩=some (.bool true):=H3.out.1.refuted;have hlg3:=H3.out.1.lt;obtain⟨q3,cp3,rfl,-⟩:=ol3.shape;clear ol3 bl3 HSE H2;go_wp2;go_ret2
 exact⟨rfl,H3.out⟩
section
variable {N g nv ad:Nat} {T:List Chn→Prop} {w0 w:World}
theorem SvX.solve (h:SvX N g nv ad T w0 w) (bu:Int) :
  Calls Tryz.prog 15 #[.pointer (some ⟨g,0,none⟩),.int .i64 bu] w fun e w'=>e=.returned (.int .i64 2)∧SvX N g nv ad T w0 w'∧Rdy w' g nv ad 0 T:=by
 obtain⟨st,r,hg,bl⟩:=h;refine (Rdy.solve g nv ad st T bu w r).mono ?_;rintro e w' ⟨rfl,r',m⟩;have hlt:=r.lt;exact⟨rfl,⟨0,r',hg,bl.trans (m.toBelow (by omega) (fun b hb=>by subst hb;exact hg))⟩,r'⟩
theorem SvX.add (h:SvX N g nv ad T w0 w) {q:Option Addr} {n cap:Nat} {zs:List Int} (hz:IL w q n cap zs) {Nl:Nat} (hl:Lo Nl q zs) (hNl:Nl≤N) (hok:∀z∈zs,Okl nv z) (hn:n≤4096) (had:ad<65536) (hnv:nv≤5000) :
  Calls Tryz.prog 14 #[.pointer (some ⟨g,0,none⟩),.slice q n cap] w fun e w'=>e=.returned (.tuple #[.int .i64 (ad:Nat),.int .i64 0])∧SvX N g nv (ad+1) T w0 w':=by
 obtain⟨st,r,hg,bl⟩:=h;refine (Rdy.add g nv ad st T q n cap zs w r hz (fun e b off hq e9=>by have:=hl e b off hq;omega) hok hn had hnv).mono ?_
 rintro e w' ⟨rfl,r',m⟩;have hlt:=r.lt;exact⟨rfl,⟨st,r',hg,bl.trans (m.toBelow (by omega) (fun b hb=>by subst hb;exact hg))⟩⟩
end
end Sat
end Go.Proofs.YtbmkkhpoaicclabGreat
