/- Joined: SatTw, SatRc, SatSo, SatC: words and contracts; no statement of the seat is proved here. -/
import Derived.Test.YtbmkkhpoaicclabGreatJoin12Grows
import Derived.Test.YtbmkkhpoaicclabGreatShelfFJGrows
import Derived.Shelf.SlSortCmp.NoneTotal
import Derived.Test.YtbmkkhpoaicclabGreatJoin7Grows
namespace Go.Proofs.YtbmkkhpoaicclabGreat
open Go.RowKit
set_option linter.unusedVariables false
namespace Sat
open Euf (OL App)
def TB (bs bg bx:Nat) (vL vG vX:Value) (b:Nat):Prop:=b=bs∨b=bg∨b=bx∨vL.ownBlock=some b∨vG.ownBlock=some b∨vX.ownBlock=some b
structure TW (g:Nat) (dB:Dt) (aB:Key→Value) (w0:World) (d:Dt) (a:Key→Value) (bs bg bx:Nat) (vL vG vX:Value) (L G X:List Nat) (w:World):Prop where
  sw:SW w g d a
  mo:Mo g dB aB w0 d a w
  nb:∀b,TB bs bg bx vL vG vX b→¬ Fo g d a b∧w0.heap.size≤b
  cs:w.heap[bs]?=some (.cells #[.pointer (some ⟨g,0,none⟩)] 27 (0,0))
  cg:w.heap[bg]?=some (.cells #[vG] 35 (0,0))
  cx:w.heap[bx]?=some (.cells #[vX] 35 (0,0))
  ne:bg≠bx
  ol:OL 1 106 w vL L.length (i32C L)
  og:OL 1 3 w vG G.length (i64C G)
  ox:OL 1 3 w vX X.length (i64C X)
  dis:∀b,vG.ownBlock=some b→vX.ownBlock≠some b
section
variable {g:Nat} {dB:Dt} {aB:Key→Value} {w0:World} {d d':Dt} {a a':Key→Value} {bs bg bx:Nat} {vL vG vX v':Value} {L G X:List Nat} {w w' w1:World}
theorem TW.lt (t:TW g dB aB w0 d a bs bg bx vL vG vX L G X w) {b:Nat} (hb:TB bs bg bx vL vG vX b):b<w.heap.size:=by
 rcases hb with rfl|rfl|rfl|h|h|h
 · exact (Array.getElem?_eq_some_iff.1 t.cs).1
 · exact (Array.getElem?_eq_some_iff.1 t.cg).1
 · exact (Array.getElem?_eq_some_iff.1 t.cx).1
 · exact t.ol.lt h
 · exact t.og.lt h
 · exact t.ox.lt h
theorem TW.keep (t:TW g dB aB w0 d a bs bg bx vL vG vX L G X w) (h:SW w' g d' a') (m:Mo g dB aB w0 d' a' w') (nb:∀b,TB bs bg bx vL vG vX b→¬ Fo g d' a' b) (hk:∀b,TB bs bg bx vL vG vX b→w'.heap[b]?=w.heap[b]?):TW g dB aB w0 d' a' bs bg bx vL vG vX L G X w' :=
  ⟨h,m,fun b hb=>⟨nb b hb,(t.nb b hb).2⟩,(hk bs (Or.inl rfl)).trans t.cs,(hk bg (Or.inr (Or.inl rfl))).trans t.cg,(hk bx (Or.inr (Or.inr (Or.inl rfl)))).trans t.cx,t.ne,t.ol.stay (fun b hb=>hk b (Or.inr (Or.inr (Or.inr (Or.inl hb))))),t.og.stay (fun b hb=>hk b (Or.inr (Or.inr (Or.inr (Or.inr (Or.inl hb)))))),t.ox.stay (fun b hb=>hk b (Or.inr (Or.inr (Or.inr (Or.inr (Or.inr hb)))))),t.dis⟩
theorem TW.call (t:TW g dB aB w0 d a bs bg bx vL vG vX L G X w) (h:SW w' g d' a') (m:Mo g d a w d' a' w'):TW g dB aB w0 d' a' bs bg bx vL vG vX L G X w' :=
  t.keep h (t.mo.trans m) (fun b hb hf=>by
    rcases m.fo b hf with h9|h9
    · exact (t.nb b hb).1 h9
    · have:=t.lt hb;omega) (fun b hb=>m.mv.other b (t.lt hb) (t.nb b hb).1)
theorem TW.below (t:TW g dB aB w0 d a bs bg bx vL vG vX L G X w) (hb:Below w.heap.size w w'):TW g dB aB w0 d a bs bg bx vL vG vX L G X w' :=
  t.keep (t.sw.below hb) (t.mo.below hb) (fun b h=>(t.nb b h).1) (fun b h=>hb.block b (t.lt h))
theorem TW.drewN (t:TW g dB aB w0 d a bs bg bx vL vG vX L G X w) (n:Nat):TW g dB aB w0 d a bs bg bx vL vG vX L G X (w.drewN n):=t.keep (t.sw.drewN n) (t.mo.drewN n) (fun b h=>(t.nb b h).1) (fun _ _=>rfl)
theorem TW.cellS (t:TW g dB aB w0 d a bs bg bx vL vG vX L G X w):w.cell? ⟨bs,0,none⟩=some (.pointer (some ⟨g,0,none⟩)):=cell_of_row w bs 0 _ _ (0,0) t.cs
theorem TW.cellG (t:TW g dB aB w0 d a bs bg bx vL vG vX L G X w):w.cell? ⟨bg,0,none⟩=some vG∧w.frozen? ⟨bg,0,none⟩=false:=⟨cell_of_row w bg 0 _ _ (0,0) t.cg,frozen_of_row w bg 0 _ _ t.cg⟩
theorem TW.cellX (t:TW g dB aB w0 d a bs bg bx vL vG vX L G X w):w.cell? ⟨bx,0,none⟩=some vX∧w.frozen? ⟨bx,0,none⟩=false:=⟨cell_of_row w bx 0 _ _ (0,0) t.cx,frozen_of_row w bx 0 _ _ t.cx⟩
theorem TW.flip (t:TW g dB aB w0 d a bs bg bx vL vG vX L G X w):TW g dB aB w0 d a bs bx bg vL vX vG L X G w :=
  ⟨t.sw,t.mo,fun b hb=>t.nb b (by rcases hb with h|h|h|h|h|h<;>simp[TB,h]),t.cs,t.cx,t.cg,t.ne.symm,t.ol,t.ox,t.og,fun b h1 h2=>t.dis b h2 h1⟩
theorem TW.pushG {x:Nat} (t:TW g dB aB w0 d a bs bg bx vL vG vX L G X w) (hap:App vG v' w w1) (hol:OL 1 3 w1 v' (G.length+1) (i64C (G++[x]))):(w1.cell? ⟨bg,0,none⟩=some vG∧w1.frozen? ⟨bg,0,none⟩=false∧bg<w1.heap.size)∧TW g dB aB w0 d a bs bg bx vL v' vX L (G++[x]) X (w1.setCell ⟨bg,0,none⟩ v'):=by
 have gT:TB bs bg bx vL vG vX bg:=Or.inr (Or.inl rfl);have nG:∀b,TB bs bg bx vL vG vX b→vG.ownBlock=some b→(b≠bs∧b≠bg∧b≠bx)∧vL.ownBlock≠some b:=fun b hb e=>by
  obtain⟨cur,hc⟩:=t.og.elem e;refine⟨⟨?_,?_,?_⟩,fun e2=>?_⟩
  · rintro rfl;rw[t.cs]at hc;injection hc with hc;injection hc with _ h2 _;exact absurd h2 (by decide)
  · rintro rfl;rw[t.cg]at hc;injection hc with hc;injection hc with _ h2 _;exact absurd h2 (by decide)
  · rintro rfl;rw[t.cx]at hc;injection hc with hc;injection hc with _ h2 _;exact absurd h2 (by decide)
  · exact t.og.ne t.ol (by decide) e e2
 have k1:∀b,TB bs bg bx vL vG vX b→vG.ownBlock≠some b→w1.heap[b]?=w.heap[b]?:=fun b hb hn=>hap.other b (t.lt hb) hn
 have ownS:∀{b:Nat},(b=bs∨b=bg∨b=bx)→vG.ownBlock≠some b:=fun {b} hb e=>by
  obtain⟨⟨h1,h2,h3⟩,-⟩:=nG b (Or.inr (Or.inr (Or.inr (Or.inr (Or.inl e))))) e;rcases hb with h|h|h
  · exact h1 h
  · exact h2 h
  · exact h3 h
 have cg1:w1.heap[bg]?=some (.cells #[vG] 35 (0,0)):=(k1 bg gT (ownS (Or.inr (Or.inl rfl)))).trans t.cg;have new:∀b,v'.ownBlock=some b→(vG.ownBlock=some b∨w.heap.size≤b):=fun b hb=>by
  rcases hap.at_ with e|⟨b',e1,e2⟩
  · exact Or.inl (by rw[← e];exact hb)
  · rw[e1]at hb;injection hb with hb;exact Or.inr (by omega)
 have sw1:SW w1 g d a:=t.sw.keep (fun c hc=>hap.other c (t.sw.foLt hc) (fun e=>(t.nb c (Or.inr (Or.inr (Or.inr (Or.inr (Or.inl e)))))).1 hc))
 have sw2:SW (w1.setCell ⟨bg,0,none⟩ v') g d a:=sw1.keep (fun c hc=>heap_setCell_other w1 ⟨bg,0,none⟩ c v' (fun e=>by
  have e':c=bg:=e;exact (t.nb bg gT).1 (e' ▸ hc)))
 have oth:∀b,b≠bg→(w1.setCell ⟨bg,0,none⟩ v').heap[b]?=w1.heap[b]?:=fun b hb=>heap_setCell_other w1 ⟨bg,0,none⟩ b v' hb
 have blt:∀{b:Nat},TB bs bg bx vL vG vX b→b<w.heap.size:=fun hb=>t.lt hb
 refine⟨⟨cell_of_row w1 bg 0 _ _ (0,0) cg1,frozen_of_row w1 bg 0 _ _ cg1,(Array.getElem?_eq_some_iff.1 cg1).1⟩,sw2,⟨(t.mo.mv.app hap (fun b hb=>Or.inr (t.nb b (Or.inr (Or.inr (Or.inr (Or.inr (Or.inl hb)))))).2)).set (a:=⟨bg,0,none⟩) (Or.inr (t.nb bg gT).2) v',t.mo.fo,t.mo.ad,t.mo.nn⟩,fun b hb=>?_,?_,?_,?_,t.ne,?_,?_,?_,fun b e1 e2=>?_⟩
 ·
  have old:TB bs bg bx vL vG vX b→¬ Fo g d a b∧w0.heap.size≤b:=t.nb b;rcases hb with h|h|h|h|h|h
  · exact old (Or.inl h)
  · exact old (Or.inr (Or.inl h))
  · exact old (Or.inr (Or.inr (Or.inl h)))
  · exact old (Or.inr (Or.inr (Or.inr (Or.inl h))))
  ·
   rcases new b h with h9|h9
   · exact old (Or.inr (Or.inr (Or.inr (Or.inr (Or.inl h9)))))
   · exact⟨fun hf=>by have:=t.sw.foLt hf;omega,Nat.le_trans t.mo.mv.size h9⟩
  · exact old (Or.inr (Or.inr (Or.inr (Or.inr (Or.inr h)))))
 ·
  have hne:bs≠bg:=fun e=>by have h9:=t.cs;rw[e,t.cg]at h9;injection h9 with h9;injection h9 with _ h2 _;exact absurd h2 (by decide)
  rw[oth bs hne,k1 bs (Or.inl rfl) (ownS (Or.inl rfl))];exact t.cs
 · have h9:=heap_setCell_same w1 bg 0 #[vG] 35 v' cg1;simpa using h9
 · rw[oth bx (Ne.symm t.ne),k1 bx (Or.inr (Or.inr (Or.inl rfl))) (ownS (Or.inr (Or.inr rfl)))];exact t.cx
 ·
  refine t.ol.stay (fun b hb=>?_)
  have hT:TB bs bg bx vL vG vX b:=Or.inr (Or.inr (Or.inr (Or.inl hb)));have hne:b≠bg:=fun e=>by
   obtain⟨cur,hc⟩:=t.ol.elem hb;rw[e,t.cg]at hc;injection hc with hc;injection hc with _ h2 _;exact absurd h2 (by decide)
  rw[oth b hne,k1 b hT (fun e=>(nG b hT e).2 hb)]
 ·
  rw[List.length_append];refine hol.stay (fun b hb=>oth b (fun e=>?_))
  obtain⟨cur,hc⟩:=hol.elem hb;rw[e,cg1]at hc;injection hc with hc;injection hc with _ h2 _;exact absurd h2 (by decide)
 ·
  refine t.ox.stay (fun b hb=>?_)
  have hT:TB bs bg bx vL vG vX b:=Or.inr (Or.inr (Or.inr (Or.inr (Or.inr hb))));have hne:b≠bg:=fun e=>by
   obtain⟨cur,hc⟩:=t.ox.elem hb;rw[e,t.cg]at hc;injection hc with hc;injection hc with _ h2 _;exact absurd h2 (by decide)
  rw[oth b hne,k1 b hT (fun e=>t.dis b e hb)]
 ·
  rcases new b e1 with h9|h9
  · exact t.dis b h9 e2
  · have:=t.ox.lt e2;omega
theorem TW.pushX {x:Nat} (t:TW g dB aB w0 d a bs bg bx vL vG vX L G X w) (hap:App vX v' w w1) (hol:OL 1 3 w1 v' (X.length+1) (i64C (X++[x]))):(w1.cell? ⟨bx,0,none⟩=some vX∧w1.frozen? ⟨bx,0,none⟩=false∧bx<w1.heap.size)∧TW g dB aB w0 d a bs bg bx vL vG v' L G (X++[x]) (w1.setCell ⟨bx,0,none⟩ v'):=by
 obtain⟨h1,h2⟩:=t.flip.pushG hap hol;exact⟨h1,h2.flip⟩
end
end Sat
namespace Sat
open Euf (OL App)
structure TG (g:Nat) (dB:Dt) (aB:Key→Value) (w0:World) (d0:Dt) (clash:Nat) (keep:List Nat) (bs bg bx:Nat) (vL:Value) (L:List Nat) (d:Dt) (a:Key→Value) (vG vX:Value) (G X Z:List Nat) (w:World):Prop where
  tw:TW g dB aB w0 d a bs bg bx vL vG vX L G X w
  fm:FM d0 d
  mk_:MK d
  tr:TR d0.F d0.C clash keep d.M G X Z
section
variable {g:Nat} {dB:Dt} {aB:Key→Value} {w0:World} {d0:Dt} {clash:Nat} {keep:List Nat} {bs bg bx:Nat} {vL:Value} {L:List Nat} {d:Dt} {a:Key→Value} {vG vX:Value} {G X Z:List Nat} {w:World}
theorem TG.lenG (t:TG g dB aB w0 d0 clash keep bs bg bx vL L d a vG vX G X Z w):G.length≤d.nv+1:=nodup_le (d.nv+1) G t.tr.ng_ (fun v hv=>by
  have:=t.mk_.le v ((t.mk_.iff_ v).2 ((t.tr.ma v).2 (Or.inr (Or.inl hv))));omega)
theorem TG.lenX (t:TG g dB aB w0 d0 clash keep bs bg bx vL L d a vG vX G X Z w):X.length≤d.nv+1:=nodup_le (d.nv+1) X t.tr.nx (fun v hv=>by
  have:=t.mk_.le v ((t.mk_.iff_ v).2 ((t.tr.ma v).2 (Or.inr (Or.inr hv))));omega)
end
def RcE (g:Nat) (dB:Dt) (aB:Key→Value) (w0:World) (d0:Dt) (clash:Nat) (keep:List Nat) (bs bg bx:Nat) (vL:Value) (L G Z:List Nat) (w':World):Prop :=
  ∃d a vG vX G' X,TG g dB aB w0 d0 clash keep bs bg bx vL L d a vG vX G' X Z w'∧∃Y,G'=G++Y
set_option maxRecDepth 20000 in
set_option maxHeartbeats 16000000 in
theorem reach_any (g:Nat) (dB:Dt) (aB:Key→Value) (w0:World) (d0:Dt) (clash:Nat) (keep:List Nat) (bs bg bx:Nat) (vL:Value) (L:List Nat) (d:Dt) (a:Key→Value) (vG vX:Value) (G X Z:List Nat) (w:World) (p:Nat) (ht:TG g dB aB w0 d0 clash keep bs bg bx vL L d a vG vX G X Z w) (ci:CI d0.nv d0.nc d0.C) (hp:p<d0.nc) (hR:∀m∈(d0.C p).lits,Rc d0.F d0.C clash keep (m / 2)) (hL:∀m∈(d0.C p).lits,0≤(d0.F (m / 2)).level) (hn:d0.nv≤5000) (hnc:d0.nc≤100000000) :
  Calls Tryz.prog 125 #[.int .i64 (p:Nat),.pointer (some ⟨bs,0,none⟩),.pointer (some ⟨bx,0,none⟩),.pointer (some ⟨bg,0,none⟩)] w fun e w'=>e=.returned (.tuple #[])∧RcE g dB aB w0 d0 clash keep bs bg bx vL L G (Z++(d0.C p).lits) w':=by
 have hp2:p<d.nc:=by rw[ht.fm.nc];exact hp
 have hpI:(p:Int)<(d.nc:Int):=by omega
 obtain⟨bC,cC,hC,lC,qC,-⟩:=ht.tw.sw.clzR (by omega)
 have c2:w.cell? ⟨g,2,none⟩=some (.slice (some ⟨bC,0,none⟩) d.nc cC):=(ht.tw.sw.cell 2).trans (congrArg some hC);have qc:w.cell? ⟨bC,p*4,none⟩=some (a (kLit p)):=(qC p hp2).1;obtain⟨qL,cL,hLv,-,-,-⟩:=ht.tw.sw.len (k:=kLit p) (by exact hp2)
 have hLv:a (kLit p)=.slice qL (d.C p).lits.length cL:=hLv;rw[ht.fm.C]at hLv;obtain⟨m,hm⟩:∃m,(d0.C p).lits.length=m:=⟨_,rfl⟩;rw[hLv,hm]at qc;have hml:=ci.len hp;have hm8:m≤5001:=by omega
 have HLV:Hid (a (kLit p)=.slice qL m cL):=by rw[← hm];exact hLv
 have HAK:Hid (stab d (kLit p)):=hp2;have HM:=hide hm;have cs:=ht.tw.cellS;have ls:=ht.tw.lt (b:=bs) (Or.inl rfl);have hlg:=ht.tw.sw.lt;have H0:Hid (TG g dB aB w0 d0 clash keep bs bg bx vL L d a vG vX G X (Z++(d0.C p).lits.take 0) w∧(∃Y,G=G++Y)∧a (kLit p)=a (kLit p)):=⟨by simpa using ht,⟨[],by simp⟩,rfl⟩
 have HC:=hide (And.intro ci (And.intro hR (And.intro hL hp)));clear ht ci hR hL hC qC hLv hm hml;go_enter Tryz.func125,Tryz.ntmps125;go_wp2;clear c2 qc lC hlg cs ls;go_loopw [17] (fun v17 wr=>∃(j:Nat) (d2:Dt) (a2:Key→Value) (vG2 vX2:Value) (G2 X2:List Nat),v17=.int .i64 (j:Nat)∧j≤m∧Hid (TG g dB aB w0 d0 clash keep bs bg bx vL L d2 a2 vG2 vX2 G2 X2 (Z++(d0.C p).lits.take j) wr∧(∃Y,G2=G++Y)∧a2 (kLit p)=a (kLit p))) (fun v _=>m - (intOf v).toNat)
 case atStart=>exact⟨0,d,a,vG,vX,G,X,rfl,Nat.zero_le _,H0.out.1,H0.out.2.1,rfl⟩
 case round =>
  rename World=>wl
  clear H0;obtain⟨j,d2,a2,vG2,vX2,G2,X2,rfl,hj,H⟩:=hrel;by_cases hlt:j<m
  ·
   have hltI:(j:Int)<(m:Int):=by omega
   have hnc2:=H.out.1.fm.nc;have hC2:=H.out.1.fm.C;have hnv2:=H.out.1.fm.nv;have hp3:p<d2.nc:=by rw[hnc2];exact HC.out.2.2.2
   obtain⟨b,cap,hvb,lb,-,-,qb,-⟩:=H.out.1.tw.sw.litR (c:=p) hp3 (by rw[hC2,HM.out];omega)
   have e1:=(H.out.2.2.trans HLV.out).symm.trans hvb;simp only[Value.slice.injEq]at e1;obtain⟨rfl,-,rfl⟩:=e1;rw[hC2]at qb;have hjl:j<(d0.C p).lits.length:=by rw[HM.out];exact hlt
   have qj:=qb j hjl;obtain⟨l,hl⟩:∃l,(d0.C p).lits[j]=l:=⟨_,rfl⟩;rw[hl]at qj;have HTK:Hid (Z++(d0.C p).lits.take (j+1)=(Z++(d0.C p).lits.take j)++[l]):=by show _=_;rw[List.take_succ_eq_append_getElem hjl,hl,List.append_assoc]
   have hlm:l∈(d0.C p).lits:=by rw[← hl];exact List.getElem_mem hjl
   have hlo:=HC.out.1.ok p HC.out.2.2.2 l hlm;have hl2:l<20000:=by omega
   have HVC:=hide (fun w9=>variable_any l w9 hl2)
   have HRL:=hide (And.intro (HC.out.2.1 l hlm) (HC.out.2.2.1 l hlm));obtain⟨u,hu⟩:∃u,l / 2=u:=⟨_,rfl⟩;rw[hu]at HVC;have HU:=hide hu;have hul:u<d2.nv+1:=by omega
   have huI:(u:Int)<(d2.nv:Int)+1:=by omega
   obtain⟨bF,cF,hF,lF,q0,-,q5⟩:=H.out.1.tw.sw.wh hul;have c8:wl.cell? ⟨g,8,none⟩=some (.slice (some ⟨bF,0,none⟩) (d2.nv+1) cF):=(H.out.1.tw.sw.cell 8).trans (congrArg some hF);have hlg:=H.out.1.tw.sw.lt;have cs:=H.out.1.tw.cellS;have ls:=H.out.1.tw.lt (b:=bs) (Or.inl rfl);have HF:=hide hF;clear hvb qb hl hjl hlm hu hF q0;by_cases hm0:(d2.F u).mark=0
   ·
    rw[hm0]at q5;have HM0:=hide hm0;have hl9:=H.out.1.mk_.len;have HSM:=hide (setMark_any g d2 a2 u 2 wl H.out.1.tw.sw (by omega) (by omega))
    clear hm0;go_wp2_with (first|(go_at_call 62;refine (HVC.out _).mono ?_;rintro e w9 ⟨rfl,hw9⟩;obtain rfl:=hw9.symm)|fail)
    refine HSM.out.mono ?_;rintro e w3 ⟨rfl,a3,s3,m3⟩;have ht3:=H.out.1.tw.call s3 m3;have hk3:a3 (kLit p)=a (kLit p):=(m3.ad (kLit p) (by show p<d2.nc;exact hp3)).trans H.out.2.2
    have hF3:=(m3.ad kFac trivial).trans HF.out;have fm3:=H.out.1.fm.mark_ u 2 (d2.mks++[u]);have mk3:=H.out.1.mk_.mark_ (v:=u) (m:=2) HM0.out (by omega) (by decide)
    obtain⟨d3,hd3⟩:∃d3,({ d2 with F:=upd d2.F u ((d2.F u).mk_ 2),mks:=d2.mks++[u] }:Dt)=d3:=⟨_,rfl⟩;have hM3:d3.M=upd d2.M u 2:=by rw[← hd3];exact M_upd d2 u 2 _
    rw[hd3]at ht3 fm3 mk3;have H3:=hide (And.intro ht3 (And.intro fm3 (And.intro mk3 (And.intro hk3 hM3))));have hnv3:=fm3.nv;obtain⟨bF',cF',hF',lF3,r0,-,-⟩:=ht3.sw.wh (v:=u) (by omega)
    have e1:=hF3.symm.trans hF';simp only[Value.slice.injEq,Option.some.injEq,Addr.mk.injEq]at e1;obtain⟨⟨rfl,-,-⟩,-,-⟩:=e1;rw[fm3.level u]at r0;have c83:w3.cell? ⟨g,8,none⟩=some (.slice (some ⟨bF,0,none⟩) (d3.nv+1) cF'):=(ht3.sw.cell 8).trans (congrArg some hF');have hul3:u<d3.nv+1:=by omega
    have huI3:(u:Int)<(d3.nv:Int)+1:=by omega
    have cs3:=ht3.cellS;have ls3:=ht3.lt (b:=bs) (Or.inl rfl);have lg3:=ht3.lt (b:=bg) (Or.inr (Or.inl rfl));have lx3:=ht3.lt (b:=bx) (Or.inr (Or.inr (Or.inl rfl)));have hlg3:=ht3.sw.lt;have hlG:G2.length≤5001:=by have:=H.out.1.lenG;omega
    have hlX:X2.length≤5001:=by have:=H.out.1.lenX;omega
    clear s3 m3 ht3 hk3 fm3 mk3 hd3 hF3 hF' hM3 HSM c8 q5 lF hlg cs ls qj lb;by_cases hl0:(d0.F u).level=0
    ·
     rw[hl0]at r0;obtain⟨qx,cx,hvx,-,-,-,-⟩:=H3.out.1.ox.shape;obtain⟨cX,zX⟩:=H3.out.1.cellX;rw[hvx]at cX;have HVX:=hide hvx;have HTR:=hide (H.out.1.tr.fix (l:=l) (x:=2) (by decide) (by rw[HU.out];exact HM0.out) HRL.out.1 (by rw[HU.out];exact hl0))
     have HO0:Hid (OL 1 3 w3 (.slice qx X2.length cx) X2.length (i64C X2)):=by rw[← hvx];exact H3.out.1.ox
     clear hvx hl0;go_wp2_with (at_builtin;refine Euf.Stop.of ?_)
     show wpList _ _ _ _ _ _
     have hol3:OL 1 3 (w3.alloc (.cells #[.int .i64 (u:Nat)] 3 (0,0))) (.slice qx X2.length cx) X2.length (i64C X2):=HO0.out.stay fun b hb=>Below.heap_alloc w3 _ b (HO0.out.lt hb)
     refine Euf.wpList_push rfl (.tmp 44) (.tmp 46) 35 rfl 1 3 _ 8 uInts iInt (by decide) rfl (by decide) (.slice qx X2.length cx) X2.length (i64C X2) rfl [.int .i64 (u:Nat)] 3 hol3 (fun _ _=>rfl) 1 rfl rfl (by intro u hu;simp at hu;subst hu;rfl) (by omega) (i64C (X2++[u])) (fun q hq=>by simp[i64C,List.getElem?_append_left hq]) (by simp[i64C]) ?_
     intro v7 w7 hol7 hap7 hne7;replace hap7:=hap7.of_alloc (fun b hb=>HO0.out.lt hb)
     rw[← HVX.out]at hap7;obtain⟨⟨y0,yf,hy⟩,hT7⟩:=H3.out.1.pushX (x:=u) hap7 hol7;rw[HVX.out]at y0;obtain⟨q7,c7,hv7,-⟩:=hol7.shape;subst hv7;have HE:Hid (TG g dB aB w0 d0 clash keep bs bg bx vL L d3 a3 vG2 (.slice q7 (X2.length+1) c7) G2 (X2++[u]) (Z++(d0.C p).lits.take (j+1)) (w7.setCell ⟨bx,0,none⟩ (.slice q7 (X2.length+1) c7))∧(∃Y,G2=G++Y)∧a3 (kLit p)=a (kLit p)):=by
      refine⟨⟨hT7,H3.out.2.1,H3.out.2.2.1,?_⟩,H.out.2.1,H3.out.2.2.2.1⟩;rw[HTK.out,H3.out.2.2.2.2];have h9:=HTR.out;rw[HU.out]at h9;exact h9
     clear hol3 hol7 hap7 hne7 hT7 H3 HTR HO0 HVX cX zX;go_wp2;go_roundw
     case rel=>exact⟨j+1,d3,a3,vG2,_,G2,_,by go_num,by omega,HE.out⟩
     case measure=>simp[intOf]<;>omega
    ·
     have hl0I:¬ ((d0.F u).level=0):=hl0;have hl0B:((d0.F u).level == 0)=false:=by simpa using hl0
     obtain⟨qx,cx,hvx,-,-,-,-⟩:=H3.out.1.og.shape;obtain⟨cX,zX⟩:=H3.out.1.cellG;rw[hvx]at cX;have HVX:=hide hvx;have HTR:=hide (H.out.1.tr.go (l:=l) (x:=2) (by decide) (by rw[HU.out];exact HM0.out) HRL.out.1 (by have:=HRL.out.2;rw[HU.out]at this ⊢;omega))
     have HO0:Hid (OL 1 3 w3 (.slice qx G2.length cx) G2.length (i64C G2)):=by rw[← hvx];exact H3.out.1.og
     generalize (d0.F u).level=lv at r0 hl0I hl0B hl0;clear hvx hl0;go_wp2_with (at_builtin;refine Euf.Stop.of ?_)
     show wpList _ _ _ _ _ _
     have hol3:OL 1 3 (w3.alloc (.cells #[.int .i64 (u:Nat)] 3 (0,0))) (.slice qx G2.length cx) G2.length (i64C G2):=HO0.out.stay fun b hb=>Below.heap_alloc w3 _ b (HO0.out.lt hb)
     refine Euf.wpList_push rfl (.tmp 48) (.tmp 50) 35 rfl 1 3 _ 8 uInts iInt (by decide) rfl (by decide) (.slice qx G2.length cx) G2.length (i64C G2) rfl [.int .i64 (u:Nat)] 3 hol3 (fun _ _=>rfl) 1 rfl rfl (by intro u hu;simp at hu;subst hu;rfl) (by omega) (i64C (G2++[u])) (fun q hq=>by simp[i64C,List.getElem?_append_left hq]) (by simp[i64C]) ?_
     intro v7 w7 hol7 hap7 hne7;replace hap7:=hap7.of_alloc (fun b hb=>HO0.out.lt hb)
     rw[← HVX.out]at hap7;obtain⟨⟨y0,yf,hy⟩,hT7⟩:=H3.out.1.pushG (x:=u) hap7 hol7;rw[HVX.out]at y0;obtain⟨q7,c7,hv7,-⟩:=hol7.shape;subst hv7;have HE:Hid (TG g dB aB w0 d0 clash keep bs bg bx vL L d3 a3 (.slice q7 (G2.length+1) c7) vX2 (G2++[u]) X2 (Z++(d0.C p).lits.take (j+1)) (w7.setCell ⟨bg,0,none⟩ (.slice q7 (G2.length+1) c7))∧(∃Y,G2++[u]=G++Y)∧a3 (kLit p)=a (kLit p)):=by
      refine⟨⟨hT7,H3.out.2.1,H3.out.2.2.1,?_⟩,?_,H3.out.2.2.2.1⟩
      · rw[HTK.out,H3.out.2.2.2.2];have h9:=HTR.out;rw[HU.out]at h9;exact h9
      · obtain⟨Y,hY⟩:=H.out.2.1;exact⟨Y++[u],by rw[hY,List.append_assoc]⟩
     clear hol3 hol7 hap7 hne7 hT7 H3 HTR HO0 HVX cX zX;go_wp2;go_roundw
     case rel=>exact⟨j+1,d3,a3,_,vX2,_,X2,by go_num,by omega,HE.out⟩
     case measure=>simp[intOf]<;>omega
   ·
    have hm0I:¬ ((d2.F u).mark=0):=hm0;have hm0B:((d2.F u).mark != 0)=true:=by simpa using hm0
    have HE:Hid (TG g dB aB w0 d0 clash keep bs bg bx vL L d2 a2 vG2 vX2 G2 X2 (Z++(d0.C p).lits.take (j+1)) wl∧(∃Y,G2=G++Y)∧a2 (kLit p)=a (kLit p)):=by
     refine⟨{ H.out.1 with tr:=?_ },H.out.2⟩;rw[HTK.out];exact H.out.1.tr.skip (by rw[HU.out];exact hm0)
    generalize (d2.F u).mark=mk0 at q5 hm0I hm0B hm0;go_wp2_with (go_at_call 62;refine (HVC.out _).mono ?_;rintro e w9 ⟨rfl,hw9⟩;obtain rfl:=hw9.symm)
    go_roundw
    case rel=>exact⟨j+1,d2,a2,vG2,vX2,G2,X2,by go_num,by omega,HE.out⟩
    case measure=>simp[intOf]<;>omega
  ·
   have hltI:¬ ((j:Int)<(m:Int)):=by omega
   obtain rfl:j=m:=by omega
   have HE:Hid (RcE g dB aB w0 d0 clash keep bs bg bx vL L G (Z++(d0.C p).lits) wl):=by
    have h9:=H.out.1;rw[← HM.out,List.take_length]at h9;exact⟨d2,a2,vG2,vX2,G2,X2,h9,H.out.2.1⟩
   go_wp2;go_end0
   exact⟨rfl,HE.out⟩
end Sat
open Go Go.RowKit Go.Sort Go.Shelf
namespace Sat
open Euf (OL App)
def enC {α:Type} [Inhabited α] (enc:α→Value) (xs:List α) (i:Nat):List Value:=[enc (xs[i]!)]
theorem sort_heap {α:Type} [Inhabited α] (enc:α→Value) (w:World) (n g:Nat) (d:Array α) (os:Array Obj) {cur:Array Value} {e:TypeId} (hg:w.heap[g]?=some (.cells cur e (0,0))) :
  (sortWorld enc w g 0 n d os).heap[g]?=some (.cells (putCells enc 0 d cur) e (0,0))∧∀b,b<w.heap.size→b≠g→(sortWorld enc w g 0 n d os).heap[b]?=w.heap[b]?:=by
 have hgl:g<w.heap.size:=(Array.getElem?_eq_some_iff.1 hg).1;have hs:(putRow enc (Sort.ahead w n) g 0 d).heap.size=w.heap.size:=by simp[putRow,mapBlock,Sort.ahead]
 have look:∀b,b<w.heap.size→(sortWorld enc w g 0 n d os).heap[b]?=(w.heap.modify g (onCells (putCells enc 0 d)))[b]?:=by
  intro b hb;show ((putRow enc (Sort.ahead w n) g 0 d).heap++os)[b]?=_
  rw[Array.getElem?_append_left (by rw[hs];exact hb)]
  rfl
 refine⟨?_,fun b hb hne=>?_⟩
 · rw[look g hgl,Array.getElem?_modify,if_pos rfl,hg];rfl
 · rw[look b hb,Array.getElem?_modify,if_neg (Ne.symm hne)]
theorem sort_mv {α:Type} [Inhabited α] (enc:α→Value) (w:World) (n g:Nat) (d:Array α) (os:Array Obj) {cur:Array Value} {e:TypeId} (hg:w.heap[g]?=some (.cells cur e (0,0))) {F:Nat→Prop} (hF:F g):Mv F w (sortWorld enc w g 0 n d os):=by
 obtain⟨-,s2⟩:=sort_heap enc w n g d os hg;refine⟨rfl,rfl,rfl,?_,fun b hb hn=>s2 b hb (fun e=>hn (e ▸ hF))⟩
 show w.heap.size≤(_++os).size
 simp[putRow,mapBlock,Sort.ahead]
theorem sortF_any {α:Type} [Inhabited α] (enc:α→Value) (h1:∀x,(enc x).oneCell'=true) (cf:α→α→Int) (hO:SWO (ltOf cf)) (gf:Nat) (cb:Array Value) (v:Value) (xs:List α) (w:World) (hol:OL 1 3 w v xs.length (enC enc xs))
  (eg:∀args w,(callFunc gf args).run Tryz.prog w=.ok (.enter gf args) w)
  (hcmp:∀W,Mv (fun b=>v.ownBlock=some b) w W→∀x y,Calls Tryz.prog gf (#[enc x,enc y]++cb) W fun e w'=>e=.returned (.int .i64 (cf x y))∧∃q os,w'=grow (W.drewN q) os) (hl:xs.length≤1000000000) :
  Calls Tryz.prog 48 #[v,.func (.func gf) #[] cb] w fun e w'=>e=.returned (.tuple #[])∧∃ys:List α,ys.Perm xs∧ys.Pairwise (fun a b=>ltOf cf b a=false)∧OL 1 3 w' v xs.length (enC enc ys)∧Mv (fun b=>v.ownBlock=some b) w w':=by
 rcases hol with⟨rfl,h0⟩|⟨g,cap,cur,rfl,hg,k1,k2,k3,k4⟩
 · have hx:xs=[]:=List.eq_nil_of_length_eq_zero h0;subst hx;refine (AnyF.slices_SortFunc_none (P:=Tryz.prog) (ρ:=Tryz.sortF_ren) { Tryz.sortF with } none 0 _ w).mono ?_;rintro e w' ⟨rfl,rfl⟩;exact⟨rfl,[],List.Perm.refl _,List.Pairwise.nil,Or.inl ⟨rfl,rfl⟩,Mv.refl _ _⟩
 ·
  have hgl:g<w.heap.size:=(Array.getElem?_eq_some_iff.1 hg).1;have hH:Holds enc w g 0 xs.toArray:=by
   intro j hj;have hj':j<xs.length:=by simpa using hj
   refine⟨?_,frozen_of_row w g _ cur 3 hg⟩;rw[cell_of_row w g _ cur 3 (0,0) hg];have:=k4 j hj' 0 (by omega)
   rw[Nat.mul_one,Nat.add_zero]at this;rw[Nat.zero_add,this];simp[enC,hj']
  have hc:=Any.slices_SortFunc Tryz.sortF enc h1 cf hO gf cb g 0 cap xs.toArray w eg (fun m os dk hdk x y=>(hcmp _ (sort_mv enc w m g dk os hg rfl) x y).mono (fun e w' ⟨he,q,os',hw⟩=>⟨he,q,os',hw⟩)) hH hgl (by simp;omega)
  have e1:xs.toArray.size=xs.length:=by simp
  rw[e1]at hc;refine hc.mono ?_;rintro e w' ⟨rfl,d',n,os,⟨p1,p2,p3⟩,hs,rfl⟩;obtain⟨s1,s2⟩:=sort_heap enc w n g d' os hg;have hd:d'.size=xs.length:=by simpa using p1
  have pm:d'.toList.Perm xs:=by
   have e2:d'.extract 0 xs.length=d':=by rw[← hd];simp
   rw[e2]at p3;simpa using p3
  refine⟨rfl,d'.toList,pm,?_,Or.inr ⟨g,cap,_,rfl,s1,k1,k2,by simp[putCells];omega,fun i hi j hj=>?_⟩,sort_mv enc w n g d' os hg rfl⟩
  ·
   rw[List.pairwise_iff_getElem];intro i j hi hj hij;have hi':i<d'.size:=by simpa using hi
   have hj':j<d'.size:=by simpa using hj
   have h9:=hs i j (Nat.zero_le _) hij (by omega)
   rw[getElem!_pos d' i hi',getElem!_pos d' j hj']at h9;simpa using h9
  ·
   obtain rfl:j=0:=by omega
   have hi':i<d'.size:=by omega
   have hc:i<cur.size:=by omega
   simp[putCells,enC,hi',hc]
def cmpI (x y:Int):Int:=if x<y then -1 else if y<x then 1 else 0
theorem isNaN_any (x:Int) (w:World):Calls Tryz.prog 111 #[.int .i64 x] w fun e w'=>e=.returned (.bool false)∧w'=w:=by
 go_enter Tryz.func111,Tryz.ntmps111;go_wp2;go_ret
 exact⟨rfl,rfl⟩
theorem compare_any (x y:Int) (w:World):Calls Tryz.prog 82 #[.int .i64 x,.int .i64 y] w fun e w'=>e=.returned (.int .i64 (cmpI x y))∧w'=w:=by
 have HN:=hide (fun x w=>isNaN_any x w)
 by_cases h1:x<y
 ·
  have HE:Hid (cmpI x y=-1):=by show (if _ then _ else _)=_;rw[if_pos h1]
  go_enter Tryz.func82,Tryz.ntmps82;go_wp2_with (go_at_call 111;refine (HN.out _ _).mono ?_;rintro e w9 ⟨rfl,hw9⟩;obtain rfl:=hw9.symm)
  go_ret
  exact⟨by rw[HE.out];rfl,rfl⟩
 ·
  by_cases h2:y<x
  ·
   have HE:Hid (cmpI x y=1):=by show (if _ then _ else _)=_;rw[if_neg h1,if_pos h2]
   go_enter Tryz.func82,Tryz.ntmps82;go_wp2_with (go_at_call 111;refine (HN.out _ _).mono ?_;rintro e w9 ⟨rfl,hw9⟩;obtain rfl:=hw9.symm)
   go_ret
   exact⟨by rw[HE.out];rfl,rfl⟩
  ·
   have HE:Hid (cmpI x y=0):=by show (if _ then _ else _)=_;rw[if_neg h1,if_neg h2]
   go_enter Tryz.func82,Tryz.ntmps82;go_wp2_with (go_at_call 111;refine (HN.out _ _).mono ?_;rintro e w9 ⟨rfl,hw9⟩;obtain rfl:=hw9.symm)
   go_ret
   exact⟨by rw[HE.out];rfl,rfl⟩
end Sat
namespace Sat
def bv (a b:Int):Prop:=a.natAbs<b.natAbs∨(a.natAbs=b.natAbs∧a<b)
theorem bv_irr (a:Int):¬ bv a a:=by unfold bv;omega
theorem bv_trans {a b c:Int} (h:bv a b) (k:bv b c):bv a c:=by unfold bv at *;omega
theorem bv_tri (a b:Int):bv a b∨a=b∨bv b a:=by unfold bv;omega
theorem bv_asymm {a b:Int} (h:bv a b):¬ bv b a:=by unfold bv at *;omega
def Srt (l:List Int):Prop:=l.Pairwise bv
theorem Srt.nil:Srt []:=List.Pairwise.nil
theorem Srt.ext:∀{l l':List Int},Srt l→Srt l'→(∀x,x∈l↔x∈l')→l=l'
 | [],[],_,_,_=>rfl
 | [],y::l',_,_,h=>by have:=(h y).2 (by simp);cases this
 | x::l,[],_,_,h=>by have:=(h x).1 (by simp);cases this
 | x::l,y::l',h1,h2,h=>by
  obtain⟨a1,a2⟩:=List.pairwise_cons.1 h1;obtain⟨b1,b2⟩:=List.pairwise_cons.1 h2;have exy:x=y:=by
   rcases List.mem_cons.1 ((h x).1 (by simp)) with e|e
   · exact e
   ·
    rcases List.mem_cons.1 ((h y).2 (by simp)) with e'|e'
    · exact e'.symm
    · exact absurd (a1 y e') (bv_asymm (b1 x e))
  subst exy;congr 1
  refine Srt.ext a2 b2 (fun z=>?_)
  have hz:=h z;simp only[List.mem_cons]at hz;constructor
  ·
   intro hm;rcases hz.1 (Or.inr hm) with e|e
   · subst e;exact absurd (a1 z hm) (bv_irr z)
   · exact e
  ·
   intro hm;rcases hz.2 (Or.inr hm) with e|e
   · subst e;exact absurd (b1 z hm) (bv_irr z)
   · exact e
theorem Srt.snoc {l:List Int} {x:Int} (h:Srt l) (hx:∀y∈l,bv y x):Srt (l++[x]):=by
 unfold Srt;rw[List.pairwise_append];exact⟨h,by simp,fun a ha b hb=>by simp at hb;subst hb;exact hx a ha⟩
theorem Srt.tail {l:List Int} {x:Int} (h:Srt (x::l)):Srt l∧∀y∈l,bv x y:=⟨(List.pairwise_cons.1 h).2,(List.pairwise_cons.1 h).1⟩
/-! ## Two sets become one -/
def RI (a b:List Int) (l x:Int):Prop:=(x∈a∧x≠l)∨(x∈b∧x≠-l)
structure MG (a0 b0:List Int) (l:Int) (out a b:List Int):Prop where
  so:Srt out
  sa:Srt a
  sb:Srt b
  oa:∀x∈out,∀y∈a,bv x y
  ob:∀x∈out,∀y∈b,bv x y
  me:∀x,(x∈out∨RI a b l x)↔RI a0 b0 l x
theorem MG.start {a b:List Int} (l:Int) (ha:Srt a) (hb:Srt b):MG a b l [] a b:=⟨Srt.nil,ha,hb,fun x hx=>(by cases hx),fun x hx=>(by cases hx),fun x=>by simp⟩
theorem MG.done {a0 b0 out:List Int} {l:Int} (m:MG a0 b0 l out [] []):Srt out∧∀x,x∈out↔RI a0 b0 l x:=⟨m.so,fun x=>by rw[← m.me x];simp[RI]⟩
section
variable {a0 b0 out a b:List Int} {l x y:Int}
theorem MG.left (m:MG a0 b0 l out (x::a) b) (hb:∀y∈b,bv x y):MG a0 b0 l (if x≠l then out++[x] else out) a b:=by
 obtain⟨s1,s2⟩:=m.sa.tail;have ox:∀y∈out,bv y x:=fun y hy=>m.oa y hy x (by simp)
 refine⟨?_,s1,m.sb,?_,?_,fun z=>?_⟩
 ·
  split
  · exact m.so.snoc ox
  · exact m.so
 ·
  intro z hz y hy;split at hz
  ·
   rcases List.mem_append.1 hz with hz|hz
   · exact m.oa z hz y (by simp[hy])
   · simp at hz;subst hz;exact s2 y hy
  · exact m.oa z hz y (by simp[hy])
 ·
  intro z hz y hy;split at hz
  ·
   rcases List.mem_append.1 hz with hz|hz
   · exact m.ob z hz y hy
   · simp at hz;subst hz;exact hb y hy
  · exact m.ob z hz y hy
 ·
  rw[← m.me z];unfold RI;by_cases e:x=l
  ·
   simp only[e,ne_eq,not_true,if_false,List.mem_cons];constructor
   ·
    rintro (h|⟨h1,h2⟩|h)
    · exact Or.inl h
    · exact Or.inr (Or.inl ⟨Or.inr h1,h2⟩)
    · exact Or.inr (Or.inr h)
   ·
    rintro (h|⟨h1|h1,h2⟩|h)
    · exact Or.inl h
    · exact absurd h1 h2
    · exact Or.inr (Or.inl ⟨h1,h2⟩)
    · exact Or.inr (Or.inr h)
  ·
   simp only[e,ne_eq,not_false_eq_true,if_true,List.mem_cons,List.mem_append,List.not_mem_nil,or_false];constructor
   ·
    rintro ((h|h)|⟨h1,h2⟩|h)
    · exact Or.inl h
    · exact Or.inr (Or.inl ⟨Or.inl h,by rw[h];exact e⟩)
    · exact Or.inr (Or.inl ⟨Or.inr h1,h2⟩)
    · exact Or.inr (Or.inr h)
   ·
    rintro (h|⟨h1|h1,h2⟩|h)
    · exact Or.inl (Or.inl h)
    · exact Or.inl (Or.inr h1)
    · exact Or.inr (Or.inl ⟨h1,h2⟩)
    · exact Or.inr (Or.inr h)
theorem MG.flip (m:MG a0 b0 l out a b):MG b0 a0 (-l) out b a :=
  ⟨m.so,m.sb,m.sa,m.ob,m.oa,fun z=>by
    have:=m.me z
    unfold RI at this ⊢
    rw[Int.neg_neg]
    constructor
    · rintro (h|h|h)
      · exact (this.1 (Or.inl h)).symm
      · exact (this.1 (Or.inr (Or.inr h))).symm
      · exact (this.1 (Or.inr (Or.inl h))).symm
    · intro h
      rcases this.2 h.symm with h9|h9|h9
      · exact Or.inl h9
      · exact Or.inr (Or.inr h9)
      · exact Or.inr (Or.inl h9)⟩
theorem MG.right (m:MG a0 b0 l out a (y::b)) (ha:∀x∈a,bv y x):MG a0 b0 l (if y≠-l then out++[y] else out) a b:=by
 have h9:=(m.flip.left ha).flip;rwa [Int.neg_neg]at h9
theorem MG.both (m:MG a0 b0 l out (x::a) (x::b)) (hl:l≠0):MG a0 b0 l (out++[x]) a b:=by
 obtain⟨s1,s2⟩:=m.sa.tail;obtain⟨t1,t2⟩:=m.sb.tail;have ox:∀y∈out,bv y x:=fun y hy=>m.oa y hy x (by simp)
 refine⟨m.so.snoc ox,s1,t1,?_,?_,fun z=>?_⟩
 ·
  intro z hz y hy;rcases List.mem_append.1 hz with hz|hz
  · exact m.oa z hz y (by simp[hy])
  · simp at hz;subst hz;exact s2 y hy
 ·
  intro z hz y hy;rcases List.mem_append.1 hz with hz|hz
  · exact m.ob z hz y (by simp[hy])
  · simp at hz;subst hz;exact t2 y hy
 ·
  rw[← m.me z];unfold RI;simp only[List.mem_cons,List.mem_append,List.not_mem_nil,or_false];constructor
  ·
   rintro ((h|h)|⟨h1,h2⟩|⟨h1,h2⟩)
   · exact Or.inl h
   ·
    by_cases e:z=l
    · exact Or.inr (Or.inr ⟨Or.inl h,by omega⟩)
    · exact Or.inr (Or.inl ⟨Or.inl h,e⟩)
   · exact Or.inr (Or.inl ⟨Or.inr h1,h2⟩)
   · exact Or.inr (Or.inr ⟨Or.inr h1,h2⟩)
  ·
   rintro (h|⟨h1|h1,h2⟩|⟨h1|h1,h2⟩)
   · exact Or.inl (Or.inl h)
   · exact Or.inl (Or.inr h1)
   · exact Or.inr (Or.inl ⟨h1,h2⟩)
   · exact Or.inl (Or.inr h1)
   · exact Or.inr (Or.inr ⟨h1,h2⟩)
end
/-! ## Putting in one after the other -/
def SetOf (l s:List Int):Prop:=Srt s∧∀x,x∈s↔x∈l
theorem SetOf.uniq {l s s':List Int} (h:SetOf l s) (h':SetOf l s'):s=s':=h.1.ext h'.1 (fun x=>(h.2 x).trans (h'.2 x).symm)
theorem SetOf.snoc {l s p r:List Int} {x:Int} (h:SetOf l s) (e:s=p++r) (hp:∀y∈p,bv y x) (hr:∀y∈r,bv x y):SetOf (l++[x]) (p++x::r):=by
 obtain⟨h1,h2⟩:=h;subst e;obtain⟨a1,a2,a3⟩:=List.pairwise_append.1 h1;refine⟨?_,fun z=>?_⟩
 ·
  unfold Srt;rw[List.pairwise_append];refine⟨a1,List.pairwise_cons.2 ⟨hr,a2⟩,fun a ha b hb=>?_⟩
  rcases List.mem_cons.1 hb with e|e
  · subst e;exact hp a ha
  · exact a3 a ha b e
 ·
  have:=h2 z;simp only[List.mem_append,List.mem_cons,List.not_mem_nil,or_false]at this ⊢;constructor
  ·
   rintro (h|h|h)
   · exact Or.inl (this.1 (Or.inl h))
   · exact Or.inr h
   · exact Or.inl (this.1 (Or.inr h))
  ·
   rintro (h|h)
   ·
    rcases this.2 h with h|h
    · exact Or.inl h
    · exact Or.inr (Or.inr h)
   · exact Or.inr (Or.inl h)
theorem SetOf.skip {l s:List Int} {x:Int} (h:SetOf l s) (hx:x∈s):SetOf (l++[x]) s:=⟨h.1,fun z=>by
  have:=h.2 z
  simp only[List.mem_append,List.mem_cons,List.not_mem_nil,or_false]
  constructor
  · intro hz;exact Or.inl (this.1 hz)
  · rintro (hz|hz)
    · exact this.2 hz
    · subst hz;exact hx⟩
theorem SetOf.of_srt {s:List Int} (h:Srt s):SetOf s s:=⟨h,fun _=>Iff.rfl⟩
theorem SetOf.congr {l l' s:List Int} (h:SetOf l s) (hl:∀x,x∈l↔x∈l'):SetOf l' s:=⟨h.1,fun x=>(h.2 x).trans (hl x)⟩
end Sat
end Go.Proofs.YtbmkkhpoaicclabGreat
