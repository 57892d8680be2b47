/- Joined: SatMa, SatUn, SatUf, SatAs: words and contracts; no statement of the seat is proved here. -/
import Derived.Test.YtbmkkhpoaicclabGreatJoin5Grows
import Derived.Deep.DeepCutAuto
namespace Go.Proofs.YtbmkkhpoaicclabGreat
open Go.RowKit
set_option linter.unusedVariables false
namespace Sat
open Euf (OL App)
abbrev Fc.mk_ (f:Fc) (m:Int):Fc:={ f with mark:=m }
set_option maxRecDepth 20000 in
set_option maxHeartbeats 8000000 in
theorem setMark_any (g:Nat) (d:Dt) (a:Key→Value) (v:Nat) (m:Int) (w:World) (h:SW w g d a) (hv:v≤d.nv) (hl:d.mks.length≤1000000) :
  Calls Tryz.prog 122 #[.pointer (some ⟨g,0,none⟩),.int .i64 (v:Nat),.int .i8 m] w fun e w'=>e=.returned (.tuple #[])∧∃a',SW w' g { d with F:=upd d.F v ((d.F v).mk_ m),mks:=d.mks++[v] } a'∧Mo g d a w { d with F:=upd d.F v ((d.F v).mk_ m),mks:=d.mks++[v] } a' w':=by
 obtain⟨bF,cF,hF,lF,qF,zF⟩:=h.facR;have c8:w.cell? ⟨g,8,none⟩=some (a kFac):=h.cell 8;rw[hF]at c8;have hvl:v<d.nv+1:=by omega
 have hvI:(v:Int)<(d.nv:Int)+1:=by omega
 obtain⟨-,-,-,-,-,q5⟩:=qF v hvl;have z5:=zF (v*6+5);have hlg:=h.lt;obtain⟨s1,m1⟩:=h.setF hF hvl 5 (by decide) (.int .i8 m) ((d.F v).mk_ m) (by unfold facC;rw[upd_same];rfl)
 generalize hw1:w.setCell ⟨bF,v*6+5,none⟩ (.int .i8 m)=w1 at s1 m1;obtain⟨qH,cH,hH,k1,k2,-⟩:=s1.len (k:=kMar) (by exact⟨by decide,rfl⟩)
 have hH':a kMar=.slice qH d.mks.length cH:=hH;have c16:w1.cell? ⟨g,16,none⟩=some (a kMar):=s1.cell 16;have hol0:OL 1 3 w1 (a kMar) d.mks.length (i64C d.mks):=s1.ol (k:=kMar) (by exact⟨by decide,rfl⟩)
 rw[hH']at c16;have hlg1:=s1.lt;have H1:Hid (SW w1 g { d with F:=upd d.F v ((d.F v).mk_ m) } a∧Mo g d a w { d with F:=upd d.F v ((d.F v).mk_ m) } a w1):=⟨s1,m1⟩;clear h hF qF zF s1 m1 hH;go_enter Tryz.func122,Tryz.ntmps122;go_wp2_with (at_builtin;refine Euf.Stop.of ?_)
 show wpList _ _ _ _ _ _
 rw[hH']at hol0;have hol3:OL 1 3 (w1.alloc (.cells #[.int .i64 (v:Nat)] 3 (0,0))) (.slice qH d.mks.length cH) d.mks.length (i64C d.mks):=hol0.stay fun b hb=>Below.heap_alloc w1 _ b (hol0.lt hb)
 refine Euf.wpList_push rfl (.tmp 18) (.tmp 20) 35 rfl 1 3 _ 8 uInts iInt (by decide) rfl (by decide) (.slice qH d.mks.length cH) d.mks.length (i64C d.mks) rfl [.int .i64 (v:Nat)] 3 hol3 (fun _ _=>rfl) 1 rfl rfl (by intro u hu;simp at hu;subst hu;rfl) (by omega) (i64C (d.mks++[v])) (fun q hq=>by simp[i64C,List.getElem?_append_left hq]) (by simp[i64C]) ?_
 intro v4 w4 hol4 hap4 hne4;replace hap4:=hap4.of_alloc (fun b hb=>hol0.lt hb)
 rw[← hH']at hap4;obtain⟨⟨y0,yf,hy⟩,hS,yl⟩:=H1.out.1.pushX_mks (x:=v) hap4 hol4;rw[hH']at y0;obtain⟨aV,cV,hv4,-,-,-,-⟩:=hol4.shape;subst hv4;have HS:Hid _:=hS;clear hol3 hol4 hap4 hne4 hol0 hS;go_wp2;go_end0
 exact⟨rfl,_,HS.out.1,H1.out.2.trans HS.out.2⟩
def unF (F:Nat→Fc) (l:List Nat) (v:Nat):Fc:=if v∈l then (F v).mk_ 0 else F v
set_option maxRecDepth 20000 in
set_option maxHeartbeats 8000000 in
theorem unmark_any (g:Nat) (d:Dt) (a:Key→Value) (w:World) (h:SW w g d a) (hm:∀v∈d.mks,v≤d.nv) (hl:d.mks.length≤1000000) :
  Calls Tryz.prog 97 #[.pointer (some ⟨g,0,none⟩)] w fun e w'=>e=.returned (.tuple #[])∧∃a',SW w' g { d with F:=unF d.F d.mks,mks:=[] } a'∧Mo g d a w { d with F:=unF d.F d.mks,mks:=[] } a' w':=by
 obtain⟨qH,cH,hH,k1,k2,k3⟩:=h.len (k:=kMar) (by exact⟨by decide,rfl⟩)
 have hH':a kMar=.slice qH d.mks.length cH:=hH;have c16:w.cell? ⟨g,16,none⟩=some (a kMar):=h.cell 16;rw[hH']at c16;have HH:Hid (a kMar=.slice qH d.mks.length cH∧(∀p,qH=some p→p.off=0∧p.spot=none)∧∀v∈d.mks,v≤d.nv):=⟨hH',k3,hm⟩;have hlg:=h.lt;have H0:Hid (SW w g d a):=h;have hlI:(d.mks.length:Int)≤1000000:=by omega
 clear h hH hH' k1 k2 k3 hm;go_enter Tryz.func97,Tryz.ntmps97;go_wp2;clear c16;go_loopw [9] (fun v9 wr=>∃(i:Nat),v9=.int .i64 (i:Nat)∧i≤d.mks.length∧Hid (SW wr g { d with F:=unF d.F (d.mks.take i) } a∧Mo g d a w { d with F:=unF d.F (d.mks.take i) } a wr)) (fun v _=>d.mks.length - (intOf v).toNat)
 case atStart =>
  have e:({ d with F:=unF d.F (d.mks.take 0) }:Dt)=d:=by
   have:unF d.F (d.mks.take 0)=d.F:=by funext v;simp[unF]
   rw[this]
  exact⟨0,rfl,Nat.zero_le _,by rw[e];exact⟨H0.out,Mo.refl _ _ _ _⟩⟩
 case round =>
  rename World=>wl
  clear H0;obtain⟨i,rfl,hi,H⟩:=hrel;by_cases hlt:i<d.mks.length
  ·
   have hltI:(i:Int)<(d.mks.length:Int):=by omega
   obtain⟨bM,cM,hM,lM,-,-,qM,-⟩:=H.out.1.marR (by show 0<d.mks.length;omega)
   have e2:=HH.out.1.symm.trans hM;injection e2 with e2 _ e4;subst e2 e4;have qi:wl.cell? ⟨bM,i,none⟩=some (.int .i64 (d.mks[i]:Nat)):=qM i hlt;have HV:Hid (d.mks[i]≤d.nv):=HH.out.2.2 _ (List.getElem_mem hlt);have HT:Hid (d.mks.take (i+1)=d.mks.take i++[d.mks[i]]):=by show _=_;rw[List.take_succ_eq_append_getElem hlt]
   obtain⟨x,hx⟩:∃x,x=d.mks[i]:=⟨_,rfl⟩;rw[← hx]at qi HV HT;obtain⟨bF,cF,hF,lF,qF,zF⟩:=H.out.1.facR;have c8:wl.cell? ⟨g,8,none⟩=some (a kFac):=H.out.1.cell 8;rw[hF]at c8;have hxl:x<d.nv+1:=by have:=HV.out;omega
   have hxI:(x:Int)<(d.nv:Int)+1:=by have:=HV.out;omega
   obtain⟨-,-,-,-,-,q5⟩:=qF x hxl;have z5:=zF (x*6+5);have hlg:=H.out.1.lt;obtain⟨s1,m1⟩:=H.out.1.setF hF (v:=x) hxl 5 (by decide) (.int .i8 0) ((unF d.F (d.mks.take i) x).mk_ 0) (by unfold facC;rw[upd_same];rfl)
   have eF:upd (unF d.F (d.mks.take i)) x ((unF d.F (d.mks.take i) x).mk_ 0)=unF d.F (d.mks.take (i+1)):=by
    funext u
    rw[HT.out];by_cases e:u=x
    · subst e;rw[upd_same];unfold unF;rw[if_pos (show u∈d.mks.take i++[u] by simp)];split<;>rfl
    · rw[upd_other _ _ e];unfold unF;simp[e]
   have HS:Hid (SW (wl.setCell ⟨bF,x*6+5,none⟩ (.int .i8 0)) g { d with F:=unF d.F (d.mks.take (i+1)) } a∧Mo g d a w { d with F:=unF d.F (d.mks.take (i+1)) } a (wl.setCell ⟨bF,x*6+5,none⟩ (.int .i8 0))):=by
    have s2:SW (wl.setCell ⟨bF,x*6+5,none⟩ (.int .i8 0)) g { d with F:=upd (unF d.F (d.mks.take i)) x ((unF d.F (d.mks.take i) x).mk_ 0) } a:=s1;have m2:Mo g { d with F:=unF d.F (d.mks.take i) } a wl { d with F:=upd (unF d.F (d.mks.take i)) x ((unF d.F (d.mks.take i) x).mk_ 0) } a (wl.setCell ⟨bF,x*6+5,none⟩ (.int .i8 0)):=m1;rw[eF]at s2 m2;exact⟨s2,H.out.2.trans m2⟩
   generalize (unF d.F (d.mks.take i) x).mark=mk0 at q5;clear s1 m1 eF qF zF hF hM qM hx H;go_wp2;go_roundw
   case rel=>exact⟨i+1,by go_num,by omega,HS.out⟩
   case measure=>simp[intOf]<;>omega
  ·
   have hltI:¬ ((i:Int)<(d.mks.length:Int)):=by omega
   obtain rfl:i=d.mks.length:=by omega
   have hT:d.mks.take d.mks.length=d.mks:=List.take_length;rw[hT]at H;have c16:wl.cell? ⟨g,16,none⟩=some (a kMar):=H.out.1.cell 16;rw[HH.out.1]at c16;have z16:=H.out.1.frozen 16;have hlg:=H.out.1.lt;cases qH with
   | none =>
    have HE:Hid _:=H.out.1.nil_mks;obtain⟨q',cap',e1,-,-,e2,-⟩:=(H.out.1.ol (k:=kMar) (by exact⟨by decide,rfl⟩)).shape
    have e3:=HH.out.1.symm.trans e1;simp only[Value.slice.injEq]at e3;obtain⟨e4,e5⟩:=e2 e3.1.symm;have e4':d.mks.length=0:=e4;rw[e4',e3.2.2,e5]at c16;clear e1 e2 e3 e4 e5;go_wp2;go_end0
    exact⟨rfl,_,HE.out.1,H.out.2.trans HE.out.2⟩
   | some p =>
    obtain⟨e1,e2⟩:=HH.out.2.1 p rfl;obtain⟨bM,o,sp⟩:=p;dsimp at e1 e2
    subst e1 e2;have HE:Hid _:=H.out.1.cut_mks (b:=bM) (cap:=cH) HH.out.1 0 (Nat.zero_le _);go_wp2;go_end0
    exact⟨rfl,_,HE.out.1,H.out.2.trans HE.out.2⟩
end Sat
namespace Sat
open Euf (OL App)
theorem uLinks:Tryz.prog.underlying 84=some (.slice 127):=by kernel_rfl
theorem iLink:(Tryz.prog.info? 127).map (fun i=>(i.zero,i.size,i.bytes))=some (some (.agg #[.int .i32 0,.int .i32 0]),2,8):=by kernel_rfl
def vrs (l:List Nat) (z:Int):List Nat:=(l.filter (fun (m:Nat)=>decide ((m:Int)≠z))).map (· / 2)
theorem vrs_snoc (l:List Nat) (z:Int) (m:Nat):vrs (l++[m]) z=vrs l z++(if (m:Int)≠z then [m / 2] else []):=by
 unfold vrs;rw[List.filter_append,List.map_append];by_cases e:(m:Int)=z<;>simp[e]
theorem vrs_len (l:List Nat) (z:Int):(vrs l z).length≤l.length:=by
 unfold vrs;rw[List.length_map];exact List.length_filter_le _ _
set_option maxRecDepth 20000 in
set_option maxHeartbeats 8000000 in
theorem variables_any (g:Nat) (d:Dt) (a:Key→Value) (c:Nat) (z:Int) (w:World) (h:SW w g d a) (hc:c<d.nc) (hcn:d.nc≤100000000) (hl:(d.C c).lits.length≤10000) (hm:∀m∈(d.C c).lits,m<20000) :
  Calls Tryz.prog 94 #[.pointer (some ⟨g,0,none⟩),.int .i64 (c:Nat),.int .i32 z] w fun e w'=>∃v',e=.returned v'∧OL 1 3 w' v' (vrs (d.C c).lits z).length (i64C (vrs (d.C c).lits z))∧(∀b,v'.ownBlock=some b→w.heap.size≤b)∧Below w.heap.size w w':=by
 obtain⟨bC,cC,hC,lC,qC,-⟩:=h.clzR (by omega)
 have c2:w.cell? ⟨g,2,none⟩=some (a kClz):=h.cell 2;rw[hC]at c2;obtain⟨qc,-,-,-⟩:=qC c hc;obtain⟨q,cL,hL,k1,k2,k3⟩:=h.len (k:=kLit c) hc;have hL':a (kLit c)=.slice q (d.C c).lits.length cL:=hL;rw[hL']at qc;have HL:Hid (SW w g d a∧a (kLit c)=.slice q (d.C c).lits.length cL∧∀m∈(d.C c).lits,m<20000):=⟨h,hL',hm⟩;have hcI:(c:Int)<(d.nc:Int):=by omega
 have hlg:=h.lt;obtain⟨n,hn⟩:∃n,n=(d.C c).lits.length:=⟨_,rfl⟩;rw[← hn]at qc;have HN:Hid (n=(d.C c).lits.length):=hn;have hn4:n≤10000:=by omega
 have hnI:(n:Int)≤10000:=by omega
 clear h hC hL hL' qC k1 k2 k3 hn hm hl;go_enter Tryz.func94,Tryz.ntmps94;go_wp2;clear c2 qc;go_loopw [7,19] (fun v7 v19 wr=>∃(i:Nat),v19=.int .i64 (i:Nat)∧i≤n∧Hid (OL 1 3 wr v7 (vrs ((d.C c).lits.take i) z).length (i64C (vrs ((d.C c).lits.take i) z))∧(∀b,v7.ownBlock=some b→w.heap.size≤b)∧Below w.heap.size w wr)) (fun _ v _=>n - (intOf v).toNat)
 case atStart=>exact⟨0,rfl,Nat.zero_le _,by rw[List.take_zero];exact OL.nil _ _ _ _,(fun b hb=>by cases hb),Below.refl _ _⟩
 case round =>
  rename World=>wl
  obtain⟨i,rfl,hi,H⟩:=hrel;obtain⟨aV,cV,hv7,-,-,-,-⟩:=H.out.1.shape;subst hv7;by_cases hlt:i<n
  ·
   have hltI:(i:Int)<(n:Int):=by omega
   have hi2:i<(d.C c).lits.length:=by rw[← HN.out];exact hlt
   obtain⟨bL,cL',hv,lL,-,-,qL,-⟩:=HL.out.1.litR hc (by omega)
   have e2:=HL.out.2.1.symm.trans hv;simp only[Value.slice.injEq]at e2;obtain⟨e3,-,e4⟩:=e2;subst e3 e4;have qi:=qL i hi2;have hmx:=HL.out.2.2 _ (List.getElem_mem hi2);have HT:Hid ((d.C c).lits.take (i+1)=(d.C c).lits.take i++[(d.C c).lits[i]]):=by show _=_;rw[List.take_succ_eq_append_getElem hi2]
   obtain⟨m,hme⟩:∃m,m=(d.C c).lits[i]:=⟨_,rfl⟩;rw[← hme]at qi hmx HT;replace qi:=(H.out.2.2.cell (p:=⟨bL,i,none⟩) lL).trans qi;have lL':bL<wl.heap.size:=Nat.lt_of_lt_of_le lL H.out.2.2.size;have hvl:(vrs ((d.C c).lits.take i) z).length≤10000:=by have:=vrs_len ((d.C c).lits.take i) z;rw[List.length_take]at this;omega
   clear hv qL hme;by_cases hz:(m:Int)=z
   ·
    subst hz;have HM:Hid (vrs ((d.C c).lits.take (i+1)) (m:Int)=vrs ((d.C c).lits.take i) (m:Int)):=by show _=_;rw[HT.out,vrs_snoc];simp
    have HN2:Hid (OL 1 3 wl (.slice aV (vrs ((d.C c).lits.take i) (m:Int)).length cV) (vrs ((d.C c).lits.take (i+1)) (m:Int)).length (i64C (vrs ((d.C c).lits.take (i+1)) (m:Int)))∧(∀b,(Value.slice aV (vrs ((d.C c).lits.take i) (m:Int)).length cV).ownBlock=some b→w.heap.size≤b)∧Below w.heap.size w wl):=by rw[HM.out];exact H.out
    clear HM HT H;go_wp2;go_roundw
    case rel=>exact⟨i+1,by go_num,by omega,HN2.out⟩
    case measure=>simp[intOf]<;>omega
   ·
    have hzB:((m:Int) != z)=true:=by simpa using hz
    have HM:Hid (vrs ((d.C c).lits.take (i+1)) z=vrs ((d.C c).lits.take i) z++[m / 2]):=by show _=_;rw[HT.out,vrs_snoc,if_pos hz]
    generalize vrs ((d.C c).lits.take i) z=L at H HM hvl ⊢;obtain⟨L',hL'⟩:∃L',vrs ((d.C c).lits.take (i+1)) z=L':=⟨_,rfl⟩;have HL2:Hid (vrs ((d.C c).lits.take (i+1)) z=L'):=hL';rw[hL']at HM;clear hL';clear HT;go_wp2_with fail
    refine (variable_any m wl hmx).mono ?_;rintro e w2 ⟨rfl,rfl⟩;generalize m / 2=y at HM ⊢;go_wp2_with (at_builtin;refine Euf.Stop.of ?_)
    show wpList _ _ _ _ _ _
    have hol3:OL 1 3 (w2.alloc (.cells #[.int .i64 (y:Nat)] 3 (0,0))) (.slice aV L.length cV) L.length (i64C L):=H.out.1.stay fun b hb=>Below.heap_alloc w2 _ b (H.out.1.lt hb)
    refine Euf.wpList_push rfl (.tmp 26) (.tmp 29) 35 rfl 1 3 _ 8 uInts iInt (by decide) rfl (by decide) (.slice aV L.length cV) L.length (i64C L) rfl [.int .i64 (y:Nat)] 3 hol3 (fun _ _=>rfl) 1 rfl rfl (by intro u hu;simp at hu;subst hu;rfl) (by omega) (i64C (L++[y])) (fun q hq=>by simp[i64C,List.getElem?_append_left hq]) (by simp[i64C]) ?_
    intro v4 w4 hol4 hap4 hne4;replace hap4:=hap4.of_alloc (fun b hb=>H.out.1.lt hb)
    have HN2:Hid (OL 1 3 w4 v4 L'.length (i64C L')∧(∀b,v4.ownBlock=some b→w.heap.size≤b)∧Below w.heap.size w w4):=by
     refine⟨by rw[HM.out,List.length_append];exact hol4,fun b hb=>?_,H.out.2.2.trans ⟨hap4.os,hap4.tape,hap4.output,hap4.size,fun b hb=>hap4.other b (Nat.lt_of_lt_of_le hb H.out.2.2.size) (fun e=>by have:=H.out.2.1 b e;omega)⟩⟩
     rcases hap4.at_ with e|⟨b',e3,e4⟩
     · exact H.out.2.1 b (e ▸ hb)
     · rw[e3]at hb;injection hb with hb;have:=H.out.2.2.size;omega
    clear hol3 hol4 hap4 hne4 H qi;go_wp2;go_roundw
    case rel=>exact⟨i+1,by go_num,by omega,by rw[HL2.out];exact HN2.out⟩
    case measure=>simp[intOf]<;>omega
  ·
   have hltI:¬ ((i:Int)<(n:Int)):=by omega
   obtain rfl:i=n:=by omega
   have HE:Hid (OL 1 3 wl (.slice aV (vrs ((d.C c).lits.take i) z).length cV) (vrs (d.C c).lits z).length (i64C (vrs (d.C c).lits z))∧(∀b,(Value.slice aV (vrs ((d.C c).lits.take i) z).length cV).ownBlock=some b→w.heap.size≤b)∧Below w.heap.size w wl):=by
    have e:(d.C c).lits.take i=(d.C c).lits:=by rw[HN.out];exact List.take_length
    have h9:=H.out;rw[e]at h9 ⊢;exact h9
   clear H;go_wp2;go_ret
   exact⟨_,rfl,HE.out⟩
end Sat
namespace Sat
open Euf (OL App)
set_option maxRecDepth 20000 in
set_option maxHeartbeats 8000000 in
theorem unfixed_any (g:Nat) (d:Dt) (a:Key→Value) (v1 v2:Value) (K:List (Nat × Nat)) (X:List Nat) (us:Nat→Nat) (w:World) (h:SW w g d a) (h1:OL 2 127 w v1 K.length (prC K)) (f1:∀b,v1.ownBlock=some b→¬ Fo g d a b) (h2:OL 1 3 w v2 X.length (i64C X)) (hX:∀v∈X,v≤d.nv∧(d.F v).unit=(us v:Int)∧us v≤100000000) (hn:d.nv≤5000) (hK:K.length≤10000) (hXl:X.length≤10000) :
  Calls Tryz.prog 93 #[.pointer (some ⟨g,0,none⟩),v1,v2] w fun e w'=>∃v',e=.returned v'∧OL 2 127 w' v' (K++X.map (fun v=>(us v,v))).length (prC (K++X.map (fun v=>(us v,v))))∧(∀b,v'.ownBlock=some b→v1.ownBlock=some b∨w.heap.size≤b)∧Mv (fun b=>v1.ownBlock=some b) w w':=by
 obtain⟨q1,c1,e1,-,-,-,-⟩:=h1.shape;obtain⟨q2,c2,e2,-,-,-,p2⟩:=h2.shape;obtain⟨bF,cF,hF,lF,qF,-⟩:=h.facR;have c8:w.cell? ⟨g,8,none⟩=some (a kFac):=h.cell 8;rw[hF]at c8;have HG:Hid (w.cell? ⟨g,8,none⟩=some (.slice (some ⟨bF,0,none⟩) (d.nv+1) cF)∧(∀v,v<d.nv+1→w.cell? ⟨bF,v*6+3,none⟩=some (.int .i64 (d.F v).unit))∧g<w.heap.size∧bF<w.heap.size∧v1.ownBlock≠some g∧v1.ownBlock≠some bF):=⟨c8,fun v hv=>(qF v hv).2.2.2.1,h.lt,lF,fun e=>f1 g e (Or.inl rfl),fun e=>f1 bF e (Or.inr ⟨kFac,⟨by decide,rfl⟩,by rw[hF];rfl⟩)⟩
 have H2:Hid (OL 1 3 w v2 X.length (i64C X)∧(∀b,v2.ownBlock=some b→v1.ownBlock≠some b)∧∀v∈X,v≤d.nv∧(d.F v).unit=(us v:Int)∧us v≤100000000):=⟨h2,fun b hb hb'=>h2.ne h1 (by decide) hb hb',hX⟩
 have H1:Hid (OL 2 127 w v1 K.length (prC K)):=h1;obtain⟨n,hn'⟩:∃n,n=X.length:=⟨_,rfl⟩;have HN:Hid (n=X.length):=hn';rw[← hn']at e2;have hn4:n≤10000:=by omega
 have hnI:(n:Int)≤10000:=by omega
 have HV2:Hid (v2=.slice q2 n c2∧∀p,q2=some p→p.off=0∧p.spot=none):=⟨e2,p2⟩;obtain⟨k0,hk0⟩:∃k0,k0=K.length:=⟨_,rfl⟩;rw[← hk0]at e1;clear h h1 f1 h2 hX hF c8 qF hn' p2 hk0;subst e1 e2;go_enter Tryz.func93,Tryz.ntmps93;go_wp2;obtain⟨v1,hv1⟩:∃v1,v1=Value.slice q1 k0 c1:=⟨_,rfl⟩;rw[← hv1]at HG H2 H1;go_loopw [1,11] (fun v1' v11 wr=>∃(i:Nat),v11=.int .i64 (i:Nat)∧i≤n∧Hid (OL 2 127 wr v1' (K++(X.take i).map (fun v=>(us v,v))).length (prC (K++(X.take i).map (fun v=>(us v,v))))∧(∀b,v1'.ownBlock=some b→v1.ownBlock=some b∨w.heap.size≤b)∧Mv (fun b=>v1.ownBlock=some b) w wr)) (fun _ v _=>n - (intOf v).toNat)
 case atStart=>exact⟨0,rfl,Nat.zero_le _,by rw[List.take_zero,List.map_nil,List.append_nil,← hv1];exact H1.out,(fun b hb=>Or.inl (by rw[hv1];exact hb)),Mv.refl _ _⟩
 case round =>
  rename World=>wl
  obtain⟨i,rfl,hi,H⟩:=hrel;obtain⟨aV,cV,hv7,-,-,-,-⟩:=H.out.1.shape;subst hv7;have HV1:Hid (v1=Value.slice q1 k0 c1):=hv1;clear hv1;by_cases hlt:i<n
  ·
   have hltI:(i:Int)<(n:Int):=by omega
   have hi2:i<X.length:=by rw[← HN.out];exact hlt
   obtain⟨b2,cap2,ev2,-,-⟩:=H2.out.1.open i hi2;have ho:=H2.out.1;rw[ev2]at ho;have e3:=ev2;simp only[Value.slice.injEq]at e3;obtain⟨e4,-,e5⟩:=e3;subst e4 e5;have qi:=ho.cell (i:=i) hi2 (j:=0) (by decide)
   have l2:=ho.lt (b:=b2) rfl;clear ho;have qi':wl.cell? ⟨b2,i,none⟩=some (.int .i64 (X[i]:Nat)):=by
    rw[World.cell?_of_block (a:=⟨b2,i,none⟩) (H.out.2.2.other b2 l2 (H2.out.2.1 b2 rfl))];have e9:i*1+0=i:=by omega
    rw[e9]at qi;rw[qi];simp[i64C,hi2]
   have hx:=H2.out.2.2 _ (List.getElem_mem hi2);have HT:Hid (X.take (i+1)=X.take i++[X[i]]):=by show _=_;rw[List.take_succ_eq_append_getElem hi2]
   obtain⟨m,hme⟩:∃m,m=X[i]:=⟨_,rfl⟩;rw[← hme]at qi' hx HT;obtain⟨hm1,hm2,hm3⟩:=hx;have l2':b2<wl.heap.size:=Nat.lt_of_lt_of_le l2 H.out.2.2.size;have c8:wl.cell? ⟨g,8,none⟩=some (.slice (some ⟨bF,0,none⟩) (d.nv+1) cF):=(World.cell?_of_block (a:=⟨g,8,none⟩) (H.out.2.2.other g HG.out.2.2.1 HG.out.2.2.2.2.1)).trans HG.out.1;have qF:wl.cell? ⟨bF,m*6+3,none⟩=some (.int .i64 (us m:Nat)):=by
    rw[World.cell?_of_block (a:=⟨bF,m*6+3,none⟩) (H.out.2.2.other bF HG.out.2.2.2.1 HG.out.2.2.2.2.2),HG.out.2.1 m (by omega),hm2]
   have hml:m<d.nv+1:=by omega
   have hmI:(m:Int)<(d.nv:Int)+1:=by omega
   have hm5:m≤5000:=by omega
   have hgl:g<wl.heap.size:=Nat.lt_of_lt_of_le HG.out.2.2.1 H.out.2.2.size;have lF':bF<wl.heap.size:=Nat.lt_of_lt_of_le HG.out.2.2.2.1 H.out.2.2.size;have hkl:(K++(X.take i).map (fun v=>(us v,v))).length≤20000:=by rw[List.length_append,List.length_map,List.length_take];omega
   obtain⟨L,hL⟩:∃L,K++(X.take i).map (fun v=>(us v,v))=L:=⟨_,rfl⟩
   have HM:Hid (K++(X.take (i+1)).map (fun v=>(us v,v))=L++[(us m,m)]):=by show _=_;rw[HT.out,List.map_append,← List.append_assoc,hL];rfl
   rw[hL]at H hkl ⊢;generalize us m=um at qF hm3 HM;clear qi hme HT ev2 hL hm1 hm2;go_wp2_with (at_builtin;refine Euf.Stop.of ?_)
   show wpList _ _ _ _ _ _
   have hol3:OL 2 127 (wl.alloc (.cells #[.int .i32 (um:Nat),.int .i32 (m:Nat)] 127 (0,0))) (.slice aV L.length cV) L.length (prC L):=H.out.1.stay fun b hb=>Below.heap_alloc wl _ b (H.out.1.lt hb)
   refine Euf.wpList_push rfl (.tmp 15) (.tmp 28) 84 rfl 2 127 _ 8 uLinks iLink (by decide) rfl (by decide) (.slice aV L.length cV) L.length (prC L) rfl [.int .i32 (um:Nat),.int .i32 (m:Nat)] 127 hol3 (fun _ _=>rfl) 1 rfl rfl (by intro u hu;simp at hu;rcases hu with rfl|rfl<;>rfl) (by omega) (prC (L++[(um,m)])) (fun q hq=>by simp[prC,List.getElem?_append_left hq]) (by simp[prC]) ?_
   intro v4 w4 hol4 hap4 hne4;replace hap4:=hap4.of_alloc (fun b hb=>H.out.1.lt hb)
   have HN2:Hid (OL 2 127 w4 v4 (L++[(um,m)]).length (prC (L++[(um,m)]))∧(∀b,v4.ownBlock=some b→v1.ownBlock=some b∨w.heap.size≤b)∧Mv (fun b=>v1.ownBlock=some b) w w4):=by
    refine⟨by rw[List.length_append];exact hol4,fun b hb=>?_,H.out.2.2.app hap4 H.out.2.1⟩
    rcases hap4.at_ with e|⟨b',e3,e4⟩
    · exact H.out.2.1 b (e ▸ hb)
    · rw[e3]at hb;injection hb with hb;have:=H.out.2.2.size;exact Or.inr (by omega)
   clear hol3 hol4 hap4 hne4 H qi' qF c8;go_wp2;go_roundw
   case rel=>exact⟨i+1,by go_num,by omega,by rw[HM.out];exact HN2.out⟩
   case measure=>simp[intOf]<;>omega
  ·
   have hltI:¬ ((i:Int)<(n:Int)):=by omega
   obtain rfl:i=n:=by omega
   have e9:X.take i=X:=by rw[HN.out];exact List.take_length
   rw[e9]at H ⊢;have HE:Hid _:=H.out;obtain⟨L,hL⟩:∃L,K++X.map (fun v=>(us v,v))=L:=⟨_,rfl⟩
   rw[hL]at HE ⊢;clear H e9;go_wp2;go_ret
   have h9:=HE.out;rw[HV1.out]at h9;exact⟨_,rfl,h9⟩
abbrev unitC (l r:Nat) (X:List Nat) (us:Nat→Nat):Cl:={ lits:=[l],num:=-1,first:=(r:Int),links:=X.map (fun v=>(us v,v)) }
set_option maxRecDepth 20000 in
set_option maxHeartbeats 8000000 in
theorem unit_any (g:Nat) (d:Dt) (a:Key→Value) (l r:Nat) (us:Nat→Nat) (w:World) (h:SW w g d a) (hr:r<d.nc) (hcn:d.nc≤99999999) (hl:(d.C r).lits.length≤10000) (hm:∀m∈(d.C r).lits,m<20000) (hX:∀v∈vrs (d.C r).lits (l:Int),v≤d.nv∧(d.F v).unit=(us v:Int)∧us v≤100000000) (hn:d.nv≤5000) :
  Calls Tryz.prog 90 #[.pointer (some ⟨g,0,none⟩),.int .i32 (l:Nat),.int .i64 (r:Nat)] w fun e w'=>(vrs (d.C r).lits (l:Int)=[]∧e=.returned (.int .i64 (r:Nat))∧Below w.heap.size w w') ∨
   (vrs (d.C r).lits (l:Int)≠[]∧e=.returned (.int .i64 (d.nc:Nat))∧∃vl vk vc,SW w' g (d.more (unitC l r (vrs (d.C r).lits (l:Int)) us)) (aMore a d.nc vl vk vc)∧Mo g d a w (d.more (unitC l r (vrs (d.C r).lits (l:Int)) us)) (aMore a d.nc vl vk vc) w'):=by
 have H0:Hid (SW w g d a∧∀v∈vrs (d.C r).lits (l:Int),v≤d.nv∧(d.F v).unit=(us v:Int)∧us v≤100000000):=⟨h,hX⟩;have HVC:Hid (Calls Tryz.prog 94 #[.pointer (some ⟨g,0,none⟩),.int .i64 (r:Nat),.int .i32 (l:Nat)] w fun e w'=>∃v',e=.returned v'∧OL 1 3 w' v' (vrs (d.C r).lits (l:Int)).length (i64C (vrs (d.C r).lits (l:Int)))∧(∀b,v'.ownBlock=some b→w.heap.size≤b)∧Below w.heap.size w w'):=variables_any g d a r (l:Int) w h hr (by omega) hl hm
 have hXl:(vrs (d.C r).lits (l:Int)).length≤10000:=by have:=vrs_len (d.C r).lits (l:Int);omega
 generalize vrs (d.C r).lits (l:Int)=X at H0 HVC hXl ⊢;clear h hX hm hl;go_enter Tryz.func90,Tryz.ntmps90;go_wp2_with fail
 refine HVC.out.mono ?_;rintro e w1 ⟨v1,rfl,ho1,hf1,hb1⟩;obtain⟨q1,c1,e1,-,-,-,-⟩:=ho1.shape;subst e1;have H1:Hid (OL 1 3 w1 (.slice q1 X.length c1) X.length (i64C X)∧(∀b,(Value.slice q1 X.length c1).ownBlock=some b→w.heap.size≤b)∧Below w.heap.size w w1):=⟨ho1,hf1,hb1⟩;clear ho1 hf1 hb1 HVC;cases hXe:X with
 | nil =>
  rw[← hXe];have HXE:Hid (X=[]):=hXe;have hl0:X.length=0:=by rw[hXe];rfl
  clear hXe;go_wp2;go_ret
  exact Or.inl ⟨HXE.out,rfl,H1.out.2.2⟩
 | cons x X' =>
  rw[← hXe];have hx0:0<X.length:=by rw[hXe];simp
  have HNE:Hid (X≠[]):=fun e=>by rw[e]at hx0;simp at hx0
  have hx0I:¬ ((X.length:Int)=0):=by omega
  have hx0B:((X.length:Int) == 0)=false:=by simpa using hx0I
  clear hXe;obtain⟨w2,hw2⟩:∃w2,w2=w1.alloc (.cells #[.int .i32 (l:Nat)] 106 (0,0)):=⟨_,rfl⟩;have hb2:Below w1.heap.size w1 w2:=by rw[hw2];go_grown
  have kb2:w2.heap[w1.heap.size]?=some (.cells #[.int .i32 (l:Nat)] 106 (0,0)):=by rw[hw2];exact heap_alloc_new w1 _
  have hbw2:Below w.heap.size w w2:=H1.out.2.2.trans (hb2.mono H1.out.2.2.size);have hs2:SW w2 g d a:=H0.out.1.below hbw2;have HU:=hide <| unfixed_any g d a (.slice none 0 0) (.slice q1 X.length c1) [] X us w2 hs2 (OL.nil _ _ _ _) (fun b hb=>by cases hb) (H1.out.1.stay fun b hb=>hb2.block b (H1.out.1.lt hb)) H0.out.2 hn (by simp) hXl
  have HW2:Hid (w2.heap[w1.heap.size]?=some (.cells #[.int .i32 (l:Nat)] 106 (0,0))∧Below w.heap.size w w2∧w.heap.size≤w1.heap.size):=⟨kb2,hbw2,H1.out.2.2.size⟩;clear hb2 kb2 hbw2 hs2;go_wp2_with fail
  rw[← hw2];refine HU.out.mono ?_;rintro e w3 ⟨v3,rfl,ho3,hf3,hm3⟩;rw[List.nil_append]at ho3;have hb3:Below w2.heap.size w2 w3:=hm3.toBelow (Nat.le_refl _) (fun b hb=>by cases hb)
  have hbw3:Below w.heap.size w w3:=HW2.out.2.1.trans (hb3.mono HW2.out.2.1.size);have l2:=(Array.getElem?_eq_some_iff.1 HW2.out.1).1;have kb3:w3.heap[w1.heap.size]?=some (.cells #[.int .i32 (l:Nat)] 106 (0,0)):=(hb3.block _ l2).trans HW2.out.1;have ho4:OL 1 106 w3 (.slice (some ⟨w1.heap.size,0,none⟩) 1 1) (unitC l r X us).lits.length (i32C (unitC l r X us).lits):=Or.inr ⟨w1.heap.size,1,_,rfl,kb3,Nat.le_refl _,by unfold maxLen;decide,rfl,fun i hi j hj=>by
   have hi':i<1:=hi;obtain rfl:i=0:=by omega
   obtain rfl:j=0:=by omega
   rfl⟩
  have fresh:∀b,w.heap.size≤b→¬ Fo g d a b:=fun b hb hf=>by have:=H0.out.1.foLt hf;omega
  have hf3':∀b,v3.ownBlock=some b→w2.heap.size≤b:=fun b hb=>(hf3 b hb).resolve_left (fun e=>by cases e)
  have hsz2:=HW2.out.2.1.size;have HK:=hide <| keep_any g d a (unitC l r X us) (.slice (some ⟨w1.heap.size,0,none⟩) 1 1) v3 w3 (H0.out.1.below hbw3) ho4 ho3 (fun b hb=>fresh b (by injection hb with hb;have e9:w1.heap.size=b:=hb;have:=HW2.out.2.2;omega)) (fun b hb=>fresh b (by have:=hf3' b hb;omega)) (by omega)
  have HB3:Hid (Below w.heap.size w w3∧∀b,v3.ownBlock=some b→w.heap.size≤b):=⟨hbw3,fun b hb=>by have:=hf3' b hb;omega⟩
  obtain⟨q3,c3,e3,-,-,-,-⟩:=ho3.shape;obtain⟨n3,hn3⟩:∃n3,(unitC l r X us).links.length=n3:=⟨_,rfl⟩;rw[List.length_map]at e3;clear ho3 hf3 hm3 hb3 hbw3 l2 kb3 ho4 fresh hf3' HU hw2 hn3;subst e3;go_wp2_with fail
  refine HK.out.mono ?_;rintro e w4 ⟨rfl,vc,s4,m4,f4⟩;have HE:Hid (∃vl vk vc,SW w4 g (d.more (unitC l r X us)) (aMore a d.nc vl vk vc)∧Mo g d a w (d.more (unitC l r X us)) (aMore a d.nc vl vk vc) w4):=by
   refine⟨_,_,_,s4,((Mv.below HB3.out.1).trans m4 (fun b hb=>Or.inl hb)),fun b hb=>?_,aMore_stab _ _ _ _,Nat.le_succ _⟩
   rcases f4 b hb with h9|h9|h9|h9
   · exact Or.inl h9
   · injection h9 with h9;have e9:w1.heap.size=b:=h9;have:=HW2.out.2.2;exact Or.inr (by omega)
   · exact Or.inr (HB3.out.2 b h9)
   · exact Or.inr (Nat.le_trans HB3.out.1.size h9)
  clear s4 m4 f4 HK;go_wp2;go_ret
  exact Or.inr ⟨HNE.out,rfl,HE.out⟩
end Sat
namespace Sat
open Euf (OL App)
theorem uLits:Tryz.prog.underlying 61=some (.slice 106):=by kernel_rfl
theorem iLit:(Tryz.prog.info? 106).map (fun i=>(i.zero,i.size,i.bytes))=some (some (.int .i32 0),1,4):=by kernel_rfl
abbrev asF (d:Dt) (l:Nat) (z:Int):Fc:={ d.F (l / 2) with level:=(d.S.length:Nat),place:=(d.T.length:Nat),reason:=z }
abbrev Dt.asg (d:Dt) (l:Nat) (z:Int):Dt:={ d with V:=upd (upd d.V l 1) (ng l) (-1),F:=upd d.F (l / 2) (asF d l z),T:=d.T++[l] }
abbrev Dt.asg0 (d:Dt) (l r u:Nat):Dt:={ d with V:=upd (upd d.V l 1) (ng l) (-1),F:=upd d.F (l / 2) { asF d l (r:Int) with unit:=(u:Int) },T:=d.T++[l] }
theorem upd_upd {α:Type} (f:Nat→α) (k:Nat) (x y:α):upd (upd f k x) k y=upd f k y:=by
 funext i
 by_cases e:i=k
 · subst e;rw[upd_same,upd_same]
 · rw[upd_other _ _ e,upd_other _ _ e,upd_other _ _ e]
theorem asF_unit (d:Dt) (l:Nat) (z:Int) (v:Nat):(upd d.F (l / 2) (asF d l z) v).unit=(d.F v).unit:=by
 by_cases e:v=l / 2
 · subst e;rw[upd_same]
 · rw[upd_other _ _ e]
def AsEnd (g:Nat) (d:Dt) (a:Key→Value) (l:Nat) (z:Int) (us:Nat→Nat) (w w':World):Prop :=
  (d.S≠[]∧∃a',(∀k,a' (kWl k)=a (kWl k))∧SW w' g (d.asg l z) a'∧Mo g d a w (d.asg l z) a' w') ∨
  (d.S=[]∧∃r:Nat,z=(r:Int)∧∃a',(∀k,a' (kWl k)=a (kWl k))∧((vrs (d.C r).lits (l:Int)=[]∧SW w' g (d.asg0 l r r) a'∧Mo g d a w (d.asg0 l r r) a' w') ∨
    (vrs (d.C r).lits (l:Int)≠[]∧SW w' g ((d.asg0 l r d.nc).more (unitC l r (vrs (d.C r).lits (l:Int)) us)) a'∧Mo g d a w ((d.asg0 l r d.nc).more (unitC l r (vrs (d.C r).lits (l:Int)) us)) a' w')))
set_option maxRecDepth 20000 in
set_option maxHeartbeats 16000000 in
theorem assign_any (g:Nat) (d:Dt) (a:Key→Value) (l:Nat) (z:Int) (us:Nat→Nat) (w:World) (h:SW w g d a) (hl:l<2*(d.nv+1)) (hn:d.nv≤5000) (hT:d.T.length≤10000) (hSl:d.S.length≤10000)
  (hlo:d.S=[]→∃r:Nat,z=(r:Int)∧r<d.nc∧d.nc≤99999999∧(d.C r).lits.length≤10000∧(∀m∈(d.C r).lits,m<20000)∧∀v∈vrs (d.C r).lits (l:Int),v≤d.nv∧(d.F v).unit=(us v:Int)∧us v≤100000000) :
  Calls Tryz.prog 64 #[.pointer (some ⟨g,0,none⟩),.int .i32 (l:Nat),.int .i64 z] w fun e w'=>e=.returned (.tuple #[])∧AsEnd g d a l z us w w':=by
 have HLO:=hide hlo;have hng:ng l<2*(d.nv+1):=ng_lt hl;have hl2:l<20000:=by omega
 obtain⟨bV,cV,hV,lV,qV,zV⟩:=h.valR;have c6:w.cell? ⟨g,6,none⟩=some (a kVal):=h.cell 6;rw[hV]at c6;have q0:=qV l hl;have z0:=zV l;have hlg:=h.lt;have hlI:(l:Int)<2*((d.nv:Int)+1):=by omega
 obtain⟨s1,m1⟩:=h.setV hV hl 1;generalize hw1:w.setCell ⟨bV,l,none⟩ (.int .i8 1)=w1 at s1 m1;have c6':w1.cell? ⟨g,6,none⟩=some (a kVal):=s1.cell 6;rw[hV]at c6';obtain⟨bV',cV',hV',lV',qV',zV'⟩:=s1.valR;have e1:=hV.symm.trans hV';simp only[Value.slice.injEq,Option.some.injEq,Addr.mk.injEq]at e1;obtain⟨⟨rfl,-,-⟩,-,rfl⟩:=e1;have q1:=qV' (ng l) hng;have z1:=zV' (ng l);have hlg1:=s1.lt;obtain⟨s2,m2⟩:=s1.setV hV hng (-1);have H2:Hid (SW (w1.setCell ⟨bV,ng l,none⟩ (.int .i8 (-1))).drew g { d with V:=upd (upd d.V l 1) (ng l) (-1) } a∧Mo g d a w { d with V:=upd (upd d.V l 1) (ng l) (-1) } a (w1.setCell ⟨bV,ng l,none⟩ (.int .i8 (-1))).drew):=⟨s2.drew,(m1.trans m2).trans (Mo.drew _ _ _ _)⟩;have hnI:((ng l:Nat):Int)<2*((d.nv:Int)+1):=by omega
 clear h hV qV zV s1 m1 s2 m2 hV' qV' zV' lV' hlo;go_enter Tryz.func64,Tryz.ntmps64;go_wp2;go_cut [19] (fun v19 wx=>v19=.pointer (some ⟨bV,ng l,none⟩)∧(w1.setCell ⟨bV,ng l,none⟩ (.int .i8 (-1))).drew=wx)
 case first =>
  go_region_with (go_at_call 72;refine (opposite_any l _ hl2).mono ?_;rintro e w9 ⟨rfl,rfl⟩)
  all_goals (go_wp2_with fail;go_meet)
  all_goals exact⟨rfl,rfl⟩
 case rest =>
  obtain⟨-,hwc⟩:=hcut;rw[hwc]at H2;clear hwc hw1 c6 c6' q0 z0 q1 z1 hlg hlg1 lV;obtain⟨bF,cF,hF,lF,qF,zF⟩:=H2.out.1.facR;have c8:wc.cell? ⟨g,8,none⟩=some (a kFac):=H2.out.1.cell 8;rw[hF]at c8;have HF:Hid (a kFac=.slice (some ⟨bF,0,none⟩) (d.nv+1) cF):=hF;obtain⟨v,hv⟩:∃v,v=l / 2:=⟨_,rfl⟩;have hvl:v<d.nv+1:=by omega
  have hvI:(v:Int)<(d.nv:Int)+1:=by omega
  have hl2e:Hid (v=l / 2):=hv;have HVC:=hide (fun w9=>variable_any l w9 hl2)
  rw[← hv]at HVC;have hlg:=H2.out.1.lt;clear hv qF zF hF;go_wp2_with fail
  go_cut [6] (fun v6 wx=>v6=.pointer (some ⟨bF,v*6,none⟩)∧wc.drew=wx)
  case first =>
   go_region_with (go_at_call 62;refine (HVC.out _).mono ?_;rintro e w9 ⟨rfl,rfl⟩)
   all_goals (go_wp2_with fail;go_meet)
   all_goals exact⟨rfl,rfl⟩
  case rest =>
   obtain⟨rfl,hwc⟩:=hcut;have H3:Hid (SW wc g { d with V:=upd (upd d.V l 1) (ng l) (-1) } a∧Mo g d a w { d with V:=upd (upd d.V l 1) (ng l) (-1) } a wc):=by
    rw[← hwc];exact⟨H2.out.1.drew,H2.out.2.trans (Mo.drew _ _ _ _)⟩
   clear hwc H2 c8 HVC hlg lF;-- the level
   obtain⟨qS,cS,hS,-,-,-⟩:=H3.out.1.len (k:=kSta) (by exact⟨by decide,rfl⟩)
   have c10:wc.cell? ⟨g,10,none⟩=some (.slice qS d.S.length cS):=(H3.out.1.cell 10).trans (congrArg some hS);obtain⟨bF',cF',hF',lF,qF,zF⟩:=H3.out.1.facR;have e1:=HF.out.symm.trans hF';simp only[Value.slice.injEq,Option.some.injEq,Addr.mk.injEq]at e1;obtain⟨⟨rfl,-,-⟩,-,rfl⟩:=e1;have q0:wc.cell? ⟨bF,v*6,none⟩=some (.int .i64 (d.F v).level):=(qF v hvl).1;have z0:=zF (v*6);have hlg:=H3.out.1.lt;obtain⟨s4,m4⟩:=H3.out.1.setF HF.out hvl 0 (by decide) (.int .i64 (d.S.length:Nat)) { d.F v with level:=(d.S.length:Nat) } (by unfold facC;rw[upd_same];rfl)
   obtain⟨w4,hw4⟩:∃w4,wc.setCell ⟨bF,v*6,none⟩ (.int .i64 (d.S.length:Nat))=w4:=⟨_,rfl⟩;have H4:Hid (SW w4 g { d with V:=upd (upd d.V l 1) (ng l) (-1),F:=upd d.F v { d.F v with level:=(d.S.length:Nat) } } a∧Mo g d a w { d with V:=upd (upd d.V l 1) (ng l) (-1),F:=upd d.F v { d.F v with level:=(d.S.length:Nat) } } a w4):=by rw[← hw4];exact⟨s4,H3.out.2.trans m4⟩
   clear s4 m4 H3 qF zF hS hF';-- the place
   obtain⟨qT,cT,hTv,-,-,-⟩:=H4.out.1.len (k:=kTra) (by exact⟨by decide,rfl⟩)
   have c9:w4.cell? ⟨g,9,none⟩=some (.slice qT d.T.length cT):=(H4.out.1.cell 9).trans (congrArg some hTv);have HTV:Hid (a kTra=.slice qT d.T.length cT):=hTv;obtain⟨bF',cF',hF',lF4,qF,zF⟩:=H4.out.1.facR;have e1:=HF.out.symm.trans hF';simp only[Value.slice.injEq,Option.some.injEq,Addr.mk.injEq]at e1;obtain⟨⟨rfl,-,-⟩,-,rfl⟩:=e1;have q1:=(qF v hvl).2.1;have z1:=zF (v*6+1);have hlg4:=H4.out.1.lt;obtain⟨s5,m5⟩:=H4.out.1.setF HF.out hvl 1 (by decide) (.int .i64 (d.T.length:Nat)) { d.F v with level:=(d.S.length:Nat),place:=(d.T.length:Nat) } (by unfold facC;simp only[upd_same];rfl)
   obtain⟨w5,hw5⟩:∃w5,w4.setCell ⟨bF,v*6+1,none⟩ (.int .i64 (d.T.length:Nat))=w5:=⟨_,rfl⟩;have H5:Hid (SW w5 g { d with V:=upd (upd d.V l 1) (ng l) (-1),F:=upd d.F v { d.F v with level:=(d.S.length:Nat),place:=(d.T.length:Nat) } } a∧Mo g d a w { d with V:=upd (upd d.V l 1) (ng l) (-1),F:=upd d.F v { d.F v with level:=(d.S.length:Nat),place:=(d.T.length:Nat) } } a w5):=by
    have s5':SW w5 g { d with V:=upd (upd d.V l 1) (ng l) (-1),F:=upd (upd d.F v { d.F v with level:=(d.S.length:Nat) }) v { d.F v with level:=(d.S.length:Nat),place:=(d.T.length:Nat) } } a:=by rw[← hw5];exact s5
    have m5':Mo g { d with V:=upd (upd d.V l 1) (ng l) (-1),F:=upd d.F v { d.F v with level:=(d.S.length:Nat) } } a w4 { d with V:=upd (upd d.V l 1) (ng l) (-1),F:=upd (upd d.F v { d.F v with level:=(d.S.length:Nat) }) v { d.F v with level:=(d.S.length:Nat),place:=(d.T.length:Nat) } } a w5:=by rw[← hw5];exact m5
    rw[upd_upd]at s5' m5';exact⟨s5',H4.out.2.trans m5'⟩
   clear s5 m5 H4 qF zF hF' hTv;-- the reason
   obtain⟨bF',cF',hF',lF5,qF,zF⟩:=H5.out.1.facR;have e1:=HF.out.symm.trans hF';simp only[Value.slice.injEq,Option.some.injEq,Addr.mk.injEq]at e1;obtain⟨⟨rfl,-,-⟩,-,rfl⟩:=e1;have q2:=(qF v hvl).2.2.1;have z2:=zF (v*6+2);have hlg5:=H5.out.1.lt;obtain⟨s6,m6⟩:=H5.out.1.setF HF.out hvl 2 (by decide) (.int .i64 z) { d.F v with level:=(d.S.length:Nat),place:=(d.T.length:Nat),reason:=z } (by unfold facC;simp only[upd_same];rfl)
   obtain⟨w6,hw6⟩:∃w6,w5.setCell ⟨bF,v*6+2,none⟩ (.int .i64 z)=w6:=⟨_,rfl⟩;have H6:Hid (SW w6 g { d with V:=upd (upd d.V l 1) (ng l) (-1),F:=upd d.F v { d.F v with level:=(d.S.length:Nat),place:=(d.T.length:Nat),reason:=z } } a∧Mo g d a w { d with V:=upd (upd d.V l 1) (ng l) (-1),F:=upd d.F v { d.F v with level:=(d.S.length:Nat),place:=(d.T.length:Nat),reason:=z } } a w6):=by
    have s6':SW w6 g { d with V:=upd (upd d.V l 1) (ng l) (-1),F:=upd (upd d.F v { d.F v with level:=(d.S.length:Nat),place:=(d.T.length:Nat) }) v { d.F v with level:=(d.S.length:Nat),place:=(d.T.length:Nat),reason:=z } } a:=by rw[← hw6];exact s6
    have m6':Mo g { d with V:=upd (upd d.V l 1) (ng l) (-1),F:=upd d.F v { d.F v with level:=(d.S.length:Nat),place:=(d.T.length:Nat) } } a w5 { d with V:=upd (upd d.V l 1) (ng l) (-1),F:=upd (upd d.F v { d.F v with level:=(d.S.length:Nat),place:=(d.T.length:Nat) }) v { d.F v with level:=(d.S.length:Nat),place:=(d.T.length:Nat),reason:=z } } a w6:=by rw[← hw6];exact m6
    rw[upd_upd]at s6' m6';exact⟨s6',H5.out.2.trans m6'⟩
   generalize (upd d.F v { d.F v with level:=(d.S.length:Nat) } v).place=p0 at q1;generalize (upd d.F v { d.F v with level:=(d.S.length:Nat),place:=(d.T.length:Nat) } v).reason=r0 at q2;clear s6 m6 H5 qF zF hF';-- the trail
   have c9':w6.cell? ⟨g,9,none⟩=some (.slice qT d.T.length cT):=(H6.out.1.cell 9).trans (congrArg some HTV.out);have hlg6:=H6.out.1.lt;go_wp2_with (at_builtin;refine Euf.Stop.of ?_)
   show wpList _ _ _ _ _ _
   clear hw4 hw5 hw6 c9 c10 c9' q0 q1 q2 z0 z1 z2 hlg hlg4 hlg5 lF lF4 lF5;have hol0:OL 1 106 w6 (a kTra) d.T.length (i32C d.T):=H6.out.1.ol (k:=kTra) (by exact⟨by decide,rfl⟩)
   rw[HTV.out]at hol0;have hol3:OL 1 106 (w6.alloc (.cells #[.int .i32 (l:Nat)] 106 (0,0))) (.slice qT d.T.length cT) d.T.length (i32C d.T):=hol0.stay fun b hb=>Below.heap_alloc w6 _ b (hol0.lt hb)
   refine Euf.wpList_push rfl (.tmp 51) (.tmp 53) 61 rfl 1 106 _ 4 uLits iLit (by decide) rfl (by decide) (.slice qT d.T.length cT) d.T.length (i32C d.T) rfl [.int .i32 (l:Nat)] 106 hol3 (fun _ _=>rfl) 1 rfl rfl (by intro u hu;simp at hu;subst hu;rfl) (by omega) (i32C (d.T++[l])) (fun q hq=>by simp[i32C,List.getElem?_append_left hq]) (by simp[i32C]) ?_
   intro v7 w7 hol7 hap7 hne7;replace hap7:=hap7.of_alloc (fun b hb=>hol0.lt hb)
   rw[← HTV.out]at hap7;obtain⟨⟨y0,yf,hy⟩,hS7,-⟩:=H6.out.1.pushX_T (x:=l) hap7 hol7;rw[HTV.out]at y0;obtain⟨aV7,cV7,hv7,-,-,-,-⟩:=hol7.shape;subst hv7;obtain⟨wf,hwf⟩:∃wf,w7.setCell ⟨g,9,none⟩ (.slice aV7 (d.T.length+1) cV7)=wf:=⟨_,rfl⟩;rw[hwf]at hS7;have H7:Hid (∃a',a' kFac=a kFac∧(∀k,a' (kWl k)=a (kWl k))∧SW wf g (d.asg l z) a'∧Mo g d a w (d.asg l z) a' wf):=by
    have s7:=hS7.1;have m7:=H6.out.2.trans hS7.2;rw[hl2e.out]at s7 m7;exact⟨_,updK_other _ _ (by intro e;injection e with e _;exact absurd e (by decide)),fun k=>updK_other _ _ (by intro e;injection e with e _;exact absurd e (by decide)),s7,m7⟩
   clear hol3 hol7 hap7 hne7 hol0 hS7 H6 HTV;obtain⟨a',ha',hwl,s7,m7⟩:=H7.out;have HWL:=hide hwl;clear hwl;obtain⟨bF',cF',hF',lF7,qF,zF⟩:=s7.facR;have e1:=(ha'.trans HF.out).symm.trans hF';simp only[Value.slice.injEq,Option.some.injEq,Addr.mk.injEq]at e1;obtain⟨⟨rfl,-,-⟩,-,rfl⟩:=e1;have q7:wf.cell? ⟨bF,v*6,none⟩=some (.int .i64 (d.S.length:Nat)):=by
    have h9:=(qF v hvl).1;rw[h9];show some (Value.int .i64 (upd d.F (l / 2) (asF d l z) v).level)=_
    rw[hl2e.out,upd_same]
   have H8:Hid (a' kFac=.slice (some ⟨bF,0,none⟩) (d.nv+1) cF∧SW wf g (d.asg l z) a'∧Mo g d a w (d.asg l z) a' wf):=⟨ha'.trans HF.out,s7,m7⟩;clear H7 s7 m7 qF zF hF' ha' HF;by_cases hSe:d.S=[]
   ·
    have hS0:d.S.length=0:=by rw[hSe];rfl
    have HSE:=hide hSe;rw[hS0]at q7;obtain⟨r,rfl,hr,hnc,hrl,hrm,hrX⟩:=HLO.out hSe;have HRX:=hide hrX;clear hSe HLO hrX;go_wp2_with fail
    refine (unit_any g (d.asg l (r:Int)) a' l r us wf H8.out.2.1 hr hnc hrl hrm (fun u hu=>by obtain⟨h1,h2,h3⟩:=HRX.out u hu;exact⟨h1,(asF_unit d l (r:Int) u).trans h2,h3⟩) hn).mono ?_
    rintro e w9 (⟨hX,rfl,hb9⟩|⟨hX,rfl,vl,vk,vc,s9,m9⟩)
    ·
     have HXE:Hid (vrs (d.C r).lits (l:Int)=[]):=hX;have s9:SW w9 g (d.asg l (r:Int)) a':=H8.out.2.1.below hb9;obtain⟨bF',cF',hF',lF9,qF,zF⟩:=s9.facR;have e1:=H8.out.1.symm.trans hF';simp only[Value.slice.injEq,Option.some.injEq,Addr.mk.injEq]at e1;obtain⟨⟨rfl,-,-⟩,-,rfl⟩:=e1;have q9:=(qF v hvl).2.2.2.1;have z9:=zF (v*6+3);obtain⟨s10,m10⟩:=s9.setF H8.out.1 hvl 3 (by decide) (.int .i64 (r:Nat)) { asF d l (r:Int) with unit:=(r:Int) } (by unfold facC;rw[hl2e.out];simp only[upd_same];rfl)
     have HE:Hid (SW (w9.setCell ⟨bF,v*6+3,none⟩ (.int .i64 (r:Nat))) g (d.asg0 l r r) a'∧Mo g d a w (d.asg0 l r r) a' (w9.setCell ⟨bF,v*6+3,none⟩ (.int .i64 (r:Nat)))):=by
      have s11:SW (w9.setCell ⟨bF,v*6+3,none⟩ (.int .i64 (r:Nat))) g { d.asg l (r:Int) with F:=upd (upd d.F (l / 2) (asF d l (r:Int))) v { asF d l (r:Int) with unit:=(r:Int) } } a':=s10;have m11:Mo g (d.asg l (r:Int)) a' w9 { d.asg l (r:Int) with F:=upd (upd d.F (l / 2) (asF d l (r:Int))) v { asF d l (r:Int) with unit:=(r:Int) } } a' (w9.setCell ⟨bF,v*6+3,none⟩ (.int .i64 (r:Nat))):=m10;have hvv:=hl2e.out;subst hvv;rw[upd_upd]at s11 m11;exact⟨s11,(H8.out.2.2.below hb9).trans m11⟩
     generalize ((d.asg l (r:Int)).F v).unit=u0 at q9;clear s9 s10 m10 qF zF hF' hX hb9 q7;go_wp2;go_end0
     exact⟨rfl,Or.inr ⟨HSE.out,r,rfl,a',HWL.out,Or.inl ⟨HXE.out,HE.out⟩⟩⟩
    ·
     have HXE:Hid (vrs (d.C r).lits (l:Int)≠[]):=hX;have hk9:aMore a' d.nc vl vk vc kFac=.slice (some ⟨bF,0,none⟩) (d.nv+1) cF:=(m9.ad kFac trivial).trans H8.out.1;obtain⟨bF',cF',hF',lF9,qF,zF⟩:=s9.facR;have e1:=hk9.symm.trans hF';simp only[Value.slice.injEq,Option.some.injEq,Addr.mk.injEq]at e1;obtain⟨⟨rfl,-,-⟩,-,rfl⟩:=e1;have q9:=(qF v hvl).2.2.2.1;have z9:=zF (v*6+3);obtain⟨s10,m10⟩:=s9.setF hk9 hvl 3 (by decide) (.int .i64 (d.nc:Nat)) { asF d l (r:Int) with unit:=(d.nc:Int) } (by unfold facC;rw[hl2e.out];simp only[upd_same];rfl)
     have HE:Hid (SW (w9.setCell ⟨bF,v*6+3,none⟩ (.int .i64 (d.nc:Nat))) g ((d.asg0 l r d.nc).more (unitC l r (vrs (d.C r).lits (l:Int)) us)) (aMore a' d.nc vl vk vc)∧Mo g d a w ((d.asg0 l r d.nc).more (unitC l r (vrs (d.C r).lits (l:Int)) us)) (aMore a' d.nc vl vk vc) (w9.setCell ⟨bF,v*6+3,none⟩ (.int .i64 (d.nc:Nat)))):=by
      have s11:SW (w9.setCell ⟨bF,v*6+3,none⟩ (.int .i64 (d.nc:Nat))) g { (d.asg l (r:Int)).more (unitC l r (vrs (d.C r).lits (l:Int)) us) with F:=upd (upd d.F (l / 2) (asF d l (r:Int))) v { asF d l (r:Int) with unit:=(d.nc:Int) } } (aMore a' d.nc vl vk vc):=s10;have m11:Mo g ((d.asg l (r:Int)).more (unitC l r (vrs (d.C r).lits (l:Int)) us)) (aMore a' d.nc vl vk vc) w9 { (d.asg l (r:Int)).more (unitC l r (vrs (d.C r).lits (l:Int)) us) with F:=upd (upd d.F (l / 2) (asF d l (r:Int))) v { asF d l (r:Int) with unit:=(d.nc:Int) } } (aMore a' d.nc vl vk vc) (w9.setCell ⟨bF,v*6+3,none⟩ (.int .i64 (d.nc:Nat))):=m10;have hvv:=hl2e.out;subst hvv;rw[upd_upd]at s11 m11;exact⟨s11,(H8.out.2.2.trans m9).trans m11⟩
     generalize (((d.asg l (r:Int)).more (unitC l r (vrs ((d.asg l (r:Int)).C r).lits (l:Int)) us)).F v).unit=u0 at q9;clear s9 m9 s10 m10 qF zF hF' hX q7;go_wp2;go_end0
     exact⟨rfl,Or.inr ⟨HSE.out,r,rfl,_,fun k=>(aMore_other a' (by intro e;injection e with e _;exact absurd e (by decide)) (by intro e;injection e with e _;exact absurd e (by decide)) (by intro e;injection e with e _;exact absurd e (by decide))).trans (HWL.out k),Or.inr ⟨HXE.out,HE.out⟩⟩⟩
   ·
    have hS0:¬ ((d.S.length:Int)=0):=by
     intro e;exact hSe (List.length_eq_zero_iff.1 (by omega))
    have hS1:((d.S.length:Int) == 0)=false:=by simpa using hS0
    have HSE:=hide hSe;clear hSe HLO;go_wp2;go_end0
    exact⟨rfl,Or.inl ⟨HSE.out,a',HWL.out,H8.out.2⟩⟩
end Sat
end Go.Proofs.YtbmkkhpoaicclabGreat
