/- The contracts of solver, Model, Steps and Enough; it proves no statement of the seat. -/
import Derived.Test.YtbmkkhpoaicclabGreatSatLlJGrows
namespace Go.Proofs.YtbmkkhpoaicclabGreat
open Go Go.RowKit
set_option linter.unusedVariables false
namespace Sat
open Euf (OL App)
theorem Mq.low {g:Nat} {d d':Dt} {a a':Key→Value} {w w':World} (m:Mq g d a w d' a' w') {N:Nat} (hN:N≤w.heap.size) (hf:∀b,Fo g d a b→N≤b):Below N w w'∧∀b,Fo g d' a' b→N≤b :=
  ⟨m.mv.toBelow hN hf,fun b hb=>by
    rcases m.fo b hb with h|h
    · exact hf b h
    · omega⟩
def SvR (N g:Nat) (I:List (List Nat)) (A:Nat) (w0 w:World):Prop:=∃d a U,SW w g d a∧Idl d I A U∧d.nv=9∧(∀b,Fo g d a b→N≤b)∧Below N w0 w
theorem SvR.add {N g:Nat} {I:List (List Nat)} {A:Nat} {w0 w:World} (h:SvR N g I A w0 w) {Nl:Nat} {q:Option Addr} {n cap:Nat} {zs:List Int} (hz:IL w q n cap zs) (hl:Lo Nl q zs) (hNl:Nl≤N) (hok:∀z∈zs,Okl 9 z) (hn:n≤4096) (hI:I.length<65536) (hA:A≤90000000) :
  Calls Tryz.prog 14 #[.pointer (some ⟨g,0,none⟩),.slice q n cap] w fun e w'=>e=.returned (.tuple #[.int .i64 (I.length:Nat),.int .i64 0])∧SvR N g (I++[zs.map lit]) (A+1) w0 w':=by
 obtain⟨d,a,U,s,i,hnv,hf,bl⟩:=h;have hN:N≤w.heap.size:=Nat.le_trans (hf g (Or.inl rfl)) (Nat.le_of_lt s.lt);have had:=i.ic.ad;have h9:=addC_any g d a I A U q n cap zs w s i hz (fun e b off e9 hF=>by have h1:=hl e b off e9;have h2:=hf b hF;omega) (by rw[hnv];exact hok) hn (by omega) (by omega) hA
 rw[had]at h9;refine h9.mono ?_;rintro e w' ⟨he,d',a',s',m',i',hnv',had'⟩;obtain⟨k1,k2⟩:=m'.low hN hf;exact⟨he,d',a',U,s',i',hnv'.trans hnv,k2,bl.trans k1⟩
set_option maxRecDepth 20000 in
set_option maxHeartbeats 8000000 in
theorem solver_any (Nl:Nat) (q:Option Addr) (n cap:Nat) (ls:List (List Int)) (w:World) (h:LL w Nl q n cap ls) (hNl:Nl≤w.heap.size) (hf:∀c∈ls,Few1 c) (hn:n≤1000) :
  Calls Tryz.prog 18 #[.slice q n cap] w fun e w'=>e=.returned (.pointer (some ⟨w.heap.size,0,none⟩))∧SvR w.heap.size w.heap.size (ls.map (·.map lit)) n w w':=by
 have HNW:=hide (new_any 9 w (by omega))
 have hnI:(n:Int)≤1000:=by omega
 have H:=hide (And.intro h (And.intro hNl hf));clear h hf;go_enter Tryz.func18,Tryz.ntmps18;go_wp2_with fail
 refine HNW.out.mono ?_;rintro e w1 ⟨rfl,a1,s1,b1,f1⟩;have H1:Hid (SvR w.heap.size w.heap.size [] 0 w w1):=⟨fresh 9,a1,[],s1,fresh_idl 9,rfl,f1,b1⟩;clear s1 b1 f1 HNW;go_wp2;go_loopw [5] (fun v5 wr=>∃(i:Nat),v5=.int .i64 (i:Nat)∧i≤n∧Hid (SvR w.heap.size w.heap.size ((ls.take i).map (·.map lit)) i w wr)) (fun v _=>n - (intOf v).toNat)
 case atStart=>exact⟨0,rfl,Nat.zero_le _,H1.out⟩
 case round =>
  rename World=>wl
  obtain⟨i,rfl,hi,HJ⟩:=hrel;clear H1;by_cases hlt:i<n
  ·
   have hltI:(i:Int)<(n:Int):=by omega
   have bl:Below w.heap.size w wl:=by obtain⟨d,a,U,-,-,-,-,bl⟩:=HJ.out;exact bl
   obtain⟨b,off,qi,ci,zi,rfl,lb,hmem,hget,hcell,il,lo⟩:=(H.out.1.below (bl.mono H.out.2.1)).get hlt;have hlen:((ls.take i).map (·.map lit)).length=i:=by rw[List.length_map,List.length_take,H.out.1.len];omega
   have hf1:=H.out.2.2 zi hmem;have h9:=HJ.out.add il lo H.out.2.1 hf1.2 (by have:=hf1.1;omega) (by rw[hlen];omega) (by omega)
   rw[hlen]at h9;have HAD:=hide h9;have e9:(ls.take i).map (·.map lit)++[zi.map lit]=(ls.take (i+1)).map (·.map lit):=by
    rw[List.take_add_one,hget];simp
   rw[e9]at HAD;clear h9 e9 hf1 hmem hget il lo hlen bl HJ;generalize zi.length=ni at *;go_wp2_with fail
   refine HAD.out.mono ?_;rintro e w3 ⟨rfl,h3⟩;have H3:=hide h3;clear h3 HAD;go_wp2;go_roundw
   case rel=>exact⟨i+1,by go_num,by omega,H3.out⟩
   case measure=>simp[intOf]<;>omega
  ·
   have hltI:¬ ((i:Int)<(n:Int)):=by omega
   obtain rfl:i=n:=by omega
   have HE:Hid (SvR w.heap.size w.heap.size (ls.map (·.map lit)) i w wl):=by
    have h9:=HJ.out;rwa [← H.out.1.len,List.take_length,H.out.1.len]at h9
   go_wp2;go_ret
   exact⟨rfl,HE.out⟩
set_option maxRecDepth 20000 in
theorem model_any (g:Nat) (d:Dt) (a:Key→Value) (w:World) (h:SW w g d a) (hl:d.mo.length≤10000) :
  Calls Tryz.prog 24 #[.pointer (some ⟨g,0,none⟩)] w fun e w'=>∃v,e=.returned v∧OL 1 4 w' v d.mo.length (fun i=>[.bool (d.mo.getD i false)])∧(∀b,v.ownBlock=some b→w.heap.size≤b)∧Below w.heap.size w w':=by
 obtain⟨n,hn⟩:∃n,d.mo.length=n:=⟨_,rfl⟩;have h0:=h.ol (k:=kMod) ⟨by decide,rfl⟩
 have h0':OL 1 4 w (a kMod) n (fun i=>[.bool (d.mo.getD i false)]):=by rw[← hn];exact h0
 obtain⟨q,cap,hv,k1,k2,k3,k4⟩:=h0'.shape;have c18:w.cell? ⟨g,18,none⟩=some (.slice q n cap):=(h.cell 18).trans (congrArg some hv);have hlg:=h.lt;have HCL:=hide (cloneB_any q n cap (d.mo.map Value.bool) w (by rw[List.length_map];exact hn) k3 (fun ad ha j u hu=>by
  have hb0:Below w.heap.size w (w.alloc (.cells #[] 4 (0,0))):=(Below.refl _ _).alloc (Nat.le_refl _) _;rw[hv]at h0';have h1:=h0'.stay (fun b hb=>hb0.block b (h0'.lt hb))
  have hj:j<d.mo.length:=by
   have:=(List.getElem?_eq_some_iff.1 hu).1;simpa using this
  rw[List.getElem?_map,List.getElem?_eq_getElem hj]at hu;obtain⟨b,c',e9,-,-⟩:=h1.open j (by omega)
  cases e9
  cases ha
  have h2:=h1.cell (i:=j) (j:=0) (by omega) (by decide)
  rw[Nat.mul_one,Nat.add_zero]at h2;have e9:((⟨b,0,none⟩:Addr).add j)=⟨b,j,none⟩:=by
   unfold Addr.add;split
   · rename_i h;subst h;rfl
   · simp
  rw[e9,h2];rw[List.getD_eq_getElem?_getD,List.getElem?_eq_getElem hj];simpa using hu) (fun u hu=>by
  obtain⟨z,-,rfl⟩:=List.mem_map.1 hu;rfl) (by omega))
 rw[hn];have HN:=hide hn;clear h h0 h0' hv k1 k2 k3 k4 hn;go_enter Tryz.func24,Tryz.ntmps24;go_wp2_with fail
 refine HCL.out.mono ?_;rintro e w1 ⟨v1,rfl,ol1,own1,bl1,-⟩;have HE:Hid (∃v,Ending.returned v1=.returned v∧OL 1 4 w1 v n (fun i=>[.bool (d.mo.getD i false)])∧(∀b,v.ownBlock=some b→w.heap.size≤b)∧Below w.heap.size w w1):=⟨v1,rfl,ol1.congr (fun i hi=>by
  have hi':i<d.mo.length:=by rw[HN.out];exact hi
  simp[hi']),own1,bl1⟩
 obtain⟨q1,c1,hv1,-⟩:=ol1.shape;subst hv1;clear ol1 own1 bl1 HCL;go_wp2;go_ret
 exact HE.out
set_option maxRecDepth 20000 in
theorem enough_any (w:World):Calls Tryz.prog 16 #[.int .i64 9] w fun e w'=>e=.returned (.int .i64 373996)∧w'=w:=by
 go_enter Tryz.func16,Tryz.ntmps16;go_wp2;go_loopw [3,4] (fun v3 v4 wr=>∃(i:Nat) (p:Nat),v3=.int .i64 (p:Nat)∧v4=.int .i64 (i:Nat)∧i≤9∧p≤19683∧Hid (p=3 ^ i∧w=wr)) (fun _ v _=>9 - (intOf v).toNat)
 case atStart=>exact⟨0,1,rfl,rfl,by omega,by omega,rfl,rfl⟩
 case round =>
  rename World=>wl
  obtain⟨i,p,rfl,rfl,hi,hp,H⟩:=hrel;obtain rfl:=H.out.2;by_cases hlt:i<9
  ·
   have hltI:(i:Int)<9:=by omega
   have hpI:(p:Int)≤19683:=by omega
   have HE:Hid (3*p=3 ^ (i+1)):=by show _=_;rw[H.out.1,Nat.pow_succ];omega
   have hp3:3*p≤19683:=by
    rw[HE.out];exact Nat.pow_le_pow_right (show 0<3 by omega) (show i+1≤9 by omega)
   go_wp2;go_roundw
   case rel=>exact⟨i+1,3*p,by go_num,by go_num,by omega,hp3,HE.out,by first|rfl|trivial⟩
   case measure=>simp[intOf]<;>omega
  ·
   have hltI:¬ ((i:Int)<9):=by omega
   obtain rfl:i=9:=by omega
   have hp9:=H.out.1;obtain rfl:p=19683:=hp9;go_wp2;go_ret
   exact⟨rfl,rfl⟩
end Sat
end Go.Proofs.YtbmkkhpoaicclabGreat
