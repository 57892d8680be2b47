/- Joined: SatZs, SatMw, SatMg, SatHs: words and contracts; no statement of the seat is proved here. -/
import Derived.Test.YtbmkkhpoaicclabGreatJoin14Grows
import Derived.Test.YtbmkkhpoaicclabGreatShelfCJGrows
import Derived.Test.YtbmkkhpoaicclabGreatJoin4Grows
import Derived.BigQuiet
import Derived.Deep.LoopGhost
import Derived.Shelf.SlCmpFuncs.None
namespace Go.Proofs.YtbmkkhpoaicclabGreat
open Go Go.RowKit Go.Sort Go.Shelf
set_option linter.unusedVariables false
namespace Sat
open Euf (OL App)
theorem cmpV_lt (x y:Int):cmpV x y<0↔bv x y:=by
 unfold cmpV cmpI bv;by_cases h1:(x.natAbs:Int)<(y.natAbs:Int)
 · simp only[if_pos h1];simp;omega
 ·
  by_cases h2:(y.natAbs:Int)<(x.natAbs:Int)
  · simp only[if_neg h1,if_pos h2];simp;omega
  ·
   simp only[if_neg h1,if_neg h2,if_true];by_cases h3:x<y
   · simp only[if_pos h3];simp;omega
   ·
    by_cases h4:y<x
    · simp only[if_neg h3,if_pos h4];simp;omega
    · simp only[if_neg h3,if_neg h4];simp;omega
theorem cmpV_zero (x y:Int):cmpV x y=0↔x=y:=by
 unfold cmpV cmpI;by_cases h1:(x.natAbs:Int)<(y.natAbs:Int)
 · simp only[if_pos h1];simp;omega
 ·
  by_cases h2:(y.natAbs:Int)<(x.natAbs:Int)
  · simp only[if_neg h1,if_pos h2];simp;omega
  ·
   simp only[if_neg h1,if_neg h2,if_true];by_cases h3:x<y
   · simp only[if_pos h3];simp;omega
   ·
    by_cases h4:y<x
    · simp only[if_neg h3,if_pos h4];simp;omega
    · simp only[if_neg h3,if_neg h4];simp;omega
abbrev I6:Type:={ z:Int // InI z }
def I6.zero:I6:=⟨0,by unfold InI;omega⟩
def I6.enc (z:I6):Value:=.int .i64 z.1
def I6.cf (x y:I6):Int:=cmpV x.1 y.1
theorem I6.ltT (x y:I6):ltOf I6.cf x y=true↔bv x.1 y.1:=by unfold ltOf I6.cf;rw[decide_eq_true_iff];exact cmpV_lt _ _
theorem I6.ltF (x y:I6):ltOf I6.cf x y=false↔¬ bv x.1 y.1:=by rw[← I6.ltT,Bool.not_eq_true]
theorem I6.swo:SWO (ltOf I6.cf):=by
 refine⟨fun x=>?_,fun x y z h1 h2=>?_,fun x y z h1 h2=>?_⟩
 · rw[I6.ltF];exact bv_irr x.1
 · rw[I6.ltT]at *;exact bv_trans h1 h2
 · rw[I6.ltF]at *;unfold bv at *;omega
theorem I6.of (zs:List Int) (h:∀z∈zs,InI z):∃xs:List I6,xs.map (·.1)=zs:=by
 induction zs with
 | nil=>exact⟨[],rfl⟩
 | cons z zs ih =>
  obtain⟨xs,e⟩:=ih (fun u hu=>h u (List.mem_cons_of_mem _ hu))
  exact⟨⟨z,h z List.mem_cons_self⟩::xs,by simp[e]⟩
theorem I6.enC_ [Inhabited I6] (ys:List I6) (i:Nat) (hi:i<ys.length):enC I6.enc ys i=izC (ys.map (·.1)) i:=by
 unfold enC izC I6.enc;rw[getElem!_pos ys i hi];simp[hi]
theorem sortV_any (v:Value) (zs:List Int) (w:World) (hol:OL 1 3 w v zs.length (izC zs)) (ok:∀z∈zs,InI z) (hl:zs.length≤1000000000) :
  Calls Tryz.prog 48 #[v,.func (.func 49) #[] #[]] w fun e w'=>e=.returned (.tuple #[])∧∃ys:List Int,ys.Perm zs∧ys.Pairwise (fun a b=>¬ bv b a)∧OL 1 3 w' v zs.length (izC ys)∧Mv (fun b=>v.ownBlock=some b) w w':=by
 haveI:Inhabited I6:=⟨I6.zero⟩
 obtain⟨xs,hxs⟩:=I6.of zs ok;have hlen:xs.length=zs.length:=by rw[← hxs,List.length_map]
 have hol':OL 1 3 w v xs.length (enC I6.enc xs):=by
  rw[hlen];exact hol.congr (fun i hi=>by rw[I6.enC_ xs i (by omega),hxs])
 refine (sortF_any I6.enc (fun _=>rfl) I6.cf I6.swo 49 #[] v xs w hol' (enters_of Tryz.func49 (by kernel_rfl) rfl) (fun W hW x y=>byVariable_any x.1 y.1 W x.2 y.2) (by omega)).mono ?_
 rintro e w' ⟨rfl,ys,pm,pw,ol',mv⟩;have hly:ys.length=xs.length:=pm.length_eq;refine⟨rfl,ys.map (·.1),by rw[← hxs];exact pm.map _,?_,?_,mv⟩
 ·
  rw[List.pairwise_map];refine pw.imp (fun {a b} h=>?_)
  exact (I6.ltF _ _).1 h
 · rw[← hlen];exact ol'.congr (fun i hi=>by rw[I6.enC_ ys i (by omega)])
/-! ## Each number once -/
theorem compact_set (zs:List Int) (hs:zs.Pairwise (fun a b=>¬ bv b a)):SetOf zs (Lib.compact zs):=by
 have key:∀m,m≤zs.length→Srt (Lib.compactUpTo zs.toArray m)∧∀x,x∈Lib.compactUpTo zs.toArray m↔∃j,∃h:j<zs.length,j<m∧zs[j]=x:=by
  intro m;induction m with
  | zero =>
   intro _;refine⟨?_,fun x=>?_⟩
   · simp[Lib.compactUpTo,Srt.nil]
   · simp[Lib.compactUpTo]
  | succ m ih =>
   intro hm;obtain⟨i1,i2⟩:=ih (by omega)
   have hml:m<zs.length:=by omega
   have em:zs.toArray[m]! = zs[m]:=by rw[getElem!_pos zs.toArray m (by simpa using hml)];simp
   rw[Lib.compactUpTo_succ];have pw:∀i j (hi:i<zs.length) (hj:j<zs.length),i<j→¬ bv zs[j] zs[i]:=fun i j hi hj h=>List.pairwise_iff_getElem.1 hs i j hi hj h
   by_cases hk:Lib.keeps zs.toArray m=true
   ·
    rw[if_pos hk,em];refine⟨i1.snoc (fun y hy=>?_),fun x=>?_⟩
    ·
     obtain⟨j,hj,hjm,rfl⟩:=(i2 y).1 hy;rcases bv_tri zs[j] zs[m] with h|h|h
     · exact h
     ·
      exfalso
      have hm1:m - 1<zs.length:=by omega
      have em1:zs.toArray[m - 1]! = zs[m - 1]:=by rw[getElem!_pos zs.toArray (m - 1) (by simpa using hm1)];simp
      unfold Lib.keeps at hk;rw[em,em1]at hk;have hk':m=0∨zs[m]≠zs[m - 1]:=by simpa using hk
      rcases hk' with h0|h0
      · omega
      ·
       by_cases e:j=m - 1
       · subst e;exact h0 h.symm
       ·
        have q1:=pw j (m - 1) hj hm1 (by omega)
        have q2:=pw (m - 1) m hm1 hml (by omega)
        rcases bv_tri zs[m - 1] zs[m] with t|t|t
        · rw[← h]at t;exact q1 t
        · exact h0 t.symm
        · exact q2 t
     · exact absurd h (pw j m hj hml hjm)
    ·
     rw[List.mem_append,i2 x];constructor
     ·
      rintro (⟨j,hj,hjm,e⟩|h)
      · exact⟨j,hj,by omega,e⟩
      · have:=List.mem_singleton.1 h;exact⟨m,hml,by omega,this.symm⟩
     ·
      rintro⟨j,hj,hjm,e⟩;by_cases ej:j=m
      · subst ej;right;rw[← e];simp
      · left;exact⟨j,hj,by omega,e⟩
   ·
    rw[if_neg hk,List.append_nil];refine⟨i1,fun x=>?_⟩
    rw[i2 x];constructor
    · rintro⟨j,hj,hjm,e⟩;exact⟨j,hj,by omega,e⟩
    ·
     rintro⟨j,hj,hjm,e⟩;by_cases ej:j=m
     ·
      subst ej;have hj0:0<j:=by
       rcases Nat.eq_zero_or_pos j with h0|h0
       · subst h0;exact absurd (Lib.keeps_lt_one zs.toArray 0 (by omega)) hk
       · exact h0
      have hm1:j - 1<zs.length:=by omega
      have em1:zs.toArray[j - 1]! = zs[j - 1]:=by rw[getElem!_pos zs.toArray (j - 1) (by simpa using hm1)];simp
      have:zs[j]=zs[j - 1]:=by
       apply Classical.byContradiction
       intro hne;exact hk (Lib.keeps_pos (by rw[em,em1];exact hne))
      exact⟨j - 1,hm1,by omega,by rw[← this];exact e⟩
     · exact⟨j,hj,by omega,e⟩
 obtain⟨k1,k2⟩:=key zs.length (Nat.le_refl _);refine⟨k1,fun x=>?_⟩
 have h9:=k2 x;unfold Lib.compact;rw[h9,List.mem_iff_getElem];constructor
 · rintro⟨j,hj,-,e⟩;exact⟨j,hj,e⟩
 · rintro⟨j,hj,e⟩;exact⟨j,hj,hj,e⟩
theorem compact_any (v:Value) (zs:List Int) (w:World) (hol:OL 1 3 w v zs.length (izC zs)) (hl:zs.length≤1000000000) :
  Calls Tryz.prog 50 #[v] w fun e w'=>∃v',e=.returned v'∧OL 1 3 w' v' (Lib.compact zs).length (izC (Lib.compact zs))∧v'.ownBlock=v.ownBlock∧Mv (fun b=>v.ownBlock=some b) w w':=by
 rcases hol with⟨rfl,h0⟩|⟨g,cap,cur,rfl,hg,k1,k2,k3,k4⟩
 · have hx:zs=[]:=List.eq_nil_of_length_eq_zero h0;subst hx;refine (Any.slices_Compact_int_empty (P:=Tryz.prog) (ρ:=Tryz.compI_ren) Tryz.compI none 0 w).mono ?_;rintro e w' ⟨rfl,rfl⟩;exact⟨_,rfl,OL.nil _ _ _ _,rfl,Mv.refl _ _⟩
 ·
  have hH:Holds (Value.int .i64) w g 0 zs.toArray:=by
   intro j hj;have hj':j<zs.length:=by simpa using hj
   refine⟨?_,frozen_of_row w g _ cur 3 hg⟩;rw[cell_of_row w g _ cur 3 (0,0) hg];have:=k4 j hj' 0 (by omega)
   rw[Nat.mul_one,Nat.add_zero]at this;rw[Nat.zero_add,this];simp[izC,hj']
  have hc:=Any.slices_Compact_int (P:=Tryz.prog) (ρ:=Tryz.compI_ren) Tryz.compI g 0 cap zs w hH (by omega) (by omega)
  refine hc.mono ?_;rintro e w' ⟨rfl,q,rfl⟩;have hcl:(Lib.compact zs).length≤zs.length:=by
   unfold Lib.compact Lib.compactUpTo;rw[List.length_map];exact Nat.le_trans (List.length_filter_le _ _) (by simp)
  obtain⟨d',hd'⟩:∃d',(Lib.compact zs++List.replicate (zs.length - (Lib.compact zs).length) 0).toArray=d':=⟨_,rfl⟩;have hds:d'.size=zs.length:=by rw[← hd'];simp;omega
  have e1:putRow (Value.int .i64) (Sort.ahead w q) g 0 d'=sortWorld (Value.int .i64) w g 0 q d' #[]:=(grow_empty _).symm;rw[hd',e1];obtain⟨s1,s2⟩:=sort_heap (Value.int .i64) w q g d' #[] hg;refine⟨_,rfl,Or.inr ⟨g,cap,_,rfl,s1,by omega,k2,by simp[putCells];omega,fun i hi j hj=>?_⟩,rfl,sort_mv (Value.int .i64) w q g d' #[] hg rfl⟩
  obtain rfl:j=0:=by omega
  have hi':i<d'.size:=by omega
  have hc9:i<cur.size:=by omega
  have e2:d'[i]=(Lib.compact zs).getD i 0:=by
   simp only[← hd'];simp[hi]
  simp[putCells,izC,hi',hc9,e2]
set_option maxRecDepth 20000 in
set_option maxHeartbeats 4000000 in
theorem set_any (q:Option Addr) (n cap:Nat) (zs:List Int) (w:World) (h:IL w q n cap zs) (hn:n≤10000000) :
  Calls Tryz.prog 27 #[.slice q n cap] w fun e w'=>∃v s,e=.returned v∧SetOf zs s∧OL 1 3 w' v s.length (izC s)∧(∀b,v.ownBlock=some b→w.heap.size≤b)∧Below w.heap.size w w':=by
 have hl:=h.len;have HCL:=hide (cloneI_any q n cap (zs.map (Value.int .i64)) w (by rw[List.length_map];exact hl) (fun e=>⟨by have:=h.nl e;have:=h.le;omega,h.nl e⟩) (fun a ha j u hu=>by
  have hb0:Below w.heap.size w (w.alloc (.cells #[] 3 (0,0))):=(Below.refl _ _).alloc (Nat.le_refl _) _;rcases (h.below hb0).at_ with e|⟨b,off,e,-,hc⟩
  · rw[e]at hu;simp at hu
  ·
   rw[ha]at e;cases e
   have hj:j<zs.length:=by
    have:=(List.getElem?_eq_some_iff.1 hu).1;simpa using this
   rw[List.getElem?_map,List.getElem?_eq_getElem hj]at hu;have h9:=hc j (by omega)
   rw[List.getD_eq_getElem?_getD,List.getElem?_eq_getElem hj]at h9;have e9:((⟨b,off,none⟩:Addr).add j)=⟨b,off+j,none⟩:=by
    unfold Addr.add;split
    · rename_i h;subst h;rfl
    · rfl
   rw[e9,h9];simpa using hu) (fun u hu=>by
  obtain⟨z,-,rfl⟩:=List.mem_map.1 hu;rfl) (by omega))
 have HOK:=hide (And.intro h.ok hl);clear h hl;go_enter Tryz.func27,Tryz.ntmps27;go_wp2_with fail
 refine HCL.out.mono ?_;rintro e w1 ⟨v1,rfl,ol1,own1,bl1,-⟩;have ol1':OL 1 3 w1 v1 zs.length (izC zs):=by
  rw[HOK.out.2];exact ol1.congr (fun i hi=>by
   have hi':i<zs.length:=by rw[HOK.out.2];exact hi
   simp[izC,hi'])
 have HSO:=hide (sortV_any v1 zs w1 ol1' HOK.out.1 (by rw[HOK.out.2];omega))
 have HB1:=hide (And.intro own1 bl1);obtain⟨q1,c1,hv1,-⟩:=ol1.shape;subst hv1;clear ol1 ol1' own1 bl1 HCL;go_wp2_with fail
 refine HSO.out.mono ?_;rintro e w2 ⟨rfl,ys,pm,pw,ol2,mv2⟩;have hly:ys.length=zs.length:=pm.length_eq;have HCO:=hide (compact_any _ ys w2 (by rw[hly];exact ol2) (by rw[hly,HOK.out.2];omega))
 have HPM:=hide (And.intro pm pw);have HB2:Hid (Below w.heap.size w w2):=HB1.out.2.trans (mv2.toBelow HB1.out.2.size (fun b hb=>HB1.out.1 b hb))
 clear pm pw ol2 mv2 HSO hly;go_wp2_with fail
 refine HCO.out.mono ?_;rintro e w3 ⟨v3,rfl,ol3,own3,mv3⟩;have HE:Hid (∃v s,Ending.returned v3=.returned v∧SetOf zs s∧OL 1 3 w3 v s.length (izC s)∧(∀b,v.ownBlock=some b→w.heap.size≤b)∧Below w.heap.size w w3):=by
  refine⟨v3,Lib.compact ys,rfl,(compact_set ys HPM.out.2).congr (fun x=>HPM.out.1.mem_iff),ol3,fun b hb=>HB1.out.1 b (by rw[← own3];exact hb),HB2.out.trans (mv3.toBelow HB2.out.size (fun b hb=>HB1.out.1 b hb))⟩
 obtain⟨q3,c3,hv3,-⟩:=ol3.shape;subst hv3;clear ol3 own3 mv3 HCO;go_wp2;go_ret
 exact HE.out
end Sat
open Go Go.RowKit
namespace Sat
open Euf (OL App ONE5)
theorem cmpV_val (x y:Int):(cmpV x y=-1∧bv x y)∨(cmpV x y=0∧x=y)∨(cmpV x y=1∧bv y x):=by
 unfold cmpV cmpI bv;by_cases h1:(x.natAbs:Int)<(y.natAbs:Int)
 · simp only[if_pos h1];left;simp;omega
 ·
  by_cases h2:(y.natAbs:Int)<(x.natAbs:Int)
  · simp only[if_neg h1,if_pos h2];right;right;simp;omega
  ·
   simp only[if_neg h1,if_neg h2,if_true];by_cases h3:x<y
   · simp only[if_pos h3];left;simp;omega
   ·
    by_cases h4:y<x
    · simp only[if_neg h3,if_pos h4];right;right;simp;omega
    · simp only[if_neg h3,if_neg h4];right;left;simp;omega
theorem IL.tail {w:World} {b off n cap:Nat} {x:Int} {xs:List Int} (h:IL w (some ⟨b,off,none⟩) (n+1) cap (x::xs)):IL w (if cap=1 then some ⟨b,off,none⟩ else some ⟨b,off+1,none⟩) n (cap - 1) xs:=by
 have h1:=h.len;have h2:=h.le;refine⟨by simp at h1;exact h1,by omega,by have:=h.mx;omega,fun e=>?_,?_,fun z hz=>h.ok z (List.mem_cons_of_mem _ hz)⟩
 · split at e<;>cases e
 ·
  by_cases e0:xs=[]
  · exact Or.inl e0
  ·
   right
   have hc:¬ cap=1:=by
    intro e;have:0<xs.length:=List.length_pos_iff.2 e0;simp at h1;omega
   rcases h.at_ with e|⟨b',off',e,lb,hcell⟩
   · cases e
   ·
    cases e
    refine⟨b,off+1,by rw[if_neg hc],lb,fun i hi=>?_⟩
    have h9:=hcell (i+1) (by omega)
    have e9:off+(i+1)=off+1+i:=by omega
    rw[e9]at h9;rw[h9];rfl
theorem IL.cons {w:World} {q:Option Addr} {n cap:Nat} {x:Int} {xs:List Int} (h:IL w q n cap (x::xs)):∃b off m,q=some ⟨b,off,none⟩∧n=m+1∧1≤cap∧b<w.heap.size∧w.cell? ⟨b,off,none⟩=some (.int .i64 x):=by
 have h1:=h.len;rcases h.at_ with e|⟨b,off,e,lb,hc⟩
 · cases e
 ·
  have h9:=hc 0 (by simp at h1;omega)
  exact⟨b,off,xs.length,e,by simp at h1;omega,by have:=h.le;simp at h1;omega,lb,by simpa using h9⟩
def Nb (v:Value) (q:Option Addr) (zs:List Int):Prop:=zs≠[]→∀b off,q=some ⟨b,off,none⟩→v.ownBlock≠some b
structure MW (a0 b0:List Int) (l:Int) (v0:Value) (w:World) (v:Value) (m:Nat) (out:List Int) (qa:Option Addr) (na ca:Nat) (a:List Int) (qb:Option Addr) (nb cb:Nat) (b:List Int) (wr:World):Prop where
  mg:MG a0 b0 l out a b
  ol:OL 1 3 wr v m (izC out)
  lm:out.length=m
  mv:Mv (fun b=>v0.ownBlock=some b) w wr
  ow:v.ownBlock=v0.ownBlock∨∃b,v.ownBlock=some b∧w.heap.size≤b
  ia:IL w qa na ca a
  ib:IL w qb nb cb b
  xa:Nb v0 qa a
  xb:Nb v0 qb b
  ln:m+na+nb≤20000
section
variable {a0 b0:List Int} {l:Int} {v0:Value} {w:World} {v:Value} {m:Nat} {out:List Int} {qa:Option Addr} {na ca:Nat} {a:List Int} {qb:Option Addr} {nb cb:Nat} {b:List Int} {wr:World}
theorem MW.cellA {x:Int} (h:MW a0 b0 l v0 w v m out qa na ca (x::a) qb nb cb b wr):∃ba oa k,qa=some ⟨ba,oa,none⟩∧na=k+1∧1≤ca∧ba<wr.heap.size∧wr.cell? ⟨ba,oa,none⟩=some (.int .i64 x):=by
 obtain⟨ba,oa,k,h1,h2,h3,h4,h5⟩:=h.ia.cons;refine⟨ba,oa,k,h1,h2,h3,Nat.lt_of_lt_of_le h4 h.mv.size,?_⟩;rw[← h5];exact World.cell?_of_block (a:=⟨ba,oa,none⟩) (h.mv.other ba h4 (h.xa (by simp) ba oa h1))
theorem MW.cellB {x:Int} (h:MW a0 b0 l v0 w v m out qa na ca a qb nb cb (x::b) wr):∃ba oa k,qb=some ⟨ba,oa,none⟩∧nb=k+1∧1≤cb∧ba<wr.heap.size∧wr.cell? ⟨ba,oa,none⟩=some (.int .i64 x):=by
 obtain⟨ba,oa,k,h1,h2,h3,h4,h5⟩:=h.ib.cons;refine⟨ba,oa,k,h1,h2,h3,Nat.lt_of_lt_of_le h4 h.mv.size,?_⟩;rw[← h5];exact World.cell?_of_block (a:=⟨ba,oa,none⟩) (h.mv.other ba h4 (h.xb (by simp) ba oa h1))
theorem MW.below {wr':World} (h:MW a0 b0 l v0 w v m out qa na ca a qb nb cb b wr) (hb:Below wr.heap.size wr wr'):MW a0 b0 l v0 w v m out qa na ca a qb nb cb b wr' :=
  { h with ol:=h.ol.stay (fun b9 hb9=>hb.block b9 (h.ol.lt hb9)),mv:=h.mv.trans (Mv.below (F:=fun _=>False) hb) (fun _ h=>h.elim) }
theorem Nb.tail {x:Int} {xs:List Int} {bq oq cap:Nat} (h:Nb v0 (some ⟨bq,oq,none⟩) (x::xs)):Nb v0 (if cap=1 then some ⟨bq,oq,none⟩ else some ⟨bq,oq+1,none⟩) xs:=fun _ b9 off9 e9=>by
  refine h (by simp) b9 (if cap=1 then off9 else oq) ?_
  split at e9<;>cases e9<;>simp_all
theorem MW.left {x:Int} {ba oa k:Nat} (h:MW a0 b0 l v0 w v m out (some ⟨ba,oa,none⟩) (k+1) ca (x::a) qb nb cb b wr) (hb:∀y∈b,bv x y) (hx:x=l):MW a0 b0 l v0 w v m out (if ca=1 then some ⟨ba,oa,none⟩ else some ⟨ba,oa+1,none⟩) k (ca - 1) a qb nb cb b wr:=by
 have h9:=h.mg.left hb;rw[if_neg (by simpa using hx)]at h9
 exact { h with mg:=h9,ia:=h.ia.tail,xa:=h.xa.tail,ln:=by have:=h.ln;omega }
theorem MW.right {x:Int} {ba oa k:Nat} (h:MW a0 b0 l v0 w v m out qa na ca a (some ⟨ba,oa,none⟩) (k+1) cb (x::b) wr) (ha:∀y∈a,bv x y) (hx:x=-l):MW a0 b0 l v0 w v m out qa na ca a (if cb=1 then some ⟨ba,oa,none⟩ else some ⟨ba,oa+1,none⟩) k (cb - 1) b wr:=by
 have h9:=h.mg.right ha;rw[if_neg (by simpa using hx)]at h9
 exact { h with mg:=h9,ib:=h.ib.tail,xb:=h.xb.tail,ln:=by have:=h.ln;omega }
theorem izC_snoc (out:List Int) (x:Int):(∀k,k<out.length→izC (out++[x]) k=izC out k)∧izC (out++[x]) out.length=[.int .i64 x]:=by
 refine⟨fun k hk=>?_,?_⟩
 · simp[izC,List.getElem?_append_left hk]
 · simp[izC]
theorem MW.leftP {x:Int} {ba oa k:Nat} {v':Value} {wr':World} (h:MW a0 b0 l v0 w v m out (some ⟨ba,oa,none⟩) (k+1) ca (x::a) qb nb cb b wr) (hb:∀y∈b,bv x y) (hx:x≠l) (ol:OL 1 3 wr' v' (m+1) (izC (out++[x]))) (ap:App v v' wr wr'):MW a0 b0 l v0 w v' (m+1) (out++[x]) (if ca=1 then some ⟨ba,oa,none⟩ else some ⟨ba,oa+1,none⟩) k (ca - 1) a qb nb cb b wr':=by
 have h9:=h.mg.left hb;rw[if_pos hx]at h9;refine⟨h9,ol,by rw[List.length_append,h.lm];rfl,h.mv.app ap (fun b9 hb9=>?_),?_,h.ia.tail,h.ib,h.xa.tail,h.xb,by have:=h.ln;omega⟩
 ·
  rcases h.ow with e|⟨b8,e,h8⟩
  · exact Or.inl (e ▸ hb9)
  · rw[e]at hb9;injection hb9 with hb9;exact Or.inr (by omega)
 ·
  rcases ap.at_ with e|⟨b8,e,h8⟩
  · rw[e];exact h.ow
  · exact Or.inr ⟨b8,e,Nat.le_trans h.mv.size h8⟩
theorem MW.rightP {x:Int} {ba oa k:Nat} {v':Value} {wr':World} (h:MW a0 b0 l v0 w v m out qa na ca a (some ⟨ba,oa,none⟩) (k+1) cb (x::b) wr) (ha:∀y∈a,bv x y) (hx:x≠-l) (ol:OL 1 3 wr' v' (m+1) (izC (out++[x]))) (ap:App v v' wr wr'):MW a0 b0 l v0 w v' (m+1) (out++[x]) qa na ca a (if cb=1 then some ⟨ba,oa,none⟩ else some ⟨ba,oa+1,none⟩) k (cb - 1) b wr':=by
 have h9:=h.mg.right ha;rw[if_pos hx]at h9;refine⟨h9,ol,by rw[List.length_append,h.lm];rfl,h.mv.app ap (fun b9 hb9=>?_),?_,h.ia,h.ib.tail,h.xa,h.xb.tail,by have:=h.ln;omega⟩
 ·
  rcases h.ow with e|⟨b8,e,h8⟩
  · exact Or.inl (e ▸ hb9)
  · rw[e]at hb9;injection hb9 with hb9;exact Or.inr (by omega)
 ·
  rcases ap.at_ with e|⟨b8,e,h8⟩
  · rw[e];exact h.ow
  · exact Or.inr ⟨b8,e,Nat.le_trans h.mv.size h8⟩
theorem MW.bothP {x:Int} {ba oa k ba' oa' k':Nat} {v':Value} {wr':World} (h:MW a0 b0 l v0 w v m out (some ⟨ba,oa,none⟩) (k+1) ca (x::a) (some ⟨ba',oa',none⟩) (k'+1) cb (x::b) wr) (hl:l≠0) (ol:OL 1 3 wr' v' (m+1) (izC (out++[x]))) (ap:App v v' wr wr'):MW a0 b0 l v0 w v' (m+1) (out++[x]) (if ca=1 then some ⟨ba,oa,none⟩ else some ⟨ba,oa+1,none⟩) k (ca - 1) a (if cb=1 then some ⟨ba',oa',none⟩ else some ⟨ba',oa'+1,none⟩) k' (cb - 1) b wr':=by
 have h9:=h.mg.both hl;refine⟨h9,ol,by rw[List.length_append,h.lm];rfl,h.mv.app ap (fun b9 hb9=>?_),?_,h.ia.tail,h.ib.tail,h.xa.tail,h.xb.tail,by have:=h.ln;omega⟩
 ·
  rcases h.ow with e|⟨b8,e,h8⟩
  · exact Or.inl (e ▸ hb9)
  · rw[e]at hb9;injection hb9 with hb9;exact Or.inr (by omega)
 ·
  rcases ap.at_ with e|⟨b8,e,h8⟩
  · rw[e];exact h.ow
  · exact Or.inr ⟨b8,e,Nat.le_trans h.mv.size h8⟩
end
def MgEnd (a0 b0:List Int) (l:Int) (v0:Value) (w:World) (e:Ending) (w':World):Prop :=
  ∃v s,e=.returned v∧Srt s∧(∀x,x∈s↔RI a0 b0 l x)∧OL 1 3 w' v s.length (izC s)∧Mv (fun b=>v0.ownBlock=some b) w w'∧(v.ownBlock=v0.ownBlock∨∃b,v.ownBlock=some b∧w.heap.size≤b)
end Sat
namespace Sat
open Euf (OL App ONE5)
theorem below_grow (W:World) (q:Nat) (os:Array Obj):Below W.heap.size W (grow (W.drewN q) os) :=
  ⟨rfl,rfl,rfl,by show _≤(W.heap++os).size;simp,fun b hb=>by show (W.heap++os)[b]?=_;rw[Array.getElem?_append_left hb]⟩
set_option maxRecDepth 20000 in
set_option maxHeartbeats 64000000 in
theorem merged_any04 (v0:Value) (qa:Option Addr) (na ca:Nat) (a0:List Int) (qb:Option Addr) (nb cb:Nat) (b0:List Int) (l:Int) (w:World) (ho:OL 1 3 w v0 0 (izC [])) (ia:IL w qa na ca a0) (ib:IL w qb nb cb b0) (sa:Srt a0) (sb:Srt b0) (xa:Nb v0 qa a0) (xb:Nb v0 qb b0) (hl:l≠0) (hl1:-9223372036854775808<l) (hl2:l<9223372036854775808) (hn:na+nb≤20000) :
  Calls Tryz.prog 117 #[v0,.slice qa na ca,.slice qb nb cb,.int .i64 l] w fun e w'=>MgEnd a0 b0 l v0 w e w':=by
 have H0:Hid (MW a0 b0 l v0 w v0 0 [] qa na ca a0 qb nb cb b0 w):=⟨MG.start l sa sb,ho,rfl,Mv.refl _ _,Or.inl rfl,ia,ib,xa,xb,by omega⟩
 obtain⟨qz,cz,hv0,-⟩:=ho.shape;subst hv0;have H0':=H0;clear H0 ho ia ib sa sb xa xb hn;have hwl:IntKind.i64.wrap (-l)=-l:=by rw[IntWalk.i64_left,IntWalk.wrap64_in _ (by omega)]
 go_enter Tryz.func117,Tryz.ntmps117;go_wp2;go_loopg [0,1,2] (na+nb) (fun gk v0 v1 v2 wr=>∃(qo:Option Addr) (m co:Nat) (out:List Int) (qa:Option Addr) (na ca:Nat) (a:List Int) (qb:Option Addr) (nb cb:Nat) (b:List Int),v0=.slice qo m co∧v1=.slice qa na ca∧v2=.slice qb nb cb∧Hid (na+nb=gk∧MW a0 b0 l (.slice qz 0 cz) w (.slice qo m co) m out qa na ca a qb nb cb b wr))
 case atStart=>exact⟨qz,0,cz,[],qa,na,ca,a0,qb,nb,cb,b0,rfl,rfl,rfl,rfl,H0'.out⟩
 case round =>
  rename World=>wl
  clear H0';obtain⟨qo,m,co,out,qa,na,ca,a,qb,nb,cb,b,rfl,rfl,rfl,H⟩:=hrel;have hln:=H.out.2.ln;have hla:=H.out.2.ia.len;have hlb:=H.out.2.ib.len;rcases a with _|⟨x,a⟩
  ·
   obtain rfl:na=0:=by simp at hla;omega
   rcases b with _|⟨y,b⟩
   ·
    obtain rfl:nb=0:=by simp at hlb;omega
    have HE:Hid (MgEnd a0 b0 l (.slice qz 0 cz) w (.returned (.slice qo m co)) wl):=by
     obtain⟨s1,s2⟩:=H.out.2.mg.done;exact⟨_,out,rfl,s1,s2,by rw[H.out.2.lm];exact H.out.2.ol,H.out.2.mv,H.out.2.ow⟩
    clear hla hlb;go_wp2;go_ret
    exact HE.out
   ·
    skip
    obtain⟨bb,ob,j,rfl,rfl,hcb,lbb,cy⟩:=H.out.2.cellB;obtain⟨y1,y2⟩:=H.out.2.ib.ok y (by simp)
    have hcbI:(1:Int)≤(cb:Int):=by omega
    have hjc:j+1≤cb:=H.out.2.ib.le;have hjcI:(j:Int)+1≤(cb:Int):=by omega
    by_cases hx:y=-l
    ·
     have hx1:(y != -l)=false:=by simpa using hx
     by_cases hd1:cb=1
     ·
      subst hd1;skip
      have HN:Hid (∀W,Below wl.heap.size wl W→MW a0 b0 l (.slice qz 0 cz) w (.slice qo m co) m out (qa) (0) (ca) ([]) (some ⟨bb,ob,none⟩) (j) (0) (b) W):=fun W h3=>by
       have h9:=(H.out.2.below h3).right (fun y hy=>(by cases hy)) hx
       rw[if_pos rfl]at h9;exact h9
      have HG:=hide H.out.1;clear hx;clear H hla hlb;have cy4:=cy;have lb4:=lbb;have HB4:Hid (Below wl.heap.size wl wl):=Below.refl _ _;go_wp2_with fail
      go_quiet (fail)
      obtain⟨w5,hw5⟩:∃w5,wl.drewN nq=w5:=⟨_,rfl⟩;rw[hw5];have HB5:Hid (Below wl.heap.size wl w5):=by rw[← hw5];exact⟨HB4.out.os,HB4.out.tape,HB4.out.output,HB4.out.size,HB4.out.block⟩
      clear hw5 cy4 lb4;have HB6:=HB5;have HE:=hide (HN.out _ HB6.out);go_wp2;go_roundg (0+(j))
      case rel=>exact⟨qo,m,co,out,qa,0,ca,[],some ⟨bb,ob,none⟩,j,0,b,rfl,by first|rfl|(simp;omega),by first|rfl|(simp;omega),rfl,HE.out⟩
      case measure=>have:=HG.out;omega
     ·
      have HN:Hid (∀W,Below wl.heap.size wl W→MW a0 b0 l (.slice qz 0 cz) w (.slice qo m co) m out (qa) (0) (ca) ([]) (some ⟨bb,ob+1,none⟩) (j) (cb - 1) (b) W):=fun W h3=>by
       have h9:=(H.out.2.below h3).right (fun y hy=>(by cases hy)) hx
       rw[if_neg hd1]at h9;exact h9
      have HG:=hide H.out.1;clear hx;clear H hla hlb;have cy4:=cy;have lb4:=lbb;have HB4:Hid (Below wl.heap.size wl wl):=Below.refl _ _;go_wp2_with fail
      go_quiet (fail)
      obtain⟨w5,hw5⟩:∃w5,wl.drewN nq=w5:=⟨_,rfl⟩;rw[hw5];have HB5:Hid (Below wl.heap.size wl w5):=by rw[← hw5];exact⟨HB4.out.os,HB4.out.tape,HB4.out.output,HB4.out.size,HB4.out.block⟩
      clear hw5 cy4 lb4;have HB6:=HB5;have HE:=hide (HN.out _ HB6.out);go_wp2;go_roundg (0+(j))
      case rel=>exact⟨qo,m,co,out,qa,0,ca,[],some ⟨bb,ob+1,none⟩,j,cb - 1,b,rfl,by first|rfl|(simp;omega),by first|rfl|(simp;omega),rfl,HE.out⟩
      case measure=>have:=HG.out;omega
    ·
     have hx1:(y != -l)=true:=by simpa using hx
     by_cases hd1:cb=1
     ·
      subst hd1;skip
      have HN:Hid (∀W v9 w9,OL 1 3 w9 v9 (m+1) (izC (out++[y]))→App (.slice qo m co) v9 W w9→Below wl.heap.size wl W→MW a0 b0 l (.slice qz 0 cz) w v9 (m+1) (out++[y]) (qa) (0) (ca) ([]) (some ⟨bb,ob,none⟩) (j) (0) (b) w9):=fun W v9 w9 h1 h2 h3=>by
       have h9:=(H.out.2.below h3).rightP (fun y hy=>(by cases hy)) hx h1 h2
       rw[if_pos rfl]at h9;exact h9
      have HOL:Hid (∀W,Below wl.heap.size wl W→OL 1 3 (W.alloc (.cells #[.int .i64 y] 3 (0,0))) (.slice qo m co) m (izC out)):=fun W h=>(H.out.2.below (h.alloc h.size (.cells #[.int .i64 y] 3 (0,0)))).ol
      have HF1:Hid (∀k,k<m→izC (out++[y]) k=izC out k):=fun k hk=>(izC_snoc out y).1 k (by rw[H.out.2.lm];exact hk)
      have HF2:Hid (izC (out++[y]) m=[.int .i64 y]):=by have h9:=(izC_snoc out y).2;rw[H.out.2.lm]at h9;exact h9
      have HG:=hide H.out.1;clear hx;clear H hla hlb;have cy4:=cy;have lb4:=lbb;have HB4:Hid (Below wl.heap.size wl wl):=Below.refl _ _;go_wp2_with fail
      go_quiet (fail)
      obtain⟨w5,hw5⟩:∃w5,wl.drewN nq=w5:=⟨_,rfl⟩;rw[hw5];have HB5:Hid (Below wl.heap.size wl w5):=by rw[← hw5];exact⟨HB4.out.os,HB4.out.tape,HB4.out.output,HB4.out.size,HB4.out.block⟩
      clear hw5 cy4 lb4;have HB6:=HB5;go_wp2_with (at_builtin;refine Euf.wpList_push rfl (.tmp 65) (.tmp 67) 35 rfl 1 3 _ 8 u_cloneI i_cloneI (by decide) rfl (by decide) (.slice qo m co) m (izC out) rfl [.int .i64 y] 3 (HOL.out _ HB6.out) (fun _ _=>rfl) 1 rfl rfl (by intro u hu;simp at hu;subst hu;rfl) (by omega) (izC (out++[y])) HF1.out HF2.out ?_;intro v9 w9 hol9 hap9 hne9)
      have hE9:=HN.out _ v9 w9 hol9 hap9 (HB6.out.alloc HB6.out.size _);obtain⟨q9,c9,hv9,-⟩:=hol9.shape;subst hv9;have HE:=hide hE9;clear hE9 hol9 hap9 hne9;go_wp2;go_roundg (0+(j))
      case rel=>exact⟨q9,m+1,c9,out++[y],qa,0,ca,[],some ⟨bb,ob,none⟩,j,0,b,rfl,by first|rfl|(simp;omega),by first|rfl|(simp;omega),rfl,HE.out⟩
      case measure=>have:=HG.out;omega
     ·
      have HN:Hid (∀W v9 w9,OL 1 3 w9 v9 (m+1) (izC (out++[y]))→App (.slice qo m co) v9 W w9→Below wl.heap.size wl W→MW a0 b0 l (.slice qz 0 cz) w v9 (m+1) (out++[y]) (qa) (0) (ca) ([]) (some ⟨bb,ob+1,none⟩) (j) (cb - 1) (b) w9):=fun W v9 w9 h1 h2 h3=>by
       have h9:=(H.out.2.below h3).rightP (fun y hy=>(by cases hy)) hx h1 h2
       rw[if_neg hd1]at h9;exact h9
      have HOL:Hid (∀W,Below wl.heap.size wl W→OL 1 3 (W.alloc (.cells #[.int .i64 y] 3 (0,0))) (.slice qo m co) m (izC out)):=fun W h=>(H.out.2.below (h.alloc h.size (.cells #[.int .i64 y] 3 (0,0)))).ol
      have HF1:Hid (∀k,k<m→izC (out++[y]) k=izC out k):=fun k hk=>(izC_snoc out y).1 k (by rw[H.out.2.lm];exact hk)
      have HF2:Hid (izC (out++[y]) m=[.int .i64 y]):=by have h9:=(izC_snoc out y).2;rw[H.out.2.lm]at h9;exact h9
      have HG:=hide H.out.1;clear hx;clear H hla hlb;have cy4:=cy;have lb4:=lbb;have HB4:Hid (Below wl.heap.size wl wl):=Below.refl _ _;go_wp2_with fail
      go_quiet (fail)
      obtain⟨w5,hw5⟩:∃w5,wl.drewN nq=w5:=⟨_,rfl⟩;rw[hw5];have HB5:Hid (Below wl.heap.size wl w5):=by rw[← hw5];exact⟨HB4.out.os,HB4.out.tape,HB4.out.output,HB4.out.size,HB4.out.block⟩
      clear hw5 cy4 lb4;have HB6:=HB5;go_wp2_with (at_builtin;refine Euf.wpList_push rfl (.tmp 65) (.tmp 67) 35 rfl 1 3 _ 8 u_cloneI i_cloneI (by decide) rfl (by decide) (.slice qo m co) m (izC out) rfl [.int .i64 y] 3 (HOL.out _ HB6.out) (fun _ _=>rfl) 1 rfl rfl (by intro u hu;simp at hu;subst hu;rfl) (by omega) (izC (out++[y])) HF1.out HF2.out ?_;intro v9 w9 hol9 hap9 hne9)
      have hE9:=HN.out _ v9 w9 hol9 hap9 (HB6.out.alloc HB6.out.size _);obtain⟨q9,c9,hv9,-⟩:=hol9.shape;subst hv9;have HE:=hide hE9;clear hE9 hol9 hap9 hne9;go_wp2;go_roundg (0+(j))
      case rel=>exact⟨q9,m+1,c9,out++[y],qa,0,ca,[],some ⟨bb,ob+1,none⟩,j,cb - 1,b,rfl,by first|rfl|(simp;omega),by first|rfl|(simp;omega),rfl,HE.out⟩
      case measure=>have:=HG.out;omega
  ·
   rcases b with _|⟨y,b⟩
   ·
    obtain rfl:nb=0:=by simp at hlb;omega
    obtain⟨ba,oa,k,rfl,rfl,hca,lba,cx⟩:=H.out.2.cellA;obtain⟨x1,x2⟩:=H.out.2.ia.ok x (by simp)
    have hcaI:(1:Int)≤(ca:Int):=by omega
    have hkc:k+1≤ca:=H.out.2.ia.le;have hkcI:(k:Int)+1≤(ca:Int):=by omega
    by_cases hx:x=l
    ·
     have hx1:(x != l)=false:=by simpa using hx
     by_cases hc1:ca=1
     ·
      subst hc1;skip
      have HN:Hid (∀W,Below wl.heap.size wl W→MW a0 b0 l (.slice qz 0 cz) w (.slice qo m co) m out (some ⟨ba,oa,none⟩) (k) (0) (a) (qb) (0) (cb) ([]) W):=fun W h3=>by
       have h9:=(H.out.2.below h3).left (fun y hy=>(by cases hy)) hx
       rw[if_pos rfl]at h9;exact h9
      have HG:=hide H.out.1;clear hx;clear H hla hlb;have cx4:=cx;have la4:=lba;have HB4:Hid (Below wl.heap.size wl wl):=Below.refl _ _;go_wp2_with fail
      go_quiet (fail)
      obtain⟨w5,hw5⟩:∃w5,wl.drewN nq=w5:=⟨_,rfl⟩;rw[hw5];have HB5:Hid (Below wl.heap.size wl w5):=by rw[← hw5];exact⟨HB4.out.os,HB4.out.tape,HB4.out.output,HB4.out.size,HB4.out.block⟩
      clear hw5 cx4 la4;have HB6:=HB5;have HE:=hide (HN.out _ HB6.out);go_wp2;go_roundg (k+(0))
      case rel=>exact⟨qo,m,co,out,some ⟨ba,oa,none⟩,k,0,a,qb,0,cb,[],rfl,by first|rfl|(simp;omega),by first|rfl|(simp;omega),rfl,HE.out⟩
      case measure=>have:=HG.out;omega
     ·
      have HN:Hid (∀W,Below wl.heap.size wl W→MW a0 b0 l (.slice qz 0 cz) w (.slice qo m co) m out (some ⟨ba,oa+1,none⟩) (k) (ca - 1) (a) (qb) (0) (cb) ([]) W):=fun W h3=>by
       have h9:=(H.out.2.below h3).left (fun y hy=>(by cases hy)) hx
       rw[if_neg hc1]at h9;exact h9
      have HG:=hide H.out.1;clear hx;clear H hla hlb;have cx4:=cx;have la4:=lba;have HB4:Hid (Below wl.heap.size wl wl):=Below.refl _ _;go_wp2_with fail
      go_quiet (fail)
      obtain⟨w5,hw5⟩:∃w5,wl.drewN nq=w5:=⟨_,rfl⟩;rw[hw5];have HB5:Hid (Below wl.heap.size wl w5):=by rw[← hw5];exact⟨HB4.out.os,HB4.out.tape,HB4.out.output,HB4.out.size,HB4.out.block⟩
      clear hw5 cx4 la4;have HB6:=HB5;have HE:=hide (HN.out _ HB6.out);go_wp2;go_roundg (k+(0))
      case rel=>exact⟨qo,m,co,out,some ⟨ba,oa+1,none⟩,k,ca - 1,a,qb,0,cb,[],rfl,by first|rfl|(simp;omega),by first|rfl|(simp;omega),rfl,HE.out⟩
      case measure=>have:=HG.out;omega
    ·
     have hx1:(x != l)=true:=by simpa using hx
     by_cases hc1:ca=1
     ·
      subst hc1;skip
      have HN:Hid (∀W v9 w9,OL 1 3 w9 v9 (m+1) (izC (out++[x]))→App (.slice qo m co) v9 W w9→Below wl.heap.size wl W→MW a0 b0 l (.slice qz 0 cz) w v9 (m+1) (out++[x]) (some ⟨ba,oa,none⟩) (k) (0) (a) (qb) (0) (cb) ([]) w9):=fun W v9 w9 h1 h2 h3=>by
       have h9:=(H.out.2.below h3).leftP (fun y hy=>(by cases hy)) hx h1 h2
       rw[if_pos rfl]at h9;exact h9
      have HOL:Hid (∀W,Below wl.heap.size wl W→OL 1 3 (W.alloc (.cells #[.int .i64 x] 3 (0,0))) (.slice qo m co) m (izC out)):=fun W h=>(H.out.2.below (h.alloc h.size (.cells #[.int .i64 x] 3 (0,0)))).ol
      have HF1:Hid (∀k,k<m→izC (out++[x]) k=izC out k):=fun k hk=>(izC_snoc out x).1 k (by rw[H.out.2.lm];exact hk)
      have HF2:Hid (izC (out++[x]) m=[.int .i64 x]):=by have h9:=(izC_snoc out x).2;rw[H.out.2.lm]at h9;exact h9
      have HG:=hide H.out.1;clear hx;clear H hla hlb;have cx4:=cx;have la4:=lba;have HB4:Hid (Below wl.heap.size wl wl):=Below.refl _ _;go_wp2_with fail
      go_quiet (fail)
      obtain⟨w5,hw5⟩:∃w5,wl.drewN nq=w5:=⟨_,rfl⟩;rw[hw5];have HB5:Hid (Below wl.heap.size wl w5):=by rw[← hw5];exact⟨HB4.out.os,HB4.out.tape,HB4.out.output,HB4.out.size,HB4.out.block⟩
      clear hw5 cx4 la4;have HB6:=HB5;go_wp2_with (at_builtin;refine Euf.wpList_push rfl (.tmp 65) (.tmp 67) 35 rfl 1 3 _ 8 u_cloneI i_cloneI (by decide) rfl (by decide) (.slice qo m co) m (izC out) rfl [.int .i64 x] 3 (HOL.out _ HB6.out) (fun _ _=>rfl) 1 rfl rfl (by intro u hu;simp at hu;subst hu;rfl) (by omega) (izC (out++[x])) HF1.out HF2.out ?_;intro v9 w9 hol9 hap9 hne9)
      have hE9:=HN.out _ v9 w9 hol9 hap9 (HB6.out.alloc HB6.out.size _);obtain⟨q9,c9,hv9,-⟩:=hol9.shape;subst hv9;have HE:=hide hE9;clear hE9 hol9 hap9 hne9;go_wp2;go_roundg (k+(0))
      case rel=>exact⟨q9,m+1,c9,out++[x],some ⟨ba,oa,none⟩,k,0,a,qb,0,cb,[],rfl,by first|rfl|(simp;omega),by first|rfl|(simp;omega),rfl,HE.out⟩
      case measure=>have:=HG.out;omega
     ·
      have HN:Hid (∀W v9 w9,OL 1 3 w9 v9 (m+1) (izC (out++[x]))→App (.slice qo m co) v9 W w9→Below wl.heap.size wl W→MW a0 b0 l (.slice qz 0 cz) w v9 (m+1) (out++[x]) (some ⟨ba,oa+1,none⟩) (k) (ca - 1) (a) (qb) (0) (cb) ([]) w9):=fun W v9 w9 h1 h2 h3=>by
       have h9:=(H.out.2.below h3).leftP (fun y hy=>(by cases hy)) hx h1 h2
       rw[if_neg hc1]at h9;exact h9
      have HOL:Hid (∀W,Below wl.heap.size wl W→OL 1 3 (W.alloc (.cells #[.int .i64 x] 3 (0,0))) (.slice qo m co) m (izC out)):=fun W h=>(H.out.2.below (h.alloc h.size (.cells #[.int .i64 x] 3 (0,0)))).ol
      have HF1:Hid (∀k,k<m→izC (out++[x]) k=izC out k):=fun k hk=>(izC_snoc out x).1 k (by rw[H.out.2.lm];exact hk)
      have HF2:Hid (izC (out++[x]) m=[.int .i64 x]):=by have h9:=(izC_snoc out x).2;rw[H.out.2.lm]at h9;exact h9
      have HG:=hide H.out.1;clear hx;clear H hla hlb;have cx4:=cx;have la4:=lba;have HB4:Hid (Below wl.heap.size wl wl):=Below.refl _ _;go_wp2_with fail
      go_quiet (fail)
      obtain⟨w5,hw5⟩:∃w5,wl.drewN nq=w5:=⟨_,rfl⟩;rw[hw5];have HB5:Hid (Below wl.heap.size wl w5):=by rw[← hw5];exact⟨HB4.out.os,HB4.out.tape,HB4.out.output,HB4.out.size,HB4.out.block⟩
      clear hw5 cx4 la4;have HB6:=HB5;go_wp2_with (at_builtin;refine Euf.wpList_push rfl (.tmp 65) (.tmp 67) 35 rfl 1 3 _ 8 u_cloneI i_cloneI (by decide) rfl (by decide) (.slice qo m co) m (izC out) rfl [.int .i64 x] 3 (HOL.out _ HB6.out) (fun _ _=>rfl) 1 rfl rfl (by intro u hu;simp at hu;subst hu;rfl) (by omega) (izC (out++[x])) HF1.out HF2.out ?_;intro v9 w9 hol9 hap9 hne9)
      have hE9:=HN.out _ v9 w9 hol9 hap9 (HB6.out.alloc HB6.out.size _);obtain⟨q9,c9,hv9,-⟩:=hol9.shape;subst hv9;have HE:=hide hE9;clear hE9 hol9 hap9 hne9;go_wp2;go_roundg (k+(0))
      case rel=>exact⟨q9,m+1,c9,out++[x],some ⟨ba,oa+1,none⟩,k,ca - 1,a,qb,0,cb,[],rfl,by first|rfl|(simp;omega),by first|rfl|(simp;omega),rfl,HE.out⟩
      case measure=>have:=HG.out;omega
   ·
    skip
    obtain⟨ba,oa,k,rfl,rfl,hca,lba,cx⟩:=H.out.2.cellA;obtain⟨x1,x2⟩:=H.out.2.ia.ok x (by simp)
    have hcaI:(1:Int)≤(ca:Int):=by omega
    have hkc:k+1≤ca:=H.out.2.ia.le;have hkcI:(k:Int)+1≤(ca:Int):=by omega
    obtain⟨bb,ob,j,rfl,rfl,hcb,lbb,cy⟩:=H.out.2.cellB;obtain⟨y1,y2⟩:=H.out.2.ib.ok y (by simp)
    have hcbI:(1:Int)≤(cb:Int):=by omega
    have hjc:j+1≤cb:=H.out.2.ib.le;have hjcI:(j:Int)+1≤(cb:Int):=by omega
    obtain⟨od,hod⟩:∃od,cmpV x y=od:=⟨_,rfl⟩;have HBV:Hid (∀W,Calls Tryz.prog 49 #[.int .i64 x,.int .i64 y] W fun e w'=>e=.returned (.int .i64 od)∧Below W.heap.size W w'):=fun W=>by
     refine (byVariable_any x y W (by exact⟨by omega,by omega⟩) (by exact⟨by omega,by omega⟩)).mono ?_
     rintro e w' ⟨he,q9,os9,hw9⟩;rw[hod]at he;exact⟨he,by rw[hw9];exact below_grow W q9 os9⟩
    have HOD:=hide hod;clear hod;have HH:=H;clear H hla hlb;go_wp2_with fail
    refine wp_region_E (by kernel_rfl) [some 27,some 28,some 29,some 30,some 31,some 32,some 33,some 9] [none,none,none,none,none,none,none,none,none,some 9,none,none,none,none,none,none,none,none,none,none,none,none,none,none,none,none,none,some 27,some 28,some 29,some 30,some 31,some 32,some 33] (fun U=>by kernel_rfl) [fun u=>u=(.slice (some ⟨ba,oa,none⟩) (k+1) ca),fun u=>u=(.pointer (some ⟨ba,oa,none⟩)),fun u=>u=(.int .i64 x),fun u=>u=(.slice (some ⟨bb,ob,none⟩) (j+1) cb),fun u=>u=(.pointer (some ⟨bb,ob,none⟩)),fun u=>u=(.int .i64 y),fun u=>u=(.int .i64 od),fun u=>u=(.int .i64 od)] (fun L U wr=>Below wl.heap.size wl wr) (by kernel_rfl) (by decide) (by kernel_rfl) (by kernel_rfl) ?_ ?_ ?_
    · exact fun U=>(Below.refl _ _).drew
    ·
     refine StepsE.run rfl ?_ ?_
     ·
      intro L U wr hC hP hlk hcl haf A K hFm hK;simp[Aft,Region.binds]at haf;have e1:A.tmps[1]?=some (.slice (some ⟨ba,oa,none⟩) (k+1) ca):=(hFm.old 1 (by decide)).trans (by kernel_rfl)
      have HC:Hid _:=hC;clear hC;refine⟨?_⟩;go_simp;exact hK _ _ rfl HC.out
     refine StepsE.run rfl ?_ ?_
     ·
      intro L U wr hC hP hlk hcl haf A K hFm hK;simp[Aft,Region.binds]at haf;have g0:U 27=(.slice (some ⟨ba,oa,none⟩) (k+1) ca):=hP 0 27 (by simp[haf]) rfl
      have e27:A.tmps[27]?=some (.slice (some ⟨ba,oa,none⟩) (k+1) ca):=hFm.is 0 27 rfl g0;have mx:wr.cell? ⟨ba,oa,none⟩=some (.int .i64 x):=by rw[← cx];exact World.cell?_of_block (a:=⟨ba,oa,none⟩) (hC.block ba lba)
      have my:wr.cell? ⟨bb,ob,none⟩=some (.int .i64 y):=by rw[← cy];exact World.cell?_of_block (a:=⟨bb,ob,none⟩) (hC.block bb lbb)
      have ma:ba<wr.heap.size:=Nat.lt_of_lt_of_le lba hC.size;have mb:bb<wr.heap.size:=Nat.lt_of_lt_of_le lbb hC.size;have HC:Hid _:=hC;clear hC;refine⟨?_⟩;go_simp;exact hK _ _ rfl HC.out
     refine StepsE.run rfl ?_ ?_
     ·
      intro L U wr hC hP hlk hcl haf A K hFm hK;simp[Aft,Region.binds]at haf;have g1:U 28=(.pointer (some ⟨ba,oa,none⟩)):=hP 1 28 (by simp[haf]) rfl
      have e28:A.tmps[28]?=some (.pointer (some ⟨ba,oa,none⟩)):=hFm.is 1 28 rfl g1;have mx:wr.cell? ⟨ba,oa,none⟩=some (.int .i64 x):=by rw[← cx];exact World.cell?_of_block (a:=⟨ba,oa,none⟩) (hC.block ba lba)
      have my:wr.cell? ⟨bb,ob,none⟩=some (.int .i64 y):=by rw[← cy];exact World.cell?_of_block (a:=⟨bb,ob,none⟩) (hC.block bb lbb)
      have ma:ba<wr.heap.size:=Nat.lt_of_lt_of_le lba hC.size;have mb:bb<wr.heap.size:=Nat.lt_of_lt_of_le lbb hC.size;have HC:Hid _:=hC;clear hC;refine⟨?_⟩;go_simp;exact hK _ _ rfl HC.out
     refine StepsE.run rfl ?_ ?_
     ·
      intro L U wr hC hP hlk hcl haf A K hFm hK;simp[Aft,Region.binds]at haf;have e2:A.tmps[2]?=some (.slice (some ⟨bb,ob,none⟩) (j+1) cb):=(hFm.old 2 (by decide)).trans (by kernel_rfl)
      have HC:Hid _:=hC;clear hC;refine⟨?_⟩;go_simp;exact hK _ _ rfl HC.out
     refine StepsE.run rfl ?_ ?_
     ·
      intro L U wr hC hP hlk hcl haf A K hFm hK;simp[Aft,Region.binds]at haf;have g3:U 30=(.slice (some ⟨bb,ob,none⟩) (j+1) cb):=hP 3 30 (by simp[haf]) rfl
      have e30:A.tmps[30]?=some (.slice (some ⟨bb,ob,none⟩) (j+1) cb):=hFm.is 3 30 rfl g3;have mx:wr.cell? ⟨ba,oa,none⟩=some (.int .i64 x):=by rw[← cx];exact World.cell?_of_block (a:=⟨ba,oa,none⟩) (hC.block ba lba)
      have my:wr.cell? ⟨bb,ob,none⟩=some (.int .i64 y):=by rw[← cy];exact World.cell?_of_block (a:=⟨bb,ob,none⟩) (hC.block bb lbb)
      have ma:ba<wr.heap.size:=Nat.lt_of_lt_of_le lba hC.size;have mb:bb<wr.heap.size:=Nat.lt_of_lt_of_le lbb hC.size;have HC:Hid _:=hC;clear hC;refine⟨?_⟩;go_simp;exact hK _ _ rfl HC.out
     refine StepsE.run rfl ?_ ?_
     ·
      intro L U wr hC hP hlk hcl haf A K hFm hK;simp[Aft,Region.binds]at haf;have g4:U 31=(.pointer (some ⟨bb,ob,none⟩)):=hP 4 31 (by simp[haf]) rfl
      have e31:A.tmps[31]?=some (.pointer (some ⟨bb,ob,none⟩)):=hFm.is 4 31 rfl g4;have mx:wr.cell? ⟨ba,oa,none⟩=some (.int .i64 x):=by rw[← cx];exact World.cell?_of_block (a:=⟨ba,oa,none⟩) (hC.block ba lba)
      have my:wr.cell? ⟨bb,ob,none⟩=some (.int .i64 y):=by rw[← cy];exact World.cell?_of_block (a:=⟨bb,ob,none⟩) (hC.block bb lbb)
      have ma:ba<wr.heap.size:=Nat.lt_of_lt_of_le lba hC.size;have mb:bb<wr.heap.size:=Nat.lt_of_lt_of_le lbb hC.size;have HC:Hid _:=hC;clear hC;refine⟨?_⟩;go_simp;exact hK _ _ rfl HC.out
     refine StepsE.run rfl ?_ ?_
     ·
      intro L U wr hC hP hlk hcl haf A K hFm hK;simp[Aft,Region.binds]at haf;have g2:U 29=(.int .i64 x):=hP 2 29 (by simp[haf]) rfl
      have e29:A.tmps[29]?=some (.int .i64 x):=hFm.is 2 29 rfl g2;have g5:U 32=(.int .i64 y):=hP 5 32 (by simp[haf]) rfl
      have e32:A.tmps[32]?=some (.int .i64 y):=hFm.is 5 32 rfl g5;refine⟨?_⟩;have HB9:Hid _:=hC;clear hC;go_simp;refine (HBV.out wr).mono ?_;rintro e w1 ⟨rfl,hb9⟩;go_simp;exact hK _ _ (rfl) (HB9.out.trans (hb9.mono HB9.out.size))
     refine StepsE.run rfl ?_ StepsE.nil
     ·
      intro L U wr hC hP hlk hcl haf A K hFm hK;simp[Aft,Region.binds]at haf;have g6:U 33=(.int .i64 od):=hP 6 33 (by simp[haf]) rfl
      have e33:A.tmps[33]?=some (.int .i64 od):=hFm.is 6 33 rfl g6;have HC:Hid _:=hC;clear hC;refine⟨?_⟩;go_simp;exact hK _ _ rfl HC.out
    ·
     intro L9 U9 w4 hL9 hC9 hP9;have y27:U9 27=(.slice (some ⟨ba,oa,none⟩) (k+1) ca):=hP9 0 27 rfl;have y28:U9 28=(.pointer (some ⟨ba,oa,none⟩)):=hP9 1 28 rfl;have y29:U9 29=(.int .i64 x):=hP9 2 29 rfl;have y30:U9 30=(.slice (some ⟨bb,ob,none⟩) (j+1) cb):=hP9 3 30 rfl;have y31:U9 31=(.pointer (some ⟨bb,ob,none⟩)):=hP9 4 31 rfl;have y32:U9 32=(.int .i64 y):=hP9 5 32 rfl;have y33:U9 33=(.int .i64 od):=hP9 6 33 rfl;have y9:U9 9=(.int .i64 od):=hP9 7 9 rfl;have cx4:w4.cell? ⟨ba,oa,none⟩=some (.int .i64 x):=by rw[← cx];exact World.cell?_of_block (a:=⟨ba,oa,none⟩) (hC9.block ba lba)
     have cy4:w4.cell? ⟨bb,ob,none⟩=some (.int .i64 y):=by rw[← cy];exact World.cell?_of_block (a:=⟨bb,ob,none⟩) (hC9.block bb lbb)
     have la4:ba<w4.heap.size:=Nat.lt_of_lt_of_le lba hC9.size;have lb4:bb<w4.heap.size:=Nat.lt_of_lt_of_le lbb hC9.size;have HB4:=hide hC9;have H:=HH;clear HH hC9 hP9 hL9 cx cy lba lbb HBV;simp only[setM,y27,y28,y29,y30,y31,y32,y33,y9];clear y27 y28 y29 y30 y31 y32 y33 y9;have hvv:=cmpV_val x y;rw[HOD.out]at hvv;clear HOD;rcases hvv with⟨rfl,hor⟩|⟨rfl,hor⟩|⟨rfl,hor⟩
     ·
      have HOR:Hid (∀z∈y::b,bv x z):=fun z hz=>by
       rcases List.mem_cons.1 hz with rfl|hz
       · exact hor
       · exact bv_trans hor (H.out.2.mg.sb.tail.2 z hz)
      clear hor;by_cases hx:x=l
      ·
       have hx1:(x != l)=false:=by simpa using hx
       by_cases hc1:ca=1
       ·
        subst hc1;skip
        have HN:Hid (∀W,Below wl.heap.size wl W→MW a0 b0 l (.slice qz 0 cz) w (.slice qo m co) m out (some ⟨ba,oa,none⟩) (k) (0) (a) (some ⟨bb,ob,none⟩) (j+1) (cb) (y::b) W):=fun W h3=>by
         have h9:=(H.out.2.below h3).left HOR.out hx;rw[if_pos rfl]at h9;exact h9
        have HG:=hide H.out.1;clear hx;clear H HOR;go_wp2_with fail
        go_quiet (fail)
        obtain⟨w5,hw5⟩:∃w5,w4.drewN nq=w5:=⟨_,rfl⟩;rw[hw5];have HB5:Hid (Below wl.heap.size wl w5):=by rw[← hw5];exact⟨HB4.out.os,HB4.out.tape,HB4.out.output,HB4.out.size,HB4.out.block⟩
        clear hw5 cx4 la4;have HB6:=HB5;have HE:=hide (HN.out _ HB6.out);go_wp2;go_roundg (k+(j+1))
        case rel=>exact⟨qo,m,co,out,some ⟨ba,oa,none⟩,k,0,a,some ⟨bb,ob,none⟩,j+1,cb,y::b,rfl,by first|rfl|(simp;omega),by first|rfl|(simp;omega),rfl,HE.out⟩
        case measure=>have:=HG.out;omega
       ·
        have HN:Hid (∀W,Below wl.heap.size wl W→MW a0 b0 l (.slice qz 0 cz) w (.slice qo m co) m out (some ⟨ba,oa+1,none⟩) (k) (ca - 1) (a) (some ⟨bb,ob,none⟩) (j+1) (cb) (y::b) W):=fun W h3=>by
         have h9:=(H.out.2.below h3).left HOR.out hx;rw[if_neg hc1]at h9;exact h9
        have HG:=hide H.out.1;clear hx;clear H HOR;go_wp2_with fail
        go_quiet (fail)
        obtain⟨w5,hw5⟩:∃w5,w4.drewN nq=w5:=⟨_,rfl⟩;rw[hw5];have HB5:Hid (Below wl.heap.size wl w5):=by rw[← hw5];exact⟨HB4.out.os,HB4.out.tape,HB4.out.output,HB4.out.size,HB4.out.block⟩
        clear hw5 cx4 la4;have HB6:=HB5;have HE:=hide (HN.out _ HB6.out);go_wp2;go_roundg (k+(j+1))
        case rel=>exact⟨qo,m,co,out,some ⟨ba,oa+1,none⟩,k,ca - 1,a,some ⟨bb,ob,none⟩,j+1,cb,y::b,rfl,by first|rfl|(simp;omega),by first|rfl|(simp;omega),rfl,HE.out⟩
        case measure=>have:=HG.out;omega
      ·
       have hx1:(x != l)=true:=by simpa using hx
       by_cases hc1:ca=1
       ·
        subst hc1;skip
        have HN:Hid (∀W v9 w9,OL 1 3 w9 v9 (m+1) (izC (out++[x]))→App (.slice qo m co) v9 W w9→Below wl.heap.size wl W→MW a0 b0 l (.slice qz 0 cz) w v9 (m+1) (out++[x]) (some ⟨ba,oa,none⟩) (k) (0) (a) (some ⟨bb,ob,none⟩) (j+1) (cb) (y::b) w9):=fun W v9 w9 h1 h2 h3=>by
         have h9:=(H.out.2.below h3).leftP HOR.out hx h1 h2;rw[if_pos rfl]at h9;exact h9
        have HOL:Hid (∀W,Below wl.heap.size wl W→OL 1 3 (W.alloc (.cells #[.int .i64 x] 3 (0,0))) (.slice qo m co) m (izC out)):=fun W h=>(H.out.2.below (h.alloc h.size (.cells #[.int .i64 x] 3 (0,0)))).ol
        have HF1:Hid (∀k,k<m→izC (out++[x]) k=izC out k):=fun k hk=>(izC_snoc out x).1 k (by rw[H.out.2.lm];exact hk)
        have HF2:Hid (izC (out++[x]) m=[.int .i64 x]):=by have h9:=(izC_snoc out x).2;rw[H.out.2.lm]at h9;exact h9
        have HG:=hide H.out.1;clear hx;clear H HOR;go_wp2_with fail
        go_quiet (fail)
        obtain⟨w5,hw5⟩:∃w5,w4.drewN nq=w5:=⟨_,rfl⟩;rw[hw5];have HB5:Hid (Below wl.heap.size wl w5):=by rw[← hw5];exact⟨HB4.out.os,HB4.out.tape,HB4.out.output,HB4.out.size,HB4.out.block⟩
        clear hw5 cx4 la4;have HB6:=HB5;go_wp2_with (at_builtin;refine Euf.wpList_push rfl (.tmp 65) (.tmp 67) 35 rfl 1 3 _ 8 u_cloneI i_cloneI (by decide) rfl (by decide) (.slice qo m co) m (izC out) rfl [.int .i64 x] 3 (HOL.out _ HB6.out) (fun _ _=>rfl) 1 rfl rfl (by intro u hu;simp at hu;subst hu;rfl) (by omega) (izC (out++[x])) HF1.out HF2.out ?_;intro v9 w9 hol9 hap9 hne9)
        have hE9:=HN.out _ v9 w9 hol9 hap9 (HB6.out.alloc HB6.out.size _);obtain⟨q9,c9,hv9,-⟩:=hol9.shape;subst hv9;have HE:=hide hE9;clear hE9 hol9 hap9 hne9;go_wp2;go_roundg (k+(j+1))
        case rel=>exact⟨q9,m+1,c9,out++[x],some ⟨ba,oa,none⟩,k,0,a,some ⟨bb,ob,none⟩,j+1,cb,y::b,rfl,by first|rfl|(simp;omega),by first|rfl|(simp;omega),rfl,HE.out⟩
        case measure=>have:=HG.out;omega
       ·
        have HN:Hid (∀W v9 w9,OL 1 3 w9 v9 (m+1) (izC (out++[x]))→App (.slice qo m co) v9 W w9→Below wl.heap.size wl W→MW a0 b0 l (.slice qz 0 cz) w v9 (m+1) (out++[x]) (some ⟨ba,oa+1,none⟩) (k) (ca - 1) (a) (some ⟨bb,ob,none⟩) (j+1) (cb) (y::b) w9):=fun W v9 w9 h1 h2 h3=>by
         have h9:=(H.out.2.below h3).leftP HOR.out hx h1 h2;rw[if_neg hc1]at h9;exact h9
        have HOL:Hid (∀W,Below wl.heap.size wl W→OL 1 3 (W.alloc (.cells #[.int .i64 x] 3 (0,0))) (.slice qo m co) m (izC out)):=fun W h=>(H.out.2.below (h.alloc h.size (.cells #[.int .i64 x] 3 (0,0)))).ol
        have HF1:Hid (∀k,k<m→izC (out++[x]) k=izC out k):=fun k hk=>(izC_snoc out x).1 k (by rw[H.out.2.lm];exact hk)
        have HF2:Hid (izC (out++[x]) m=[.int .i64 x]):=by have h9:=(izC_snoc out x).2;rw[H.out.2.lm]at h9;exact h9
        have HG:=hide H.out.1;clear hx;clear H HOR;go_wp2_with fail
        go_quiet (fail)
        obtain⟨w5,hw5⟩:∃w5,w4.drewN nq=w5:=⟨_,rfl⟩;rw[hw5];have HB5:Hid (Below wl.heap.size wl w5):=by rw[← hw5];exact⟨HB4.out.os,HB4.out.tape,HB4.out.output,HB4.out.size,HB4.out.block⟩
        clear hw5 cx4 la4;have HB6:=HB5;go_wp2_with (at_builtin;refine Euf.wpList_push rfl (.tmp 65) (.tmp 67) 35 rfl 1 3 _ 8 u_cloneI i_cloneI (by decide) rfl (by decide) (.slice qo m co) m (izC out) rfl [.int .i64 x] 3 (HOL.out _ HB6.out) (fun _ _=>rfl) 1 rfl rfl (by intro u hu;simp at hu;subst hu;rfl) (by omega) (izC (out++[x])) HF1.out HF2.out ?_;intro v9 w9 hol9 hap9 hne9)
        have hE9:=HN.out _ v9 w9 hol9 hap9 (HB6.out.alloc HB6.out.size _);obtain⟨q9,c9,hv9,-⟩:=hol9.shape;subst hv9;have HE:=hide hE9;clear hE9 hol9 hap9 hne9;go_wp2;go_roundg (k+(j+1))
        case rel=>exact⟨q9,m+1,c9,out++[x],some ⟨ba,oa+1,none⟩,k,ca - 1,a,some ⟨bb,ob,none⟩,j+1,cb,y::b,rfl,by first|rfl|(simp;omega),by first|rfl|(simp;omega),rfl,HE.out⟩
        case measure=>have:=HG.out;omega
     ·
      subst hor;by_cases hx:x=l
      ·
       have hx1:(x != l)=false:=by simpa using hx
       have hx2:(x != -l)=true:=by simp;omega
       by_cases hc1:ca=1
       ·
        subst hc1;skip
        by_cases hd1:cb=1
        ·
         subst hd1;skip
         have HN:Hid (∀W v9 w9,OL 1 3 w9 v9 (m+1) (izC (out++[x]))→App (.slice qo m co) v9 W w9→Below wl.heap.size wl W→MW a0 b0 l (.slice qz 0 cz) w v9 (m+1) (out++[x]) (some ⟨ba,oa,none⟩) (k) (0) (a) (some ⟨bb,ob,none⟩) (j) (0) (b) w9):=fun W v9 w9 h1 h2 h3=>by
          have h9:=(H.out.2.below h3).bothP hl h1 h2;rw[if_pos rfl]at h9;rw[if_pos rfl]at h9;exact h9
         have HOL:Hid (∀W,Below wl.heap.size wl W→OL 1 3 (W.alloc (.cells #[.int .i64 x] 3 (0,0))) (.slice qo m co) m (izC out)):=fun W h=>(H.out.2.below (h.alloc h.size (.cells #[.int .i64 x] 3 (0,0)))).ol
         have HF1:Hid (∀k,k<m→izC (out++[x]) k=izC out k):=fun k hk=>(izC_snoc out x).1 k (by rw[H.out.2.lm];exact hk)
         have HF2:Hid (izC (out++[x]) m=[.int .i64 x]):=by have h9:=(izC_snoc out x).2;rw[H.out.2.lm]at h9;exact h9
         have HG:=hide H.out.1;clear hx;clear H;go_wp2_with fail
         go_quiet (fail)
         obtain⟨w5,hw5⟩:∃w5,w4.drewN nq=w5:=⟨_,rfl⟩;rw[hw5];have HB5:Hid (Below wl.heap.size wl w5):=by rw[← hw5];exact⟨HB4.out.os,HB4.out.tape,HB4.out.output,HB4.out.size,HB4.out.block⟩
         have cy5:w5.cell? ⟨bb,ob,none⟩=some (.int .i64 x):=by rw[← hw5];exact cy4
         have lb5:bb<w5.heap.size:=by rw[← hw5];exact lb4
         clear hw5 cx4 la4 cy4 lb4;go_wp2_with fail
         go_quiet (fail)
         obtain⟨w6,hw6⟩:∃w6,w5.drewN nq=w6:=⟨_,rfl⟩;rw[hw6];have HB6:Hid (Below wl.heap.size wl w6):=by rw[← hw6];exact⟨HB5.out.os,HB5.out.tape,HB5.out.output,HB5.out.size,HB5.out.block⟩
         clear hw6 cy5 lb5;go_wp2_with (at_builtin;refine Euf.wpList_push rfl (.tmp 65) (.tmp 67) 35 rfl 1 3 _ 8 u_cloneI i_cloneI (by decide) rfl (by decide) (.slice qo m co) m (izC out) rfl [.int .i64 x] 3 (HOL.out _ HB6.out) (fun _ _=>rfl) 1 rfl rfl (by intro u hu;simp at hu;subst hu;rfl) (by omega) (izC (out++[x])) HF1.out HF2.out ?_;intro v9 w9 hol9 hap9 hne9)
         have hE9:=HN.out _ v9 w9 hol9 hap9 (HB6.out.alloc HB6.out.size _);obtain⟨q9,c9,hv9,-⟩:=hol9.shape;subst hv9;have HE:=hide hE9;clear hE9 hol9 hap9 hne9;go_wp2;go_roundg (k+(j))
         case rel=>exact⟨q9,m+1,c9,out++[x],some ⟨ba,oa,none⟩,k,0,a,some ⟨bb,ob,none⟩,j,0,b,rfl,by first|rfl|(simp;omega),by first|rfl|(simp;omega),rfl,HE.out⟩
         case measure=>have:=HG.out;omega
        ·
         have HN:Hid (∀W v9 w9,OL 1 3 w9 v9 (m+1) (izC (out++[x]))→App (.slice qo m co) v9 W w9→Below wl.heap.size wl W→MW a0 b0 l (.slice qz 0 cz) w v9 (m+1) (out++[x]) (some ⟨ba,oa,none⟩) (k) (0) (a) (some ⟨bb,ob+1,none⟩) (j) (cb - 1) (b) w9):=fun W v9 w9 h1 h2 h3=>by
          have h9:=(H.out.2.below h3).bothP hl h1 h2;rw[if_pos rfl]at h9;rw[if_neg hd1]at h9;exact h9
         have HOL:Hid (∀W,Below wl.heap.size wl W→OL 1 3 (W.alloc (.cells #[.int .i64 x] 3 (0,0))) (.slice qo m co) m (izC out)):=fun W h=>(H.out.2.below (h.alloc h.size (.cells #[.int .i64 x] 3 (0,0)))).ol
         have HF1:Hid (∀k,k<m→izC (out++[x]) k=izC out k):=fun k hk=>(izC_snoc out x).1 k (by rw[H.out.2.lm];exact hk)
         have HF2:Hid (izC (out++[x]) m=[.int .i64 x]):=by have h9:=(izC_snoc out x).2;rw[H.out.2.lm]at h9;exact h9
         have HG:=hide H.out.1;clear hx;clear H;go_wp2_with fail
         go_quiet (fail)
         obtain⟨w5,hw5⟩:∃w5,w4.drewN nq=w5:=⟨_,rfl⟩;rw[hw5];have HB5:Hid (Below wl.heap.size wl w5):=by rw[← hw5];exact⟨HB4.out.os,HB4.out.tape,HB4.out.output,HB4.out.size,HB4.out.block⟩
         have cy5:w5.cell? ⟨bb,ob,none⟩=some (.int .i64 x):=by rw[← hw5];exact cy4
         have lb5:bb<w5.heap.size:=by rw[← hw5];exact lb4
         clear hw5 cx4 la4 cy4 lb4;go_wp2_with fail
         go_quiet (fail)
         obtain⟨w6,hw6⟩:∃w6,w5.drewN nq=w6:=⟨_,rfl⟩;rw[hw6];have HB6:Hid (Below wl.heap.size wl w6):=by rw[← hw6];exact⟨HB5.out.os,HB5.out.tape,HB5.out.output,HB5.out.size,HB5.out.block⟩
         clear hw6 cy5 lb5;go_wp2_with (at_builtin;refine Euf.wpList_push rfl (.tmp 65) (.tmp 67) 35 rfl 1 3 _ 8 u_cloneI i_cloneI (by decide) rfl (by decide) (.slice qo m co) m (izC out) rfl [.int .i64 x] 3 (HOL.out _ HB6.out) (fun _ _=>rfl) 1 rfl rfl (by intro u hu;simp at hu;subst hu;rfl) (by omega) (izC (out++[x])) HF1.out HF2.out ?_;intro v9 w9 hol9 hap9 hne9)
         have hE9:=HN.out _ v9 w9 hol9 hap9 (HB6.out.alloc HB6.out.size _);obtain⟨q9,c9,hv9,-⟩:=hol9.shape;subst hv9;have HE:=hide hE9;clear hE9 hol9 hap9 hne9;go_wp2;go_roundg (k+(j))
         case rel=>exact⟨q9,m+1,c9,out++[x],some ⟨ba,oa,none⟩,k,0,a,some ⟨bb,ob+1,none⟩,j,cb - 1,b,rfl,by first|rfl|(simp;omega),by first|rfl|(simp;omega),rfl,HE.out⟩
         case measure=>have:=HG.out;omega
       ·
        by_cases hd1:cb=1
        ·
         subst hd1;skip
         have HN:Hid (∀W v9 w9,OL 1 3 w9 v9 (m+1) (izC (out++[x]))→App (.slice qo m co) v9 W w9→Below wl.heap.size wl W→MW a0 b0 l (.slice qz 0 cz) w v9 (m+1) (out++[x]) (some ⟨ba,oa+1,none⟩) (k) (ca - 1) (a) (some ⟨bb,ob,none⟩) (j) (0) (b) w9):=fun W v9 w9 h1 h2 h3=>by
          have h9:=(H.out.2.below h3).bothP hl h1 h2;rw[if_neg hc1]at h9;rw[if_pos rfl]at h9;exact h9
         have HOL:Hid (∀W,Below wl.heap.size wl W→OL 1 3 (W.alloc (.cells #[.int .i64 x] 3 (0,0))) (.slice qo m co) m (izC out)):=fun W h=>(H.out.2.below (h.alloc h.size (.cells #[.int .i64 x] 3 (0,0)))).ol
         have HF1:Hid (∀k,k<m→izC (out++[x]) k=izC out k):=fun k hk=>(izC_snoc out x).1 k (by rw[H.out.2.lm];exact hk)
         have HF2:Hid (izC (out++[x]) m=[.int .i64 x]):=by have h9:=(izC_snoc out x).2;rw[H.out.2.lm]at h9;exact h9
         have HG:=hide H.out.1;clear hx;clear H;go_wp2_with fail
         go_quiet (fail)
         obtain⟨w5,hw5⟩:∃w5,w4.drewN nq=w5:=⟨_,rfl⟩;rw[hw5];have HB5:Hid (Below wl.heap.size wl w5):=by rw[← hw5];exact⟨HB4.out.os,HB4.out.tape,HB4.out.output,HB4.out.size,HB4.out.block⟩
         have cy5:w5.cell? ⟨bb,ob,none⟩=some (.int .i64 x):=by rw[← hw5];exact cy4
         have lb5:bb<w5.heap.size:=by rw[← hw5];exact lb4
         clear hw5 cx4 la4 cy4 lb4;go_wp2_with fail
         go_quiet (fail)
         obtain⟨w6,hw6⟩:∃w6,w5.drewN nq=w6:=⟨_,rfl⟩;rw[hw6];have HB6:Hid (Below wl.heap.size wl w6):=by rw[← hw6];exact⟨HB5.out.os,HB5.out.tape,HB5.out.output,HB5.out.size,HB5.out.block⟩
         clear hw6 cy5 lb5;go_wp2_with (at_builtin;refine Euf.wpList_push rfl (.tmp 65) (.tmp 67) 35 rfl 1 3 _ 8 u_cloneI i_cloneI (by decide) rfl (by decide) (.slice qo m co) m (izC out) rfl [.int .i64 x] 3 (HOL.out _ HB6.out) (fun _ _=>rfl) 1 rfl rfl (by intro u hu;simp at hu;subst hu;rfl) (by omega) (izC (out++[x])) HF1.out HF2.out ?_;intro v9 w9 hol9 hap9 hne9)
         have hE9:=HN.out _ v9 w9 hol9 hap9 (HB6.out.alloc HB6.out.size _);obtain⟨q9,c9,hv9,-⟩:=hol9.shape;subst hv9;have HE:=hide hE9;clear hE9 hol9 hap9 hne9;go_wp2;go_roundg (k+(j))
         case rel=>exact⟨q9,m+1,c9,out++[x],some ⟨ba,oa+1,none⟩,k,ca - 1,a,some ⟨bb,ob,none⟩,j,0,b,rfl,by first|rfl|(simp;omega),by first|rfl|(simp;omega),rfl,HE.out⟩
         case measure=>have:=HG.out;omega
        ·
         have HN:Hid (∀W v9 w9,OL 1 3 w9 v9 (m+1) (izC (out++[x]))→App (.slice qo m co) v9 W w9→Below wl.heap.size wl W→MW a0 b0 l (.slice qz 0 cz) w v9 (m+1) (out++[x]) (some ⟨ba,oa+1,none⟩) (k) (ca - 1) (a) (some ⟨bb,ob+1,none⟩) (j) (cb - 1) (b) w9):=fun W v9 w9 h1 h2 h3=>by
          have h9:=(H.out.2.below h3).bothP hl h1 h2;rw[if_neg hc1]at h9;rw[if_neg hd1]at h9;exact h9
         have HOL:Hid (∀W,Below wl.heap.size wl W→OL 1 3 (W.alloc (.cells #[.int .i64 x] 3 (0,0))) (.slice qo m co) m (izC out)):=fun W h=>(H.out.2.below (h.alloc h.size (.cells #[.int .i64 x] 3 (0,0)))).ol
         have HF1:Hid (∀k,k<m→izC (out++[x]) k=izC out k):=fun k hk=>(izC_snoc out x).1 k (by rw[H.out.2.lm];exact hk)
         have HF2:Hid (izC (out++[x]) m=[.int .i64 x]):=by have h9:=(izC_snoc out x).2;rw[H.out.2.lm]at h9;exact h9
         have HG:=hide H.out.1;clear hx;clear H;go_wp2_with fail
         go_quiet (fail)
         obtain⟨w5,hw5⟩:∃w5,w4.drewN nq=w5:=⟨_,rfl⟩;rw[hw5];have HB5:Hid (Below wl.heap.size wl w5):=by rw[← hw5];exact⟨HB4.out.os,HB4.out.tape,HB4.out.output,HB4.out.size,HB4.out.block⟩
         have cy5:w5.cell? ⟨bb,ob,none⟩=some (.int .i64 x):=by rw[← hw5];exact cy4
         have lb5:bb<w5.heap.size:=by rw[← hw5];exact lb4
         clear hw5 cx4 la4 cy4 lb4;go_wp2_with fail
         go_quiet (fail)
         obtain⟨w6,hw6⟩:∃w6,w5.drewN nq=w6:=⟨_,rfl⟩;rw[hw6];have HB6:Hid (Below wl.heap.size wl w6):=by rw[← hw6];exact⟨HB5.out.os,HB5.out.tape,HB5.out.output,HB5.out.size,HB5.out.block⟩
         clear hw6 cy5 lb5;go_wp2_with (at_builtin;refine Euf.wpList_push rfl (.tmp 65) (.tmp 67) 35 rfl 1 3 _ 8 u_cloneI i_cloneI (by decide) rfl (by decide) (.slice qo m co) m (izC out) rfl [.int .i64 x] 3 (HOL.out _ HB6.out) (fun _ _=>rfl) 1 rfl rfl (by intro u hu;simp at hu;subst hu;rfl) (by omega) (izC (out++[x])) HF1.out HF2.out ?_;intro v9 w9 hol9 hap9 hne9)
         have hE9:=HN.out _ v9 w9 hol9 hap9 (HB6.out.alloc HB6.out.size _);obtain⟨q9,c9,hv9,-⟩:=hol9.shape;subst hv9;have HE:=hide hE9;clear hE9 hol9 hap9 hne9;go_wp2;go_roundg (k+(j))
         case rel=>exact⟨q9,m+1,c9,out++[x],some ⟨ba,oa+1,none⟩,k,ca - 1,a,some ⟨bb,ob+1,none⟩,j,cb - 1,b,rfl,by first|rfl|(simp;omega),by first|rfl|(simp;omega),rfl,HE.out⟩
         case measure=>have:=HG.out;omega
      ·
       have hx1:(x != l)=true:=by simpa using hx
       by_cases hc1:ca=1
       ·
        subst hc1;skip
        by_cases hd1:cb=1
        ·
         subst hd1;skip
         have HN:Hid (∀W v9 w9,OL 1 3 w9 v9 (m+1) (izC (out++[x]))→App (.slice qo m co) v9 W w9→Below wl.heap.size wl W→MW a0 b0 l (.slice qz 0 cz) w v9 (m+1) (out++[x]) (some ⟨ba,oa,none⟩) (k) (0) (a) (some ⟨bb,ob,none⟩) (j) (0) (b) w9):=fun W v9 w9 h1 h2 h3=>by
          have h9:=(H.out.2.below h3).bothP hl h1 h2;rw[if_pos rfl]at h9;rw[if_pos rfl]at h9;exact h9
         have HOL:Hid (∀W,Below wl.heap.size wl W→OL 1 3 (W.alloc (.cells #[.int .i64 x] 3 (0,0))) (.slice qo m co) m (izC out)):=fun W h=>(H.out.2.below (h.alloc h.size (.cells #[.int .i64 x] 3 (0,0)))).ol
         have HF1:Hid (∀k,k<m→izC (out++[x]) k=izC out k):=fun k hk=>(izC_snoc out x).1 k (by rw[H.out.2.lm];exact hk)
         have HF2:Hid (izC (out++[x]) m=[.int .i64 x]):=by have h9:=(izC_snoc out x).2;rw[H.out.2.lm]at h9;exact h9
         have HG:=hide H.out.1;clear hx;clear H;go_wp2_with fail
         go_quiet (fail)
         obtain⟨w5,hw5⟩:∃w5,w4.drewN nq=w5:=⟨_,rfl⟩;rw[hw5];have HB5:Hid (Below wl.heap.size wl w5):=by rw[← hw5];exact⟨HB4.out.os,HB4.out.tape,HB4.out.output,HB4.out.size,HB4.out.block⟩
         have cy5:w5.cell? ⟨bb,ob,none⟩=some (.int .i64 x):=by rw[← hw5];exact cy4
         have lb5:bb<w5.heap.size:=by rw[← hw5];exact lb4
         clear hw5 cx4 la4 cy4 lb4;go_wp2_with fail
         go_quiet (fail)
         obtain⟨w6,hw6⟩:∃w6,w5.drewN nq=w6:=⟨_,rfl⟩;rw[hw6];have HB6:Hid (Below wl.heap.size wl w6):=by rw[← hw6];exact⟨HB5.out.os,HB5.out.tape,HB5.out.output,HB5.out.size,HB5.out.block⟩
         clear hw6 cy5 lb5;go_wp2_with (at_builtin;refine Euf.wpList_push rfl (.tmp 65) (.tmp 67) 35 rfl 1 3 _ 8 u_cloneI i_cloneI (by decide) rfl (by decide) (.slice qo m co) m (izC out) rfl [.int .i64 x] 3 (HOL.out _ HB6.out) (fun _ _=>rfl) 1 rfl rfl (by intro u hu;simp at hu;subst hu;rfl) (by omega) (izC (out++[x])) HF1.out HF2.out ?_;intro v9 w9 hol9 hap9 hne9)
         have hE9:=HN.out _ v9 w9 hol9 hap9 (HB6.out.alloc HB6.out.size _);obtain⟨q9,c9,hv9,-⟩:=hol9.shape;subst hv9;have HE:=hide hE9;clear hE9 hol9 hap9 hne9;go_wp2;go_roundg (k+(j))
         case rel=>exact⟨q9,m+1,c9,out++[x],some ⟨ba,oa,none⟩,k,0,a,some ⟨bb,ob,none⟩,j,0,b,rfl,by first|rfl|(simp;omega),by first|rfl|(simp;omega),rfl,HE.out⟩
         case measure=>have:=HG.out;omega
        ·
         have HN:Hid (∀W v9 w9,OL 1 3 w9 v9 (m+1) (izC (out++[x]))→App (.slice qo m co) v9 W w9→Below wl.heap.size wl W→MW a0 b0 l (.slice qz 0 cz) w v9 (m+1) (out++[x]) (some ⟨ba,oa,none⟩) (k) (0) (a) (some ⟨bb,ob+1,none⟩) (j) (cb - 1) (b) w9):=fun W v9 w9 h1 h2 h3=>by
          have h9:=(H.out.2.below h3).bothP hl h1 h2;rw[if_pos rfl]at h9;rw[if_neg hd1]at h9;exact h9
         have HOL:Hid (∀W,Below wl.heap.size wl W→OL 1 3 (W.alloc (.cells #[.int .i64 x] 3 (0,0))) (.slice qo m co) m (izC out)):=fun W h=>(H.out.2.below (h.alloc h.size (.cells #[.int .i64 x] 3 (0,0)))).ol
         have HF1:Hid (∀k,k<m→izC (out++[x]) k=izC out k):=fun k hk=>(izC_snoc out x).1 k (by rw[H.out.2.lm];exact hk)
         have HF2:Hid (izC (out++[x]) m=[.int .i64 x]):=by have h9:=(izC_snoc out x).2;rw[H.out.2.lm]at h9;exact h9
         have HG:=hide H.out.1;clear hx;clear H;go_wp2_with fail
         go_quiet (fail)
         obtain⟨w5,hw5⟩:∃w5,w4.drewN nq=w5:=⟨_,rfl⟩;rw[hw5];have HB5:Hid (Below wl.heap.size wl w5):=by rw[← hw5];exact⟨HB4.out.os,HB4.out.tape,HB4.out.output,HB4.out.size,HB4.out.block⟩
         have cy5:w5.cell? ⟨bb,ob,none⟩=some (.int .i64 x):=by rw[← hw5];exact cy4
         have lb5:bb<w5.heap.size:=by rw[← hw5];exact lb4
         clear hw5 cx4 la4 cy4 lb4;go_wp2_with fail
         go_quiet (fail)
         obtain⟨w6,hw6⟩:∃w6,w5.drewN nq=w6:=⟨_,rfl⟩;rw[hw6];have HB6:Hid (Below wl.heap.size wl w6):=by rw[← hw6];exact⟨HB5.out.os,HB5.out.tape,HB5.out.output,HB5.out.size,HB5.out.block⟩
         clear hw6 cy5 lb5;go_wp2_with (at_builtin;refine Euf.wpList_push rfl (.tmp 65) (.tmp 67) 35 rfl 1 3 _ 8 u_cloneI i_cloneI (by decide) rfl (by decide) (.slice qo m co) m (izC out) rfl [.int .i64 x] 3 (HOL.out _ HB6.out) (fun _ _=>rfl) 1 rfl rfl (by intro u hu;simp at hu;subst hu;rfl) (by omega) (izC (out++[x])) HF1.out HF2.out ?_;intro v9 w9 hol9 hap9 hne9)
         have hE9:=HN.out _ v9 w9 hol9 hap9 (HB6.out.alloc HB6.out.size _);obtain⟨q9,c9,hv9,-⟩:=hol9.shape;subst hv9;have HE:=hide hE9;clear hE9 hol9 hap9 hne9;go_wp2;go_roundg (k+(j))
         case rel=>exact⟨q9,m+1,c9,out++[x],some ⟨ba,oa,none⟩,k,0,a,some ⟨bb,ob+1,none⟩,j,cb - 1,b,rfl,by first|rfl|(simp;omega),by first|rfl|(simp;omega),rfl,HE.out⟩
         case measure=>have:=HG.out;omega
       ·
        by_cases hd1:cb=1
        ·
         subst hd1;skip
         have HN:Hid (∀W v9 w9,OL 1 3 w9 v9 (m+1) (izC (out++[x]))→App (.slice qo m co) v9 W w9→Below wl.heap.size wl W→MW a0 b0 l (.slice qz 0 cz) w v9 (m+1) (out++[x]) (some ⟨ba,oa+1,none⟩) (k) (ca - 1) (a) (some ⟨bb,ob,none⟩) (j) (0) (b) w9):=fun W v9 w9 h1 h2 h3=>by
          have h9:=(H.out.2.below h3).bothP hl h1 h2;rw[if_neg hc1]at h9;rw[if_pos rfl]at h9;exact h9
         have HOL:Hid (∀W,Below wl.heap.size wl W→OL 1 3 (W.alloc (.cells #[.int .i64 x] 3 (0,0))) (.slice qo m co) m (izC out)):=fun W h=>(H.out.2.below (h.alloc h.size (.cells #[.int .i64 x] 3 (0,0)))).ol
         have HF1:Hid (∀k,k<m→izC (out++[x]) k=izC out k):=fun k hk=>(izC_snoc out x).1 k (by rw[H.out.2.lm];exact hk)
         have HF2:Hid (izC (out++[x]) m=[.int .i64 x]):=by have h9:=(izC_snoc out x).2;rw[H.out.2.lm]at h9;exact h9
         have HG:=hide H.out.1;clear hx;clear H;go_wp2_with fail
         go_quiet (fail)
         obtain⟨w5,hw5⟩:∃w5,w4.drewN nq=w5:=⟨_,rfl⟩;rw[hw5];have HB5:Hid (Below wl.heap.size wl w5):=by rw[← hw5];exact⟨HB4.out.os,HB4.out.tape,HB4.out.output,HB4.out.size,HB4.out.block⟩
         have cy5:w5.cell? ⟨bb,ob,none⟩=some (.int .i64 x):=by rw[← hw5];exact cy4
         have lb5:bb<w5.heap.size:=by rw[← hw5];exact lb4
         clear hw5 cx4 la4 cy4 lb4;go_wp2_with fail
         go_quiet (fail)
         obtain⟨w6,hw6⟩:∃w6,w5.drewN nq=w6:=⟨_,rfl⟩;rw[hw6];have HB6:Hid (Below wl.heap.size wl w6):=by rw[← hw6];exact⟨HB5.out.os,HB5.out.tape,HB5.out.output,HB5.out.size,HB5.out.block⟩
         clear hw6 cy5 lb5;go_wp2_with (at_builtin;refine Euf.wpList_push rfl (.tmp 65) (.tmp 67) 35 rfl 1 3 _ 8 u_cloneI i_cloneI (by decide) rfl (by decide) (.slice qo m co) m (izC out) rfl [.int .i64 x] 3 (HOL.out _ HB6.out) (fun _ _=>rfl) 1 rfl rfl (by intro u hu;simp at hu;subst hu;rfl) (by omega) (izC (out++[x])) HF1.out HF2.out ?_;intro v9 w9 hol9 hap9 hne9)
         have hE9:=HN.out _ v9 w9 hol9 hap9 (HB6.out.alloc HB6.out.size _);obtain⟨q9,c9,hv9,-⟩:=hol9.shape;subst hv9;have HE:=hide hE9;clear hE9 hol9 hap9 hne9;go_wp2;go_roundg (k+(j))
         case rel=>exact⟨q9,m+1,c9,out++[x],some ⟨ba,oa+1,none⟩,k,ca - 1,a,some ⟨bb,ob,none⟩,j,0,b,rfl,by first|rfl|(simp;omega),by first|rfl|(simp;omega),rfl,HE.out⟩
         case measure=>have:=HG.out;omega
        ·
         have HN:Hid (∀W v9 w9,OL 1 3 w9 v9 (m+1) (izC (out++[x]))→App (.slice qo m co) v9 W w9→Below wl.heap.size wl W→MW a0 b0 l (.slice qz 0 cz) w v9 (m+1) (out++[x]) (some ⟨ba,oa+1,none⟩) (k) (ca - 1) (a) (some ⟨bb,ob+1,none⟩) (j) (cb - 1) (b) w9):=fun W v9 w9 h1 h2 h3=>by
          have h9:=(H.out.2.below h3).bothP hl h1 h2;rw[if_neg hc1]at h9;rw[if_neg hd1]at h9;exact h9
         have HOL:Hid (∀W,Below wl.heap.size wl W→OL 1 3 (W.alloc (.cells #[.int .i64 x] 3 (0,0))) (.slice qo m co) m (izC out)):=fun W h=>(H.out.2.below (h.alloc h.size (.cells #[.int .i64 x] 3 (0,0)))).ol
         have HF1:Hid (∀k,k<m→izC (out++[x]) k=izC out k):=fun k hk=>(izC_snoc out x).1 k (by rw[H.out.2.lm];exact hk)
         have HF2:Hid (izC (out++[x]) m=[.int .i64 x]):=by have h9:=(izC_snoc out x).2;rw[H.out.2.lm]at h9;exact h9
         have HG:=hide H.out.1;clear hx;clear H;go_wp2_with fail
         go_quiet (fail)
         obtain⟨w5,hw5⟩:∃w5,w4.drewN nq=w5:=⟨_,rfl⟩;rw[hw5];have HB5:Hid (Below wl.heap.size wl w5):=by rw[← hw5];exact⟨HB4.out.os,HB4.out.tape,HB4.out.output,HB4.out.size,HB4.out.block⟩
         have cy5:w5.cell? ⟨bb,ob,none⟩=some (.int .i64 x):=by rw[← hw5];exact cy4
         have lb5:bb<w5.heap.size:=by rw[← hw5];exact lb4
         clear hw5 cx4 la4 cy4 lb4;go_wp2_with fail
         go_quiet (fail)
         obtain⟨w6,hw6⟩:∃w6,w5.drewN nq=w6:=⟨_,rfl⟩;rw[hw6];have HB6:Hid (Below wl.heap.size wl w6):=by rw[← hw6];exact⟨HB5.out.os,HB5.out.tape,HB5.out.output,HB5.out.size,HB5.out.block⟩
         clear hw6 cy5 lb5;go_wp2_with (at_builtin;refine Euf.wpList_push rfl (.tmp 65) (.tmp 67) 35 rfl 1 3 _ 8 u_cloneI i_cloneI (by decide) rfl (by decide) (.slice qo m co) m (izC out) rfl [.int .i64 x] 3 (HOL.out _ HB6.out) (fun _ _=>rfl) 1 rfl rfl (by intro u hu;simp at hu;subst hu;rfl) (by omega) (izC (out++[x])) HF1.out HF2.out ?_;intro v9 w9 hol9 hap9 hne9)
         have hE9:=HN.out _ v9 w9 hol9 hap9 (HB6.out.alloc HB6.out.size _);obtain⟨q9,c9,hv9,-⟩:=hol9.shape;subst hv9;have HE:=hide hE9;clear hE9 hol9 hap9 hne9;go_wp2;go_roundg (k+(j))
         case rel=>exact⟨q9,m+1,c9,out++[x],some ⟨ba,oa+1,none⟩,k,ca - 1,a,some ⟨bb,ob+1,none⟩,j,cb - 1,b,rfl,by first|rfl|(simp;omega),by first|rfl|(simp;omega),rfl,HE.out⟩
         case measure=>have:=HG.out;omega
     ·
      have HOR:Hid (∀z∈x::a,bv y z):=fun z hz=>by
       rcases List.mem_cons.1 hz with rfl|hz
       · exact hor
       · exact bv_trans hor (H.out.2.mg.sa.tail.2 z hz)
      clear hor;by_cases hx:y=-l
      ·
       have hx1:(y != -l)=false:=by simpa using hx
       by_cases hd1:cb=1
       ·
        subst hd1;skip
        have HN:Hid (∀W,Below wl.heap.size wl W→MW a0 b0 l (.slice qz 0 cz) w (.slice qo m co) m out (some ⟨ba,oa,none⟩) (k+1) (ca) (x::a) (some ⟨bb,ob,none⟩) (j) (0) (b) W):=fun W h3=>by
         have h9:=(H.out.2.below h3).right HOR.out hx;rw[if_pos rfl]at h9;exact h9
        have HG:=hide H.out.1;clear hx;clear H HOR;go_wp2_with fail
        go_quiet (fail)
        obtain⟨w5,hw5⟩:∃w5,w4.drewN nq=w5:=⟨_,rfl⟩;rw[hw5];have HB5:Hid (Below wl.heap.size wl w5):=by rw[← hw5];exact⟨HB4.out.os,HB4.out.tape,HB4.out.output,HB4.out.size,HB4.out.block⟩
        clear hw5 cy4 lb4;have HB6:=HB5;have HE:=hide (HN.out _ HB6.out);go_wp2;go_roundg (k+1+(j))
        case rel=>exact⟨qo,m,co,out,some ⟨ba,oa,none⟩,k+1,ca,x::a,some ⟨bb,ob,none⟩,j,0,b,rfl,by first|rfl|(simp;omega),by first|rfl|(simp;omega),rfl,HE.out⟩
        case measure=>have:=HG.out;omega
       ·
        have HN:Hid (∀W,Below wl.heap.size wl W→MW a0 b0 l (.slice qz 0 cz) w (.slice qo m co) m out (some ⟨ba,oa,none⟩) (k+1) (ca) (x::a) (some ⟨bb,ob+1,none⟩) (j) (cb - 1) (b) W):=fun W h3=>by
         have h9:=(H.out.2.below h3).right HOR.out hx;rw[if_neg hd1]at h9;exact h9
        have HG:=hide H.out.1;clear hx;clear H HOR;go_wp2_with fail
        go_quiet (fail)
        obtain⟨w5,hw5⟩:∃w5,w4.drewN nq=w5:=⟨_,rfl⟩;rw[hw5];have HB5:Hid (Below wl.heap.size wl w5):=by rw[← hw5];exact⟨HB4.out.os,HB4.out.tape,HB4.out.output,HB4.out.size,HB4.out.block⟩
        clear hw5 cy4 lb4;have HB6:=HB5;have HE:=hide (HN.out _ HB6.out);go_wp2;go_roundg (k+1+(j))
        case rel=>exact⟨qo,m,co,out,some ⟨ba,oa,none⟩,k+1,ca,x::a,some ⟨bb,ob+1,none⟩,j,cb - 1,b,rfl,by first|rfl|(simp;omega),by first|rfl|(simp;omega),rfl,HE.out⟩
        case measure=>have:=HG.out;omega
      ·
       have hx1:(y != -l)=true:=by simpa using hx
       by_cases hd1:cb=1
       ·
        subst hd1;skip
        have HN:Hid (∀W v9 w9,OL 1 3 w9 v9 (m+1) (izC (out++[y]))→App (.slice qo m co) v9 W w9→Below wl.heap.size wl W→MW a0 b0 l (.slice qz 0 cz) w v9 (m+1) (out++[y]) (some ⟨ba,oa,none⟩) (k+1) (ca) (x::a) (some ⟨bb,ob,none⟩) (j) (0) (b) w9):=fun W v9 w9 h1 h2 h3=>by
         have h9:=(H.out.2.below h3).rightP HOR.out hx h1 h2;rw[if_pos rfl]at h9;exact h9
        have HOL:Hid (∀W,Below wl.heap.size wl W→OL 1 3 (W.alloc (.cells #[.int .i64 y] 3 (0,0))) (.slice qo m co) m (izC out)):=fun W h=>(H.out.2.below (h.alloc h.size (.cells #[.int .i64 y] 3 (0,0)))).ol
        have HF1:Hid (∀k,k<m→izC (out++[y]) k=izC out k):=fun k hk=>(izC_snoc out y).1 k (by rw[H.out.2.lm];exact hk)
        have HF2:Hid (izC (out++[y]) m=[.int .i64 y]):=by have h9:=(izC_snoc out y).2;rw[H.out.2.lm]at h9;exact h9
        have HG:=hide H.out.1;clear hx;clear H HOR;go_wp2_with fail
        go_quiet (fail)
        obtain⟨w5,hw5⟩:∃w5,w4.drewN nq=w5:=⟨_,rfl⟩;rw[hw5];have HB5:Hid (Below wl.heap.size wl w5):=by rw[← hw5];exact⟨HB4.out.os,HB4.out.tape,HB4.out.output,HB4.out.size,HB4.out.block⟩
        clear hw5 cy4 lb4;have HB6:=HB5;go_wp2_with (at_builtin;refine Euf.wpList_push rfl (.tmp 65) (.tmp 67) 35 rfl 1 3 _ 8 u_cloneI i_cloneI (by decide) rfl (by decide) (.slice qo m co) m (izC out) rfl [.int .i64 y] 3 (HOL.out _ HB6.out) (fun _ _=>rfl) 1 rfl rfl (by intro u hu;simp at hu;subst hu;rfl) (by omega) (izC (out++[y])) HF1.out HF2.out ?_;intro v9 w9 hol9 hap9 hne9)
        have hE9:=HN.out _ v9 w9 hol9 hap9 (HB6.out.alloc HB6.out.size _);obtain⟨q9,c9,hv9,-⟩:=hol9.shape;subst hv9;have HE:=hide hE9;clear hE9 hol9 hap9 hne9;go_wp2;go_roundg (k+1+(j))
        case rel=>exact⟨q9,m+1,c9,out++[y],some ⟨ba,oa,none⟩,k+1,ca,x::a,some ⟨bb,ob,none⟩,j,0,b,rfl,by first|rfl|(simp;omega),by first|rfl|(simp;omega),rfl,HE.out⟩
        case measure=>have:=HG.out;omega
       ·
        have HN:Hid (∀W v9 w9,OL 1 3 w9 v9 (m+1) (izC (out++[y]))→App (.slice qo m co) v9 W w9→Below wl.heap.size wl W→MW a0 b0 l (.slice qz 0 cz) w v9 (m+1) (out++[y]) (some ⟨ba,oa,none⟩) (k+1) (ca) (x::a) (some ⟨bb,ob+1,none⟩) (j) (cb - 1) (b) w9):=fun W v9 w9 h1 h2 h3=>by
         have h9:=(H.out.2.below h3).rightP HOR.out hx h1 h2;rw[if_neg hd1]at h9;exact h9
        have HOL:Hid (∀W,Below wl.heap.size wl W→OL 1 3 (W.alloc (.cells #[.int .i64 y] 3 (0,0))) (.slice qo m co) m (izC out)):=fun W h=>(H.out.2.below (h.alloc h.size (.cells #[.int .i64 y] 3 (0,0)))).ol
        have HF1:Hid (∀k,k<m→izC (out++[y]) k=izC out k):=fun k hk=>(izC_snoc out y).1 k (by rw[H.out.2.lm];exact hk)
        have HF2:Hid (izC (out++[y]) m=[.int .i64 y]):=by have h9:=(izC_snoc out y).2;rw[H.out.2.lm]at h9;exact h9
        have HG:=hide H.out.1;clear hx;clear H HOR;go_wp2_with fail
        go_quiet (fail)
        obtain⟨w5,hw5⟩:∃w5,w4.drewN nq=w5:=⟨_,rfl⟩;rw[hw5];have HB5:Hid (Below wl.heap.size wl w5):=by rw[← hw5];exact⟨HB4.out.os,HB4.out.tape,HB4.out.output,HB4.out.size,HB4.out.block⟩
        clear hw5 cy4 lb4;have HB6:=HB5;go_wp2_with (at_builtin;refine Euf.wpList_push rfl (.tmp 65) (.tmp 67) 35 rfl 1 3 _ 8 u_cloneI i_cloneI (by decide) rfl (by decide) (.slice qo m co) m (izC out) rfl [.int .i64 y] 3 (HOL.out _ HB6.out) (fun _ _=>rfl) 1 rfl rfl (by intro u hu;simp at hu;subst hu;rfl) (by omega) (izC (out++[y])) HF1.out HF2.out ?_;intro v9 w9 hol9 hap9 hne9)
        have hE9:=HN.out _ v9 w9 hol9 hap9 (HB6.out.alloc HB6.out.size _);obtain⟨q9,c9,hv9,-⟩:=hol9.shape;subst hv9;have HE:=hide hE9;clear hE9 hol9 hap9 hne9;go_wp2;go_roundg (k+1+(j))
        case rel=>exact⟨q9,m+1,c9,out++[y],some ⟨ba,oa,none⟩,k+1,ca,x::a,some ⟨bb,ob+1,none⟩,j,cb - 1,b,rfl,by first|rfl|(simp;omega),by first|rfl|(simp;omega),rfl,HE.out⟩
        case measure=>have:=HG.out;omega
end Sat
namespace Sat
open Euf (OL App)
theorem sort_same {α:Type} [Inhabited α] (enc:α→Value) (w:World) (g m:Nat) (d:Array α) (os:Array Obj) (hH:Holds enc w g 0 d):Below w.heap.size w (sortWorld enc w g 0 m d os):=by
 have e:putRow enc (Sort.ahead w m) g 0 d=Sort.ahead w m:=putRow_self enc (Sort.ahead w m) g 0 d (holds_ahead enc w m g 0 d hH);unfold sortWorld;rw[e];exact⟨rfl,rfl,rfl,by show _≤(w.heap++os).size;simp,fun b hb=>by show (w.heap++os)[b]?=_;rw[Array.getElem?_append_left hb]⟩
theorem count_mem [Inhabited I6] (xs:List I6) (hs:Srt (xs.map (·.1))) (l:Int):(xs.countP (fun x=>decide (cmpV x.1 l<0))<xs.length∧cmpV (xs[xs.countP (fun x=>decide (cmpV x.1 l<0))]!).1 l=0)↔l∈xs.map (·.1):=by
 constructor
 · rintro⟨h1,h2⟩;rw[getElem!_pos xs _ h1]at h2;have:=(cmpV_zero _ _).1 h2;rw[← this];exact List.mem_map_of_mem (List.getElem_mem h1)
 ·
  intro h;obtain⟨i,hi,e⟩:=List.mem_iff_getElem.1 h;have hi':i<xs.length:=by simpa using hi
  rw[List.getElem_map]at e;have pw:∀a b (ha:a<xs.length) (hb:b<xs.length),a<b→bv xs[a].1 xs[b].1:=fun a b ha hb h=>by
   have h9:=List.pairwise_iff_getElem.1 hs a b (by simpa using ha) (by simpa using hb) h
   simpa using h9
  have hc:xs.countP (fun x=>decide (cmpV x.1 l<0))=i:=by
   refine Lib.countP_boundary _ xs i (by omega) (fun t ht=>?_) (fun t h1 h2=>?_)
   ·
    rw[getElem!_pos xs t (by omega)]
    have:=pw t i (by omega) hi' ht
    rw[e]at this;simpa using (cmpV_lt _ _).2 this
   ·
    rw[getElem!_pos xs t h2];have:¬ bv xs[t].1 l:=by
     by_cases et:t=i
     · subst et;rw[e];exact bv_irr l
     ·
      have h9:=pw i t hi' h2 (by omega)
      rw[e]at h9;exact bv_asymm h9
    have h9:¬ cmpV xs[t].1 l<0:=fun h=>this ((cmpV_lt _ _).1 h)
    simpa using h9
  rw[hc];refine⟨hi',?_⟩;rw[getElem!_pos xs i hi',e];exact (cmpV_zero l l).2 rfl
set_option maxRecDepth 20000 in
set_option maxHeartbeats 4000000 in
theorem has_any (v:Value) (s:List Int) (l:Int) (w:World) (hol:OL 1 3 w v s.length (izC s)) (hs:Srt s) (ok:∀z∈s,InI z) (hl:InI l) (hn:s.length≤1000000) :
  Calls Tryz.prog 116 #[v,.int .i64 l] w fun e w'=>BoolE e (l∈s)∧Below w.heap.size w w':=by
 haveI:Inhabited I6:=⟨I6.zero⟩
 obtain⟨q,cap,hv,-⟩:=hol.shape;have HB:Hid (Calls Tryz.prog 137 #[v,.int .i64 l,.func (.func 49) #[] #[]] w fun e w'=>(∃k b,e=.returned (.tuple #[.int .i64 k,.bool b])∧Hid (b=true↔l∈s))∧Below w.heap.size w w'):=by
  rcases hol with⟨rfl,h0⟩|⟨g,cap9,cur,rfl,hg,k1,k2,k3,k4⟩
  · have hx:s=[]:=List.eq_nil_of_length_eq_zero h0;subst hx;refine (Any.slices_BinarySearchFunc_none (P:=Tryz.prog) (ρ:=Tryz.binF_ren) Tryz.binF none 0 (.int .i64 l) (.func (.func 49) #[] #[]) w).mono ?_;rintro e w' ⟨rfl,rfl⟩;exact⟨⟨0,false,rfl,⟨fun h=>(by cases h),fun h=>(by cases h)⟩⟩,Below.refl _ _⟩
  ·
   obtain⟨xs,hxs⟩:=I6.of s ok;have hlen:xs.length=s.length:=by rw[← hxs,List.length_map]
   have hH:Holds I6.enc w g 0 xs.toArray:=by
    intro j hj;have hj':j<xs.length:=by simpa using hj
    refine⟨?_,frozen_of_row w g _ cur 3 hg⟩;rw[cell_of_row w g _ cur 3 (0,0) hg];have:=k4 j (by omega) 0 (by omega)
    rw[Nat.mul_one,Nat.add_zero]at this;rw[Nat.zero_add,this];have e9:s.getD j 0=xs[j].1:=by simp[← hxs,hj']
    simp[izC,I6.enc,hj',← hxs]
   have hgl:g<w.heap.size:=(Array.getElem?_eq_some_iff.1 hg).1;have hc:=Any.slices_BinarySearchFunc (P:=Tryz.prog) (ρ:=Tryz.binF_ren) Tryz.binF I6.enc (fun _=>rfl) (.int .i64 l) (fun x:I6=>cmpV x.1 l) 49 #[] g 0 cap9 xs.toArray w (enters_of Tryz.func49 (by kernel_rfl) rfl) (fun m os dk hdk x=>by
    refine (byVariable_any x.1 l _ x.2 hl).mono ?_;rintro e w' ⟨he,q9,os9,hw⟩;exact⟨he,q9,os9,hw⟩) hH hgl (by simp;omega) (fun a b hab hb h=>by
    have hb':b<xs.length:=by simpa using hb
    have e1:xs.toArray[b]! = xs[b]:=by rw[getElem!_pos xs.toArray b (by simpa using hb')];simp
    have e2:xs.toArray[a]! = xs[a]:=by rw[getElem!_pos xs.toArray a (by simp;omega)];simp
    rw[e1]at h;rw[e2];rcases Nat.lt_or_eq_of_le hab with h9|h9
    ·
     have pw:=List.pairwise_iff_getElem.1 hs a b (by rw[← hxs];simp;omega) (by rw[← hxs];simpa using hb') h9
     have e3:s[a]'(by omega)=xs[a].1:=by simp[← hxs]
     have e4:s[b]'(by omega)=xs[b].1:=by simp[← hxs]
     rw[e3,e4]at pw;exact (cmpV_lt _ _).2 (bv_trans pw ((cmpV_lt _ _).1 h))
    · subst h9;exact h)
   have e0:xs.toArray.size=s.length:=by simp[hlen]
   rw[e0]at hc;refine hc.mono ?_;rintro e w' ⟨he,m,os,hw⟩;refine⟨⟨_,_,he,?_⟩,by rw[hw];exact sort_same I6.enc w g m xs.toArray os hH⟩
   have h9:=count_mem xs (by rw[hxs];exact hs) l
   rw[hxs,hlen]at h9;rw[← h9];simp;exact trivial
 subst hv;have HB2:=HB;clear HB hol hs ok;generalize s.length=ns at *;go_enter Tryz.func116,Tryz.ntmps116;go_wp2_with fail
 refine HB2.out.mono ?_;rintro e w1 ⟨⟨k,b,rfl,hb⟩,bl⟩;have HE:Hid (BoolE (.returned (.bool b)) (l∈s)∧Below w.heap.size w w1):=⟨⟨b,rfl,hb.out⟩,bl⟩;clear hb bl HB2;go_wp2;go_ret
 exact HE.out
end Sat
end Go.Proofs.YtbmkkhpoaicclabGreat
