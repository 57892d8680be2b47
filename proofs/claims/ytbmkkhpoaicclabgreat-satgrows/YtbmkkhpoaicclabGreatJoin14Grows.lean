/- Joined: SatZa, SatMk, SatZb: words and contracts; no statement of the seat is proved here. -/
import Derived.Test.YtbmkkhpoaicclabGreatJoin13Grows
import Derived.Lib.SliceRun
import Derived.Lib.AppendZeros
import Derived.BigQuiet
namespace Go.Proofs.YtbmkkhpoaicclabGreat
open Go Go.RowKit Go.Sort Go.Shelf
set_option linter.unusedVariables false
namespace Sat
open Euf (OL App)
def InI (z:Int):Prop:=-9223372036854775808≤z∧z<9223372036854775808
structure IL (w:World) (q:Option Addr) (n cap:Nat) (zs:List Int):Prop where
  len:zs.length=n
  le:n≤cap
  mx:cap≤maxLen
  nl:q=none→cap=0
  at_:zs=[]∨∃b off,q=some ⟨b,off,none⟩∧b<w.heap.size∧∀i,i<n→w.cell? ⟨b,off+i,none⟩=some (.int .i64 (zs.getD i 0))
  ok:∀z∈zs,InI z
def izC (zs:List Int) (i:Nat):List Value:=[.int .i64 (zs.getD i 0)]
theorem IL.keep {w w':World} {q:Option Addr} {n cap:Nat} {zs:List Int} (h:IL w q n cap zs) (hs:w.heap.size≤w'.heap.size) (hb:zs≠[]→∀b off,q=some ⟨b,off,none⟩→b<w.heap.size→w'.heap[b]?=w.heap[b]?):IL w' q n cap zs:=by
 refine⟨h.len,h.le,h.mx,h.nl,?_,h.ok⟩;by_cases e:zs=[]
 · exact Or.inl e
 ·
  rcases h.at_ with e9|⟨b,off,h1,h2,h3⟩
  · exact absurd e9 e
  · exact Or.inr ⟨b,off,h1,by omega,fun i hi=>(World.cell?_of_block (a:=⟨b,off+i,none⟩) (hb e b off h1 h2)).trans (h3 i hi)⟩
theorem IL.below {w w':World} {q:Option Addr} {n cap:Nat} {zs:List Int} (h:IL w q n cap zs) (hb:Below w.heap.size w w'):IL w' q n cap zs:=h.keep hb.size (fun _ b _ _ hl=>hb.block b hl)
theorem OL.il {w:World} {v:Value} {zs:List Int} (h:OL 1 3 w v zs.length (izC zs)) (ok:∀z∈zs,InI z):∃q cap,v=.slice q zs.length cap∧IL w q zs.length cap zs:=by
 rcases h with⟨rfl,h0⟩|⟨g,cap,cur,rfl,hg,k1,k2,k3,k4⟩
 · rw[h0];exact⟨none,0,rfl,by rw[h0],Nat.le_refl _,Nat.zero_le _,fun _=>rfl,Or.inl (List.eq_nil_of_length_eq_zero h0),ok⟩
 ·
  refine⟨some ⟨g,0,none⟩,cap,rfl,rfl,k1,k2,(fun e=>by cases e),Or.inr ⟨g,0,rfl,(Array.getElem?_eq_some_iff.1 hg).1,fun i hi=>?_⟩,ok⟩
  rw[cell_of_row w g _ cur 3 (0,0) hg];have:=k4 i hi 0 (by omega)
  rw[Nat.mul_one,Nat.add_zero]at this;rw[Nat.zero_add,this];rfl
/-! ## The order -/
theorem unsigned_any (x:Int) (w:World) (hx:InI x):Calls Tryz.prog 81 #[.int .i64 x] w fun e w'=>e=.returned (.int .u64 (x.natAbs:Nat))∧w'=w:=by
 obtain⟨h1,h2⟩:=hx;by_cases h:x<0
 ·
  have e1:IntKind.u64.wrap x=x+18446744073709551616:=by unfold IntKind.wrap IntKind.bits;simp[IntKind.signed]<;>omega
  have e2:IntKind.u64.wrap (-(x+18446744073709551616))=((x.natAbs:Nat):Int):=by unfold IntKind.wrap IntKind.bits;simp[IntKind.signed]<;>omega
  go_enter Tryz.func81,Tryz.ntmps81;go_wp2;go_ret
  exact⟨rfl,rfl⟩
 ·
  have e1:IntKind.u64.wrap x=((x.natAbs:Nat):Int):=by unfold IntKind.wrap IntKind.bits;simp[IntKind.signed]<;>omega
  go_enter Tryz.func81,Tryz.ntmps81;go_wp2;go_ret
  exact⟨rfl,rfl⟩
theorem isNaNU_any (x:Int) (w:World):Calls Tryz.prog 110 #[.int .u64 x] w fun e w'=>e=.returned (.bool false)∧w'=w:=by
 go_enter Tryz.func110,Tryz.ntmps110;go_wp2;go_ret
 exact⟨rfl,rfl⟩
theorem compareU_any (x y:Int) (w:World):Calls Tryz.prog 80 #[.int .u64 x,.int .u64 y] w fun e w'=>e=.returned (.int .i64 (cmpI x y))∧w'=w:=by
 have HN:=hide (fun x w=>isNaNU_any x w)
 by_cases h1:x<y
 ·
  have HE:Hid (cmpI x y=-1):=by show (if _ then _ else _)=_;rw[if_pos h1]
  go_enter Tryz.func80,Tryz.ntmps80;go_wp2_with (go_at_call 110;refine (HN.out _ _).mono ?_;rintro e w9 ⟨rfl,hw9⟩;obtain rfl:=hw9.symm)
  go_ret
  exact⟨by rw[HE.out];rfl,rfl⟩
 ·
  by_cases h2:y<x
  ·
   have HE:Hid (cmpI x y=1):=by show (if _ then _ else _)=_;rw[if_neg h1,if_pos h2]
   go_enter Tryz.func80,Tryz.ntmps80;go_wp2_with (go_at_call 110;refine (HN.out _ _).mono ?_;rintro e w9 ⟨rfl,hw9⟩;obtain rfl:=hw9.symm)
   go_ret
   exact⟨by rw[HE.out];rfl,rfl⟩
  ·
   have HE:Hid (cmpI x y=0):=by show (if _ then _ else _)=_;rw[if_neg h1,if_neg h2]
   go_enter Tryz.func80,Tryz.ntmps80;go_wp2_with (go_at_call 110;refine (HN.out _ _).mono ?_;rintro e w9 ⟨rfl,hw9⟩;obtain rfl:=hw9.symm)
   go_ret
   exact⟨by rw[HE.out];rfl,rfl⟩
theorem or_any (b:Nat) (x y:Int) (w:World) (c0:w.cell? ⟨b,0,none⟩=some (.int .i64 x)) (c1:w.cell? ⟨b,1,none⟩=some (.int .i64 y)) (lb:b<w.heap.size) :
  Calls Tryz.prog 79 #[.slice (some ⟨b,0,none⟩) 2 2] w fun e w'=>e=.returned (.int .i64 (if x=0 then y else x))∧w'=w:=by
 by_cases hx:x=0
 ·
  subst hx;by_cases hy:y=0
  ·
   subst hy;go_enter Tryz.func79,Tryz.ntmps79;go_wp2;go_loopw [8] (fun v8 wr=>∃(i:Nat),v8=.int .i64 (i:Nat)∧i≤2∧w=wr) (fun v _=>2 - (intOf v).toNat)
   case atStart=>exact⟨0,rfl,by omega,rfl⟩
   case round =>
    obtain⟨i,rfl,hi,rfl⟩:=hrel;rcases (show i=0∨i=1∨i=2 by omega) with rfl|rfl|rfl
    ·
     go_wp2;go_roundw
     case rel=>first|exact⟨1,rfl,by omega,rfl⟩|exact⟨1,rfl,by omega,trivial⟩
     case measure=>simp[intOf]
    ·
     go_wp2;go_roundw
     case rel=>first|exact⟨2,rfl,by omega,rfl⟩|exact⟨2,rfl,by omega,trivial⟩
     case measure=>simp[intOf]
    ·
     go_wp2;go_ret
     first|exact⟨rfl,rfl⟩|exact⟨rfl,trivial⟩
  ·
   have hyI:¬ (y=0):=hy;have hyB:(y != 0)=true:=by simpa using hy
   go_enter Tryz.func79,Tryz.ntmps79;go_wp2;go_loopw [8] (fun v8 wr=>∃(i:Nat),v8=.int .i64 (i:Nat)∧i≤1∧w=wr) (fun v _=>2 - (intOf v).toNat)
   case atStart=>exact⟨0,rfl,by omega,rfl⟩
   case round =>
    obtain⟨i,rfl,hi,rfl⟩:=hrel;rcases (show i=0∨i=1 by omega) with rfl|rfl
    ·
     go_wp2;go_roundw
     case rel=>first|exact⟨1,rfl,by omega,rfl⟩|exact⟨1,rfl,by omega,trivial⟩
     case measure=>simp[intOf]
    ·
     go_wp2;go_ret
     first|exact⟨rfl,rfl⟩|exact⟨rfl,trivial⟩
 ·
  have hxI:¬ (x=0):=hx;have hxB:(x != 0)=true:=by simpa using hx
  have HE:Hid ((if x=0 then y else x)=x):=by show (if _ then _ else _)=_;rw[if_neg hx]
  go_enter Tryz.func79,Tryz.ntmps79;go_wp2;go_loopw [8] (fun v8 wr=>v8=.int .i64 0∧w=wr) (fun v _=>2 - (intOf v).toNat)
  case atStart=>exact⟨rfl,rfl⟩
  case round =>
   obtain⟨rfl,rfl⟩:=hrel;go_wp2;go_ret
   first|exact⟨rfl,rfl⟩|exact⟨rfl,trivial⟩
def cmpV (a b:Int):Int:=if cmpI (a.natAbs:Nat) (b.natAbs:Nat)=0 then cmpI a b else cmpI (a.natAbs:Nat) (b.natAbs:Nat)
theorem byVariable_any (x y:Int) (w:World) (hx:InI x) (hy:InI y):Calls Tryz.prog 49 #[.int .i64 x,.int .i64 y] w fun e w'=>e=.returned (.int .i64 (cmpV x y))∧∃q os,w'=grow (w.drewN q) os:=by
 have H1:Hid (∀w,Calls Tryz.prog 81 #[.int .i64 x] w fun e w'=>e=.returned (.int .u64 (x.natAbs:Nat))∧w'=w):=fun w=>unsigned_any x w hx
 have H2:Hid (∀w,Calls Tryz.prog 81 #[.int .i64 y] w fun e w'=>e=.returned (.int .u64 (y.natAbs:Nat))∧w'=w):=fun w=>unsigned_any y w hy
 have H3:=hide (fun x y w=>compareU_any x y w)
 have H4:=hide (fun x y w=>compare_any x y w)
 have H5:=hide (fun b x y w c0 c1 lb=>or_any b x y w c0 c1 lb)
 have HE:Hid (cmpV x y=if cmpI (x.natAbs:Nat) (y.natAbs:Nat)=0 then cmpI x y else cmpI (x.natAbs:Nat) (y.natAbs:Nat)):=rfl
 obtain⟨c1,hc1⟩:∃c1,cmpI (x.natAbs:Nat) (y.natAbs:Nat)=c1:=⟨_,rfl⟩;obtain⟨c2,hc2⟩:∃c2,cmpI x y=c2:=⟨_,rfl⟩;have H3':Hid (∀w,Calls Tryz.prog 80 #[.int .u64 (x.natAbs:Nat),.int .u64 (y.natAbs:Nat)] w fun e w'=>e=.returned (.int .i64 c1)∧w'=w):=fun w=>by have h9:=H3.out (x.natAbs:Nat) (y.natAbs:Nat) w;rwa [hc1]at h9
 have H4':Hid (∀w,Calls Tryz.prog 82 #[.int .i64 x,.int .i64 y] w fun e w'=>e=.returned (.int .i64 c2)∧w'=w):=fun w=>by have h9:=H4.out x y w;rwa [hc2]at h9
 rw[hc1,hc2]at HE;obtain⟨w1,hw1⟩:∃w1,w.alloc (.cells #[.int .i64 c1,.int .i64 c2] 3 (0,0))=w1:=⟨_,rfl⟩;have k0:w1.cell? ⟨w.heap.size,0,none⟩=some (.int .i64 c1):=by rw[← hw1];exact cell_of_row _ _ 0 _ 3 (0,0) (heap_alloc_new w _)
 have k1:w1.cell? ⟨w.heap.size,1,none⟩=some (.int .i64 c2):=by rw[← hw1];exact cell_of_row _ _ 1 _ 3 (0,0) (heap_alloc_new w _)
 have H5':=hide (H5.out w.heap.size c1 c2 w1 k0 k1 (by rw[← hw1];simp))
 rw[← HE.out]at H5';have HW:Hid (∃q os,w1=grow (w.drewN q) os):=⟨0,#[.cells #[.int .i64 c1,.int .i64 c2] 3 (0,0)],by rw[← hw1];rfl⟩
 obtain⟨nx,hnx⟩:∃nx:Int,((x.natAbs:Nat):Int)=nx:=⟨_,rfl⟩;obtain⟨ny,hny⟩:∃ny:Int,((y.natAbs:Nat):Int)=ny:=⟨_,rfl⟩;rw[hnx,hny]at H3';have HU:Hid (∀z nz:Int,(z=x∧nz=nx)∨(z=y∧nz=ny)→∀w,Calls Tryz.prog 81 #[.int .i64 z] w fun e w'=>e=.returned (.int .u64 nz)∧w'=w):=fun z nz h w=>by
  rcases h with⟨rfl,rfl⟩|⟨rfl,rfl⟩
  · rw[← hnx];exact H1.out w
  · rw[← hny];exact H2.out w
 have HUx:=hide (HU.out x nx (Or.inl ⟨rfl,rfl⟩));have HUy:=hide (HU.out y ny (Or.inr ⟨rfl,rfl⟩));clear H1 H2 HU H3 H4 H5 k0 k1 hc1 hc2 hx hy hnx hny;generalize cmpV x y=cv at *;go_enter Tryz.func49,Tryz.ntmps49;go_wp2_with fail
 refine (HUx.out _).mono ?_;rintro e w9 ⟨rfl,hw9⟩;obtain rfl:=hw9.symm;go_wp2_with fail
 refine (HUy.out _).mono ?_;rintro e w9 ⟨rfl,hw9⟩;obtain rfl:=hw9.symm;go_wp2_with (first|(go_at_call 80;refine (H3'.out _).mono ?_;rintro e w9 ⟨rfl,hw9⟩;obtain rfl:=hw9.symm)|(go_at_call 82;refine (H4'.out _).mono ?_;rintro e w9 ⟨rfl,hw9⟩;obtain rfl:=hw9.symm)|(go_at_call 79;refine H5'.out.mono ?_;rintro e w9 ⟨rfl,hw9⟩;obtain rfl:=hw9.symm))
 go_ret
 exact⟨rfl,HW.out⟩
end Sat
open Go Go.RowKit
namespace Sat
open Euf (OL App)
theorem madeCells_get (z:Array Value) (n i j:Nat) (hi:i<n) (hj:j<z.size):(madeCells z (n*z.size))[i*z.size+j]?=z[j]?:=by
 have h1:i*z.size+j<n*z.size:=by
  have:=Nat.mul_le_mul_right z.size (show i+1≤n by omega)
  rw[Nat.add_mul]at this;omega
 have h2:(i*z.size+j) % z.size=j:=by rw[Nat.mul_add_mod_self_right,Nat.mod_eq_of_lt hj]
 unfold madeCells;rw[Array.getElem?_map,Array.getElem?_range,if_pos h1,Option.map_some,h2,getElem!_pos z j hj,Array.getElem?_eq_getElem hj]
theorem wpList_make_ol {P:Program} (w:World) {ops:Array Oper} {rest:List Oper} {o:Oper} {a:Act} {Q:Exit→Act→World→Prop}
  (hg:o.guard=none) (l c:Operand) (t:TypeId) (hop:o.op=Op.makeSlice t l c)
  (e:TypeId) (z:Value) (sz bytes:Nat) (h1:P.underlying t=some (.slice e)) (h2:(P.info? e).map (fun i=>(i.zero,i.size,i.bytes))=some (some z,sz,bytes)) (hzs:z.cells.size=sz)
  (kl kc:IntKind) (L C:Int) (n m:Nat) (hl:a.eval l=.int kl L) (hc:a.eval c=.int kc C) (hL:L=(n:Int)) (hC:C=(m:Int)) (hnm:n≤m) (hby:bytes≤1000) (hmm:m≤1000000000)
  (hK:∀w',OL sz e w' (.slice (some ⟨w.heap.size,0,none⟩) n m) n (fun _=>z.cells.toList)→Below w.heap.size w w'→w'.heap.size=w.heap.size+1→wpList P ops Q rest (a.put o.dst (.slice (some ⟨w.heap.size,0,none⟩) n m)) w') :
  wpList P ops Q (o::rest) a w:=by
 obtain⟨i,hi,hz0,hz1,hz2⟩:=info_parts h2;subst hL;subst hC;have hmx:2000000000≤maxLen:=by unfold maxLen;decide
 refine wpList_plain hg fun K hK'=>?_
 have b2:bytes*m≤1000*1000000000:=Nat.mul_le_mul hby hmm;have b3':(m:Int)≤9223372036854775807:=by omega
 have hb':(i.bytes:Int)*(m:Int)≤281474976710656:=by
  rw[hz2];have h:((bytes*m:Nat):Int)≤281474976710656:=by omega
  rwa [Int.natCast_mul]at h
 have hr:=run_make (P:=P) w t e i z h1 hi hz0 kl kc n m (by omega) (by omega) hb' b3'
 simp only[Int.toNat_natCast,hz1]at hr;unfold Oper.wp;simp only[execOp,hop,hl,hc,Sem.run_bind,hr,Result.andThen_ok,Sem.run_pure];refine hK' _ _ (hK _ ?_ ?_ ?_)
 ·
  refine Or.inr ⟨w.heap.size,m,_,rfl,heap_alloc_new w _,hnm,by omega,by rw[size_madeCells],fun i9 hi9 j9 hj9=>?_⟩
  have h9:=madeCells_get z.cells m i9 j9 (by omega) (by omega)
  rw[hzs]at h9;rw[h9];simp
 · exact (Below.refl _ _).alloc (Nat.le_refl _) _
 · simp
end Sat
namespace Sat
open Euf (OL App)
theorem getD_of {zs:List Int} {i:Nat} (hi:i<zs.length):zs.getD i 0∈zs:=by
 rw[List.getD_eq_getElem?_getD,List.getElem?_eq_getElem hi];exact List.getElem_mem hi
def BoolE (e:Ending) (p:Prop):Prop:=∃b,e=.returned (.bool b)∧(b=true↔p)
theorem BoolE.t {p:Prop} (h:p):BoolE (.returned (.bool true)) p:=⟨true,rfl,fun _=>h,fun _=>rfl⟩
theorem BoolE.f {p:Prop} (h:¬ p):BoolE (.returned (.bool false)) p:=⟨false,rfl,fun h=>(by cases h),fun h9=>absurd h9 h⟩
def Okl (v:Nat) (z:Int):Prop:=z≠0∧-(v:Int)≤z∧z≤v
set_option maxRecDepth 20000 in
set_option maxHeartbeats 4000000 in
theorem within_any (q:Option Addr) (n cap:Nat) (zs:List Int) (v:Nat) (w:World) (h:IL w q n cap zs) (hv:v≤5000) :
  Calls Tryz.prog 32 #[.slice q n cap,.int .i64 (v:Nat)] w fun e w'=>BoolE e (∀z∈zs,Okl v z)∧w'=w:=by
 have hnI:(n:Int)≤9223372036854775807:=by have h1:=h.le;have h2:=h.mx;unfold maxLen at h2;omega
 have hvI:(v:Int)≤5000:=by omega
 have H:=hide h;clear h;go_enter Tryz.func32,Tryz.ntmps32;go_wp2;go_loopw [9] (fun v9 wr=>∃(i:Nat),v9=.int .i64 (i:Nat)∧i≤n∧Hid (w=wr∧∀j,j<i→Okl v (zs.getD j 0))) (fun v _=>n - (intOf v).toNat)
 case atStart=>exact⟨0,rfl,Nat.zero_le _,rfl,fun j hj=>absurd hj (Nat.not_lt_zero _)⟩
 case round =>
  rename World=>wl
  obtain⟨i,rfl,hi,HJ⟩:=hrel;obtain rfl:=HJ.out.1;by_cases hlt:i<n
  ·
   have hltI:(i:Int)<(n:Int):=by omega
   have hl:=H.out.len;rcases H.out.at_ with h0|⟨b,off,rfl,lb,hc⟩
   · rw[h0]at hl;simp at hl;omega
   ·
    have ci:=hc i hlt;obtain⟨z,hz⟩:∃z,zs.getD i 0=z:=⟨_,rfl⟩;have hzm:z∈zs:=by rw[← hz];exact getD_of (by omega)
    have hzi:=H.out.ok z hzm;obtain⟨z1,z2⟩:=hzi;rw[hz]at ci;have HZ:=hide (And.intro hz hzm);clear hc hl hz hzm;have bad:Hid (¬ Okl v z→BoolE (.returned (.bool false)) (∀z∈zs,Okl v z)):=fun hb=>BoolE.f (fun h=>hb (h z HZ.out.2))
    by_cases k1:z=0
    ·
     have HB:=hide (bad.out (fun h=>h.1 k1))
     subst k1;clear bad;go_wp2;go_ret
     exact⟨HB.out,rfl⟩
    ·
     have k1B:(z == 0)=false:=by simpa using k1
     by_cases k2:z < -(v:Int)
     ·
      have HB:=hide (bad.out (fun h=>by have:=h.2.1;omega))
      clear bad;go_wp2;go_ret
      exact⟨HB.out,rfl⟩
     ·
      by_cases k3:(v:Int)<z
      ·
       have HB:=hide (bad.out (fun h=>by have:=h.2.2;omega))
       clear bad;go_wp2;go_ret
       exact⟨HB.out,rfl⟩
      ·
       have HE:Hid (∀j,j<i+1→Okl v (zs.getD j 0)):=fun j hj=>by
        by_cases e:j=i
        · subst e;rw[HZ.out.1];exact⟨k1,by omega,by omega⟩
        · exact HJ.out.2 j (by omega)
       clear bad;go_wp2;go_roundw
       case rel=>exact⟨i+1,by go_num,by omega,by first|rfl|trivial,HE.out⟩
       case measure=>simp[intOf]<;>omega
  ·
   have hltI:¬ ((i:Int)<(n:Int)):=by omega
   obtain rfl:i=n:=by omega
   have HE:Hid (BoolE (.returned (.bool true)) (∀z∈zs,Okl v z)):=by
    refine BoolE.t (fun z hz=>?_)
    obtain⟨j,hj,rfl⟩:=List.mem_iff_getElem.1 hz;have h9:=HJ.out.2 j (by have:=H.out.len;omega)
    rwa [List.getD_eq_getElem?_getD,List.getElem?_eq_getElem hj]at h9
   go_wp2;go_ret
   exact⟨HE.out,rfl⟩
set_option maxRecDepth 20000 in
set_option maxHeartbeats 4000000 in
theorem alwaysTrue_any (q:Option Addr) (n cap:Nat) (zs:List Int) (w:World) (h:IL w q n cap zs) (hs:∀z∈zs,-5000≤z∧z≤5000) :
  Calls Tryz.prog 33 #[.slice q n cap] w fun e w'=>BoolE e (∃j,j+1<n∧zs.getD j 0=- zs.getD (j+1) 0)∧∃k,w'=w.drewN k:=by
 have hnI:(n:Int)≤9223372036854775807:=by have h1:=h.le;have h2:=h.mx;unfold maxLen at h2;omega
 have H:=hide (And.intro h hs);clear h hs;go_enter Tryz.func33,Tryz.ntmps33;go_wp2;go_loopw [3] (fun v3 wr=>∃(i:Nat),v3=.int .i64 (i:Nat)∧1≤i∧(i≤n∨i=1)∧Hid ((∃k,wr=w.drewN k)∧∀j,j+1<i→zs.getD j 0≠- zs.getD (j+1) 0)) (fun v _=>n - (intOf v).toNat)
 case atStart=>exact⟨1,rfl,Nat.le_refl _,Or.inr rfl,⟨0,rfl⟩,fun j hj=>by omega⟩
 case round =>
  rename World=>wl
  obtain⟨i,rfl,hi1,hi2,HJ⟩:=hrel;have hi1I:(1:Int)≤(i:Int):=by omega
  by_cases hlt:i<n
  ·
   have hltI:(i:Int)<(n:Int):=by omega
   obtain⟨p,rfl⟩:∃p,i=p+1:=⟨i - 1,by omega⟩
   have hl:=H.out.1.len;rcases H.out.1.at_ with h0|⟨b,off,rfl,lb,hc⟩
   · rw[h0]at hl;simp at hl;omega
   ·
    have hcell:∀j,j<n→wl.cell? ⟨b,off+j,none⟩=some (.int .i64 (zs.getD j 0)):=by
     intro j hj;obtain⟨k,hk⟩:=HJ.out.1;rw[hk];exact hc j hj
    have lb':b<wl.heap.size:=by obtain⟨k,hk⟩:=HJ.out.1;rw[hk];exact lb
    have ci:=hcell (p+1) hlt;have cp:=hcell p (by omega)
    have s1:=H.out.2 _ (getD_of (zs:=zs) (i:=p+1) (by omega))
    have s2:=H.out.2 _ (getD_of (zs:=zs) (i:=p) (by omega))
    obtain⟨x,hx⟩:∃x,zs.getD (p+1) 0=x:=⟨_,rfl⟩;obtain⟨y,hy⟩:∃y,zs.getD p 0=y:=⟨_,rfl⟩;rw[hx]at ci s1;rw[hy]at cp s2;have hw:IntKind.i64.wrap (-x)=-x:=by rw[IntWalk.i64_left,IntWalk.wrap64_in _ (by omega)]
    have hq:((p:Int)+1 - 1)=(p:Int):=by omega
    have hpI:(p:Int)<(n:Int):=by omega
    have HXY:=hide (And.intro hx hy);have HN:Hid (p+1<n):=hlt;clear hcell hc hl hx hy lb;by_cases hE:y=-x
    ·
     subst hE;have HE:Hid (∀nq,BoolE (.returned (.bool true)) (∃j,j+1<n∧zs.getD j 0=- zs.getD (j+1) 0)∧∃k,wl.drewN nq=w.drewN k):=fun nq=>by
      obtain⟨k,hk⟩:=HJ.out.1;exact⟨BoolE.t ⟨p,HN.out,by rw[HXY.out.1,HXY.out.2]⟩,k+nq,by rw[hk,World.drewN_drewN]⟩
     go_wp2_with fail
     go_quiet (fail)
     go_wp2;go_ret
     exact HE.out _
    ·
     have hEB:(y == -x)=false:=by simpa using hE
     have HE:Hid (∀nq,(∃k,wl.drewN nq=w.drewN k)∧∀j,j+1<p+1+1→zs.getD j 0≠- zs.getD (j+1) 0):=fun nq=>by
      obtain⟨k,hk⟩:=HJ.out.1;refine⟨⟨k+nq,by rw[hk,World.drewN_drewN]⟩,fun j hj=>?_⟩
      by_cases e:j=p
      · subst e;rw[HXY.out.1,HXY.out.2];exact hE
      · exact HJ.out.2 j (by omega)
     go_wp2_with fail
     go_quiet (fail)
     go_wp2;go_roundw
     case rel=>exact⟨p+1+1,by go_num,by omega,by omega,HE.out _⟩
     case measure=>simp[intOf]<;>omega
  ·
   have hltI:¬ ((i:Int)<(n:Int)):=by omega
   have HE:Hid (BoolE (.returned (.bool false)) (∃j,j+1<n∧zs.getD j 0=- zs.getD (j+1) 0)∧∃k,wl=w.drewN k) :=
    ⟨BoolE.f (fun⟨j,h1,h2⟩=>absurd h2 (HJ.out.2 j (by omega))),HJ.out.1⟩
   go_wp2;go_ret
   exact HE.out
theorem u_cloneI:Tryz.prog.underlying 35=some (.slice 3):=by kernel_rfl
theorem i_cloneI:(Tryz.prog.info? 3).map (fun i=>(i.zero,i.size,i.bytes))=some (some (.int .i64 0),1,8):=by kernel_rfl
theorem cloneI_any (q:Option Addr) (n cap:Nat) (xs:List Value) (w:World) (hl:xs.length=n) (hq:q=none→n=0∧cap=0) (hc:∀a,q=some a→∀j u,xs[j]?=some u→(w.alloc (.cells #[] 3 (0,0))).cell? (a.add j)=some u) (ho:∀u∈xs,u.oneCell'=true) (hn:n≤100000000) :
  Calls Tryz.prog 47 #[.slice q n cap] w fun e w'=>∃v,e=.returned v∧OL 1 3 w' v n (fun i=>[xs.getD i (.bool false)])∧(∀b,v.ownBlock=some b→w.heap.size≤b)∧Below w.heap.size w w'∧(v=.slice none 0 0↔q=none):=by
 have q28:∀(w:World) (a:Option Addr) (n c n' c':Nat),(binOp .eql 35 (.slice a n c) (.slice none n' c')).run Tryz.prog w=.ok (.bool a.isNone) w:=fun w a n c n' c'=>Lib.run_eql_slice_nil w _ _ a n c n' c' u_cloneI
 cases q with
 | none =>
  obtain⟨rfl,rfl⟩:=hq rfl;go_enter Tryz.func47,Tryz.ntmps47;go_wp2;go_ret
  exact⟨_,rfl,OL.nil _ _ _ _,fun b hb=>(by cases hb),Below.refl _ _,by simp⟩
 | some ad =>
  have hb0:Below w.heap.size w (w.alloc (.cells #[] 3 (0,0))):=(Below.refl _ _).alloc (Nat.le_refl _) _;obtain⟨i,hi,hz0,hz1,hz2⟩:=info_parts i_cloneI;have o1:OL 1 3 (w.alloc (.cells #[] 3 (0,0))) (.slice (some ⟨w.heap.size,0,none⟩) 0 0) 0 (fun _=>[(.bool false)]):=Or.inr ⟨w.heap.size,0,#[],rfl,heap_alloc_new w _,Nat.le_refl _,Nat.zero_le _,rfl,fun i hi=>absurd hi (Nat.not_lt_zero _)⟩
  obtain⟨v',w',hr,ol,ap,hne⟩:=Euf.run_append (P:=Tryz.prog) (w.alloc (.cells #[] 3 (0,0))) 1 35 35 3 i (.int .i64 0) u_cloneI hi hz0 hz1 (by omega) rfl (by decide) (.slice (some ⟨w.heap.size,0,none⟩) 0 0) 0 _ o1 (fun k hk=>absurd hk (Nat.not_lt_zero _)) ad n cap xs (by omega) (hc ad rfl) ho (Or.inr (by intro e;cases e)) (by omega) (fun i=>[xs.getD i (.bool false)]) (fun k hk=>absurd hk (Nat.not_lt_zero _)) (fun k hk j hj=>by
   obtain rfl:j=0:=by omega
   have hk':k<xs.length:=by omega
   simp[hk'])
  rw[Nat.zero_add]at ol;have own:∀b,v'.ownBlock=some b→w.heap.size≤b:=fun b hb=>by
   rcases ap.at_ with e|⟨b',e,h9⟩
   · rw[e]at hb;cases hb;exact Nat.le_refl _
   · rw[e]at hb;cases hb;have:=hb0.size;omega
  have bel:Below w.heap.size w w':=⟨ap.os.trans hb0.os,ap.tape.trans hb0.tape,ap.output.trans hb0.output,Nat.le_trans hb0.size ap.size,fun b hb=>(ap.other b (Nat.lt_of_lt_of_le hb hb0.size) (fun e=>by cases e;exact absurd hb (Nat.lt_irrefl _))).trans (hb0.block b hb)⟩
  have HE:Hid (∃v,Ending.returned v'=.returned v∧OL 1 3 w' v n (fun i=>[xs.getD i (.bool false)])∧(∀b,v.ownBlock=some b→w.heap.size≤b)∧Below w.heap.size w w'∧(v=.slice none 0 0↔some ad=none)):=⟨v',rfl,ol,own,bel,fun h=>absurd h hne,fun h=>(by cases h)⟩
  obtain⟨q',c',hv',-⟩:=ol.shape;subst hv';clear hq hc ho o1 hb0 ap hne ol own bel hl;go_enter Tryz.func47,Tryz.ntmps47;go_wp2_with (at_builtin;refine Lib.wpList_append_run _ rfl _ _ _ _ rfl _ _ rfl rfl _ _ hr ?_)
  go_ret
  exact HE.out
theorem u_cloneB:Tryz.prog.underlying 23=some (.slice 4):=by kernel_rfl
theorem i_cloneB:(Tryz.prog.info? 4).map (fun i=>(i.zero,i.size,i.bytes))=some (some (.bool false),1,1):=by kernel_rfl
theorem cloneB_any (q:Option Addr) (n cap:Nat) (xs:List Value) (w:World) (hl:xs.length=n) (hq:q=none→n=0∧cap=0) (hc:∀a,q=some a→∀j u,xs[j]?=some u→(w.alloc (.cells #[] 4 (0,0))).cell? (a.add j)=some u) (ho:∀u∈xs,u.oneCell'=true) (hn:n≤100000000) :
  Calls Tryz.prog 45 #[.slice q n cap] w fun e w'=>∃v,e=.returned v∧OL 1 4 w' v n (fun i=>[xs.getD i (.bool false)])∧(∀b,v.ownBlock=some b→w.heap.size≤b)∧Below w.heap.size w w'∧(v=.slice none 0 0↔q=none):=by
 have q28:∀(w:World) (a:Option Addr) (n c n' c':Nat),(binOp .eql 23 (.slice a n c) (.slice none n' c')).run Tryz.prog w=.ok (.bool a.isNone) w:=fun w a n c n' c'=>Lib.run_eql_slice_nil w _ _ a n c n' c' u_cloneB
 cases q with
 | none =>
  obtain⟨rfl,rfl⟩:=hq rfl;go_enter Tryz.func45,Tryz.ntmps45;go_wp2;go_ret
  exact⟨_,rfl,OL.nil _ _ _ _,fun b hb=>(by cases hb),Below.refl _ _,by simp⟩
 | some ad =>
  have hb0:Below w.heap.size w (w.alloc (.cells #[] 4 (0,0))):=(Below.refl _ _).alloc (Nat.le_refl _) _;obtain⟨i,hi,hz0,hz1,hz2⟩:=info_parts i_cloneB;have o1:OL 1 4 (w.alloc (.cells #[] 4 (0,0))) (.slice (some ⟨w.heap.size,0,none⟩) 0 0) 0 (fun _=>[(.bool false)]):=Or.inr ⟨w.heap.size,0,#[],rfl,heap_alloc_new w _,Nat.le_refl _,Nat.zero_le _,rfl,fun i hi=>absurd hi (Nat.not_lt_zero _)⟩
  obtain⟨v',w',hr,ol,ap,hne⟩:=Euf.run_append (P:=Tryz.prog) (w.alloc (.cells #[] 4 (0,0))) 1 23 23 4 i (.bool false) u_cloneB hi hz0 hz1 (by omega) rfl (by decide) (.slice (some ⟨w.heap.size,0,none⟩) 0 0) 0 _ o1 (fun k hk=>absurd hk (Nat.not_lt_zero _)) ad n cap xs (by omega) (hc ad rfl) ho (Or.inr (by intro e;cases e)) (by omega) (fun i=>[xs.getD i (.bool false)]) (fun k hk=>absurd hk (Nat.not_lt_zero _)) (fun k hk j hj=>by
   obtain rfl:j=0:=by omega
   have hk':k<xs.length:=by omega
   simp[hk'])
  rw[Nat.zero_add]at ol;have own:∀b,v'.ownBlock=some b→w.heap.size≤b:=fun b hb=>by
   rcases ap.at_ with e|⟨b',e,h9⟩
   · rw[e]at hb;cases hb;exact Nat.le_refl _
   · rw[e]at hb;cases hb;have:=hb0.size;omega
  have bel:Below w.heap.size w w':=⟨ap.os.trans hb0.os,ap.tape.trans hb0.tape,ap.output.trans hb0.output,Nat.le_trans hb0.size ap.size,fun b hb=>(ap.other b (Nat.lt_of_lt_of_le hb hb0.size) (fun e=>by cases e;exact absurd hb (Nat.lt_irrefl _))).trans (hb0.block b hb)⟩
  have HE:Hid (∃v,Ending.returned v'=.returned v∧OL 1 4 w' v n (fun i=>[xs.getD i (.bool false)])∧(∀b,v.ownBlock=some b→w.heap.size≤b)∧Below w.heap.size w w'∧(v=.slice none 0 0↔some ad=none)):=⟨v',rfl,ol,own,bel,fun h=>absurd h hne,fun h=>(by cases h)⟩
  obtain⟨q',c',hv',-⟩:=ol.shape;subst hv';clear hq hc ho o1 hb0 ap hne ol own bel hl;go_enter Tryz.func45,Tryz.ntmps45;go_wp2_with (at_builtin;refine Lib.wpList_append_run _ rfl _ _ _ _ rfl _ _ rfl rfl _ _ hr ?_)
  go_ret
  exact HE.out
end Sat
end Go.Proofs.YtbmkkhpoaicclabGreat
