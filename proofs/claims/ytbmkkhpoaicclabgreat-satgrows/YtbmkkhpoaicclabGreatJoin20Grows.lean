/- Joined: SatLy, SatVa, SatSe, SatSh: words and contracts; no statement of the seat is proved here. -/
import Derived.Test.YtbmkkhpoaicclabGreatJoin19Grows
import Derived.Lib.BitFns
namespace Go.Proofs.YtbmkkhpoaicclabGreat
open Go.RowKit
set_option linter.unusedVariables false
namespace Sat
theorem bitLen_bounds (x:Nat) (h0:x≠0) (h:x<2 ^ 64):2 ^ (Lib.bitLen x - 1)≤x∧x<2 ^ Lib.bitLen x∧0<Lib.bitLen x:=by
 induction x using Nat.strongRecOn with
 | ind x ih =>
  rw[Lib.bitLen_half x h0 h];by_cases h1:x / 2=0
  ·
   have h2:x=1:=by omega
   subst h2;decide
  ·
   obtain⟨a,b,c⟩:=ih (x / 2) (by omega) h1 (by omega)
   have e:1+Lib.bitLen (x / 2) - 1=(Lib.bitLen (x / 2) - 1)+1:=by omega
   rw[e,Nat.pow_succ,Nat.add_comm 1,Nat.pow_succ];omega
theorem wrap_u64 {p:Nat} (h:p≤18446744073709551615):IntKind.u64.wrap (p:Int)=(p:Int):=by
 simp only[IntKind.wrap,IntKind.bits,IntKind.signed];simp;omega
theorem Tryz.underlying9:Tryz.prog.underlying 9=some .string:=by kernel_rfl
theorem wpList_index_len8 {P:Program} {w:World} {ops:Array Oper} {rest:List Oper} {o:Oper} {a:Act} {Q:Exit→Act→World→Prop} (hg:o.guard=none) (s i:Operand) (t:TypeId) (hop:o.op=Op.index t s i)
  (h:P.underlying t=some .string) (S:ByteArray) (hs:a.eval s=.string S) (hS:S=Lib.len8tab) (k:IntKind) (n:Int) (hi:a.eval i=.int k n) (h0:0≤n) (h1:n≤255)
  (hK:wpList P ops Q rest (a.put o.dst (.int .u8 (Lib.len8 n))) w):wpList P ops Q (o::rest) a w:=by
 subst hS;refine wpList_plain hg fun K hK'=>?_
 have hrun:=Lib.run_index_len8tab (P:=P) w t k n h h0 h1;unfold Oper.wp;simp[execOp,hop,hs,hi,hrun,Result.andThen];exact hK' _ _ hK
theorem wpList_shl1 {P:Program} {w:World} {ops:Array Oper} {rest:List Oper} {o:Oper} {a:Act} {Q:Exit→Act→World→Prop} (hg:o.guard=none) (s i:Operand) (t u:TypeId) (hop:o.op=Op.binOp .shl t s i u)
  (k:IntKind) (hs:a.eval s=.int k 1) (n:Int) (hi:a.eval i=.int .i64 n) (h0:0≤n) (T:Int) (hT:k.wrap (1*2 ^ min n.toNat k.bits)=T)
  (hK:wpList P ops Q rest (a.put o.dst (.int k T)) w):wpList P ops Q (o::rest) a w:=by
 refine wpList_plain hg fun K hK'=>?_
 unfold Oper.wp;simp only[execOp,hop,hs,hi];have h9:=shift_shl_any k .i64 1 n h0;rw[hT]at h9;simp[go_sem,h9];exact hK' _ _ hK
def Halt (p:Prop):Prop:=p
theorem Halt.go {p:Prop} (h:Halt p):p:=h
theorem Halt.on {p:Prop} (h:p):Halt p:=h
theorem wpList_eql0 {P:Program} {w:World} {ops:Array Oper} {rest:List Oper} {o:Oper} {a:Act} {Q:Exit→Act→World→Prop} (hg:o.guard=none) (s i:Operand) (t u:TypeId) (hop:o.op=Op.binOp .eql t s i u)
  (A B:Int) (hs:a.eval s=.int .u64 A) (hi:a.eval i=.int .u64 B) (h:¬ A=B)
  (hK:wpList P ops Q rest (a.put o.dst (.bool false)) w):wpList P ops Q (o::rest) a w:=by
 refine wpList_plain hg fun K hK'=>?_
 unfold Oper.wp;simp only[execOp,hop,hs,hi];have h9:(A == B)=false:=by simpa using h
 simp[go_sem];rw[h9];exact hK' _ _ hK
theorem wpList_sub64 {P:Program} {w:World} {ops:Array Oper} {rest:List Oper} {o:Oper} {a:Act} {Q:Exit→Act→World→Prop} (hg:o.guard=none) (s i:Operand) (t u:TypeId) (hop:o.op=Op.binOp .sub t s i u)
  (A B:Int) (hs:a.eval s=.int .i64 A) (hi:a.eval i=.int .i64 B) (T:Int) (hT:A - B=T) (h1:-9223372036854775808≤T) (h2:T≤9223372036854775807)
  (hK:wpList P ops Q rest (a.put o.dst (.int .i64 T)) w):wpList P ops Q (o::rest) a w:=by
 refine wpList_plain hg fun K hK'=>?_
 unfold Oper.wp;simp only[execOp,hop,hs,hi];have h9:IntKind.i64.wrap (A - B)=T:=by rw[hT,IntWalk.i64_left,IntWalk.wrap64_in _ (by omega)]
 simp[go_sem,h9];exact hK' _ _ hK
theorem fold8:({ data:=(([0,1,2,2,3,3,3,3,4,4,4,4,4,4,4,4,5,5,5,5,5,5,5,5,5,5,5,5,5,5,5,5,6,6,6,6,6,6,6,6,6,6,6,6,6,6,6,6,6,6,6,6,6,6,6,6,6,6,6,6,6,6,6,6].append [7,7,7,7,7,7,7,7,7,7,7,7,7,7,7,7,7,7,7,7,7,7,7,7,7,7,7,7,7,7,7,7,7,7,7,7,7,7,7,7,7,7,7,7,7,7,7,7,7,7,7,7,7,7,7,7,7,7,7,7,7,7,7,7]).append ([8,8,8,8,8,8,8,8,8,8,8,8,8,8,8,8,8,8,8,8,8,8,8,8,8,8,8,8,8,8,8,8,8,8,8,8,8,8,8,8,8,8,8,8,8,8,8,8,8,8,8,8,8,8,8,8,8,8,8,8,8,8,8,8].append [8,8,8,8,8,8,8,8,8,8,8,8,8,8,8,8,8,8,8,8,8,8,8,8,8,8,8,8,8,8,8,8,8,8,8,8,8,8,8,8,8,8,8,8,8,8,8,8,8,8,8,8,8,8,8,8,8,8,8,8,8,8,8,8])).toArray }:ByteArray)=Lib.len8tab:=by kernel_rfl
set_option maxRecDepth 100000 in
set_option maxHeartbeats 1000000 in
theorem len64_any (x:Int) (w:World) (h0:0≤x) (h1:x≤18446744073709551615) :
    Calls Tryz.prog 77 #[.int .u64 x] w fun e w'=>e=.returned (.int .i64 (Lib.bitLen x.toNat))∧w'=w:=by
  go_enter Tryz.func77,Tryz.ntmps77;go_wp2_with (refine wpList_index_len8 rfl _ _ 9 rfl Tryz.underlying9 _ rfl fold8 _ _ rfl (by omega) (by omega) ?_)
  all_goals (go_ret;refine⟨congrArg Ending.returned (congrArg (Value.int IntKind.i64) ?_),rfl⟩)
  all_goals first
    | (rw[Lib.len8_of (x / 4294967296 / 65536 / 256) (by omega) (by omega)]
       have e:(x / 4294967296 / 65536 / 256).toNat=x.toNat / 72057594037927936:=by omega
       have l:=Lib.bitLen_le8' (x / 4294967296 / 65536 / 256) (by omega) (by omega)
       have s:=Lib.bitLen_shift56 x.toNat (by omega) (by omega)
       rw[e]at l ⊢;unfold wrap64;omega)
    | (rw[Lib.len8_of (x / 4294967296 / 65536) (by omega) (by omega)]
       have e:(x / 4294967296 / 65536).toNat=x.toNat / 281474976710656:=by omega
       have l:=Lib.bitLen_le8' (x / 4294967296 / 65536) (by omega) (by omega)
       have s:=Lib.bitLen_shift48 x.toNat (by omega) (by omega)
       rw[e]at l ⊢;unfold wrap64;omega)
    | (rw[Lib.len8_of (x / 4294967296 / 256) (by omega) (by omega)]
       have e:(x / 4294967296 / 256).toNat=x.toNat / 1099511627776:=by omega
       have l:=Lib.bitLen_le8' (x / 4294967296 / 256) (by omega) (by omega)
       have s:=Lib.bitLen_shift40 x.toNat (by omega) (by omega)
       rw[e]at l ⊢;unfold wrap64;omega)
    | (rw[Lib.len8_of (x / 4294967296) (by omega) (by omega)]
       have e:(x / 4294967296).toNat=x.toNat / 4294967296:=by omega
       have l:=Lib.bitLen_le8' (x / 4294967296) (by omega) (by omega)
       have s:=Lib.bitLen_shift32 x.toNat (by omega) (by omega)
       rw[e]at l ⊢;unfold wrap64;omega)
    | (rw[Lib.len8_of (x / 65536 / 256) (by omega) (by omega)]
       have e:(x / 65536 / 256).toNat=x.toNat / 16777216:=by omega
       have l:=Lib.bitLen_le8' (x / 65536 / 256) (by omega) (by omega)
       have s:=Lib.bitLen_shift24 x.toNat (by omega) (by omega)
       rw[e]at l ⊢;unfold wrap64;omega)
    | (rw[Lib.len8_of (x / 65536) (by omega) (by omega)]
       have e:(x / 65536).toNat=x.toNat / 65536:=by omega
       have l:=Lib.bitLen_le8' (x / 65536) (by omega) (by omega)
       have s:=Lib.bitLen_shift16 x.toNat (by omega) (by omega)
       rw[e]at l ⊢;unfold wrap64;omega)
    | (rw[Lib.len8_of (x / 256) (by omega) (by omega)]
       have e:(x / 256).toNat=x.toNat / 256:=by omega
       have l:=Lib.bitLen_le8' (x / 256) (by omega) (by omega)
       have s:=Lib.bitLen_shift8 x.toNat (by omega) (by omega)
       rw[e]at l ⊢;unfold wrap64;omega)
    | (rw[Lib.len8_of x (by omega) (by omega)]
       have l:=Lib.bitLen_le8' x (by omega) (by omega)
       unfold wrap64;omega)
theorem len_any (x:Int) (w:World) (h0:0≤x) (h1:x≤18446744073709551615) :
  Calls Tryz.prog 46 #[.int .u64 x] w fun e w'=>e=.returned (.int .i64 (Lib.bitLen x.toNat))∧w'=w:=by
 have HL:=hide (len64_any x w h0 h1);go_enter Tryz.func46,Tryz.ntmps46;go_wp2_with (go_at_call 77;refine HL.out.mono ?_;rintro e w9 ⟨rfl,hw9⟩;obtain rfl:=hw9.symm)
 go_ret
 exact⟨rfl,rfl⟩
inductive Lub:Nat→Nat→Prop
  | top (n k:Nat):n+1=2 ^ (k+1)→Lub n (2 ^ k)
  | low (n k r:Nat):2 ^ k≤n→n+1<2 ^ (k+1)→Lub (n+1 - 2 ^ k) r→Lub n r
set_option maxRecDepth 20000 in
set_option maxHeartbeats 4000000 in
theorem luby_any (n:Nat) (w:World) (h1:1≤n) (h2:n<9223372036854775808) :
  Calls Tryz.prog 25 #[.int .i64 (n:Nat)] w fun e w'=>(∃r,Lub n r∧r≤n∧e=.returned (.int .i64 (r:Nat)))∧w'=w:=by
 have h1I:(1:Int)≤n:=by omega
 have H2:Hid ((n:Int)≤9223372036854775807):=by show (n:Int)≤_;omega
 have H1:=hide h1;clear h2 h1;go_enter Tryz.func25,Tryz.ntmps25;go_wp2;go_loopg [0,3] n (fun gk v0 v3 wr=>∃(x:Nat),v0=.int .i64 (x:Nat)∧Hid (x=gk∧1≤x∧x≤n∧(∀r,Lub x r→Lub n r)∧wr=w))
 case atStart=>exact⟨n,rfl,rfl,H1.out,Nat.le_refl _,fun r h=>h,rfl⟩
 case round =>
  rename World=>wl
  obtain⟨x,rfl,H⟩:=hrel;have hx1:(1:Int)≤x:=by have:=H.out.2.1;omega
  have hx2:(x:Int)<9223372036854775808:=by have:=H.out.2.2.1;have:=H2.out;omega
  obtain⟨b1,b2,b3⟩:=bitLen_bounds x (by omega) (by omega)
  obtain⟨k,hk⟩:∃k,Lib.bitLen x=k+1:=⟨Lib.bitLen x - 1,by omega⟩
  rw[hk]at b1 b2 b3;rw[Nat.add_sub_cancel]at b1;have hk62:k<63:=(Nat.pow_lt_pow_iff_right (a:=2) (by decide)).1 (by omega)
  have HL:Hid (∀w9,Calls Tryz.prog 46 #[.int .u64 (x:Nat)] w9 fun e w'=>e=.returned (.int .i64 ((k+1:Nat):Int))∧w'=w9):=fun w9=>by
   have h9:=len_any (x:Int) w9 (by omega) (by omega)
   rwa [Int.toNat_natCast,hk]at h9
  obtain⟨p,hp⟩:∃p,2 ^ k=p:=⟨_,rfl⟩;have p1:2 ^ (k+1)=2*p:=by rw[Nat.pow_succ,hp];omega
  rw[hp]at b1;rw[p1]at b2;have HU:Hid (∀m:Int,m=(k:Int)+1→IntKind.u64.wrap (1*2 ^ min m.toNat IntKind.u64.bits)=2*(p:Int)):=by
   intro m hm;have e1:min m.toNat IntKind.u64.bits=k+1:=by rw[hm];show min _ 64=_;omega
   have e2:(1:Int)*2 ^ (k+1)=((2*p:Nat):Int):=by rw[← p1,Int.one_mul,Int.natCast_pow];rfl
   rw[e1,e2,wrap_u64 (by omega)]
   omega
  have HS:Hid (∀m:Int,m=(k:Int)→IntKind.i64.wrap (1*2 ^ min m.toNat IntKind.i64.bits)=(p:Int)):=by
   intro m hm;have e1:min m.toNat IntKind.i64.bits=k:=by rw[hm];show min _ 64=_;omega
   have e2:(1:Int)*2 ^ k=((p:Nat):Int):=by rw[← hp,Int.one_mul,Int.natCast_pow];rfl
   rw[e1,e2,IntWalk.i64_left,IntWalk.wrap64_in _ (by omega)]
  have HP:=hide (And.intro hp p1);have b1I:(p:Int)≤x:=by omega
  have b2I:(x:Int)<2*p:=by omega
  have hp0:(1:Int)≤p:=by have:=Nat.two_pow_pos k;omega
  have hkI:(k:Int)<63:=by omega
  clear hk hp p1 b3;by_cases hc:(x:Int)+1=2*p
  ·
   go_wp2_with (first|(go_at_call 46;refine (HL.out _).mono ?_;rintro e w9 ⟨rfl,hw9⟩;obtain rfl:=hw9.symm)|refine wpList_shl1 rfl _ _ _ _ rfl .u64 rfl _ rfl (by omega) _ (HU.out _ (by omega)) ?_|refine wpList_shl1 rfl _ _ _ _ rfl .i64 rfl _ rfl (by omega) _ (HS.out _ (by omega)) ?_)
   go_ret
   refine⟨⟨p,H.out.2.2.2.1 _ ?_,?_,rfl⟩,H.out.2.2.2.2⟩
   · rw[← HP.out.1];refine Lub.top x k ?_;rw[HP.out.2];omega
   · have:=H.out.2.2.1;omega
  ·
   obtain⟨s,hs⟩:∃s:Int,(x:Int)+1=s:=⟨_,rfl⟩;have hcI:¬ (s=2*p):=by omega
   have HC:=hide (show x+1<2*p by omega)
   obtain⟨y,hy⟩:∃y:Nat,x+1 - p=y:=⟨_,rfl⟩;obtain⟨z,hz⟩:∃z:Nat,p - 1=z:=⟨_,rfl⟩;have hyI:(x:Int) - z=y:=by omega
   have hzI:(p:Int) - 1=z:=by omega
   have HY:=hide (And.intro hy hz);have HN:Hid ((y:Int)≤9223372036854775807∧(z:Int)≤9223372036854775807∧(0:Int)≤y∧(0:Int)≤z):=⟨by omega,by omega,by omega,by omega⟩
   have HNE:=hide hcI;have HSS:=hide hs;have HY2:=hide (And.intro hyI hzI);clear hc hy hz b1 b2 hk62 hcI hs b2I hyI hzI;go_wp2_with (first|(refine wpList_eql0 rfl _ _ _ _ rfl _ _ rfl rfl (by have:=HNE.out;have:=HSS.out;omega) ?_;refine Halt.go ?_)|(refine wpList_sub64 rfl _ _ _ _ rfl _ _ rfl rfl (k:Int) (by omega) (by omega) (by omega) ?_)|(refine wpList_sub64 rfl _ _ _ _ rfl _ _ rfl rfl (z:Int) HY2.out.2 (by have:=HN.out;omega) HN.out.2.1 ?_)|(refine wpList_sub64 rfl _ _ _ _ rfl _ _ rfl rfl (y:Int) HY2.out.1 (by have:=HN.out;omega) HN.out.1 ?_)| (go_at_call 46;refine (HL.out _).mono ?_;rintro e w9 ⟨rfl,hw9⟩;obtain rfl:=hw9.symm)|(refine wpList_shl1 rfl _ _ _ _ rfl .u64 rfl _ rfl (by omega) _ (HU.out _ (by omega)) ?_)|(refine wpList_shl1 rfl _ _ _ _ rfl .i64 rfl _ rfl (by omega) _ (HS.out _ (by omega)) ?_))
   refine Halt.on ?_;repeat (first|refine wpList_sub64 rfl _ _ _ _ rfl _ _ rfl rfl (k:Int) (by omega) (by omega) (by omega) ?_|refine wpList_sub64 rfl _ _ _ _ rfl _ _ rfl rfl (z:Int) HY2.out.2 (by have:=HN.out;omega) HN.out.2.1 ?_|refine wpList_sub64 rfl _ _ _ _ rfl _ _ rfl rfl (y:Int) HY2.out.1 (by have:=HN.out;omega) HN.out.1 ?_|refine wpList_shl1 rfl _ _ _ _ rfl .i64 rfl _ rfl (by omega) _ (HS.out _ (by omega)) ?_|go_step)
   go_roundg y
   case rel =>
    refine⟨y,rfl,rfl,?_,?_,fun r hr=>H.out.2.2.2.1 _ ?_,H.out.2.2.2.2⟩
    · have:=HY.out.1;omega
    · have:=HY.out.1;have:=H.out.2.2.1;omega
    ·
     refine Lub.low x k r ?_ ?_ ?_
     · rw[HP.out.1];omega
     · rw[HP.out.2];exact HC.out
     · rw[HP.out.1,HY.out.1];exact hr
   case measure =>
    have:=HY.out.1;have:=H.out.1;have:=HC.out;omega
end Sat
namespace Sat
open Euf (OL App)
theorem uBools:Tryz.prog.underlying 23=some (.slice 4):=by kernel_rfl
theorem iBool:(Tryz.prog.info? 4).map (fun i=>(i.zero,i.size,i.bytes))=some (some (.bool false),1,1):=by kernel_rfl
theorem wpList_make_bools {P:Program} (w:World) {ops:Array Oper} {rest:List Oper} {o:Oper} {a:Act} {Q:Exit→Act→World→Prop}
  (hg:o.guard=none) (l c:Operand) (t:TypeId) (hop:o.op=Op.makeSlice t l c)
  (e:TypeId) (bytes:Nat) (h1:P.underlying t=some (.slice e)) (h2:(P.info? e).map (fun i=>(i.zero,i.size,i.bytes))=some (some (.bool false),1,bytes))
  (kl kc:IntKind) (L C:Int) (n:Nat) (hl:a.eval l=.int kl L) (hc:a.eval c=.int kc C) (hL:L=(n:Int)) (hC:C=(n:Int)) (hby:bytes≤64) (hnn:n≤10000)
  (hK:∀w',OL 1 e w' (.slice (some ⟨w.heap.size,0,none⟩) n n) n (fun _=>[.bool false])→Below w.heap.size w w'→w'.heap.size=w.heap.size+1→wpList P ops Q rest (a.put o.dst (.slice (some ⟨w.heap.size,0,none⟩) n n)) w') :
  wpList P ops Q (o::rest) a w:=by
 obtain⟨i,hi,hz0,hz1,hz2⟩:=info_parts h2;subst hL;subst hC;refine wpList_plain hg fun K hK'=>?_
 have b2:bytes*n≤64*10000:=Nat.mul_le_mul hby hnn;have b3':(n:Int)≤9223372036854775807:=by omega
 have hb':(i.bytes:Int)*(n:Int)≤281474976710656:=by
  rw[hz2];have h:((bytes*n:Nat):Int)≤281474976710656:=by omega
  rwa [Int.natCast_mul]at h
 have hr:=run_make (P:=P) w t e i (.bool false) h1 hi hz0 kl kc n n (by omega) (Int.le_refl _) hb' b3'
 have e1:madeCells (Value.bool false).cells n=(List.replicate n (Value.bool false)).toArray:=by
  rw[show (Value.bool false).cells=#[Value.bool false] from rfl]
  apply Array.toList_inj.1
  rw[toList_madeCells_one]
 simp only[Int.toNat_natCast,hz1,Nat.mul_one,e1]at hr;unfold Oper.wp;simp[execOp,hop,hl,hc,hr,Result.andThen,-List.map_replicate,-List.toArray_replicate,-List.map_toArray];refine hK' _ _ (hK _ ?_ ?_ ?_)
 ·
  refine Or.inr ⟨w.heap.size,n,(List.replicate n (Value.bool false)).toArray,rfl,heap_alloc_new w _,Nat.le_refl _,by unfold maxLen;omega,by simp,fun i9 hi9 j9 hj9=>?_⟩
  obtain rfl:j9=0:=by omega
  simp[hi9]
 · exact (Below.refl _ _).alloc (Nat.le_refl _) _
 · simp
def tv (L:List Nat) (i:Nat):List Value:=[.bool (decide (2*(i+1)∈L))]
theorem tv_step {L:List Nat} {m:Nat} (h2:2≤m) (hc:ng m ∉ L):tv (L++[m]) (m / 2 - 1)=[.bool (decide (0<num m))]:=by
 unfold tv num;have e:2*(m / 2 - 1+1)=m / 2*2:=by omega
 rw[e];by_cases h:m % 2=0
 ·
  have e1:m / 2*2=m:=by omega
  have e2:(0:Int)<((m / 2:Nat):Int):=by omega
  rw[e1,if_pos h];simp<;>omega
 ·
  have e1:m / 2*2=ng m:=by unfold ng;rw[if_neg h];omega
  have e2:¬ ((0:Int) < - ((m / 2:Nat):Int)):=by omega
  rw[e1,if_neg h];have e3:¬ (ng m∈L++[m]):=by
   intro h9;rcases List.mem_append.1 h9 with h9|h9
   · exact hc h9
   · have h8:=List.mem_singleton.1 h9;unfold ng at h8;rw[if_neg h]at h8;omega
  simp only[e3,e2]
theorem tv_other {L:List Nat} {m i:Nat} (h2:2≤m) (hi:i≠m / 2 - 1):tv (L++[m]) i=tv L i:=by
 unfold tv;have e:(2*(i+1)∈L++[m])↔2*(i+1)∈L:=by
  constructor
  ·
   intro h;rcases List.mem_append.1 h with h|h
   · exact h
   · have:=List.mem_singleton.1 h;omega
  · exact fun h=>List.mem_append_left _ h
 simp only[e]
set_option maxRecDepth 20000 in
set_option maxHeartbeats 8000000 in
theorem values_any (g:Nat) (d:Dt) (a:Key→Value) (w:World) (h:SW w g d a) (hT:∀m∈d.T,2≤m∧m / 2≤d.nv∧ng m ∉ d.T) (hn:d.nv≤5000) (hl:d.T.length≤10000) :
  Calls Tryz.prog 70 #[.pointer (some ⟨g,0,none⟩)] w fun e w'=>∃v,e=.returned v∧OL 1 4 w' v d.nv (tv d.T)∧(∀b,v.ownBlock=some b→w.heap.size≤b)∧Below w.heap.size w w':=by
 obtain⟨qH,cH,hH,k1,k2,k3⟩:=h.len (k:=kTra) (by exact⟨by decide,rfl⟩)
 have hH':a kTra=.slice qH d.T.length cH:=hH;have c0:w.cell? ⟨g,0,none⟩=some (.int .i64 (d.nv:Nat)):=h.cell 0;have hlg:=h.lt;have H0:=hide (And.intro h hH');have HT:=hide hT;have hlI:(d.T.length:Int)≤10000:=by omega
 have hnI:(d.nv:Int)≤5000:=by omega
 clear h hH hH' k1 k2 k3 hT;go_enter Tryz.func70,Tryz.ntmps70;go_wp2_with (at_make;refine wpList_make_bools _ rfl _ _ 23 rfl 4 1 uBools iBool _ _ _ _ d.nv rfl rfl rfl rfl (by decide) (by omega) ?_;intro w1 hr1 hb1 hz1;have c9:w1.cell? ⟨g,9,none⟩=some (.slice qH d.T.length cH):=((H0.out.1.below hb1).cell 9).trans (congrArg some H0.out.2);have hl1:=(H0.out.1.below hb1).lt;have H1:=hide (And.intro hr1 hb1);clear hr1 hb1 c0)
 clear c9;go_loopw [5,16] (fun v5 v16 wr=>∃(i:Nat),v16=.int .i64 (i:Nat)∧i≤d.T.length∧Hid (OL 1 4 wr (.slice (some ⟨w.heap.size,0,none⟩) d.nv d.nv) d.nv (tv (d.T.take i))∧Below w.heap.size w wr)) (fun _ v _=>d.T.length - (intOf v).toNat)
 case atStart=>exact⟨0,rfl,Nat.zero_le _,H1.out.1.congr (fun i9 _=>by simp[tv]),H1.out.2⟩
 case round =>
  rename World=>wl
  obtain⟨i,rfl,hi,H⟩:=hrel;clear H1;by_cases hlt:i<d.T.length
  ·
   have hltI:(i:Int)<(d.T.length:Int):=by omega
   have s1:=H0.out.1.below H.out.2;obtain⟨bM,cM,hM,lM,-,-,qM,-⟩:=s1.traR (by omega)
   have e2:=H0.out.2.symm.trans hM;injection e2 with e2 _ e4;subst e2 e4;have qi:wl.cell? ⟨bM,i,none⟩=some (.int .i32 (d.T[i]:Nat)):=qM i hlt;have HV:=hide (HT.out _ (List.getElem_mem hlt));have HTK:Hid (d.T.take (i+1)=d.T.take i++[d.T[i]]):=by show _=_;rw[List.take_succ_eq_append_getElem hlt]
   obtain⟨m,hm⟩:∃m,m=d.T[i]:=⟨_,rfl⟩;rw[← hm]at qi HV HTK;obtain⟨y,hy⟩:∃y,m / 2=y+1:=⟨m / 2 - 1,by have:=HV.out.1;omega⟩
   have hyl:y<d.nv:=by have:=HV.out.2.1;omega
   have hyI:(y:Int)<(d.nv:Int):=by omega
   have hml:m<20000:=by have:=HV.out.2.1;omega
   have HA:Hid (∀w9,Calls Tryz.prog 62 #[.int .i32 (m:Nat)] w9 fun e w'=>e=.returned (.int .i64 ((y+1:Nat):Int))∧w'=w9):=fun w9=>by
    have h9:=variable_any m w9 hml;rwa [hy]at h9
   have HB:Hid (∀w9,Calls Tryz.prog 73 #[.int .i32 (m:Nat)] w9 fun e w'=>e=.returned (.int .i64 (num m))∧w'=w9):=fun w9=>number_any m w9 hml
   obtain⟨N,hN⟩:∃N,num m=N:=⟨_,rfl⟩;rw[hN]at HB;have q3:wl.cell? ⟨w.heap.size,y,none⟩=some (.bool (decide (2*(y+1)∈d.T.take i))):=by
    have h9:=H.out.1.cell hyl (show 0<1 by decide)
    simpa [tv] using h9
   have z3:=H.out.1.frozen y;have HE:Hid (OL 1 4 (wl.setCell ⟨w.heap.size,y,none⟩ (.bool (decide (0<N)))) (.slice (some ⟨w.heap.size,0,none⟩) d.nv d.nv) d.nv (tv (d.T.take (i+1)))∧Below w.heap.size w (wl.setCell ⟨w.heap.size,y,none⟩ (.bool (decide (0<N))))):=by
    refine⟨?_,?_⟩
    ·
     have h9:=H.out.1.set hyl (show 0<1 by decide) (.bool (decide (0<N))) (f':=tv (d.T.take (i+1))) (fun k _=>rfl) (by
      have e9:=tv_step (L:=d.T.take i) (m:=m) HV.out.1 (fun h8=>HV.out.2.2 (List.mem_of_mem_take h8))
      rw[hy,Nat.add_sub_cancel,hN]at e9;rw[HTK.out,e9];rfl) (fun k _ hk=>by
      rw[HTK.out];exact tv_other HV.out.1 (by omega))
     simpa using h9
    · exact H.out.2.setCell (p:=⟨w.heap.size,y,none⟩) (Nat.le_refl _) _
   have hwl:w.heap.size<wl.heap.size:=H.out.1.lt rfl;generalize decide (2*(y+1)∈d.T.take i)=bo at q3;clear qM hM s1 hm hy hN HV HTK H;go_wp2_with (first|(go_at_call 62;refine (HA.out _).mono ?_;rintro e w9 ⟨rfl,hw9⟩;obtain rfl:=hw9.symm)|(go_at_call 73;refine (HB.out _).mono ?_;rintro e w9 ⟨rfl,hw9⟩;obtain rfl:=hw9.symm))
   go_roundw
   case rel=>exact⟨i+1,by go_num,by omega,HE.out⟩
   case measure=>simp[intOf]<;>omega
  ·
   have hltI:¬ ((i:Int)<(d.T.length:Int)):=by omega
   obtain rfl:i=d.T.length:=by omega
   rw[List.take_length]at H;go_wp2;go_ret
   refine⟨_,rfl,H.out.1,fun b9 hb9=>?_,H.out.2⟩
   cases hb9
   exact Nat.le_refl _
end Sat
namespace Sat
open Euf (OL App)
theorem vl_var {T:List Nat} {a:Nat} (h:vl T (2*(a / 2))≠0):a∈T∨ng a∈T:=by
 by_cases e:a % 2=0
 ·
  have e1:2*(a / 2)=a:=by omega
  rw[e1]at h;by_cases h1:a∈T
  · exact Or.inl h1
  ·
   by_cases h2:ng a∈T
   · exact Or.inr h2
   · exact absurd (vl_zero.2 ⟨h1,h2⟩) h
 ·
  have e1:2*(a / 2)=ng a:=by unfold ng;rw[if_neg e];omega
  rw[e1]at h;by_cases h1:a∈T
  · exact Or.inl h1
  ·
   by_cases h2:ng a∈T
   · exact Or.inr h2
   · exact absurd (vl_zero.2 ⟨h2,by rw[ng_ng];exact h1⟩) h
theorem SI.whole {nv:Nat} {V:Nat→Int} {T S:List Nat} {F:Nat→Fc} {nc:Nat} {C:Nat→Cl} {W:Nat→List (Nat × Nat)} {U:List Nat} (s:SI nv V T S F nc C W T.length [] U) (hv:∀u∈U,V (2*u)≠0) {c:Nat} (hc:c<nc):∃m∈(C c).lits,m∈T:=by
 rcases s.he c hc (fun h=>by cases h) with⟨x,y,tw,wx,wy⟩|⟨m,hm,i,hi,-⟩
 ·
  obtain⟨r,hr⟩:=tw;have hx:x∈(C c).lits:=by rw[hr];exact List.mem_cons_self
  have hx2:=(s.ci.ok c hc x hx).2;have hu:=hv _ (s.uc c hc (fun h=>by cases h) x hx)
  rw[s.ti.va _ (by omega)]at hu
  rcases vl_var hu with h1|h1
  · exact⟨x,hx,h1⟩
  ·
   obtain⟨p,hp,hp2⟩:=List.mem_map.1 wx;obtain⟨i,hi,ei⟩:=List.mem_iff_getElem.1 h1;obtain⟨j,o,ho,hj,-⟩:=s.w4 x hx2 p hp i hi (by rw[List.getElem?_eq_getElem hi,ei])
   rw[hp2]at ho;exact⟨o,ho,List.mem_of_getElem? hj⟩
 · exact⟨m,hm,List.mem_of_getElem? hi⟩
theorem TI.forValues {nv:Nat} {V:Nat→Int} {T S:List Nat} {F:Nat→Fc} {nc:Nat} {C:Nat→Cl} (t:TI nv V T S F nc C):∀m∈T,2≤m∧m / 2≤nv∧ng m ∉ T:=fun m hm=>by
  have h:=t.ok m hm
  exact⟨h.1,by omega,nd_ng t.nd hm⟩
theorem Ov.sf {d0 d:Dt} {I:List (List Nat)} {A:Nat} {U:List Nat} (o:Ov d0 U) (b0:Bs d0 I A [] U) (b:Bs d I A [] U) (s:Sf d0 d):Ov d U:=by
 have e:=s.eq;have e1:d.hp=d0.hp:=by rw[e]
 have e2:d.at_=d0.at_:=by rw[e]
 have e3:d.nv=d0.nv:=by rw[e]
 refine⟨by rw[e1,e2,e3];exact o.oi,by rw[e1];exact o.hu,by rw[e3];exact o.uo,fun u hu=>?_,o.un⟩
 rcases o.cv u hu with h|h
 · exact Or.inl (by rw[e1];exact h)
 ·
  have h9:=(o.uo u hu).2;refine Or.inr ?_;rw[b0.ti.va _ (by omega)]at h
  rw[b.ti.va _ (by omega)]
  obtain⟨Y,hY⟩:=s.pre;intro h0;rw[hY]at h0;obtain⟨n1,n2⟩:=vl_zero.1 h0;exact h (vl_zero.2 ⟨fun h8=>n1 (List.mem_append_left _ h8),fun h8=>n2 (List.mem_append_left _ h8)⟩)
end Sat
namespace Sat
open Euf (OL App)
structure Ol (d d':Dt):Prop where
  le:d.nc≤d'.nc
  ol:∀c,c<d.nc→∀m,m∈(d'.C c).lits↔m∈(d.C c).lits
section
variable {d d' d'':Dt} {I:List (List Nat)} {A:Nat} {U K:List Nat}
theorem Ol.refl (d:Dt):Ol d d:=⟨Nat.le_refl _,fun _ _ _=>Iff.rfl⟩
theorem Ol.trans (h:Ol d d') (k:Ol d' d''):Ol d d'':=⟨Nat.le_trans h.le k.le,fun c hc m=>(k.ol c (Nat.lt_of_lt_of_le hc h.le) m).trans (h.ol c hc m)⟩
theorem Sf.toOl (h:Sf d d'):Ol d d':=⟨h.le,h.ol⟩
theorem LnE.toOl {L:List Nat} (h:LnE d d' I A U L):Ol d d':=⟨Nat.le_of_lt h.nw.1,h.ol⟩
structure Lr (d:Dt) (U K:List Nat):Prop where
  lt:∀c∈K,c<d.nc
  lu:∀c∈K,∀m∈(d.C c).lits,m / 2∈U∧ng m ∉ (d.C c).lits
  nd:K.Pairwise (fun c c'=>¬ ∀m,m∈(d.C c).lits↔m∈(d.C c').lits)
theorem Lr.nil:Lr d U []:=⟨fun c hc=>(by cases hc),fun c hc=>(by cases hc),List.Pairwise.nil⟩
theorem Lr.len (h:Lr d U K):K.length≤3 ^ U.length:=by
 have h9:=nodup_le (3 ^ U.length) (K.map (fun c=>code U (d.C c).lits)) (by
  refine List.pairwise_map.2 (h.nd.imp_of_mem ?_);intro c c' hc hc' hne e;exact hne (code_inj (h.lu c hc) (h.lu c' hc') e)) (fun x hx=>by
  obtain⟨c,-,rfl⟩:=List.mem_map.1 hx;exact code_lt _ _)
 rwa [List.length_map]at h9
theorem Lr.ol (h:Lr d U K) (o:Ol d d'):Lr d' U K:=by
 refine⟨fun c hc=>Nat.lt_of_lt_of_le (h.lt c hc) o.le,fun c hc m hm=>?_,h.nd.imp_of_mem ?_⟩
 · have h1:=h.lu c hc m ((o.ol c (h.lt c hc) m).1 hm);exact⟨h1.1,fun h9=>h1.2 ((o.ol c (h.lt c hc) _).1 h9)⟩
 · intro c c' hc hc' hne e;exact hne (fun m=>((o.ol c (h.lt c hc) m).symm.trans (e m)).trans (o.ol c' (h.lt c' hc') m))
theorem Lr.more {L:List Nat} (h:Lr d U K) (l:LnE d d' I A U L):Lr d' U (d.nc::K):=by
 have h1:=h.ol l.toOl;refine⟨fun c hc=>?_,fun c hc=>?_,List.pairwise_cons.2 ⟨fun c hc e=>l.fr c (h.lt c hc) (fun m=>?_),h1.nd⟩⟩
 ·
  rcases List.mem_cons.1 hc with rfl|hc
  · exact l.nw.1
  · exact h1.lt c hc
 ·
  rcases List.mem_cons.1 hc with rfl|hc
  · intro m hm;have h2:=l.lu m ((l.nw.2 m).1 hm);exact⟨h2.1,fun h9=>h2.2 ((l.nw.2 _).1 h9)⟩
  · exact h1.lu c hc
 · exact ((l.ol c (h.lt c hc) m).symm.trans (e m).symm).trans (l.nw.2 m)
theorem nodup_sub:∀(U l:List Nat),l.Nodup→(∀x∈l,x∈U)→l.length≤U.length
 | [],l,_,h=>by
  cases l with
  | nil=>simp
  | cons x _=>exact absurd (h x List.mem_cons_self) (by simp)
 | u::U,l,hn,h=>by
  have h1:=nodup_sub U (l.erase u) (hn.erase _) (fun x hx=>by
   have h2:=h x (List.mem_of_mem_erase hx);rcases List.mem_cons.1 h2 with e|h2
   · subst e;exact absurd hx hn.not_mem_erase
   · exact h2)
  have h2:l.length≤(l.erase u).length+1:=by
   by_cases e:u∈l
   · rw[List.length_erase_of_mem e];omega
   · rw[List.erase_of_not_mem e];omega
  simp;omega
theorem Bs.lenT {Q:List Nat} (b:Bs d I A Q U):d.T.length≤U.length:=by
 have h9:=nodup_sub U (d.T.map (· / 2)) b.ti.nd (fun x hx=>by
  obtain⟨t,ht,rfl⟩:=List.mem_map.1 hx;exact b.ut t ht)
 rwa [List.length_map]at h9
theorem Bs.lenS {Q:List Nat} (b:Bs d I A Q U):d.S.length≤U.length:=by
 have h9:=nodup_le d.T.length d.S (b.ti.up.imp (fun h=>Nat.ne_of_lt h)) b.ti.st
 have:=b.lenT;omega
theorem Ov.lenU (o:Ov d U):U.length≤d.nv:=by
 have h9:=nodup_le (d.nv+1) (0::U) (List.nodup_cons.2 ⟨fun h=>by have:=(o.uo 0 h).1;omega,o.un⟩) (fun u hu=>by
  rcases List.mem_cons.1 hu with rfl|hu
  · omega
  · have:=(o.uo u hu).2;omega)
 simp at h9;exact h9
end
structure Sx (d0 d:Dt):Prop where
  nv:d.nv=d0.nv
  ad:d.added=d0.added
  q:d.Q=d0.Q
  rf:d.refuted=d0.refuted
  mo:d.mo=d0.mo
structure SC (d0 d:Dt) (I:List (List Nat)) (A:Nat) (U K:List Nat) (bu:Int):Prop where
  bs:Bs d I (A+K.length) [] U
  ov:Ov d U
  m0:∀v,(d.F v).mark=0
  ms:d.mks=[]
  sx:Sx d0 d
  ol:Ol d0 d
  lr:Lr d U K
  s0:0≤d.steps
  s1:d.steps≤bu∨d.steps=0
  s2:d.steps≤((K.length*(U.length+1)+d.S.length:Nat):Int)
  s3:(K.length:Int)≤d.steps
section
variable {d0 d d':Dt} {I:List (List Nat)} {A:Nat} {U K:List Nat} {bu:Int}
theorem Sf.rest (s:Sf d d'):d'.steps=d.steps∧d'.added=d.added∧d'.Q=d.Q∧d'.refuted=d.refuted∧d'.mo=d.mo∧d'.mks=d.mks∧d'.hp=d.hp∧d'.at_=d.at_:=by
 have e:=s.eq;refine⟨?_,?_,?_,?_,?_,?_,?_,?_⟩<;>rw[e]
theorem SC.follow (c:SC d0 d I A U K bu) (b:Bs d' I (A+K.length) [] U) (s:Sf d d'):SC d0 d' I A U K bu:=by
 obtain⟨e1,e2,e3,e4,e5,e6,e7,e8⟩:=s.rest;exact⟨b,c.ov.sf c.bs b s,fun v=>(s.mr v).trans (c.m0 v),e6.trans c.ms,⟨s.nv.trans c.sx.nv,e2.trans c.sx.ad,e3.trans c.sx.q,e4.trans c.sx.rf,e5.trans c.sx.mo⟩,c.ol.trans s.toOl,c.lr.ol s.toOl,by rw[e1];exact c.s0,by rw[e1];exact c.s1,by rw[e1,s.S];exact c.s2,by rw[e1];exact c.s3⟩
theorem SC.most (c:SC d0 d I A U K bu):d.steps≤((3 ^ U.length*(U.length+1)+U.length:Nat):Int):=by
 have h1:=c.s2;have h2:=Nat.mul_le_mul_right (U.length+1) c.lr.len;have h3:=c.bs.lenS;omega
theorem SC.learn {L:List Nat} (c:SC d0 d I A U K bu) (hb:d.steps<bu) (l:LnE { d with steps:=d.steps+1 } d' I (A+K.length) U L) (hm:d'.mks=[]) :
  SC d0 d' I A U (d.nc::K) bu∧d'.steps≤(((d.nc::K).length*(U.length+1):Nat):Int):=by
 have e:=l.eq;have e1:d'.steps=d.steps+1:=by rw[e]
 have e2:d'.nv=d.nv:=by rw[e]
 have e3:d'.added=d.added:=by rw[e]
 have e4:d'.Q=d.Q:=by rw[e]
 have e5:d'.refuted=d.refuted:=by rw[e]
 have e6:d'.mo=d.mo:=by rw[e]
 have hlr:Lr ({ d with steps:=d.steps+1 }:Dt) U K:=⟨c.lr.lt,c.lr.lu,c.lr.nd⟩;have h9:=c.bs.lenS;have h8:=c.s2;have h7:(d.nc::K).length*(U.length+1)=K.length*(U.length+1)+(U.length+1):=by rw[List.length_cons,Nat.succ_mul]
 have hle:d'.steps≤(((d.nc::K).length*(U.length+1):Nat):Int):=by rw[e1,h7];omega
 refine⟨⟨?_,l.ov,l.m0,hm,⟨e2.trans c.sx.nv,e3.trans c.sx.ad,e4.trans c.sx.q,e5.trans c.sx.rf,e6.trans c.sx.mo⟩,c.ol.trans ⟨Nat.le_of_lt l.nw.1,l.ol⟩,hlr.more l,?_,?_,?_,?_⟩,hle⟩
 · exact l.bs
 · have:=c.s0;omega
 · left;omega
 · omega
 · have:=c.s3;rw[e1];simp;omega
theorem chl_ok (c:SC d0 d I A U K bu) {v:Nat} (hv:v∈U) (h0:d.V (2*v)=0):(2≤chl d v∧chl d v<2*(d.nv+1))∧vl d.T (chl d v)=0∧chl d v / 2∈U:=by
 have h1:=c.ov.uo v hv;have h2:vl d.T (2*v)=0:=by rw[← c.bs.ti.va _ (by omega)];exact h0
 refine⟨?_,?_,by rw[chl_var];exact hv⟩
 · have:=chl_var d v;omega
 ·
  unfold chl;split
  · exact h2
  · obtain⟨z1,z2⟩:=vl_zero.1 h2;exact vl_zero.2 ⟨z2,by rw[ng_ng];exact z1⟩
theorem SC.pick (c:SC d0 d I A U K bu) (hb:d.steps<bu) (s:SI d.nv d.V d.T d.S d.F d.nc d.C d.W d.T.length [] U) (hh:d.head=d.T.length) (hc:d.clash=-1) {v:Nat} (hv:v∈U) (h0:d.V (2*v)=0) :
  SC d0 (({ { d with steps:=d.steps+1 } with S:=d.S++[d.T.length] }:Dt).asg (chl d v) (-1)) I A U K bu∧FI (({ { d with steps:=d.steps+1 } with S:=d.S++[d.T.length] }:Dt).asg (chl d v) (-1)) U:=by
 obtain⟨h1,h2,h3⟩:=chl_ok c hv h0;have hS1:(d.S++[d.T.length]).length=d.S.length+1:=by simp
 have si:=s.pick (l:=chl d v) (u:=(d.F (chl d v / 2)).unit) (lst:=(d.F (chl d v / 2)).last) (mk:=(d.F (chl d v / 2)).mark) h1 h2 h3 (V':=upd (upd d.V (chl d v) 1) (ng (chl d v)) (-1)) (fun k _=>asg_V d.V (chl d v) k)
 have eF:upd d.F (chl d v / 2) { level:=((d.S.length+1:Nat):Int),place:=(d.T.length:Nat),reason:=-1,unit:=(d.F (chl d v / 2)).unit,last:=(d.F (chl d v / 2)).last,mark:=(d.F (chl d v / 2)).mark }=upd d.F (chl d v / 2) (asF ({ { d with steps:=d.steps+1 } with S:=d.S++[d.T.length] }:Dt) (chl d v) (-1)):=by
  show _=upd d.F (chl d v / 2) { d.F (chl d v / 2) with level:=(((d.S++[d.T.length]).length:Nat):Int),place:=(d.T.length:Nat),reason:=-1 }
  rw[hS1]
 rw[eF]at si;refine⟨⟨⟨si.ti,c.bs.ci,c.bs.uc,si.ut,c.bs.dv,?_⟩,Ov.asg (l:=chl d v) (z:=0) c.ov _ rfl rfl rfl rfl,fun x=>?_,c.ms,⟨c.sx.nv,c.sx.ad,c.sx.q,c.sx.rf,c.sx.mo⟩,⟨c.ol.le,c.ol.ol⟩,⟨c.lr.lt,c.lr.lu,c.lr.nd⟩,?_,?_,?_,?_⟩,Or.inl ⟨hc,?_⟩⟩
 ·
  have h9:=c.bs.cn;show d.nc≤A+K.length+fixd (d.T++[chl d v]) (d.S++[d.T.length])
  cases hS:d.S with
  | nil=>rw[hS]at h9;exact h9
  | cons x S=>rw[hS]at h9;exact h9
 ·
  show (upd d.F (chl d v / 2) _ x).mark=0
  by_cases e:x=chl d v / 2
  · rw[e,upd_same];exact c.m0 _
  · rw[upd_other _ _ e];exact c.m0 x
 ·
  show 0≤d.steps+1
  have:=c.s0;omega
 · left;show d.steps+1≤bu;omega
 ·
  show d.steps+1≤((K.length*(U.length+1)+(d.S++[d.T.length]).length:Nat):Int)
  have:=c.s2;rw[hS1];omega
 ·
  show (K.length:Int)≤d.steps+1
  have:=c.s3;omega
 ·
  show SI d.nv _ _ _ _ d.nc d.C d.W d.head [] U
  rw[hh];exact si
theorem Ov.next (o:Ov d U) {hp':List Nat} {at':Nat→Nat} (oi:OI d.nv hp' at') (h1:∀u∈hp',u∈d.hp) (h2:∀u∈d.hp,u ∉ hp'→d.V (2*u)≠0):Ov (d.ord hp' at') U:=by
 refine⟨oi,fun v hv=>o.hu v (h1 v hv),o.uo,fun u hu=>?_,o.un⟩
 rcases o.cv u hu with h|h
 ·
  by_cases e:u∈hp'
  · exact Or.inl e
  · exact Or.inr (h2 u h e)
 · exact Or.inr h
theorem SC.next (c:SC d0 d I A U K bu) {hp':List Nat} {at':Nat→Nat} (oi:OI d.nv hp' at') (h1:∀u∈hp',u∈d.hp) (h2:∀u∈d.hp,u ∉ hp'→d.V (2*u)≠0):SC d0 (d.ord hp' at') I A U K bu :=
  ⟨c.bs.same rfl rfl rfl rfl rfl rfl rfl,c.ov.next oi h1 h2,c.m0,c.ms,⟨c.sx.nv,c.sx.ad,c.sx.q,c.sx.rf,c.sx.mo⟩,⟨c.ol.le,c.ol.ol⟩,⟨c.lr.lt,c.lr.lu,c.lr.nd⟩,c.s0,c.s1,c.s2,c.s3⟩
abbrev Dt.u0 (d:Dt) (s:Nat) (F':Nat→Fc) (hp':List Nat) (at':Nat→Nat):Dt:={ d with V:=unV d.V (d.T.drop s),F:=F',T:=d.T.take s,S:=d.S.take 0,head:=s,hp:=hp',at_:=at' }
def FJ (d:Dt) (U:List Nat):Prop:=FI d U∨(d.clash=-1∧d.S≠[]∧∃h,SI d.nv d.V d.T d.S d.F d.nc d.C d.W h [] U)
theorem undo_parts {d:Dt} {I:List (List Nat)} {A:Nat} {U:List Nat} (b:Bs d I A [] U) (o:Ov d U) (m0:∀v,(d.F v).mark=0) (f:FJ d U) (hk:0<d.S.length) {F':Nat→Fc} {hp':List Nat} {at':Nat→Nat} (hF:Lst d.F F') (oi:OI d.nv hp' at') (hu:∀u,u∈hp'↔u∈d.hp∨∃l∈d.T.drop d.S[0],l / 2=u) :
  Bs (d.u0 d.S[0] F' hp' at') I A [] U∧Ov (d.u0 d.S[0] F' hp' at') U∧(∀v,((d.u0 d.S[0] F' hp' at').F v).mark=0)∧d.clash=-1∧SI d.nv (unV d.V (d.T.drop d.S[0])) (d.T.take d.S[0]) (d.S.take 0) F' d.nc d.C d.W d.S[0] [] U:=by
 have hf:d.clash=-1∧∃h,SI d.nv d.V d.T d.S d.F d.nc d.C d.W h [] U:=by
  rcases f with (⟨h1,h2⟩|⟨x,-,-,h,-⟩)|⟨h1,-,h2⟩
  · exact⟨h1,_,h2⟩
  · rw[h]at hk;simp at hk
  · exact⟨h1,h2⟩
 obtain⟨hf1,h,hs⟩:=hf;have si:=hs.cut hk (V':=unV d.V (d.T.drop d.S[0])) (F':=F') (fun l hl=>b.ti.unV hl) hF.four
 have hlen:(d.T.take d.S[0]).length=d.S[0]:=by rw[List.length_take];have:=b.ti.st _ (List.getElem_mem hk);omega
 refine⟨⟨si.ti,b.ci,b.uc,fun t ht=>b.ut t (List.mem_of_mem_take ht),b.dv,?_⟩,o.undo b.ti b.ut oi hu rfl rfl rfl rfl,fun v=>((hF v).2.2.2.2).trans (m0 v),hf1,si⟩
 have h9:=b.cn;rw[fixd_le hk]at h9;show d.nc≤A+(d.T.take d.S[0]).length
 rw[hlen];exact h9
theorem SC.undo (c:SC d0 d I A U K bu) (f:FJ d U) (hk:0<d.S.length) {F':Nat→Fc} {hp':List Nat} {at':Nat→Nat} (hF:Lst d.F F') (oi:OI d.nv hp' at') (hu:∀u,u∈hp'↔u∈d.hp∨∃l∈d.T.drop d.S[0],l / 2=u) (h2:d.steps≤((K.length*(U.length+1):Nat):Int)) :
  SC d0 (d.u0 d.S[0] F' hp' at') I A U K bu∧FI (d.u0 d.S[0] F' hp' at') U:=by
 obtain⟨p1,p2,p3,p4,p5⟩:=undo_parts c.bs c.ov c.m0 f hk hF oi hu;refine⟨⟨p1,p2,p3,c.ms,⟨c.sx.nv,c.sx.ad,c.sx.q,c.sx.rf,c.sx.mo⟩,⟨c.ol.le,c.ol.ol⟩,⟨c.lr.lt,c.lr.lu,c.lr.nd⟩,c.s0,c.s1,?_,c.s3⟩,Or.inl ⟨p4,p5⟩⟩;show d.steps≤((K.length*(U.length+1)+(d.S.take 0).length:Nat):Int)
 simp at h2 ⊢;exact h2
def trM (T:List Nat) (v:Nat):Bool:=decide (2*v∈T)
def tru (M:Nat→Bool) (m:Nat):Prop:=if m % 2=0 then M (m / 2)=true else M (m / 2)=false
theorem tru_ng (M:Nat→Bool) (l:Nat):tru M (ng l)↔¬ tru M l:=by
 have e:=ng_var l;unfold tru;rw[e];have h1:ng l % 2=0↔¬ l % 2=0:=by unfold ng;split<;>omega
 by_cases h:l % 2=0
 ·
  have:¬ ng l % 2=0:=fun h9=>(h1.1 h9) h
  rw[if_neg this,if_pos h];simp
 · have:ng l % 2=0:=h1.2 h;rw[if_pos this,if_neg h];simp
theorem tru_mem {T:List Nat} (nd:(T.map (· / 2)).Nodup) {m:Nat} (h:m∈T):tru (trM T) m:=by
 unfold tru trM;split
 ·
  next e =>
  have:2*(m / 2)=m:=by omega
  rw[this];simpa using h
 ·
  next e =>
  have:2*(m / 2)=ng m:=by unfold ng;rw[if_neg e];omega
  rw[this];simpa using nd_ng nd h
def mdl (n:Nat) (M:Nat→Bool):List Bool:=(List.range n).map (fun i=>M (i+1))
theorem mdl_len (n:Nat) (M:Nat→Bool):(mdl n M).length=n:=by simp[mdl]
theorem mdl_get {n:Nat} {M:Nat→Bool} {i:Nat} (h:i<n):(mdl n M).getD i false=M (i+1):=by simp[mdl,h]
theorem SC.whole (c:SC d0 d I A U K bu) (s:SI d.nv d.V d.T d.S d.F d.nc d.C d.W d.T.length [] U) (hp:d.hp=[]):∀x,x<d.nc→∃m∈(d.C x).lits,tru (trM d.T) m:=fun x hx=>by
  obtain⟨m,h1,h2⟩:=s.whole (fun u hu=>by
    rcases c.ov.cv u hu with h|h
    · rw[hp]at h;cases h
    · exact h) hx
  exact⟨m,h1,tru_mem s.ti.nd h2⟩
end
section
variable {w w' w1:World} {g:Nat} {d d':Dt} {a:Key→Value}
theorem SW.set_mo (h:SW w g d a) {v':Value} {x:List Bool} (hb:Below w.heap.size w w1) (hown:∀b,v'.ownBlock=some b→w.heap.size≤b) (hol:OL 1 4 w1 v' x.length (fun i=>[.bool (x.getD i false)])):SW (w1.setCell ⟨g,18,none⟩ v') g { d with mo:=x } (updK a kMod v')∧Mo g d a w { d with mo:=x } (updK a kMod v') (w1.setCell ⟨g,18,none⟩ v'):=by
 refine⟨h.put kMod (by exact⟨by decide,rfl⟩) 18 _ hb.size (fun b hb=>Or.inr (hown b hb)) (fun b hl _=>hb.block b hl) rfl (rows_mo d a _ _) ?_ rfl,Mo.put h kMod (by exact⟨by decide,rfl⟩) (fun h0=>h0) 18 _ (Mv.below hb) (fun b hb=>Or.inr (hown b hb)) rfl⟩
 show OL 1 4 w1 (updK a kMod _ kMod) _ _
 rw[updK_same];exact hol
end
def SrEnd (g:Nat) (d0:Dt) (a0:Key→Value) (I:List (List Nat)) (A:Nat) (U:List Nat) (bu:Int) (w:World) (e:Ending) (w':World):Prop :=
  ∃(d:Dt) (a:Key→Value) (d1:Dt) (K:List Nat),SW w' g d a∧Mo g d0 a0 w d a w'∧SC d0 d1 I A U K bu ∧
    ((e=.returned (.int .i64 0)∧d=d1∧FJ d1 U∧bu≤d1.steps) ∨
     (e=.returned (.int .i64 1)∧d={ d1 with mo:=mdl d1.nv (trM d1.T) }∧d1.clash=-1∧SI d1.nv d1.V d1.T d1.S d1.F d1.nc d1.C d1.W d1.head [] U∧∀x,x<d1.nc→∃m∈(d1.C x).lits,tru (trM d1.T) m) ∨
     (e=.returned (.int .i64 2)∧d1.S=[]∧∃X:Cl,X.lits=[]∧X.num=-1∧d={ ({ d1 with steps:=d.steps }:Dt).more X with refuted:=true }∧Dv (d1.nc+1) (upd d1.C d1.nc X) I∧d.steps=d1.steps+1∧d1.steps<bu))
end Sat
end Go.Proofs.YtbmkkhpoaicclabGreat
