/- SatGrows walked: it answers true; it proves no statement of the seat. -/
import Derived.Test.YtbmkkhpoaicclabGreatSatAkJGrows
import Derived.Test.YtbmkkhpoaicclabGreatSatOqJGrows
import Derived.Test.YtbmkkhpoaicclabGreatSatBiJGrows
import Derived.Test.YtbmkkhpoaicclabGreatSatXrJGrows
import Derived.Test.YtbmkkhpoaicclabGreatSatGwJGrows
namespace Go.Proofs.YtbmkkhpoaicclabGreat
open Go Go.RowKit
set_option linter.unusedVariables false
namespace Sat
open Euf (OL App)
structure BL (w:World) (q:Option Addr) (n cap:Nat) (bs:List Bool):Prop where
  len:bs.length=n
  le:n≤cap
  mx:cap≤maxLen
  at_:bs=[]∨∃b off,q=some ⟨b,off,none⟩∧b<w.heap.size∧∀i,i<n→w.cell? ⟨b,off+i,none⟩=some (.bool (bs.getD i false))
theorem BL.below {w w':World} {q:Option Addr} {n cap:Nat} {bs:List Bool} (h:BL w q n cap bs) (hb:Below w.heap.size w w'):BL w' q n cap bs:=by
 refine⟨h.len,h.le,h.mx,?_⟩;rcases h.at_ with e|⟨b,off,e,l,hc⟩
 · exact Or.inl e
 · exact Or.inr ⟨b,off,e,Nat.lt_of_lt_of_le l hb.size,fun i hi=>(World.cell?_of_block (a:=⟨b,off+i,none⟩) (hb.block b l)).trans (hc i hi)⟩
theorem uBoolQ:Tryz.prog.underlying 4=some .bool:=by kernel_rfl
theorem uBoolsQ:Tryz.prog.underlying 23=some (.slice 4):=by kernel_rfl
theorem oneB:Tryz.prog.cellsOf 4=1:=by kernel_rfl
section
open Go.ChangeShapes Go.WideShapes Go.ChangeAt
variable {H:Type} {enc:TypeId × Value→H} {w:World} {base:Nat} {sp:Nat→Bool} {held:Bool}
theorem open_bl {fuel:Nat} {v:Value} {x:DataW H × List MemPlace} (h:DataW.trod enc Tryz.prog w base sp held fuel 23 [v]=some x):∃(q:Option Addr) (cap:Nat) (bs:List Bool),v=.slice q bs.length cap∧BL w q bs.length cap bs:=by
 rcases DataW.trod_slice uBoolsQ h with⟨e,-⟩|⟨a,len,cap,elems,rest,n,-,e,-,-,hl,hm,hlen,hel,-⟩
 · injection e with e;exact⟨none,0,[],e,rfl,Nat.le_refl _,Nat.zero_le _,Or.inl rfl⟩
 ·
  injection e with e;rw[oneB]at hel;have key:∀i,∃y:Bool,i<len→w.cell? (a.add i)=some (.bool y):=by
   intro i;by_cases hi:i<len
   ·
    have h1:=hel i hi;rw[List.getElem?_eq_getElem (by omega)]at h1
    obtain⟨cs,h2,h3⟩:=Option.bind_eq_some_iff.1 h1;obtain⟨-,-,h4⟩:=World.cells?_some h2;obtain⟨y,rfl,-⟩:=DataW.trod_bool uBoolQ h3;have h5:=h4 0 (by omega)
    refine⟨y,fun _=>?_⟩
    rw[Nat.mul_one]at h5;have e0:(a.add i).add 0=a.add i:=by generalize a.add i=a9;unfold Addr.add;rw[if_pos rfl]
    rw[e0]at h5;exact h5
   · exact⟨false,fun h=>absurd h hi⟩
  obtain⟨f,hf⟩:=Classical.skolem.1 key;have hlen2:((List.range len).map f).length=len:=by simp
  refine⟨some a,cap,(List.range len).map f,by rw[hlen2];exact e,rfl,by rw[hlen2];exact hl,hm,?_⟩
  rw[hlen2];by_cases h0:len=0
  · left;rw[h0];rfl
  ·
   right
   have s0:=hf 0 (by omega)
   have e0:a.add 0=a:=by unfold Addr.add;rw[if_pos rfl]
   rw[e0]at s0;have hs:=spot9 s0;refine⟨a.block,a.off,by rw[← hs],World.block_lt_of_cell? w a s0,fun i hi=>?_⟩
   have hc:=hf i hi;have eo:((List.range len).map f).getD i false=f i:=by
    rw[List.getD_eq_getElem?_getD,List.getElem?_map,List.getElem?_range hi];rfl
   rw[eo];rw[hs,addr9]at hc;exact hc
end
structure GrS (N g:Nat) (ls:List (List Int)) (i A:Nat) (dead:Bool) (w1 wr:World):Prop where
  dd:dead=true→¬ Mdl (ls.take i)
  st:(∃A',A'≤A∧SvR N g ((ls.take i).map (·.map lit)) A' w1 wr)∨(¬ Mdl (ls.take i)∧∃T,SvX N g 9 i T w1 wr)
theorem GrS.mono {N g i A B:Nat} {ls:List (List Int)} {dead:Bool} {w1 wr:World} (h:GrS N g ls i A dead w1 wr) (hAB:A≤B):GrS N g ls i B dead w1 wr :=
  ⟨h.dd,h.st.imp (fun⟨A',h1,h2⟩=>⟨A',Nat.le_trans h1 hAB,h2⟩) id⟩
theorem GrS.bl {N g i A:Nat} {ls:List (List Int)} {dead:Bool} {w1 wr:World} (h:GrS N g ls i A dead w1 wr):Below N w1 wr:=by
 rcases h.st with⟨A',-,s⟩|⟨-,T,s⟩
 · exact s.bl
 · exact s.bl
theorem mdl_less {ls:List (List Int)} {i j:Nat} (h:i≤j) (hm:Mdl (ls.take j)):Mdl (ls.take i):=by
 obtain⟨B,h1,h2⟩:=hm;refine⟨B,h1,fun c hc=>h2 c ?_⟩
 have e:ls.take i=(ls.take j).take i:=by rw[List.take_take,Nat.min_eq_left h]
 rw[e]at hc;exact List.mem_of_mem_take hc
theorem GrS.ask {N g i A:Nat} {ls:List (List Int)} {dead:Bool} {w1 wr:World} (h:GrS N g ls i A dead w1 wr) (hf:∀c∈ls,Few1 c) (hi:i≤ls.length) (h80:A≤40000000) (hi8:i≤80) :
  Calls Tryz.prog 15 #[.pointer (some ⟨g,0,none⟩),.int .i64 373996] wr fun e w'=>Below N w1 w'∧((e=.returned (.int .i64 1)∧Mdl (ls.take i)∧∃A',A'≤A+373996∧SvR N g ((ls.take i).map (·.map lit)) A' w1 w')∨(e=.returned (.int .i64 2)∧¬ Mdl (ls.take i)∧∃T,SvX N g 9 i T w1 w')):=by
 have hft:∀c∈ls.take i,Few1 c:=fun c hc=>hf c (List.mem_of_mem_take hc)
 have hlt:(ls.take i).length=i:=by rw[List.length_take];omega
 rcases h.st with⟨A',hA,s⟩|⟨hn,T,s⟩
 ·
  refine (s.q.solveE (by omega)).mono ?_
  rintro e w' ⟨d,a,U,A2,s4,hn,hfo,bl4,hA2,hcase⟩;refine⟨bl4,?_⟩;rcases hcase with⟨rfl,idl,M,hmo,hM⟩|⟨rfl,r,hnc⟩
  · exact Or.inl ⟨rfl,mdl_of hft hM,A2,by omega,d,a,U,s4,idl,hn,hfo,bl4⟩
  ·
   have h9:=svx_of (N:=N) (w0:=w1) (ls:=ls.take i) (M:=A2+11) s4 r hnc (by omega) (by rw[hn];decide) (by omega) (hfo g (Or.inl rfl)) bl4
   rw[hn,hlt]at h9;exact Or.inr ⟨rfl,not_mdl r,_,h9⟩
 · refine (s.solve 373996).mono ?_;rintro e w' ⟨rfl,s',-⟩;exact⟨s'.bl,Or.inr ⟨rfl,hn,T,s'⟩⟩
set_option maxRecDepth 20000 in
set_option maxHeartbeats 32000000 in
theorem satGrows_any (qL:Option Addr) (cL:Nat) (ls:List (List Int)) (qB:Option Addr) (cB:Nat) (bs:List Bool) (vars:Int) (w:World) (hl:LL w w.heap.size qL ls.length cL ls) (hb:BL w qB bs.length cB bs) (hv:InI vars) :
  Calls Tryz.prog 3 #[.slice qL ls.length cL,.slice qB bs.length cB,.int .i64 vars] w fun e w'=>e=.returned (.bool true)∧Below w.heap.size w w':=by
 have hnBI:(bs.length:Int)≤9223372036854775807:=by have h1:=hb.le;have h2:=hb.mx;unfold maxLen at h2;omega
 have hcLI:(cL:Int)≤9223372036854775807:=by have h2:=hl.mx;unfold maxLen at h2;omega
 obtain⟨nB,hnB⟩:∃nB,bs.length=nB:=⟨_,rfl⟩;rw[hnB]at hb hnBI ⊢;have HZ:=hide (And.intro hb hnB);clear hb hnB;obtain⟨nL,hnL⟩:∃nL,ls.length=nL:=⟨_,rfl⟩;rw[hnL]at hl ⊢;have H:=hide (And.intro hl hnL);clear hl hnL;obtain⟨v1,v2⟩:=hv;go_enter Tryz.func3,Tryz.ntmps3;go_wp2_with fail
 refine (awake_any w).mono ?_;rintro e w1 ⟨rfl,b1⟩;have HB1:=hide b1;clear b1;have HFW:=hide (few_any w.heap.size qL nL cL ls w1 (H.out.1.below HB1.out));go_wp2_with fail
 refine HFW.out.mono ?_;rintro e w2 ⟨fw,hw9⟩;obtain rfl:=hw9.symm;clear HFW;rcases fw with⟨rfl,hf⟩|⟨rfl,hf⟩
 rotate_left
 ·
  clear hf;go_wp2;go_ret
  exact⟨rfl,HB1.out⟩
 have HF:=hide hf;have hn80:nL≤80:=by have:=hf.1;rw[H.out.2]at this;exact this
 have hn80I:(nL:Int)≤80:=by omega
 clear hf;have HNW:=hide (newF_any 0 w1 (by omega))
 have hgN:=HB1.out.size;obtain⟨g,hg⟩:∃g,w1.heap.size=g:=⟨_,rfl⟩;rw[hg]at HNW hgN;go_wp2_with fail
 refine HNW.out.mono ?_;rintro e w3 ⟨rfl,fr3⟩;have FR3:=hide fr3;clear fr3 HNW;-- the tail: a solver of nine variables
 have REST:Hid (∀wq,FRs g g 9 w1 wq→GrS g g ls 0 (0*400000) false w1 wq):=fun wq h=>⟨fun h=>(by cases h),Or.inl ⟨0,by omega,by have h9:=h.svr;rw[List.take_zero];exact h9⟩⟩
 have tail:Hid (∀wq,FRs g g 9 w1 wq→Below w.heap.size w wq):=fun wq h=>by
  obtain⟨_,_,_,_,_,_,_,_,bl⟩:=h;exact HB1.out.trans (bl.mono hgN)
 have hcase:vars<0∨4096<vars∨(∃nv:Nat,vars=(nv:Int)∧nv<9)∨vars=((9:Nat):Int)∨∃nv:Nat,vars=(nv:Int)∧9<nv∧nv≤4096:=by
  by_cases h1:vars<0
  · exact Or.inl h1
  ·
   by_cases h2:4096<vars
   · exact Or.inr (Or.inl h2)
   ·
    by_cases h3:vars<9
    · exact Or.inr (Or.inr (Or.inl ⟨vars.toNat,by omega,by omega⟩))
    ·
     by_cases h4:vars=9
     · exact Or.inr (Or.inr (Or.inr (Or.inl h4)))
     · exact Or.inr (Or.inr (Or.inr (Or.inr ⟨vars.toNat,by omega,by omega,by omega⟩)))
 rcases hcase with h0|h0|⟨nv,rfl,h9⟩|rfl|⟨nv,rfl,h9,h4⟩
 focus
  have HG1:=hide (growF_bad vars FR3.out (by first|exact Or.inl (by omega)|exact Or.inr h0))
  have HV1:=hide (varsF_any FR3.out);have HG9:=hide (growF_any 9 FR3.out (by omega) (by omega))
  have h01:¬ (0≤vars):=by omega
  go_wp2_with fail
  refine HG1.out.mono ?_;rintro e w9 ⟨rfl,hw9⟩;obtain rfl:=hw9.symm;clear HG1;go_wp2_with fail
  refine HV1.out.mono ?_;rintro e w9 ⟨rfl,hw9⟩;obtain rfl:=hw9.symm;clear HV1;go_wp2_with fail
  refine HG9.out.mono ?_;rintro e wS ⟨rfl,fr4⟩;have HV9:=hide (varsF_any fr4);have HS0:=hide (REST.out wS fr4);clear fr4 HG9 FR3;go_wp2_with fail
  refine HV9.out.mono ?_;rintro e w9 ⟨rfl,hw9⟩;obtain rfl:=hw9.symm;clear HV9
 rotate_left
 focus
  have HG1:=hide (growF_bad vars FR3.out (by first|exact Or.inl (by omega)|exact Or.inr h0))
  have HV1:=hide (varsF_any FR3.out);have HG9:=hide (growF_any 9 FR3.out (by omega) (by omega))
  have h00:¬ (vars<0):=by omega
  have h02:0≤vars:=by omega
  have h03:¬ (vars≤4096):=by omega
  go_wp2_with fail
  refine HG1.out.mono ?_;rintro e w9 ⟨rfl,hw9⟩;obtain rfl:=hw9.symm;clear HG1;go_wp2_with fail
  refine HV1.out.mono ?_;rintro e w9 ⟨rfl,hw9⟩;obtain rfl:=hw9.symm;clear HV1;go_wp2_with fail
  refine HG9.out.mono ?_;rintro e wS ⟨rfl,fr4⟩;have HV9:=hide (varsF_any fr4);have HS0:=hide (REST.out wS fr4);clear fr4 HG9 FR3;go_wp2_with fail
  refine HV9.out.mono ?_;rintro e w9 ⟨rfl,hw9⟩;obtain rfl:=hw9.symm;clear HV9
 rotate_left
 focus
  have hv0:(0:Int)≤(nv:Int):=by omega
  have hv4:(nv:Int)≤4096:=by omega
  have h9I:(nv:Int)<9:=by omega
  have HG1:=hide (growF_any nv FR3.out (by omega) (by omega))
  go_wp2_with fail
  refine HG1.out.mono ?_;rintro e w4 ⟨rfl,fr4⟩;have HV1:=hide (varsF_any fr4);have HG9:=hide (growF_any 9 fr4 (by omega) (by omega))
  clear fr4 HG1 FR3;go_wp2_with fail
  refine HV1.out.mono ?_;rintro e w9 ⟨rfl,hw9⟩;obtain rfl:=hw9.symm;clear HV1 hv0 hv4 v1 v2;go_wp2_with fail
  refine HG9.out.mono ?_;rintro e wS ⟨rfl,fr5⟩;have HV9:=hide (varsF_any fr5);have HS0:=hide (REST.out wS fr5);clear fr5 HG9;go_wp2_with fail
  refine HV9.out.mono ?_;rintro e w9 ⟨rfl,hw9⟩;obtain rfl:=hw9.symm;clear HV9
 rotate_left
 focus
  have HG1:=hide (growF_any 9 FR3.out (by omega) (by omega))
  go_wp2_with fail
  refine HG1.out.mono ?_;rintro e wS ⟨rfl,fr4⟩;have HV1:=hide (varsF_any fr4);have HS0:=hide (REST.out wS fr4);clear fr4 HG1 FR3 v1 v2;go_wp2_with fail
  refine HV1.out.mono ?_;rintro e w9 ⟨rfl,hw9⟩;obtain rfl:=hw9.symm;go_wp2_with fail
  refine HV1.out.mono ?_;rintro e w9 ⟨rfl,hw9⟩;obtain rfl:=hw9.symm;clear HV1
 rotate_left
 ·
  have hv0:(0:Int)≤(nv:Int):=by omega
  have hv4:(nv:Int)≤4096:=by omega
  have h9I:¬ ((nv:Int)<9):=by omega
  have h99I:(9:Int)<(nv:Int):=by omega
  have HG1:=hide (growF_any nv FR3.out (by omega) (by omega))
  go_wp2_with fail
  refine HG1.out.mono ?_;rintro e w4 ⟨rfl,fr4⟩;have HV1:=hide (varsF_any fr4);have HG9:=hide (growF_bad 9 fr4 (Or.inl (by omega)))
  have HE:Hid (Below w.heap.size w w4):=by
   obtain⟨_,_,_,_,_,_,_,_,bl⟩:=fr4;exact HB1.out.trans (bl.mono hgN)
  clear fr4 HG1 FR3;go_wp2_with fail
  refine HV1.out.mono ?_;rintro e w9 ⟨rfl,hw9⟩;obtain rfl:=hw9.symm;clear hv0 hv4 v1 v2 h9 h4;go_wp2_with fail
  refine HV1.out.mono ?_;rintro e w9 ⟨rfl,hw9⟩;obtain rfl:=hw9.symm;go_wp2_with fail
  refine HG9.out.mono ?_;rintro e w9 ⟨rfl,hw9⟩;obtain rfl:=hw9.symm;go_wp2_with fail
  refine HV1.out.mono ?_;rintro e w9 ⟨rfl,hw9⟩;obtain rfl:=hw9.symm;go_wp2;go_ret
  exact⟨rfl,HE.out⟩
 all_goals
  clear REST tail;go_wp2;go_loopw [10,11] (fun v10 v11 wr=>∃(i:Nat) (dead:Bool),v10=.bool dead∧v11=.int .i64 (i:Nat)∧i≤nL∧Hid (GrS g g ls i (i*400000) dead w1 wr)) (fun _ v _=>nL - (intOf v).toNat)
  case atStart=>exact⟨0,false,rfl,rfl,Nat.zero_le _,HS0.out⟩
  case round =>
   rename World=>wl
   obtain⟨i,dead,rfl,rfl,hi,HJ⟩:=hrel;clear HS0;have HBl:Hid (Below w.heap.size w wl):=HB1.out.trans (HJ.out.bl.mono hgN);by_cases hlt:i<nL
   ·
    have hltI:(i:Int)<(nL:Int):=by omega
    obtain⟨b,off,qi,ci,zi,rfl,lb,hmem,hget,hcell,il,lo⟩:=(H.out.1.below HBl.out).get hlt;have hfz:=HF.out.2 zi hmem;have htl:(ls.take i).length=i:=by rw[List.length_take,H.out.2];omega
    have e9:(ls.take i).map (·.map lit)++[zi.map lit]=(ls.take (i+1)).map (·.map lit):=by
     rw[List.take_add_one,hget];simp
    have HAD:Hid (Calls Tryz.prog 14 #[.pointer (some ⟨g,0,none⟩),.slice qi zi.length ci] wl fun e w'=>e=.returned (.tuple #[.int .i64 (i:Nat),.int .i64 0])∧Below g w1 w'∧GrS g g ls (i+1) (i*400000+1) dead w1 w'):=by
     have dd9:dead=true→¬ Mdl (ls.take (i+1)):=fun h h9=>HJ.out.dd h (mdl_less (Nat.le_succ i) h9)
     rcases HJ.out.st with⟨A',hA,s⟩|⟨hn,T,s⟩
     ·
      have h9:=s.add il lo hgN hfz.2 (by have:=hfz.1;omega) (by rw[List.length_map,htl];omega) (by omega)
      rw[List.length_map,htl,e9]at h9;refine h9.mono ?_;rintro e w' ⟨he,s'⟩;exact⟨he,s'.bl,dd9,Or.inl ⟨A'+1,by omega,s'⟩⟩
     ·
      refine (s.add il lo hgN hfz.2 (by have:=hfz.1;omega) (by omega) (by omega)).mono ?_
      rintro e w' ⟨he,s'⟩;exact⟨he,s'.bl,dd9,Or.inr ⟨fun h9=>hn (mdl_less (Nat.le_succ i) h9),T,s'⟩⟩
    have hA1:i*400000+1+373996≤(i+1)*400000:=by rw[Nat.add_mul];omega
    have HA1:=hide hA1;generalize zi.length=ni at *;clear hmem hget il lo hfz htl e9 HJ hA1;go_wp2_with fail
    refine HAD.out.mono ?_;rintro e w5 ⟨rfl,bl5,gs5⟩;have HB5:Hid (Below w.heap.size w w5):=HB1.out.trans (bl5.mono hgN);have GS:=hide gs5;clear bl5 gs5 HAD;by_cases hib:i<nB
    ·
     have hibI:(i:Int)<(nB:Int):=by omega
     have zl:=HZ.out.1.below HB5.out;have hlz:=HZ.out.2;rcases zl.at_ with h0|⟨bb,ob,rfl,lbb,hc⟩
     · rw[h0]at hlz;simp at hlz;omega
     have cb:=hc i hib;obtain⟨ab,hab⟩:∃ab,bs.getD i false=ab:=⟨_,rfl⟩;rw[hab]at cb;clear hc hab zl hlz;cases ab with
     | true =>
      have HEN:=hide (enough_any w5);have HAS:=hide (GS.out.ask HF.out.2 (by rw[H.out.2];omega) (by omega) (by omega))
      have DD:=hide GS.out.dd;clear GS;go_wp2_with fail
      refine HEN.out.mono ?_;rintro e w9 ⟨rfl,hw9⟩;obtain rfl:=hw9.symm;clear HEN;go_wp2_with fail
      refine HAS.out.mono ?_;rintro e w6 ⟨bl6,hcase⟩;have HB6:Hid (Below w.heap.size w w6):=HB1.out.trans (bl6.mono hgN);have HMD:=hide (models_any w.heap.size (some ⟨b,off,none⟩) (i+1) cL (ls.take (i+1)) w6 ((H.out.1.below HB6.out).take (i+1) (by omega)) (fun c hc=>HF.out.2 c (List.mem_of_mem_take hc)))
      have hwI:((i+1:Nat):Int)=(i:Int)+1:=by omega
      have hi1c:(i:Int)+1≤(cL:Int):=by have:=H.out.1.le;omega
      clear HAS bl6;rcases hcase with⟨rfl,hmd,A',hA,s6⟩|⟨rfl,hmd,T,s6⟩
      ·
       have HM:=hide hmd;obtain rfl:dead=false:=by
        cases dead with
        | false=>rfl
        | true=>exact absurd hmd (DD.out rfl)
       have HE:Hid (GrS g g ls (i+1) ((i+1)*400000) false w1 w6):=⟨fun h=>(by cases h),Or.inl ⟨A',Nat.le_trans hA HA1.out,s6⟩⟩
       clear s6 hmd DD;go_wp2_with fail
       refine HMD.out.mono ?_;rintro e w9 ⟨⟨m,rfl,hm⟩,hw9⟩;obtain rfl:=hw9.symm;have hm0:0<m:=hm.2 HM.out;have hm0I:(0:Int)<(m:Int):=by omega
       clear hm HMD;go_wp2;go_roundw
       case rel=>exact⟨i+1,false,rfl,by go_num,by omega,HE.out⟩
       case measure=>simp[intOf]<;>omega
      ·
       have HM:=hide hmd;have HE:Hid (GrS g g ls (i+1) ((i+1)*400000) true w1 w6):=⟨fun _=>hmd,Or.inr ⟨hmd,T,s6⟩⟩
       clear s6 hmd DD;go_wp2_with fail
       refine HMD.out.mono ?_;rintro e w9 ⟨⟨m,rfl,hm⟩,hw9⟩;obtain rfl:=hw9.symm;obtain rfl:m=0:=by
        apply Classical.byContradiction
        intro h9;exact HM.out (hm.1 (by omega))
       clear hm HMD;cases dead with
       | false =>
        go_wp2;go_roundw
        case rel=>exact⟨i+1,true,rfl,by go_num,by omega,HE.out⟩
        case measure=>simp[intOf]<;>omega
       | true =>
        go_wp2;go_roundw
        case rel=>exact⟨i+1,true,rfl,by go_num,by omega,HE.out⟩
        case measure=>simp[intOf]<;>omega
     | false =>
      go_wp2;go_roundw
      case rel=>exact⟨i+1,dead,rfl,by go_num,by omega,GS.out.mono (Nat.le_trans (Nat.le_add_right _ _) HA1.out)⟩
      case measure=>simp[intOf]<;>omega
    ·
     have hibI:¬ ((i:Int)<(nB:Int)):=by omega
     go_wp2;go_roundw
     case rel=>exact⟨i+1,dead,rfl,by go_num,by omega,GS.out.mono (Nat.le_trans (Nat.le_add_right _ _) HA1.out)⟩
     case measure=>simp[intOf]<;>omega
   ·
    have hltI:¬ ((i:Int)<(nL:Int)):=by omega
    obtain rfl:i=nL:=by omega
    have htk:ls.take i=ls:=by rw[List.take_of_length_le (by rw[H.out.2];exact Nat.le_refl _)]
    have HEN:=hide (enough_any wl);have HAS:=hide (HJ.out.ask HF.out.2 (by rw[H.out.2];omega) (by omega) (by omega))
    rw[htk]at HAS;clear HJ htk;go_wp2_with fail
    refine HEN.out.mono ?_;rintro e w9 ⟨rfl,hw9⟩;obtain rfl:=hw9.symm;clear HEN;go_wp2_with fail
    refine HAS.out.mono ?_;rintro e w6 ⟨bl6,hcase⟩;have HB6:Hid (Below w.heap.size w w6):=HB1.out.trans (bl6.mono hgN);have HMD:=hide (models_any w.heap.size qL i cL ls w6 (H.out.1.below HB6.out) HF.out.2);clear HAS bl6;rcases hcase with⟨rfl,hmd,-⟩|⟨rfl,hmd,-⟩
    ·
     have HM:=hide hmd;clear hmd;go_wp2_with fail
     refine HMD.out.mono ?_;rintro e w9 ⟨⟨m,rfl,hm⟩,hw9⟩;obtain rfl:=hw9.symm;have hm0:0<m:=hm.2 HM.out;have hm0I:(0:Int)<(m:Int):=by omega
     clear hm HMD;go_wp2;go_ret
     exact⟨rfl,HB6.out⟩
    ·
     have HM:=hide hmd;clear hmd;go_wp2_with fail
     refine HMD.out.mono ?_;rintro e w9 ⟨⟨m,rfl,hm⟩,hw9⟩;obtain rfl:=hw9.symm;obtain rfl:m=0:=by
      apply Classical.byContradiction
      intro h9;exact HM.out (hm.1 (by omega))
     clear hm HMD;go_wp2;go_ret
     exact⟨rfl,HB6.out⟩
end Sat
end Go.Proofs.YtbmkkhpoaicclabGreat
