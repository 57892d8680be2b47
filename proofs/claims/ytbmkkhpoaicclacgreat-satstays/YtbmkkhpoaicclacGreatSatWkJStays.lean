/- SatStays walked: it answers true; it proves no statement of the seat. -/
import Derived.Test.YtbmkkhpoaicclacGreatSatAkJStays
import Derived.Test.YtbmkkhpoaicclacGreatSatOqJStays
import Derived.Test.YtbmkkhpoaicclacGreatSatToJStays
namespace Go.Proofs.YtbmkkhpoaicclacGreat
open Go Go.RowKit
set_option linter.unusedVariables false
namespace Sat
open Euf (OL App)
def sg (M:Nat→Bool) (j:Nat):Int:=if M (j + 1)=true then (j:Int) + 1 else -((j:Int) + 1)
def Iu (I:List (List Nat)) (M:Nat→Bool) (i:Nat):List (List Nat):=I ++ (List.range i).map (fun j=>[lit (sg M j)])
theorem Iu_len (I:List (List Nat)) (M:Nat→Bool) (i:Nat):(Iu I M i).length=I.length + i:=by simp [Iu]
theorem Iu_succ (I:List (List Nat)) (M:Nat→Bool) (i:Nat):Iu I M i ++ [[lit (sg M i)]]=Iu I M (i + 1):=by
 unfold Iu;rw [List.range_succ,List.map_append,List.append_assoc];rfl
theorem sg_ok (M:Nat→Bool) {j:Nat} (h:j < 9):Okl 9 (sg M j):=by
 unfold sg Okl;split <;> omega
theorem tru_sg (M M':Nat→Bool) (j:Nat):tru M' (lit (sg M j))↔M' (j + 1)=M (j + 1):=by
 unfold sg;by_cases h:M (j + 1)=true
 ·
  rw [if_pos h,h];have e:lit ((j:Int) + 1)=2*(j + 1):=by unfold lit;rw [if_neg (by omega)];omega
  unfold tru;rw [e,if_pos (by omega)]
  have e2:2*(j + 1) / 2=j + 1:=by omega
  rw [e2]
 ·
  rw [if_neg h];have hf:M (j + 1)=false:=by simpa using h
  rw [hf];have e:lit (-((j:Int) + 1))=2*(j + 1) + 1:=by unfold lit;rw [if_pos (by omega)];omega
  unfold tru;rw [e,if_neg (by omega)]
  have e2:(2*(j + 1) + 1) / 2=j + 1:=by omega
  rw [e2]
theorem Iu_model {I:List (List Nat)} {M:Nat→Bool} (h:∀ L∈I, ∃ m∈L, tru M m) (i:Nat):∀ L∈Iu I M i, ∃ m∈L, tru M m:=fun L hL=>by
  rcases List.mem_append.1 hL with h9 | h9
  · exact h L h9
  · obtain ⟨j, -, rfl⟩:=List.mem_map.1 h9
    exact ⟨_, List.mem_singleton.2 rfl, (tru_sg M M j).2 rfl⟩
theorem Iu_same {I:List (List Nat)} {M M':Nat→Bool} {i:Nat} (h:∀ L∈Iu I M i,∃ m∈L,tru M' m) {j:Nat} (hj:j < i):M' (j + 1)=M (j + 1):=by
 obtain ⟨m,h1,h2⟩:=h [lit (sg M j)] (List.mem_append_right _ (List.mem_map.2 ⟨j,List.mem_range.2 hj,rfl⟩));rw [List.mem_singleton.1 h1] at h2;exact (tru_sg M M' j).1 h2
structure StL (N g bm:Nat) (I:List (List Nat)) (M:Nat→Bool) (A i:Nat) (w1 wr:World):Prop where
  sv:∃ d a U, SW wr g d a∧Idl d (Iu I M i) (A + i) U∧d.nv=9∧(∀ b, Fo g d a b→N≤b)∧Below N w1 wr∧¬ Fo g d a bm
  lb:bm < wr.heap.size
  cm:∀ j, j < 9→wr.cell? ⟨bm, j, none⟩=some (.bool (M (j + 1)))
set_option maxRecDepth 20000 in
set_option maxHeartbeats 16000000 in
theorem satStays_any (qL:Option Addr) (cL:Nat) (ls:List (List Int)) (w:World) (hl:LL w w.heap.size qL ls.length cL ls) :
  Calls Tryz.prog 3 #[.slice qL ls.length cL] w fun e w'=>e=.returned (.bool true)∧Below w.heap.size w w':=by
 obtain ⟨nL,hnL⟩:∃ nL,ls.length=nL:=⟨_,rfl⟩;rw [hnL] at hl ⊢;have H:=hide (And.intro hl hnL);clear hl hnL;go_enter Tryz.func3,Tryz.ntmps3;go_wp2_with fail
 refine (awake_any w).mono ?_;rintro e w1 ⟨rfl,b1⟩;have HB1:=hide b1;clear b1;have HFW:=hide (few_any w.heap.size qL nL cL ls w1 (H.out.1.below HB1.out));go_wp2_with fail
 refine HFW.out.mono ?_;rintro e w2 ⟨fw,hw9⟩;obtain rfl:=hw9.symm;clear HFW;rcases fw with ⟨rfl,hf⟩ | ⟨rfl,hf⟩
 rotate_left
 ·
  have HSV:=hide (solver_any w1.heap.size none 0 0 [] w1 (LL.nil w1 _) (Nat.le_refl _) (fun c hc=>by cases hc) (by omega))
  clear hf;go_wp2_with fail
  refine HSV.out.mono ?_;rintro e w3 ⟨rfl,sv⟩;have HE:Hid (Below w.heap.size w w3):=HB1.out.trans (sv.bl.mono HB1.out.size);clear sv HSV;go_wp2;go_ret
  exact ⟨rfl,HE.out⟩
 have HF:=hide hf;have hn80:nL≤80:=by have:=hf.1;rw [H.out.2] at this;exact this
 have hn80I:(nL:Int)≤80:=by omega
 have HSV:=hide (solver_any w.heap.size qL nL cL ls w1 (H.out.1.below HB1.out) HB1.out.size hf.2 (by omega))
 have hgN:=HB1.out.size;obtain ⟨g,hg⟩:∃ g,w1.heap.size=g:=⟨_,rfl⟩;rw [hg] at HSV hgN;clear hf;go_wp2_with fail
 refine HSV.out.mono ?_;rintro e w3 ⟨rfl,sv⟩;have HS:=hide sv;have HB3:Hid (Below w.heap.size w w3):=HB1.out.trans (sv.bl.mono hgN);clear sv HSV;have hIl:(ls.map (·.map lit)).length≤80:=by rw [List.length_map,H.out.2];exact hn80
 obtain ⟨I,hI⟩:∃ I,ls.map (·.map lit)=I:=⟨_,rfl⟩;rw [hI] at HS hIl;have HEN:=hide (enough_any w3);go_wp2_with fail
 refine HEN.out.mono ?_;rintro e w9 ⟨rfl,hw9⟩;obtain rfl:=hw9.symm;have HSO:=hide (HS.out.q.solveE (by omega))
 clear HEN HS;go_wp2_with fail
 refine HSO.out.mono ?_;rintro e w4 ⟨d,a,U,A',s4,hn,hfo,bl4,hA',hcase⟩;have HB4:Hid (Below w.heap.size w w4):=HB1.out.trans (bl4.mono hgN);rcases hcase with ⟨rfl,idl,M,hmo,hM⟩ | ⟨rfl,r,hnc⟩
 rotate_left
 ·
  clear s4 hfo bl4 r HSO;go_wp2;go_ret
  exact ⟨rfl,HB4.out⟩
 have HP:=hide (model_any g d a w4 s4 (by rw [hmo];simp [mdl]))
 have HMO:=hide hmo;have HM:=hide hM;have S4:=hide (And.intro s4 (And.intro idl (And.intro hn (And.intro hfo bl4))));clear s4 idl hn hfo bl4 hmo hM HSO;go_wp2_with fail
 refine HP.out.mono ?_;rintro e w5 ⟨v,rfl,ol,own5,b5⟩;rw [HMO.out,mdl_len] at ol;obtain ⟨bm,c5,rfl,-⟩:=ol.open 0 (by decide)
 have hbm:w4.heap.size≤bm:=own5 bm rfl;have HB5:Hid (Below w.heap.size w w5):=HB4.out.trans (b5.mono HB4.out.size);have HST:Hid (StL g g bm I M A' 0 w1 w5):=by
  obtain ⟨s4,idl,hn,hfo,bl4⟩:=S4.out;refine ⟨⟨d,a,U,s4.below b5,?_,hn,hfo,bl4.trans (b5.mono (Nat.le_trans (hfo g (Or.inl rfl)) (Nat.le_of_lt s4.lt))),fun h9=>by have:=s4.foLt h9;omega⟩,ol.lt rfl,fun j hj=>?_⟩
  ·
   have e:Iu I M 0=I:=by simp [Iu]
   rw [e];exact idl
  ·
   have h9:=ol.cell (i:=j) (j:=0) hj (by decide)
   rw [Nat.mul_one,Nat.add_zero,mdl_get hj] at h9;exact h9
 clear ol own5 b5 hbm HP S4 HMO;go_wp2;go_loopw [7] (fun v7 wr=>∃ (i:Nat),v7=.int .i64 (i:Nat)∧i≤9∧Hid (StL g g bm I M A' i w1 wr)) (fun v _=>9 - (intOf v).toNat)
 case atStart=>exact ⟨0,rfl,by omega,HST.out⟩
 case round =>
  rename World=>wl
  obtain ⟨i,rfl,hi,HJ⟩:=hrel;clear HST;have HBl:Hid (Below w.heap.size w wl):=by
   obtain ⟨d,a,U,-,-,-,-,bl,-⟩:=HJ.out.sv;exact HB1.out.trans (bl.mono hgN)
  by_cases hlt:i < 9
  ·
   have hltI:(i:Int) < 9:=by omega
   have ci:=HJ.out.cm i hlt;have lbm:=HJ.out.lb;obtain ⟨z,hz⟩:∃ z,sg M i=z:=⟨_,rfl⟩;obtain ⟨w6,hw6⟩:∃ w6,wl.alloc (.cells #[.int .i64 z] 3 (0,0))=w6:=⟨_,rfl⟩;have HAD:Hid (Calls Tryz.prog 10 #[.pointer (some ⟨g,0,none⟩),.slice (some ⟨wl.heap.size,0,none⟩) 1 1] w6 fun e w'=>(∃ k:Nat,e=.returned (.tuple #[.int .i64 (k:Nat),.int .i64 0]))∧StL g g bm I M A' (i + 1) w1 w'):=by
    obtain ⟨⟨d,a,U,s,id,hn,hfo,bl,hnb⟩,lb,cm⟩:=HJ.out;have b6:Below wl.heap.size wl w6:=by rw [← hw6];exact (Below.refl _ _).alloc (Nat.le_refl _) _
    have hg6:g≤wl.heap.size:=Nat.le_trans (hfo g (Or.inl rfl)) (Nat.le_of_lt s.lt);refine (add_one g d a _ (A' + i) U z wl w6 s id hn (by omega) (by rw [Iu_len];omega) (by rw [← hz];exact sg_ok M hlt) hw6).mono ?_
    rintro e w' ⟨d',a',he,s',m',id',hn'⟩;refine ⟨⟨_,he⟩,⟨⟨d',a',U,s',?_,hn',?_,?_,?_⟩,?_,fun j hj=>?_⟩⟩
    · rw [← hz,Iu_succ] at id';exact id'
    · exact (m'.low (Nat.le_trans hg6 b6.size) hfo).2
    · exact (bl.trans (b6.mono hg6)).trans (m'.low (Nat.le_trans hg6 b6.size) hfo).1
    ·
     intro h9;rcases m'.fo bm h9 with h8 | h8
     · exact hnb h8
     · have:=b6.size;omega
    · have h1:=m'.mv.size;have h2:=b6.size;omega
    ·
     have h1:=m'.mv.other bm (by have:=b6.size;omega) hnb
     rw [World.cell?_of_block (a:=⟨bm,j,none⟩) h1,World.cell?_of_block (a:=⟨bm,j,none⟩) (b6.block bm lb)];exact cm j hj
   obtain ⟨mi,hmi⟩:∃ mi,M (i + 1)=mi:=⟨_,rfl⟩;rw [hmi] at ci;have hzv:z=if mi=true then (i:Int) + 1 else -((i:Int) + 1):=by rw [← hz,← hmi];rfl
   clear hz hmi HJ;cases mi with
   | true =>
    have hz2:z=(i:Int) + 1:=by rw [hzv,if_pos rfl]
    subst hz2;clear hzv;go_wp2_with fail
    refine HAD.out.mono ?_;rintro e w7 ⟨⟨k,rfl⟩,st7⟩;have HE:=hide st7;clear st7 HAD hw6;go_wp2;go_roundw
    case rel=>exact ⟨i + 1,by go_num,by omega,HE.out⟩
    case measure=>simp [intOf] <;> omega
   | false =>
    have hz2:z=-((i:Int) + 1):=by rw [hzv,if_neg (by decide)]
    subst hz2;clear hzv;go_wp2_with fail
    refine HAD.out.mono ?_;rintro e w7 ⟨⟨k,rfl⟩,st7⟩;have HE:=hide st7;clear st7 HAD hw6;go_wp2;go_roundw
    case rel=>exact ⟨i + 1,by go_num,by omega,HE.out⟩
    case measure=>simp [intOf] <;> omega
  ·
   have hltI:¬ ((i:Int) < 9):=by omega
   obtain rfl:i=9:=by omega
   obtain ⟨⟨d2,a2,U2,s2,id2,hn2,hfo2,bl2,hnb⟩,lb,cm⟩:=HJ.out;have HSO:=hide (solve_any g d2 a2 _ (A' + 9) U2 373996 wl s2 id2.w (by omega) (by have e9:(373996:Int).toNat=373996:=rfl;omega))
   have K:=hide (And.intro hfo2 (And.intro bl2 (And.intro hnb (And.intro lb (And.intro cm (And.intro s2.lt hn2))))));clear s2 id2 hn2 hfo2 bl2 hnb lb cm HJ;go_wp2_with fail
   refine HSO.out.mono ?_;rintro e w6 ⟨d3,a3,U3,A3,s3,m3,h3,h4,h5,h6,h7,h8⟩;have hsat:∃ M':Nat→Bool,e=.returned (.int .i64 1)∧d3.mo=mdl d3.nv M'∧∀ j,j < 9→M' (j + 1)=M (j + 1):=by
    rcases h8 with ⟨-,q1,-,q3,q4⟩ | ⟨rfl,-,M',q2,q3⟩ | ⟨-,q1,-⟩
    ·
     have hU:U3.length≤9:=by have:=q1.lenU;have:=K.out.2.2.2.2.2.2;omega
     have hp:3 ^ U3.length≤3 ^ 9:=Nat.pow_le_pow_right (by decide) hU
     have h9:3 ^ U3.length*(U3.length + 1)≤3 ^ 9*10:=Nat.mul_le_mul hp (by omega)
     have e9:3 ^ 9*10=196830:=by decide
     omega
    · exact ⟨M',rfl,q2,fun j hj=>Iu_same q3 hj⟩
    · exact absurd (Iu_model HM.out 9) (q1.none M)
   obtain ⟨M',rfl,hmo3,hsame⟩:=hsat;have hn3:d3.nv=9:=h3.trans K.out.2.2.2.2.2.2;rw [hn3] at hmo3;have hgl:g≤wl.heap.size:=Nat.le_of_lt K.out.2.2.2.2.2.1;have HB6:Hid (Below w.heap.size w w6):=HB1.out.trans ((K.out.2.1.trans (m3.low hgl K.out.1).1).mono hgN);have HMD:=hide (model_any g d3 a3 w6 s3 (by rw [hmo3];simp [mdl]))
   rw [hmo3,mdl_len] at HMD;have C6:Hid (bm < w6.heap.size∧∀ j,j < 9→w6.cell? ⟨bm,j,none⟩=some (.bool (M (j + 1)))):=by
    have h9:=m3.mv.other bm K.out.2.2.2.1 K.out.2.2.1;refine ⟨Nat.lt_of_lt_of_le K.out.2.2.2.1 m3.mv.size,fun j hj=>?_⟩
    rw [World.cell?_of_block (a:=⟨bm,j,none⟩) h9];exact K.out.2.2.2.2.1 j hj
   have HSA:=hide hsame;clear s3 m3 h3 h4 h5 h6 h7 h8 hmo3 hsame hn3 hgl HSO K;go_wp2_with fail
   refine HMD.out.mono ?_;rintro e w7 ⟨v7,rfl,ol7,-,b7⟩;obtain ⟨bk,ck,rfl,-⟩:=ol7.open 0 (by decide)
   have lbk:=ol7.lt rfl;have lbm7:bm < w7.heap.size:=Nat.lt_of_lt_of_le C6.out.1 b7.size;have HC:Hid (∀ j,j < 9→w7.cell? ⟨bm,j,none⟩=some (.bool (M (j + 1)))∧w7.cell? ⟨bk,j,none⟩=some (.bool (M (j + 1)))):=fun j hj=>by
    have h9:=ol7.cell (i:=j) (j:=0) hj (by decide)
    rw [Nat.mul_one,Nat.add_zero,mdl_get hj,HSA.out j hj] at h9;refine ⟨?_,h9⟩;rw [World.cell?_of_block (a:=⟨bm,j,none⟩) (b7.block bm C6.out.1)];exact C6.out.2 j hj
   have HB7:Hid (Below w.heap.size w w7):=HB6.out.trans (b7.mono HB6.out.size);clear ol7 b7 HMD C6;go_wp2;go_loopw [12] (fun v12 wr=>∃ (k:Nat),v12=.int .i64 (k:Nat)∧k≤9∧Hid (∃ n,wr=w7.drewN n)) (fun v _=>9 - (intOf v).toNat)
   case atStart=>exact ⟨0,rfl,by omega,0,by first | rfl | (simp;done)⟩
   case round =>
    rename World=>wm
    obtain ⟨k,rfl,hk,HK⟩:=hrel;obtain ⟨nn,hnn⟩:=HK.out;have HBm:Hid (Below w7.heap.size w7 wm):=by rw [hnn];exact ⟨rfl,rfl,rfl,Nat.le_refl _,fun _ _=>rfl⟩
    by_cases hlk:k < 9
    ·
     have hlkI:(k:Int) < 9:=by omega
     obtain ⟨c1,c2⟩:=HC.out k hlk;have c1':wm.cell? ⟨bm,k,none⟩=some (.bool (M (k + 1))):=(World.cell?_of_block (a:=⟨bm,k,none⟩) (HBm.out.block bm lbm7)).trans c1;have c2':wm.cell? ⟨bk,k,none⟩=some (.bool (M (k + 1))):=(World.cell?_of_block (a:=⟨bk,k,none⟩) (HBm.out.block bk lbk)).trans c2;have lm:bm < wm.heap.size:=Nat.lt_of_lt_of_le lbm7 HBm.out.size;have lk:bk < wm.heap.size:=Nat.lt_of_lt_of_le lbk HBm.out.size;have HN:=hide hnn;generalize M (k + 1)=mk at *;clear c1 c2 hnn HK;go_wp2;go_region
     all_goals
      go_wp2;go_roundw
      case rel=>exact ⟨k + 1,by go_num,by omega,nn + 1,by rw [HN.out];first | rfl | (simp;done)⟩
      case measure=>simp [intOf] <;> omega
    ·
     have hlkI:¬ ((k:Int) < 9):=by omega
     have HE:Hid (Below w.heap.size w wm):=HB7.out.trans (HBm.out.mono HB7.out.size);clear HK hnn;go_wp2;go_ret
     exact ⟨rfl,HE.out⟩
end Sat
end Go.Proofs.YtbmkkhpoaicclacGreat
