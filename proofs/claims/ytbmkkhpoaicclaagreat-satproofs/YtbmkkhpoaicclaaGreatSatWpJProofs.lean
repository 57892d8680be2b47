/- SatProofs walked: it answers true; it proves no statement of the seat. -/
import Derived.Test.YtbmkkhpoaicclaaGreatSatAkJProofs
import Derived.Test.YtbmkkhpoaicclaaGreatSatOqJProofs
import Derived.Test.YtbmkkhpoaicclaaGreatSatBiJProofs
import Derived.Test.YtbmkkhpoaicclaaGreatSatXrJProofs
import Derived.Test.YtbmkkhpoaicclaaGreatSatKrJProofs
namespace Go.Proofs.YtbmkkhpoaicclaaGreat
open Go Go.RowKit
set_option linter.unusedVariables false
namespace Sat
open Euf (OL App)
theorem ll_one {w:World} {qa:Option Addr} {na ca:Nat} {a:List Int} (ha:IL w qa na ca a) :
  LL (w.alloc (.cells #[.slice qa na ca] 39 (0,0))) (w.alloc (.cells #[.slice qa na ca] 39 (0,0))).heap.size (some ⟨w.heap.size,0,none⟩) 1 1 [a]:=by
 have bl:Below w.heap.size w (w.alloc (.cells #[.slice qa na ca] 39 (0,0))):=(Below.refl _ _).alloc (Nat.le_refl _) _;have hn:=heap_alloc_new w (.cells #[.slice qa na ca] 39 (0,0));have hs:(w.alloc (.cells #[.slice qa na ca] 39 (0,0))).heap.size=w.heap.size + 1:=by simp
 have h1:=ha.below bl;refine ⟨rfl,Nat.le_refl _,by unfold maxLen;decide,(fun k=>by cases k),Or.inr ⟨_,0,rfl,by omega,by omega,fun i hi=>?_⟩⟩
 rw [cell_of_row _ _ _ _ _ _ hn];obtain rfl:i=0:=by omega
 exact ⟨qa,ca,by rw [← ha.len];rfl,by have:=ha.len;show IL _ qa a.length ca a;rw [this];exact h1,h1.lo⟩
theorem fw_norm {q:Option Addr} {n cap:Nat} {ls:List (List Int)} {e:Ending} (h:FwEnd q n cap ls e):∃ q' n' c' b,e=.returned (.tuple #[.slice q' n' c',.bool b])∧(b=true↔Few ls):=by
 rcases h with ⟨rfl,h⟩ | ⟨rfl,h⟩
 · exact ⟨_,_,_,true,rfl,fun _=>h,fun _=>rfl⟩
 · exact ⟨_,_,_,false,rfl,fun k=>(by cases k),fun k=>absurd k h⟩
theorem exists_sets:∀ ls:List (List Int), ∃ ps, Sets ls ps
  | []=>⟨[], rfl, fun i z p h=>by cases h⟩
  | l :: ls=>by
    obtain ⟨p, hp⟩:=exists_set l
    obtain ⟨ps, h1, h2⟩:=exists_sets ls
    refine ⟨p :: ps, by simp [h1], fun i z q hz hq=>?_⟩
    cases i with
    | zero=>cases hz; cases hq; exact hp
    | succ i=>exact h2 i z q hz hq
theorem ck_tt {ls ls':List (List Int)} {M:Nat} {cs:List Chn} {e:Ending} (t:TT ls M cs) (hp:ls <+: ls') (hok:∀ c∈ls',∀ z∈c,Okl 4096 z) (h:CkEnd ls' (cs.map (Chn.told (ls'.length:Nat))) e):e=.returned (.int .i64 0):=by
 obtain ⟨ps,hs⟩:=exists_sets ls';exact h.ok hok hs (t.2.2 ls' ps hp (fun zs hz z h9=>(hok zs hz z h9).1) hs)
theorem okl_9 {z:Int} (h:Okl 9 z):Okl 4096 z:=by
 unfold Okl at *;omega
theorem app_below {v v':Value} {w w':World} {N:Nat} (h:App v v' w w') (hv:∀ b, v.ownBlock=some b→N≤b) (hN:N≤w.heap.size):Below N w w':=⟨h.os, h.tape, h.output, h.size, fun b hb=>h.other b (by omega) (fun k=>absurd (hv b k) (by omega))⟩
theorem app_own {v v':Value} {w w':World} {N:Nat} (h:App v v' w w') (hv:∀ b, v.ownBlock=some b→N≤b) (hN:N≤w.heap.size):∀ b, v'.ownBlock=some b→N≤b:=fun b hb=>by
  rcases h.at_ with e | ⟨b', e, h1⟩
  · exact hv b (by rw [← e]; exact hb)
  · rw [hb] at e; cases e; omega
theorem ll_of {w:World} {q:Option Addr} {n cap:Nat} {ls:List (List Int)} {vl:Nat→Value} (h:OL 1 39 w (.slice q n cap) n (fun i=>[vl i])) (hn:ls.length=n) (hi:∀ i,i < n→∃ qi ci,vl i=.slice qi (ls.getD i []).length ci∧IL w qi (ls.getD i []).length ci (ls.getD i [])):LL w w.heap.size q n cap ls:=by
 obtain ⟨q',c',e,k1,k2,k3,-⟩:=h.shape;simp only [Value.slice.injEq] at e;obtain ⟨rfl,-,rfl⟩:=e;refine ⟨hn,k1,k2,fun e=>(k3 e).2,?_⟩
 by_cases h0:ls=[]
 · exact Or.inl h0
 ·
  have hp:0 < n:=by rw [← hn];exact List.length_pos_iff.2 h0
  obtain ⟨b,c9,e,-⟩:=h.open 0 hp;simp only [Value.slice.injEq] at e;obtain ⟨rfl,-,rfl⟩:=e;refine Or.inr ⟨b,0,rfl,h.lt rfl,h.lt rfl,fun i hi9=>?_⟩
  obtain ⟨qi,ci,h1,h2⟩:=hi i hi9;have h3:=h.cell (i:=i) (j:=0) hi9 (by decide)
  rw [Nat.mul_one,Nat.add_zero] at h3;refine ⟨qi,ci,?_,h2,h2.lo⟩;rw [Nat.zero_add,h3,← h1];rfl
set_option maxRecDepth 20000 in
set_option maxHeartbeats 16000000 in
theorem satProofs_any (qL:Option Addr) (cL:Nat) (ls:List (List Int)) (qm:Option Addr) (cm:Nat) (more:List Int) (w:World) (hl:LL w w.heap.size qL ls.length cL ls) (hb:IL w qm more.length cm more) :
  Calls Tryz.prog 5 #[.slice qL ls.length cL,.slice qm more.length cm] w fun e w'=>e=.returned (.bool true)∧Below w.heap.size w w':=by
 have hnmI:(more.length:Int)≤9223372036854775807:=by have h1:=hb.le;have h2:=hb.mx;unfold maxLen at h2;omega
 obtain ⟨nm,hnm⟩:∃ nm,more.length=nm:=⟨_,rfl⟩;rw [hnm] at hb hnmI ⊢;have HMO:=hide (And.intro hb hnm);clear hb hnm;obtain ⟨nL,hnL⟩:∃ nL,ls.length=nL:=⟨_,rfl⟩;rw [hnL] at hl ⊢;have H:=hide (And.intro hl hnL);clear hl hnL;go_enter Tryz.func5,Tryz.ntmps5;go_wp2_with fail
 refine (awake_any w).mono ?_;rintro e w1 ⟨rfl,b1⟩;have HB1:=hide b1;clear b1;have HFW:=hide (few_any w.heap.size qL nL cL ls w1 (H.out.1.below HB1.out));go_wp2_with fail
 refine HFW.out.mono ?_;rintro e w2 ⟨fw,hw9⟩;obtain rfl:=hw9.symm;clear HFW;rcases fw with ⟨rfl,hf⟩ | ⟨rfl,hf⟩
 rotate_left
 ·
  have HSV:=hide (solver_any w1.heap.size none 0 0 [] w1 (LL.nil w1 _) (Nat.le_refl _) (fun c hc=>by cases hc) (by omega))
  clear hf;go_wp2_with fail
  refine HSV.out.mono ?_;rintro e w3 ⟨rfl,sv⟩;have HE:Hid (Below w.heap.size w w3):=HB1.out.trans (sv.bl.mono HB1.out.size);clear sv HSV;obtain ⟨w4,hw4⟩:∃ w4,w3.alloc (.cells #[.slice qm nm cm] 39 (0,0))=w4:=⟨_,rfl⟩;have ll:=ll_one (HMO.out.1.below HE.out);have b4:Below w3.heap.size w3 w4:=by rw [← hw4];exact (Below.refl _ _).alloc (Nat.le_refl _) _
  rw [hw4] at ll;have HFM:=hide (few_any w4.heap.size (some ⟨w3.heap.size,0,none⟩) 1 1 [more] w4 ll);have HE4:Hid (Below w.heap.size w w4):=HE.out.trans (b4.mono HE.out.size);clear ll b4;go_wp2_with fail
  refine HFM.out.mono ?_;rintro e w9 ⟨fm,hw9⟩;obtain rfl:=hw9.symm;obtain ⟨q9,n9,c9,is,rfl,-⟩:=fw_norm fm;clear fm HFM;go_wp2;go_ret
  exact ⟨rfl,HE4.out⟩
 have HF:=hide hf;have hn80:nL≤80:=by have:=hf.1;rw [H.out.2] at this;exact this
 have hn80I:(nL:Int)≤80:=by omega
 have HSV:=hide (solver_any w.heap.size qL nL cL ls w1 (H.out.1.below HB1.out) HB1.out.size hf.2 (by omega))
 have hgN:=HB1.out.size;obtain ⟨g,hg⟩:∃ g,w1.heap.size=g:=⟨_,rfl⟩;rw [hg] at HSV hgN;clear hf;go_wp2_with fail
 refine HSV.out.mono ?_;rintro e w3 ⟨rfl,sv⟩;have HS:=hide sv;have HB3:Hid (Below w.heap.size w w3):=HB1.out.trans (sv.bl.mono hgN);clear sv HSV;obtain ⟨w4,hw4⟩:∃ w4,w3.alloc (.cells #[.slice qm nm cm] 39 (0,0))=w4:=⟨_,rfl⟩;have ll:=ll_one (HMO.out.1.below HB3.out);have b4:Below w3.heap.size w3 w4:=by rw [← hw4];exact (Below.refl _ _).alloc (Nat.le_refl _) _
 rw [hw4] at ll;have HFM:=hide (few_any w4.heap.size (some ⟨w3.heap.size,0,none⟩) 1 1 [more] w4 ll);have HS4:=hide (HS.out.below b4);clear ll b4 HS;go_wp2_with fail
 refine HFM.out.mono ?_;rintro e w9 ⟨fm,hw9⟩;obtain rfl:=hw9.symm;obtain ⟨q9,n9,c9,is,rfl,his⟩:=fw_norm fm;have HIS:=hide his;clear fm HFM his hw4;have HEN:=hide (enough_any w4);go_wp2_with fail
 refine HEN.out.mono ?_;rintro e w9 ⟨rfl,hw9⟩;obtain rfl:=hw9.symm;have HSO:=hide (HS4.out.q.solveE (by omega))
 clear HEN;go_wp2_with fail
 refine HSO.out.mono ?_;rintro e w5 ⟨d,a,U,A',s5,hn,hfo,bl5,hA',hcase⟩;have HB5:Hid (Below w.heap.size w w5):=HB1.out.trans (bl5.mono hgN);have hlt:=s5.lt;rcases hcase with ⟨rfl,idl,M,hmo,hM⟩ | ⟨rfl,r,hnc⟩
 ·
  have HP:=hide (proof_nil g w5 hlt (by have h9:w5.cell? ⟨g,5,none⟩=some (.bool d.refuted):=s5.cell 5;rw [idl.ic.rf] at h9;exact h9))
  clear HSO bl5 hfo s5 idl hmo hM;go_wp2_with fail
  refine HP.out.mono ?_;rintro e w6 ⟨rfl,b6⟩;have HE:Hid (Below w.heap.size w w6):=HB5.out.trans (b6.mono HB5.out.size);clear b6 HP;go_wp2;go_ret
  exact ⟨rfl,HE.out⟩
 obtain ⟨MM,hMM⟩:∃ MM,A' + 11=MM:=⟨_,rfl⟩;have hM9:MM≤900000:=by omega
 have hne:ls≠[]:=fun e=>not_mdl r ⟨0,by decide,fun c hc=>by rw [e] at hc;cases hc⟩
 have SX:Hid (SvX g g 9 nL (TT ls MM) w1 w5):=by
  have h9:=svx_of (N:=g) (w0:=w1) (ls:=ls) (M:=MM) s5 r (by omega) (by omega) (by rw [hn];decide) (by rw [H.out.2];omega) (Nat.le_refl _) bl5
  rw [hn,H.out.2] at h9;exact h9
 have HNE:=hide hne;have HOK:Hid (∀ c∈ls,∀ z∈c,Okl 4096 z):=fun c hc z hz=>okl_9 ((HF.out.2 c hc).2 z hz)
 have HLC:Hid (∀ c∈ls,c.length≤1000000):=fun c hc=>by have:=(HF.out.2 c hc).1;omega
 clear HSO bl5 hfo s5 r hnc hne hMM hn hlt;have HPR:=hide (SX.out.proof (by omega) (fun cs h=>h) hM9)
 go_wp2_with fail
 refine HPR.out.mono ?_;rintro e w6 ⟨q6,c6,cs,rfl,tt,rc,sx6,-,-⟩;have HB6:Hid (Below w.heap.size w w6):=HB1.out.trans (sx6.bl.mono hgN);obtain ⟨n6,hn6⟩:∃ n6,cs.length=n6:=⟨_,rfl⟩;rw [hn6] at rc;have RC6:=hide (And.intro rc (And.intro tt sx6));have HRK:=hide (rcheck_any w.heap.size qL nL cL ls q6 n6 c6 (cs.map (Chn.told (nL:Nat))) w6 (H.out.1.below HB6.out) HB6.out.size (by omega) HLC.out rc)
 clear HPR tt rc sx6 SX;rw [hn6];go_wp2_with fail
 refine HRK.out.mono ?_;rintro e w7 ⟨ck,b7⟩;obtain rfl:=ck_tt RC6.out.2.1 (List.prefix_refl ls) HOK.out (by rw [H.out.2];exact ck)
 have HB7:Hid (Below w.heap.size w w7):=HB6.out.trans (b7.mono HB6.out.size);have RC7:=hide (And.intro (RC6.out.1.below b7) (And.intro RC6.out.2.1 (RC6.out.2.2.below b7)));have HCK:=hide (check_any w.heap.size qL nL cL ls q6 n6 c6 (cs.map (Chn.told (nL:Nat))) w7 (H.out.1.below HB7.out) HB7.out.size (by omega) HLC.out RC7.out.1)
 clear ck b7 HRK RC6;go_wp2_with fail
 refine HCK.out.mono ?_;rintro e w8 ⟨ck,b8⟩;obtain rfl:=ck_tt RC7.out.2.1 (List.prefix_refl ls) HOK.out (by rw [H.out.2];exact ck)
 have HB8:Hid (Below w.heap.size w w8):=HB7.out.trans (b8.mono HB7.out.size);have SX8:=hide (RC7.out.2.2.below b8);clear ck b8 HCK RC7;cases is with
 | false =>
  clear HIS;go_wp2;go_ret
  exact ⟨rfl,HB8.out⟩
 | true =>
 have hfm:Few1 more:=(HIS.out.1 rfl).2 more (by simp)
 have HOM:Hid (∀ z∈more,Okl 9 z):=hfm.2;have hnm40:nm≤40:=by have:=hfm.1;rw [HMO.out.2] at this;exact this
 have HAD:=hide (SX8.out.add (HMO.out.1.below HB8.out) HMO.out.1.lo hgN HOM.out (by omega) (by omega) (by omega))
 clear hfm HIS;go_wp2_with fail
 refine HAD.out.mono ?_;rintro e w9 ⟨rfl,sx9⟩;have HB9:Hid (Below w.heap.size w w9):=HB1.out.trans (sx9.bl.mono hgN);have SX9:=hide sx9;clear sx9 HAD SX8;have lgt9:g < w9.heap.size:=SX9.out.lt;rcases H.out.1.at_ with h0 | ⟨bL,oL,rfl,lbL,-,hcl⟩
 · exact absurd h0 HNE.out
 have key:∀ i,∃ x:Option Addr × Nat,i < nL→w.cell? ⟨bL,oL + i,none⟩=some (.slice x.1 (ls.getD i []).length x.2)∧IL w x.1 (ls.getD i []).length x.2 (ls.getD i []):=by
  intro i;by_cases hi:i < nL
  · obtain ⟨qi,ci,h1,h2,-⟩:=hcl i hi;exact ⟨(qi,ci),fun _=>⟨h1,h2⟩⟩
  · exact ⟨(none,0),fun h=>absurd h hi⟩
 obtain ⟨fx,hfx⟩:=Classical.skolem.1 key;have HFX:=hide hfx;clear hcl key hfx;obtain ⟨vl,hvl⟩:∃ vl:Nat→Value,(fun i=>Value.slice (fx i).1 (ls.getD i []).length (fx i).2)=vl:=⟨_,rfl⟩
 have hvi:∀ i,vl i=Value.slice (fx i).1 (ls.getD i []).length (fx i).2:=fun i=>by rw [← hvl]
 have b10:Below w9.heap.size w9 (w9.alloc (.cells #[] 39 (0,0))):=(Below.refl _ _).alloc (Nat.le_refl _) _;have HOL10:Hid (OL 1 39 (w9.alloc (.cells #[] 39 (0,0))) (.slice (some ⟨w9.heap.size,0,none⟩) 0 0) 0 (fun _=>[.slice none 0 0])):=Or.inr ⟨w9.heap.size,0,#[],rfl,heap_alloc_new w9 _,Nat.le_refl _,Nat.zero_le _,rfl,fun i hi=>absurd hi (Nat.not_lt_zero _)⟩
 obtain ⟨news,hnews⟩:∃ news,(List.range nL).map vl=news:=⟨_,rfl⟩;have hget:∀ j,j < nL→news[j]?=some (vl j):=fun j hj=>by rw [← hnews,List.getElem?_map,List.getElem?_range hj];rfl
 have HN1:Hid (news.length=nL*1):=by show _=_;rw [← hnews];simp
 have HN2:Hid (∀ j u,news[j]?=some u→(w9.alloc (.cells #[] 39 (0,0))).cell? ((⟨bL,oL,none⟩:Addr).add j)=some u):=fun j u hu=>by
  have hj:j < nL:=by
   have h9:=(List.getElem?_eq_some_iff.1 hu).1;have h8:=HN1.out;omega
  rw [hget j hj] at hu;cases hu;rw [addr9,World.cell?_of_block (a:=⟨bL,oL + j,none⟩) ((HB9.out.trans (b10.mono HB9.out.size)).block bL lbL),(HFX.out j hj).1,hvi]
 have HN3:Hid (∀ u∈news,u.oneCell'=true):=fun u hu=>by
  rw [← hnews] at hu;obtain ⟨i,-,rfl⟩:=List.mem_map.1 hu;rw [hvi];rfl
 have HN4:Hid (∀ k,k < nL→∀ j,j < 1→([vl (0 + k)]:List Value)[j]?=news[k*1 + j]?):=fun k hk j hj=>by
  obtain rfl:j=0:=by omega
  rw [Nat.mul_one,Nat.add_zero,hget k hk,Nat.zero_add];rfl
 have HVI:=hide hvi;have HB10:=hide b10;clear hvl hvi b10 hget hnews;go_wp2_with (at_builtin;refine Euf.Stop.of ?_)
 show wpList _ _ _ _ _ _
 refine Euf.wpList_append rfl (.tmp 68) (.tmp 69) 22 rfl 1 39 _ 24 uIts iIts (by decide) rfl (by decide) (.slice (some ⟨w9.heap.size,0,none⟩) 0 0) 0 (fun _=>[.slice none 0 0]) rfl HOL10.out (fun k hk=>absurd hk (Nat.not_lt_zero _)) ⟨bL,oL,none⟩ nL cL rfl news HN1.out HN2.out HN3.out (Or.inr (by simp)) (by omega) (fun i=>[vl i]) (fun k hk=>absurd hk (Nat.not_lt_zero _)) HN4.out ?_
 rintro v11 w11 ol11 ap11 -;rw [Nat.zero_add] at ol11;have own10:∀ b,(Value.slice (some ⟨w9.heap.size,0,none⟩) 0 0).ownBlock=some b→w9.heap.size≤b:=fun b hb=>by cases hb;exact Nat.le_refl _
 have B11:Hid (Below w9.heap.size w9 w11):=HB10.out.trans (app_below ap11 own10 HB10.out.size);have O11:=hide (app_own ap11 own10 HB10.out.size);obtain ⟨q11,c11,rfl,-⟩:=ol11.shape;have HOL11:Hid (OL 1 39 (w11.alloc (.cells #[.slice qm nm cm] 39 (0,0))) (.slice q11 nL c11) nL (fun j=>[vl j])):=ol11.stay (fun b hb=>Below.heap_alloc w11 _ b (ol11.lt hb))
 have HF1:Hid (∀ k,k < nL→([upd vl nL (.slice qm nm cm) k]:List Value)=[vl k]):=fun k hk=>by rw [upd_other _ _ (by omega)]
 have HF2:Hid (([upd vl nL (.slice qm nm cm) nL]:List Value)=[.slice qm nm cm]):=by show _=_;rw [upd_same]
 clear ol11 ap11 own10 HOL10 HN1 HN2 HN3 HN4 HB10;go_wp2_with (at_builtin;refine Euf.Stop.of ?_)
 show wpList _ _ _ _ _ _
 refine Euf.wpList_push rfl (.tmp 70) (.tmp 72) 22 rfl 1 39 _ 24 uIts iIts (by decide) rfl (by decide) (.slice q11 nL c11) nL (fun j=>[vl j]) rfl [.slice qm nm cm] 39 HOL11.out (fun _ _=>rfl) 1 rfl rfl (by intro u hu;simp at hu;subst hu;rfl) (by omega) (fun j=>[upd vl nL (.slice qm nm cm) j]) HF1.out HF2.out ?_
 rintro v12 w12 ol12 ap12 -;have al11:Below w9.heap.size w9 (w11.alloc (.cells #[.slice qm nm cm] 39 (0,0))):=B11.out.alloc B11.out.size _;have B12:Hid (Below w9.heap.size w9 w12):=al11.trans (app_below ap12 O11.out al11.size);obtain ⟨q12,c12,rfl,-⟩:=ol12.shape;have hl12:(ls ++ [more]).length=nL + 1:=by rw [List.length_append,H.out.2];rfl
 have own12:=app_own ap12 O11.out al11.size;have HRE:Hid (∀ w',Mv (·=g) w12 w'→LL w' w'.heap.size q12 (nL + 1) c12 (ls ++ [more])):=fun w' m=>by
  have hbw:Below w.heap.size w w':=(HB9.out.trans (B12.out.mono HB9.out.size)).trans (m.toBelow (Nat.le_trans HB9.out.size B12.out.size) (fun b hb=>by subst hb;exact hgN))
  refine ll_of (vl:=upd vl nL (.slice qm nm cm)) (ol12.stay (fun b hb=>m.other b (ol12.lt hb) (fun e=>by have h9:=own12 b hb;have e':b=g:=e;omega))) hl12 (fun i hi=>?_)
  by_cases e:i=nL
  ·
   subst e;have e9:(ls ++ [more]).getD i []=more:=by rw [List.getD_eq_getElem?_getD,List.getElem?_append_right (by rw [H.out.2];exact Nat.le_refl _),H.out.2,Nat.sub_self];rfl
   rw [e9,upd_same,HMO.out.2];exact ⟨qm,cm,rfl,HMO.out.1.below hbw⟩
  ·
   have e9:(ls ++ [more]).getD i []=ls.getD i []:=by rw [List.getD_eq_getElem?_getD,List.getElem?_append_left (by rw [H.out.2];omega),List.getD_eq_getElem?_getD]
   rw [e9,upd_other _ _ e,HVI.out];exact ⟨_,_,rfl,((HFX.out i (by omega)).2).below hbw⟩
 have HL12:=hide hl12;have SX12:=hide (SX9.out.below B12.out);have HB12:Hid (Below w.heap.size w w12):=HB9.out.trans (B12.out.mono HB9.out.size);clear ol12 ap12 al11 hl12 own12 HOL11 HF1 HF2 O11 B11 B12 HVI HFX SX9 lbL;have HPR:=hide (SX12.out.proof (by omega) (fun cs h=>h) hM9)
 go_wp2_with fail
 refine HPR.out.mono ?_;rintro e w13 ⟨q13,c13,cs13,rfl,tt,rc,sx13,-,mv13⟩;have HB13:Hid (Below w.heap.size w w13):=HB1.out.trans (sx13.bl.mono hgN);have ll13:=HRE.out w13 mv13;obtain ⟨n13,hn13⟩:∃ n13,cs13.length=n13:=⟨_,rfl⟩;rw [hn13] at rc ⊢;have HRK:=hide (rcheck_any w13.heap.size q12 (nL + 1) c12 (ls ++ [more]) q13 n13 c13 (cs13.map (Chn.told ((nL + 1:Nat):Int))) w13 ll13 (Nat.le_refl _) (by omega) (fun c hc=>by
  rcases List.mem_append.1 hc with h9 | h9
  · exact HLC.out c h9
  · simp at h9;subst h9;rw [HMO.out.2];omega) rc)
 have R13:=hide (And.intro tt sx13);clear HPR tt rc sx13 ll13 mv13 HRE SX12 HB12;go_wp2_with fail
 refine HRK.out.mono ?_;rintro e w14 ⟨ck,b14⟩;obtain rfl:=ck_tt R13.out.1 (List.prefix_append ls [more]) (fun c hc z hz=>by
  rcases List.mem_append.1 hc with h9 | h9
  · exact HOK.out c h9 z hz
  · simp at h9;subst h9;exact okl_9 (HOM.out z hz)) (by rw [HL12.out];exact ck)
 have HB14:Hid (Below w.heap.size w w14):=HB13.out.trans (b14.mono HB13.out.size);have HSV:=hide ((R13.out.2.below b14).solve 0);clear ck b14 HRK R13;go_wp2_with fail
 refine HSV.out.mono ?_;rintro e w15 ⟨rfl,sx15,-⟩;have HE:Hid (Below w.heap.size w w15):=HB1.out.trans (sx15.bl.mono hgN);clear sx15 HSV;go_wp2;go_ret
 exact ⟨rfl,HE.out⟩
end Sat
end Go.Proofs.YtbmkkhpoaicclaaGreat
