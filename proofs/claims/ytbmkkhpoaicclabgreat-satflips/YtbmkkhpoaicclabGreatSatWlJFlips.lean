/- SatFlips walked: it answers true; it proves no statement of the seat. -/
import Derived.Test.YtbmkkhpoaicclabGreatSatAkJFlips
import Derived.Test.YtbmkkhpoaicclabGreatSatOqJFlips
import Derived.Test.YtbmkkhpoaicclabGreatSatToJFlips
import Derived.Test.YtbmkkhpoaicclabGreatSatYrJFlips
namespace Go.Proofs.YtbmkkhpoaicclabGreat
open Go Go.RowKit
set_option linter.unusedVariables false
namespace Sat
open Euf (OL App)
theorem ll_mk {w:World} {q:Option Addr} {n cap:Nat} {ls:List (List Int)} {vl:Nat→Value} (h:OL 1 35 w (.slice q n cap) n (fun i=>[vl i])) (hn:ls.length=n) (hi:∀ i,i < n→∃ qi ci,vl i=.slice qi (ls.getD i []).length ci∧IL w qi (ls.getD i []).length ci (ls.getD i [])):LL w w.heap.size q n cap ls:=by
 obtain ⟨q',c',e,k1,k2,k3,-⟩:=h.shape;simp only [Value.slice.injEq] at e;obtain ⟨rfl,-,rfl⟩:=e;refine ⟨hn,k1,k2,fun e=>(k3 e).2,?_⟩
 by_cases h0:ls=[]
 · exact Or.inl h0
 ·
  have hp:0 < n:=by rw [← hn];exact List.length_pos_iff.2 h0
  obtain ⟨b,c9,e,-⟩:=h.open 0 hp;simp only [Value.slice.injEq] at e;obtain ⟨rfl,-,rfl⟩:=e;refine Or.inr ⟨b,0,rfl,h.lt rfl,h.lt rfl,fun i hi9=>?_⟩
  obtain ⟨qi,ci,h1,h2⟩:=hi i hi9;have h3:=h.cell (i:=i) (j:=0) hi9 (by decide)
  rw [Nat.mul_one,Nat.add_zero] at h3;refine ⟨qi,ci,?_,h2,h2.lo⟩;rw [Nat.zero_add,h3,← h1];rfl
def fl (v m x:Int):Int:=if x=v∨x=m then -x else x
def flM (v:Int) (M:Nat→Bool) (u:Nat):Bool:=if u=v.natAbs then !(M u) else M u
theorem flM_two (v:Int) (M:Nat→Bool):flM v (flM v M)=M:=by
 funext u
 unfold flM;split <;> simp
theorem fl_eq {v m x:Int} (hm:v≠-9223372036854775808→m=-v) (hm2:v=-9223372036854775808→m=v) (hx:Okl 9 x):fl v m x=if x.natAbs=v.natAbs then -x else x:=by
 obtain ⟨h0,h1,h2⟩:=hx;unfold fl;by_cases hv:v=-9223372036854775808
 · have:=hm2 hv;rw [if_neg (by omega),if_neg (by omega)]
 ·
  have:=hm hv;by_cases h:x.natAbs=v.natAbs
  · rw [if_pos (by omega),if_pos h]
  · rw [if_neg (by omega),if_neg h]
theorem fl_ok {v m x:Int} (hx:Okl 9 x):Okl 9 (fl v m x):=by
 obtain ⟨h0,h1,h2⟩:=hx;unfold fl Okl;split <;> omega
theorem lit_abs {x:Int}:lit x / 2=x.natAbs:=by unfold lit;split <;> omega
theorem tru_fl {v m x:Int} {M:Nat→Bool} (hm:v≠-9223372036854775808→m=-v) (hm2:v=-9223372036854775808→m=v) (hx:Okl 9 x):tru M (lit (fl v m x))↔tru (flM v M) (lit x):=by
 rw [fl_eq hm hm2 hx];by_cases h:x.natAbs=v.natAbs
 · rw [if_pos h];have e:lit (-x)=ng (lit x):=lit_neg2 hx.1;rw [e,tru_ng];unfold tru flM;rw [lit_abs,if_pos h];split <;> cases M x.natAbs <;> simp
 · rw [if_neg h];unfold tru flM;rw [lit_abs,if_neg h]
theorem hl_fl {v m:Int} {M:Nat→Bool} {c:List Int} (hm:v≠-9223372036854775808→m=-v) (hm2:v=-9223372036854775808→m=v) (hc:∀ z∈c,Okl 9 z):Hl M (c.map (fl v m))↔Hl (flM v M) c:=by
 constructor
 · rintro ⟨z,hz,ht⟩;obtain ⟨x,hx,rfl⟩:=List.mem_map.1 hz;exact ⟨x,hx,(tru_fl hm hm2 (hc x hx)).1 ht⟩
 · rintro ⟨x,hx,ht⟩;exact ⟨_,List.mem_map.2 ⟨x,hx,rfl⟩,(tru_fl hm hm2 (hc x hx)).2 ht⟩
theorem hasM_fl {v m:Int} {ls:List (List Int)} (hm:v≠-9223372036854775808→m=-v) (hm2:v=-9223372036854775808→m=v) (hf:∀ c∈ls,Few1 c):HasM (ls.map (·.map lit))↔HasM ((ls.map (·.map (fl v m))).map (·.map lit)):=by
 unfold HasM;constructor
 ·
  rintro ⟨M,hM⟩;refine ⟨flM v M,all_hl.2 (fun c hc=>?_)⟩
  obtain ⟨c0,h0,rfl⟩:=List.mem_map.1 hc;rw [hl_fl hm hm2 (hf c0 h0).2,flM_two];exact all_hl.1 hM c0 h0
 ·
  rintro ⟨M,hM⟩;refine ⟨flM v M,all_hl.2 (fun c hc=>?_)⟩
  have h9:=all_hl.1 hM _ (List.mem_map.2 ⟨c,hc,rfl⟩);exact (hl_fl hm hm2 (hf c hc).2).1 h9
structure TuS (w0 wr:World) (vt:Value) (vl:Nat→Value) (tl:List (List Int)):Prop where
  bel:Below w0.heap.size w0 wr
  op:OL 1 35 wr vt tl.length (fun i=>[vl i])
  ol:∀ (i:Nat) (p:List Int), tl[i]?=some p→OL 1 3 wr (vl i) p.length (izC p)
  own:∀ c, vt.ownBlock=some c→w0.heap.size≤c
theorem TuS.below {w0 wr wr':World} {vt:Value} {vl:Nat→Value} {tl:List (List Int)} (h:TuS w0 wr vt vl tl) (hb:Below wr.heap.size wr wr'):TuS w0 wr' vt vl tl :=
  ⟨h.bel.trans (hb.mono h.bel.size), h.op.stay (fun b hb9=>hb.block b (h.op.lt hb9)), fun i p hp=>(h.ol i p hp).stay (fun b hb9=>hb.block b ((h.ol i p hp).lt hb9)), h.own⟩
theorem TuS.push {w0 wr wr':World} {vt v':Value} {vl:Nat→Value} {tl:List (List Int)} (h:TuS w0 wr vt vl tl) {p:List Int} {u:Value} (ou:OL 1 3 wr u p.length (izC p)) (ap:App vt v' wr wr') (ho:OL 1 35 wr' v' (tl.length + 1) (fun i=>[upd vl tl.length u i])):TuS w0 wr' v' (upd vl tl.length u) (tl ++ [p]):=by
 have tp:∀ {sz:Nat} {e:TypeId} {v:Value} {n:Nat} {f:Nat→List Value},OL sz e wr v n f→e≠35→OL sz e wr' v n f:=by
  intro sz e v n f ho9 he;refine ho9.stay (fun b hb=>ap.other b (ho9.lt hb) (fun e9=>?_))
  exact h.op.ne ho9 (fun e9=>he e9.symm) (b:=b) e9 hb
 have hs:=h.bel.size;refine ⟨⟨ap.os.trans h.bel.os,ap.tape.trans h.bel.tape,ap.output.trans h.bel.output,Nat.le_trans hs ap.size,fun b hb=>(ap.other b (by omega) (fun k=>absurd (h.own _ k) (by omega))).trans (h.bel.block b hb)⟩,by rw [List.length_append];exact ho,fun i q hq=>?_,fun c hc=>?_⟩
 ·
  by_cases hi:i < tl.length
  ·
   rw [List.getElem?_append_left hi] at hq;rw [upd_other _ _ (by omega)]
   exact tp (h.ol i q hq) (by decide)
  ·
   have e2:i=tl.length:=by
    have:=(List.getElem?_eq_some_iff.1 hq).1;simp at this;omega
   subst e2;simp at hq;subst hq;rw [upd_same];exact tp ou (by decide)
 ·
  rcases ap.at_ with e9 | ⟨b9,e9,h9⟩
  · exact h.own c (by rw [← e9];exact hc)
  · rw [e9] at hc;cases hc;omega
theorem TuS.ll {w0 wr:World} {q:Option Addr} {n cap:Nat} {vl:Nat→Value} {tl:List (List Int)} (h:TuS w0 wr (.slice q n cap) vl tl) (hn:tl.length=n) (hi:∀ c∈tl,∀ z∈c,InI z):LL wr wr.heap.size q n cap tl:=by
 have op:=h.op;rw [hn] at op;refine ll_mk op hn (fun i hi9=>?_)
 have hl:i < tl.length:=by omega
 have e9:tl.getD i []=tl[i]:=by rw [List.getD_eq_getElem?_getD,List.getElem?_eq_getElem hl];rfl
 rw [e9];obtain ⟨q',c',h1,h2⟩:=OL.il (h.ol i tl[i] (List.getElem?_eq_getElem hl)) (hi _ (List.getElem_mem hl));exact ⟨q',c',h1,h2⟩
set_option maxRecDepth 20000 in
set_option maxHeartbeats 16000000 in
theorem satFlips_any (qL:Option Addr) (cL:Nat) (ls:List (List Int)) (v:Int) (w:World) (hl:LL w w.heap.size qL ls.length cL ls) (hv:InI v) :
  Calls Tryz.prog 7 #[.slice qL ls.length cL,.int .i64 v] w fun e w'=>e=.returned (.bool true)∧Below w.heap.size w w':=by
 obtain ⟨nL,hnL⟩:∃ nL,ls.length=nL:=⟨_,rfl⟩;rw [hnL] at hl ⊢;have H:=hide (And.intro hl hnL);clear hl hnL;obtain ⟨v1,v2⟩:=hv;obtain ⟨m,hm⟩:∃ m,wrap64 (-v)=m:=⟨_,rfl⟩;have HM1:Hid ((v≠-9223372036854775808→m=-v)∧(v=-9223372036854775808→m=v)):=by
  rw [← hm];exact ⟨fun h9=>IntWalk.wrap64_in _ (by omega),fun h9=>by subst h9;first | rfl | (unfold wrap64;omega)⟩
 go_enter Tryz.func7,Tryz.ntmps7;go_wp2_with fail
 refine (awake_any w).mono ?_;rintro e w1 ⟨rfl,b1⟩;have HB1:=hide b1;clear b1;have HFW:=hide (few_any w.heap.size qL nL cL ls w1 (H.out.1.below HB1.out));go_wp2_with fail
 refine HFW.out.mono ?_;rintro e w2 ⟨fw,hw9⟩;obtain rfl:=hw9.symm;clear HFW;rcases fw with ⟨rfl,hf⟩ | ⟨rfl,hf⟩
 rotate_left
 ·
  have HSV:=hide (solver_any w1.heap.size none 0 0 [] w1 (LL.nil w1 _) (Nat.le_refl _) (fun c hc=>by cases hc) (by omega))
  clear hf;go_wp2_with fail
  refine HSV.out.mono ?_;rintro e w3 ⟨rfl,sv⟩;have HE:Hid (Below w.heap.size w w3):=HB1.out.trans (sv.bl.mono HB1.out.size);clear sv HSV;go_wp2;go_ret
  exact ⟨rfl,HE.out⟩
 have HF:=hide hf;have hn80:nL≤80:=by have:=hf.1;rw [H.out.2] at this;exact this
 have hn80I:(nL:Int)≤80:=by omega
 have HSV:=hide (solver_any w.heap.size qL nL cL ls w1 (H.out.1.below HB1.out) HB1.out.size hf.2 (by omega))
 have hgN:=HB1.out.size;obtain ⟨g,hg⟩:∃ g,w1.heap.size=g:=⟨_,rfl⟩;rw [hg] at HSV hgN;clear hf;go_wp2_with fail
 refine HSV.out.mono ?_;rintro e w3 ⟨rfl,sv⟩;have HS:=hide sv;have HB3:Hid (Below w.heap.size w w3):=HB1.out.trans (sv.bl.mono hgN);clear sv HSV;have HT0:Hid (TuS w3 w3 (.slice none 0 0) (fun _=>.slice none 0 0) ((ls.take 0).map (·.map (fl v m)))):=⟨Below.refl _ _,OL.nil _ _ _ _,fun i p hp=>by simp at hp,fun c h=>by cases h⟩
 go_wp2;go_loopw [7,8] (fun v7 v8 wr=>∃ (i:Nat),v8=.int .i64 (i:Nat)∧i≤nL∧Hid (∃ vl,TuS w3 wr v7 vl ((ls.take i).map (·.map (fl v m))))) (fun _ v _=>nL - (intOf v).toNat)
 case atStart=>exact ⟨0,rfl,Nat.zero_le _,_,HT0.out⟩
 case round =>
  rename World=>wl
  obtain ⟨i,rfl,hi,HJ⟩:=hrel;clear HT0;obtain ⟨vl,tu⟩:=HJ.out;have htl:((ls.take i).map (·.map (fl v m))).length=i:=by rw [List.length_map,List.length_take,H.out.2];omega
  obtain ⟨q7,c7,hv7,-⟩:=tu.op.shape;rw [htl] at hv7;subst hv7;have TU:=hide (And.intro tu htl);have HBl:Hid (Below w.heap.size w wl):=HB3.out.trans (tu.bel.mono HB3.out.size);clear tu htl HJ;by_cases hlt:i < nL
  ·
   have hltI:(i:Int) < (nL:Int):=by omega
   obtain ⟨b,off,qi,ci,zi,rfl,lb,hmem,hget,hcell,il,lo⟩:=(H.out.1.below HBl.out).get hlt;obtain ⟨ni,hni⟩:∃ ni,zi.length=ni:=⟨_,rfl⟩;rw [hni] at hcell il;have hni40:ni≤40:=by rw [← hni];exact (HF.out.2 zi hmem).1
   have HI:=hide (And.intro hmem (And.intro hget (And.intro hni il)));have H1:Hid (YS wl wl (.slice none 0 0) ((zi.take 0).map (fl v m))):=⟨Below.refl _ _,OL.nil _ _ _ _,fun c h=>by cases h⟩
   clear hmem hget hni il lo;go_wp2;go_loopw [9,10] (fun v9 v10 wr=>∃ (v9':Value) (k:Nat),v9=v9'∧v10=.int .i64 (k:Nat)∧k≤ni∧Hid (YS wl wr v9' ((zi.take k).map (fl v m)))) (fun _ v _=>ni - (intOf v).toNat)
   case atStart=>exact ⟨_,0,rfl,rfl,Nat.zero_le _,H1.out⟩
   case round =>
    rename World=>wm
    obtain ⟨v9',k,rfl,rfl,hk,HY⟩:=hrel;clear H1;have hkl:((zi.take k).map (fl v m)).length=k:=by rw [List.length_map,List.length_take,HI.out.2.2.1];omega
    obtain ⟨qc,cc,hvc,-⟩:=HY.out.list.shape;rw [hkl] at hvc;subst hvc;have HKL:=hide hkl;clear hkl;have lbm:b < wm.heap.size:=Nat.lt_of_lt_of_le lb HY.out.bel.size;have cellm:wm.cell? ⟨b,off + i,none⟩=some (.slice qi ni ci):=(World.cell?_of_block (a:=⟨b,off + i,none⟩) (HY.out.bel.block b lb)).trans hcell;by_cases hlk:k < ni
    ·
     have hlkI:(k:Int) < (ni:Int):=by omega
     have ilm:=HI.out.2.2.2.below HY.out.bel;have hlz:zi.length=ni:=HI.out.2.2.1;rcases ilm.at_ with h0 | ⟨bi,oi,rfl,lbi,hc⟩
     · rw [h0] at hlz;simp at hlz;omega
     have ck:=hc k hlk;obtain ⟨x,hx⟩:∃ x,zi[k]?=some x:=⟨zi[k]'(by omega),List.getElem?_eq_getElem _⟩
     have hxm:x∈zi:=List.mem_of_getElem? hx;rw [List.getD_eq_getElem?_getD,hx] at ck;have ck':wm.cell? ⟨bi,oi + k,none⟩=some (.int .i64 x):=ck;obtain ⟨x0,x1,x2⟩:=(HF.out.2 zi HI.out.1).2 x hxm;obtain ⟨y,hy⟩:∃ y,fl v m x=y:=⟨_,rfl⟩;have htk:(zi.take (k + 1)).map (fl v m)=(zi.take k).map (fl v m) ++ [y]:=by rw [List.take_add_one,hx,List.map_append,← hy];rfl
     have HOL:Hid (OL 1 3 (wm.alloc (.cells #[.int .i64 y] 3 (0,0))) (.slice qc k cc) k (izC ((zi.take k).map (fl v m)))):=by
      have hl:=HY.out.list;rw [HKL.out] at hl;exact hl.stay fun b hb=>Below.heap_alloc wm _ b (hl.lt hb)
     have HF1:Hid (∀ j,j < k→izC ((zi.take (k + 1)).map (fl v m)) j=izC ((zi.take k).map (fl v m)) j):=fun j hj=>by
      rw [htk];unfold izC;rw [List.getD_eq_getElem?_getD,List.getElem?_append_left (by rw [HKL.out];exact hj),List.getD_eq_getElem?_getD]
     have HF2:Hid (izC ((zi.take (k + 1)).map (fl v m)) k=[.int .i64 y]):=by
      show _=_
      rw [htk];unfold izC;rw [List.getD_eq_getElem?_getD,List.getElem?_append_right (by rw [HKL.out];exact Nat.le_refl _),HKL.out,Nat.sub_self];rfl
     have HPU:Hid (∀ (v8:Value) (w8:World),OL 1 3 w8 v8 (k + 1) (izC ((zi.take (k + 1)).map (fl v m)))→App (.slice qc k cc) v8 (wm.alloc (.cells #[.int .i64 y] 3 (0,0))) w8→YS wl w8 v8 ((zi.take (k + 1)).map (fl v m))):=fun v8 w8 hol hap=>by
      rw [htk] at hol ⊢;exact HY.out.push (hap.of_alloc (fun b hb=>HY.out.list.lt hb)) (by rw [HKL.out];exact hol)
     have HFL:=hide hy;clear hc hx hxm ilm hlz ck htk hy HY;by_cases e1:x=v
     ·
      have e1B:(x == v)=true:=by simpa using e1
      obtain rfl:y=-x:=by rw [← HFL.out];unfold fl;rw [if_pos (Or.inl e1)]
      clear e1;go_wp2_with (at_builtin;refine Euf.Stop.of ?_)
      show wpList _ _ _ _ _ _
      refine Euf.wpList_push rfl (.tmp 64) (.tmp 66) 35 rfl 1 3 _ 8 uInts iInt (by decide) rfl (by decide) (.slice qc k cc) k (izC ((zi.take k).map (fl v m))) rfl [.int .i64 (-x)] 3 HOL.out (fun _ _=>rfl) 1 rfl rfl (by intro u hu;simp at hu;subst hu;rfl) (by omega) (izC ((zi.take (k + 1)).map (fl v m))) HF1.out HF2.out ?_
      intro v8 w8 hol8 hap8 hne8;have HN:=hide (HPU.out v8 w8 hol8 hap8);clear hol8 hap8 hne8 HOL HF1 HF2 HPU;go_wp2;go_roundw
      case rel=>exact ⟨v8,k + 1,rfl,by go_num,by omega,HN.out⟩
      case measure=>simp [intOf] <;> omega
     have e1B:(x == v)=false:=by simpa using e1
     by_cases e2:x=m
     ·
      have e2B:(x == m)=true:=by simpa using e2
      obtain rfl:y=-x:=by rw [← HFL.out];unfold fl;rw [if_pos (Or.inr e2)]
      clear e1 e2;go_wp2_with (at_builtin;refine Euf.Stop.of ?_)
      show wpList _ _ _ _ _ _
      refine Euf.wpList_push rfl (.tmp 64) (.tmp 66) 35 rfl 1 3 _ 8 uInts iInt (by decide) rfl (by decide) (.slice qc k cc) k (izC ((zi.take k).map (fl v m))) rfl [.int .i64 (-x)] 3 HOL.out (fun _ _=>rfl) 1 rfl rfl (by intro u hu;simp at hu;subst hu;rfl) (by omega) (izC ((zi.take (k + 1)).map (fl v m))) HF1.out HF2.out ?_
      intro v8 w8 hol8 hap8 hne8;have HN:=hide (HPU.out v8 w8 hol8 hap8);clear hol8 hap8 hne8 HOL HF1 HF2 HPU;go_wp2;go_roundw
      case rel=>exact ⟨v8,k + 1,rfl,by go_num,by omega,HN.out⟩
      case measure=>simp [intOf] <;> omega
     have e2B:(x == m)=false:=by simpa using e2
     obtain rfl:y=x:=by rw [← HFL.out];unfold fl;rw [if_neg (by simp [e1,e2])]
     clear e1 e2;go_wp2_with (at_builtin;refine Euf.Stop.of ?_)
     show wpList _ _ _ _ _ _
     refine Euf.wpList_push rfl (.tmp 64) (.tmp 66) 35 rfl 1 3 _ 8 uInts iInt (by decide) rfl (by decide) (.slice qc k cc) k (izC ((zi.take k).map (fl v m))) rfl [.int .i64 y] 3 HOL.out (fun _ _=>rfl) 1 rfl rfl (by intro u hu;simp at hu;subst hu;rfl) (by omega) (izC ((zi.take (k + 1)).map (fl v m))) HF1.out HF2.out ?_
     intro v8 w8 hol8 hap8 hne8;have HN:=hide (HPU.out v8 w8 hol8 hap8);clear hol8 hap8 hne8 HOL HF1 HF2 HPU;go_wp2;go_roundw
     case rel=>exact ⟨v8,k + 1,rfl,by go_num,by omega,HN.out⟩
     case measure=>simp [intOf] <;> omega
    ·
     have hlkI:¬ ((k:Int) < (ni:Int)):=by omega
     obtain rfl:k=ni:=by omega
     have hzt:(zi.take k).map (fl v m)=zi.map (fl v m):=by rw [List.take_of_length_le (by rw [HI.out.2.2.1];exact Nat.le_refl _)]
     have oul:OL 1 3 wm (.slice qc k cc) (zi.map (fl v m)).length (izC (zi.map (fl v m))):=by
      have h9:=HY.out.list;rw [hzt] at h9;exact h9
     have tum:=TU.out.1.below (HY.out.bel);have HBm:Hid (Below w.heap.size w wm):=HBl.out.trans (HY.out.bel.mono HBl.out.size);have HOL:Hid (OL 1 35 (wm.alloc (.cells #[.slice qc k cc] 35 (0,0))) (.slice q7 i c7) i (fun j=>[vl j])):=by
      have h9:=tum.op;rw [TU.out.2] at h9;exact h9.stay (fun b hb=>Below.heap_alloc wm _ b (h9.lt hb))
     have HF1:Hid (∀ j,j < i→([upd vl i (.slice qc k cc) j]:List Value)=[vl j]):=fun j hj=>by rw [upd_other _ _ (by omega)]
     have HF2:Hid (([upd vl i (.slice qc k cc) i]:List Value)=[.slice qc k cc]):=by show _=_;rw [upd_same]
     have e9:(ls.take (i + 1)).map (·.map (fl v m))=(ls.take i).map (·.map (fl v m)) ++ [zi.map (fl v m)]:=by rw [List.take_add_one,HI.out.2.1,List.map_append];rfl
     have HPU:Hid (∀ (v8:Value) (w8:World),OL 1 35 w8 v8 (i + 1) (fun j=>[upd vl i (.slice qc k cc) j])→App (.slice q7 i c7) v8 (wm.alloc (.cells #[.slice qc k cc] 35 (0,0))) w8→∃ vl',TuS w3 w8 v8 vl' ((ls.take (i + 1)).map (·.map (fl v m)))):=fun v8 w8 hol hap=>by
      have h9:=tum.push (u:=.slice qc k cc) (p:=zi.map (fl v m)) oul (hap.of_alloc (fun b hb=>tum.op.lt hb)) (by rw [TU.out.2];exact hol)
      rw [← e9] at h9;exact ⟨_,h9⟩
     clear hzt oul tum e9 HY;go_wp2_with (at_builtin;refine Euf.Stop.of ?_)
     show wpList _ _ _ _ _ _
     refine Euf.wpList_push rfl (.tmp 68) (.tmp 70) 22 rfl 1 35 _ 24 uIts iIts (by decide) rfl (by decide) (.slice q7 i c7) i (fun j=>[vl j]) rfl [.slice qc k cc] 35 HOL.out (fun _ _=>rfl) 1 rfl rfl (by intro u hu;simp at hu;subst hu;rfl) (by omega) (fun j=>[upd vl i (.slice qc k cc) j]) HF1.out HF2.out ?_
     intro v8 w8 hol8 hap8 hne8;have HN:=hide (HPU.out v8 w8 hol8 hap8);clear hol8 hap8 hne8 HOL HF1 HF2 HPU;go_wp2;go_roundw
     case rel=>exact ⟨i + 1,by go_num,by omega,HN.out⟩
     case measure=>simp [intOf] <;> omega
  ·
   have hltI:¬ ((i:Int) < (nL:Int)):=by omega
   obtain rfl:i=nL:=by omega
   have htk:ls.take i=ls:=by rw [List.take_of_length_le (by rw [H.out.2];exact Nat.le_refl _)]
   have tu:=TU.out.1;have htl:=TU.out.2;rw [htk] at tu htl;have ok9:∀ c∈ls.map (·.map (fl v m)),Few1 c:=fun c hc=>by
    obtain ⟨c0,h0,rfl⟩:=List.mem_map.1 hc;refine ⟨by rw [List.length_map];exact (HF.out.2 c0 h0).1,fun z hz=>?_⟩
    obtain ⟨z0,hz0,rfl⟩:=List.mem_map.1 hz;exact fl_ok ((HF.out.2 c0 h0).2 z0 hz0)
   have ll9:=tu.ll htl (fun c hc z hz=>by have h9:=(ok9 c hc).2 z hz;unfold Okl at h9;exact ⟨by omega,by omega⟩)
   have HSV:=hide (solver_any wl.heap.size q7 i c7 (ls.map (·.map (fl v m))) wl ll9 (Nat.le_refl _) ok9 (by omega))
   have HS1:=hide (HS.out.below (tu.bel));clear tu htl htk ok9 ll9 HS TU;go_wp2_with fail
   refine HSV.out.mono ?_;rintro e w5 ⟨rfl,sv5⟩;obtain ⟨g2,hg2⟩:∃ g2,wl.heap.size=g2:=⟨_,rfl⟩;obtain ⟨d1,a1,U1,s1,i1,n1,f1,bl1⟩:=HS1.out;obtain ⟨d2,a2,U2,s2,i2,n2,f2,bl2⟩:=sv5;have s1':=s1.below bl2;rw [hg2] at s2 f2 ⊢;have sep:∀ b,Fo g d1 a1 b→¬ Fo g2 d2 a2 b:=fun b h1 h2=>by have:=s1.foLt h1;have:=f2 b h2;omega
   have HB5:Hid (Below w.heap.size w w5):=HBl.out.trans (bl2.mono HBl.out.size);have HEN:=hide (enough_any w5);have K1:=hide (solve_raw g d1 a1 _ i U1 w5 s1' i1.w n1 (by omega))
   have K2:=hide (And.intro s2 (And.intro i2 (And.intro n2 (And.intro sep (And.intro (fun b hb=>Nat.le_trans hgN (f1 b hb)) (fun b hb=>Nat.le_trans (show w.heap.size≤g2 by rw [← hg2];exact HBl.out.size) (f2 b hb)))))))
   have HHM:Hid (HasM (ls.map (·.map lit))↔HasM ((ls.map (·.map (fl v m))).map (·.map lit))):=hasM_fl HM1.out.1 HM1.out.2 HF.out.2;clear s1 i1 n1 f1 bl1 s2 i2 n2 f2 bl2 s1' sep HSV HS1;go_wp2_with fail
   refine HEN.out.mono ?_;rintro e w9 ⟨rfl,hw9⟩;obtain rfl:=hw9.symm;clear HEN;go_wp2_with fail
   refine K1.out.mono ?_;rintro e w6 ⟨x,d1',a1',rfl,hx,m1⟩;obtain ⟨s2,-⟩:=m1.stay K2.out.1 K2.out.2.2.2.1;have HB6:Hid (Below w.heap.size w w6):=HB5.out.trans (m1.low HB5.out.size K2.out.2.2.2.2.1).1;have K3:=hide (solve_raw g2 d2 a2 _ i U2 w6 s2 K2.out.2.1.w K2.out.2.2.1 (by omega))
   have X:=hide hx;clear m1 s2 hx K1;go_wp2_with fail
   refine K3.out.mono ?_;rintro e w7 ⟨y,d2',a2',rfl,hy,m2⟩;have HB7:Hid (Below w.heap.size w w7):=HB6.out.trans (m2.low HB6.out.size K2.out.2.2.2.2.2).1;obtain rfl:x=y:=by
    have h1:=X.out.two;have h2:=hy.two;have h3:=X.out.one;have h4:=hy.one;have h5:=HHM.out;by_cases h:HasM (ls.map (·.map lit))
    ·
     have a1:x≠2:=fun e=>h1.1 e h
     have a2:y≠2:=fun e=>h2.1 e (h5.1 h)
     omega
    ·
     have a1:=h1.2 h;have a2:=h2.2 (fun k=>h (h5.2 k))
     omega
   clear m2 hy K3 K2 X;go_wp2;go_ret
   exact ⟨rfl,HB7.out⟩
end Sat
end Go.Proofs.YtbmkkhpoaicclabGreat
