/- SatFixed walked: it answers true; it proves no statement of the seat. -/
import Derived.Test.YtbmkkhpoaicclabGreatSatAkJFixed
import Derived.Test.YtbmkkhpoaicclabGreatSatOqJFixed
import Derived.Test.YtbmkkhpoaicclabGreatSatBiJFixed
import Derived.Test.YtbmkkhpoaicclabGreatSatXrJFixed
import Derived.Test.YtbmkkhpoaicclabGreatJoin21Fixed
namespace Go.Proofs.YtbmkkhpoaicclabGreat
open Go Go.RowKit
set_option linter.unusedVariables false
namespace Sat
open Euf (OL App)
theorem SvQ.below {N g A:Nat} {I:List (List Nat)} {w0 w w':World} (h:SvQ N g I A w0 w) (hb:Below w.heap.size w w'):SvQ N g I A w0 w':=by
 obtain ⟨d,a,U,s,i,hn,hf,bl⟩:=h;exact ⟨d,a,U,s.below hb,i,hn,hf,bl.trans (hb.mono (Nat.le_trans (hf g (Or.inl rfl)) (Nat.le_of_lt s.lt)))⟩
theorem SvQ.bl {N g A:Nat} {I:List (List Nat)} {w0 w:World} (h:SvQ N g I A w0 w):Below N w0 w:=by
 obtain ⟨d,a,U,-,-,-,-,bl⟩:=h;exact bl
structure FxP (I:List (List Nat)) (ys:List Int):Prop where
  so:Srt ys
  ok:∀ z∈ys, Okl 9 z
  tr:∀ z∈ys, ∀ M:Nat→Bool, (∀ L∈I, ∃ m∈L, tru M m)→tru M (lit z)
theorem fx_of {d:Dt} {I:List (List Nat)} {A:Nat} {Q U:List Nat} (b:Bs d I A Q U) (hS:d.S=[]) (hn:d.nv=9) {ys:List Int} (hp:ys.Perm (d.T.map num)) (hs:ys.Pairwise (fun a b=>¬ bv b a)):FxP I ys:=by
 have sv:=sv_sorted (L:=d.T) b.ti.nd (fun m hm=>(b.ti.ok m hm).1) hp hs
 refine ⟨sv.so,fun z hz=>?_,fun z hz M hM=>?_⟩
 · obtain ⟨m,hm,rfl⟩:=List.mem_map.1 (hp.mem_iff.1 hz);have h9:=b.ti.ok m hm;rw [hn] at h9;unfold Okl num;split <;> omega
 ·
  obtain ⟨m,hm,rfl⟩:=List.mem_map.1 (hp.mem_iff.1 hz);rw [lit_num2 (b.ti.ok m hm).1];obtain ⟨i,hi,rfl⟩:=List.mem_iff_getElem.1 hm;obtain ⟨u,h1,-,h3⟩:=b.ti.un i hi (by rw [hS];rfl)
  obtain ⟨m,k1,k2⟩:=b.dv.sound hM u h1;rw [h3] at k1;simp at k1;rw [← k1];exact k2
set_option maxRecDepth 20000 in
theorem fixed_any {N g A:Nat} {I:List (List Nat)} {w0 w:World} (h:SvQ N g I A w0 w) :
  Calls Tryz.prog 19 #[.pointer (some ⟨g,0,none⟩)] w fun e w'=>∃ q cap ys,e=.returned (.slice q ys.length cap)∧IL w' q ys.length cap ys∧FxP I ys∧Below w.heap.size w w':=by
 obtain ⟨d,a,U,s,i,hn,-,-⟩:=h;obtain ⟨Q,hb,hS⟩:∃ Q,Bs d I A Q U∧d.S=[]:=by
  rcases i.ai with t | ⟨-,t1,-,t3,-⟩
  · exact ⟨_,t.bs,t.s0⟩
  · exact ⟨_,t1,t3⟩
 have c5:w.cell? ⟨g,5,none⟩=some (.bool false):=by have h9:w.cell? ⟨g,5,none⟩=some (.bool d.refuted):=s.cell 5;rw [i.ic.rf] at h9;exact h9
 have c9:w.cell? ⟨g,9,none⟩=some (a kTra):=s.cell 9;have ol:OL 1 106 w (a kTra) d.T.length (i32C d.T):=s.ol (k:=kTra) ⟨by decide,rfl⟩
 obtain ⟨qt,ct,hvt,-⟩:=ol.shape;rw [hvt] at c9 ol;have hlg:=s.lt;have HO:=hide (outside_any _ d.T w ol (fun m hm=>by have:=(hb.ti.ok m hm).2;omega) (by have:=hb.ti.len;omega))
 have HX:Hid (∀ ys:List Int,ys.Perm (d.T.map num)→ys.Pairwise (fun a b=>¬ bv b a)→FxP I ys):=fun ys h1 h2=>fx_of hb hS hn h1 h2
 clear s i hn hb hS ol hvt;generalize d.T.length=nt at *;go_enter Tryz.func19,Tryz.ntmps19;go_wp2_with fail
 refine HO.out.mono ?_;rintro e w1 ⟨v,ys,rfl,h1,h2,ol1,-,b1⟩;have hfx:=HX.out ys h1 h2;obtain ⟨q1,c1,rfl,il⟩:=OL.il ol1 (fun z hz=>by have h9:=hfx.ok z hz;unfold Okl at h9;exact ⟨by omega,by omega⟩)
 have HE:=hide (And.intro il (And.intro hfx b1));clear h1 h2 ol1 b1 hfx il HO HX;generalize hy:ys.length=ny at *;have HY:=hide hy;clear hy;go_wp2;go_ret
 have h9:=HE.out;rw [← HY.out] at h9 ⊢;exact ⟨q1,c1,ys,rfl,h9⟩
theorem fixed_ref (g:Nat) (w:World) (hg:g < w.heap.size) (h5:w.cell? ⟨g,5,none⟩=some (.bool true)):Calls Tryz.prog 19 #[.pointer (some ⟨g,0,none⟩)] w fun e w'=>e=.returned (.slice none 0 0)∧w'=w:=by
 go_enter Tryz.func19,Tryz.ntmps19;go_wp2;go_ret
 exact ⟨rfl,rfl⟩
def FlP (ls:List (List Int)) (z:Int) (k:Nat):Prop:=∀ B, B < k→(∀ c∈ls, Hl (bM B) c)→tru (bM B) (lit z)
theorem il_one (w:World) (z:Int) (hz:InI z):IL (w.alloc (.cells #[.int .i64 z] 3 (0,0))) (some ⟨w.heap.size,0,none⟩) 1 1 [z]:=by
 have hr:(w.alloc (.cells #[.int .i64 z] 3 (0,0))).heap[w.heap.size]?=some (.cells #[.int .i64 z] 3 (0,0)):=heap_alloc_new w _;refine ⟨rfl,Nat.le_refl _,by unfold maxLen;decide,(fun k=>by cases k),Or.inr ⟨w.heap.size,0,rfl,(Array.getElem?_eq_some_iff.1 hr).1,fun j hj=>?_⟩,fun y hy=>?_⟩
 ·
  rw [cell_of_row _ _ _ _ _ _ hr];obtain rfl:j=0:=by omega
  rfl
 · simp at hy;subst hy;exact hz
set_option maxRecDepth 20000 in
set_option maxHeartbeats 8000000 in
theorem rfollows_any (N:Nat) (q:Option Addr) (n cap:Nat) (ls:List (List Int)) (z:Int) (w:World) (h:LL w N q n cap ls) (hN:N≤w.heap.size) (hf:∀ c∈ls,Few1 c) (hz:Okl 9 z) :
  Calls Tryz.prog 22 #[.int .i64 9,.slice q n cap,.int .i64 z] w fun e w'=>BoolE e (FlP ls z 512)∧Below w.heap.size w w':=by
 have H:=hide (And.intro h (And.intro hf (And.intro hz hN)));have hzI:InI z:=by obtain ⟨-,h1,h2⟩:=hz;exact ⟨by omega,by omega⟩
 obtain ⟨z1,z2⟩:=hzI;have HZI:Hid (InI z):=⟨z1,z2⟩;clear h hf hz hN;go_enter Tryz.func22,Tryz.ntmps22;go_wp2;go_loopw [7] (fun v7 wr=>∃ (i:Nat),v7=.int .i64 (i:Nat)∧i≤512∧Hid (Below w.heap.size w wr∧FlP ls z i)) (fun v _=>512 - (intOf v).toNat)
 case atStart=>exact ⟨0,rfl,by omega,Below.refl _ _,fun B hB=>absurd hB (Nat.not_lt_zero _)⟩
 case round =>
  rename World=>wl
  obtain ⟨i,rfl,hi,HJ⟩:=hrel;by_cases hlt:i < 512
  ·
   have hltI:(i:Int) < 512:=by omega
   have HA:=hide (all_any N q n cap ls i wl (H.out.1.below (HJ.out.1.mono H.out.2.2.2)) H.out.2.1 (by omega))
   go_wp2_with fail
   refine HA.out.mono ?_;rintro e w9 ⟨⟨b9,rfl,hb9⟩,hw9⟩;obtain rfl:=hw9.symm;clear HA;cases b9 with
   | false =>
    have HE:Hid (Below w.heap.size w wl∧FlP ls z (i + 1)):=⟨HJ.out.1,fun B hB h9=>by
     by_cases e:B=i
     · subst e;have:=hb9.2 h9;cases this
     · exact HJ.out.2 B (by omega) h9⟩
    clear hb9;go_wp2;go_roundw
    case rel=>exact ⟨i + 1,by go_num,by omega,HE.out⟩
    case measure=>simp [intOf] <;> omega
   | true =>
    obtain ⟨w4,hw4⟩:∃ w4,wl.alloc (.cells #[.int .i64 z] 3 (0,0))=w4:=⟨_,rfl⟩;have il4:=il_one wl z HZI.out;have b4:Below wl.heap.size wl w4:=by rw [← hw4];exact (Below.refl _ _).alloc (Nat.le_refl _) _
    rw [hw4] at il4;have HH:=hide (holds_any04 _ 1 1 [z] i w4 il4 (fun y hy=>by simp at hy;subst hy;exact H.out.2.2.1) (by omega))
    have HB4:Hid (Below w.heap.size w w4):=HJ.out.1.trans (b4.mono HJ.out.1.size);have HAL:=hide (hb9.1 rfl);clear hb9 il4 b4;go_wp2_with fail
    refine HH.out.mono ?_;rintro e w9 ⟨⟨b9,rfl,hb9⟩,hw9⟩;obtain rfl:=hw9.symm;clear HH hw4;cases b9 with
    | true =>
     have HE:Hid (Below w.heap.size w w4∧FlP ls z (i + 1)):=⟨HB4.out,fun B hB h9=>by
      by_cases e:B=i
      · subst e;obtain ⟨y,hy,ht⟩:=hb9.1 rfl;simp at hy;subst hy;exact ht
      · exact HJ.out.2 B (by omega) h9⟩
     clear hb9;go_wp2;go_roundw
     case rel=>exact ⟨i + 1,by go_num,by omega,HE.out⟩
     case measure=>simp [intOf] <;> omega
    | false =>
     have HE:Hid (BoolE (.returned (.bool false)) (FlP ls z 512)):=BoolE.f (fun h9=>by
      have h8:=hb9.2 ⟨z,by simp,h9 i hlt HAL.out⟩
      cases h8)
     clear hb9;go_wp2;go_ret
     exact ⟨HE.out,HB4.out⟩
  ·
   have hltI:¬ ((i:Int) < 512):=by omega
   obtain rfl:i=512:=by omega
   have HE:Hid (BoolE (.returned (.bool true)) (FlP ls z 512)):=BoolE.t HJ.out.2;have HB:Hid (Below w.heap.size w wl):=HJ.out.1;clear HJ;go_wp2;go_ret
   exact ⟨HE.out,HB.out⟩
set_option maxRecDepth 20000 in
set_option maxHeartbeats 16000000 in
theorem satFixed_any (qL:Option Addr) (cL:Nat) (ls:List (List Int)) (bud:Int) (w:World) (hl:LL w w.heap.size qL ls.length cL ls) (hb:InI bud) :
  Calls Tryz.prog 4 #[.slice qL ls.length cL,.int .i64 bud] w fun e w'=>e=.returned (.bool true)∧Below w.heap.size w w':=by
 obtain ⟨nL,hnL⟩:∃ nL,ls.length=nL:=⟨_,rfl⟩;rw [hnL] at hl ⊢;have H:=hide (And.intro hl hnL);clear hl hnL;go_enter Tryz.func4,Tryz.ntmps4;go_wp2_with fail
 refine (awake_any w).mono ?_;rintro e w1 ⟨rfl,b1⟩;have HB1:=hide b1;clear b1;have HFW:=hide (few_any w.heap.size qL nL cL ls w1 (H.out.1.below HB1.out));go_wp2_with fail
 refine HFW.out.mono ?_;rintro e w2 ⟨fw,hw9⟩;obtain rfl:=hw9.symm;clear HFW;rcases fw with ⟨rfl,hf⟩ | ⟨rfl,hf⟩
 rotate_left
 ·
  have HSV:=hide (solver_any w1.heap.size none 0 0 [] w1 (LL.nil w1 _) (Nat.le_refl _) (fun c hc=>by cases hc) (by omega))
  clear hf;go_wp2_with fail
  refine HSV.out.mono ?_;rintro e w3 ⟨rfl,sv⟩;have HE:Hid (Below w.heap.size w w3):=HB1.out.trans (sv.bl.mono HB1.out.size);clear sv HSV;go_wp2;go_ret
  exact ⟨rfl,HE.out⟩
 have HF:=hide hf;have hn80:nL≤80:=by have:=hf.1;rw [H.out.2] at this;exact this
 have hn80I:(nL:Int)≤80:=by omega
 have HSV:=hide (solver_any w.heap.size qL nL cL ls w1 (H.out.1.below HB1.out) HB1.out.size hf.2 (by omega))
 have hgN:=HB1.out.size;obtain ⟨g,hg⟩:∃ g,w1.heap.size=g:=⟨_,rfl⟩;rw [hg] at HSV hgN;clear hf;go_wp2_with fail
 refine HSV.out.mono ?_;rintro e w3 ⟨rfl,sv⟩;have HS:=hide sv;have HB3:Hid (Below w.heap.size w w3):=HB1.out.trans (sv.bl.mono hgN);clear sv HSV;obtain ⟨bu,hbu⟩:∃ bu,min bud 1048576=bu:=⟨_,rfl⟩;have hb1:bu≤1048576:=by omega
 have HQ0:Hid (∃ A',A'≤nL + 0*1048576∧SvQ g g (ls.map (·.map lit)) A' w1 w3):=⟨nL,by omega,HS.out.q⟩
 clear HS hb;go_wp2;go_loopw [7] (fun v7 wr=>∃ (i:Nat),v7=.int .i64 (i:Nat)∧i≤2∧Hid (∃ A',A'≤nL + i*1048576∧SvQ g g (ls.map (·.map lit)) A' w1 wr)) (fun v _=>2 - (intOf v).toNat)
 case atStart=>exact ⟨0,rfl,by omega,HQ0.out⟩
 case round =>
  rename World=>wl
  obtain ⟨i,rfl,hi,HJ⟩:=hrel;clear HQ0;by_cases hlt:i < 2
  ·
   have hltI:(i:Int) < 2:=by omega
   obtain ⟨A',hA',sq⟩:=HJ.out;have HFX:=hide (fixed_any sq);have SQ:=hide sq;clear sq HJ;go_wp2_with fail
   refine HFX.out.mono ?_;rintro e w4 ⟨qf,cf,ys,rfl,il4,fx,b4⟩;obtain ⟨ny,hny⟩:∃ ny,ys.length=ny:=⟨_,rfl⟩;rw [hny] at il4 ⊢;have hny5:ny≤1000000:=by
    have h1:(ys.map lit).Nodup:=List.pairwise_map.2 (fx.so.imp (fun hb e=>by have:=lit_inj e;subst this;exact bv_irr _ hb))
    have h2:=nodup_le 20 (ys.map lit) h1 (fun x hx=>by obtain ⟨z,hz,rfl⟩:=List.mem_map.1 hx;exact (lit_ok (v:=9) (fx.ok z hz)).2)
    rw [List.length_map] at h2;omega
   have SQ4:=hide (SQ.out.below b4);have FX:=hide (And.intro fx hny);have IL4:=hide il4;have hnyI:(ny:Int)≤1000000:=by omega
   clear b4 fx il4 hny HFX SQ;have HSE:=hide (rset_any qf ny cf ys w4 IL4.out hny5);go_wp2_with fail
   refine HSE.out.mono ?_;rintro e w5 ⟨v5,s5,rfl,hs5,ol5,-,b5⟩;obtain rfl:s5=ys:=(hs5.setOf (fun h9=>by have h8:=FX.out.1.ok _ h9;unfold Okl at h8;omega)).uniq ⟨FX.out.1.so,fun x=>Iff.rfl⟩
   obtain ⟨q5,c5,rfl,il5⟩:=OL.il ol5 IL4.out.ok;rw [FX.out.2] at il5 ⊢;have HSM:=hide (rsame_any qf ny cf s5 q5 ny c5 s5 w5 (IL4.out.below b5) il5);have SQ5:=hide (SQ4.out.below b5);have IL5:=hide (IL4.out.below b5);clear hs5 ol5 il5 b5 HSE SQ4 IL4;go_wp2_with fail
   refine HSM.out.mono ?_;rintro e w6 ⟨⟨x9,rfl,hx9⟩,k9,hw9⟩;obtain rfl:x9=true:=hx9.2 (by first | rfl | trivial)
   have b6:Below w5.heap.size w5 w6:=by rw [hw9];exact ⟨rfl,rfl,rfl,Nat.le_refl _,fun _ _=>rfl⟩
   have SQ6:=hide (SQ5.out.below b6);have IL6:=hide (IL5.out.below b6);clear hx9 hw9 HSM SQ5 IL5 b6;go_wp2;go_loopw [9] (fun v9 wr=>∃ (k:Nat),v9=.int .i64 (k:Nat)∧k≤ny∧Hid (Below w6.heap.size w6 wr)) (fun v _=>ny - (intOf v).toNat)
   case atStart=>exact ⟨0,rfl,Nat.zero_le _,Below.refl _ _⟩
   case round =>
    rename World=>wm
    obtain ⟨k,rfl,hk,HK⟩:=hrel;have HBm:Hid (Below w.heap.size w wm):=HB1.out.trans ((SQ6.out.below HK.out).bl.mono hgN);by_cases hlk:k < ny
    ·
     have hlkI:(k:Int) < (ny:Int):=by omega
     have ilm:=IL6.out.below HK.out;have hlz:=FX.out.2;rcases ilm.at_ with h0 | ⟨b,off,rfl,lb,hc⟩
     · rw [h0] at hlz;simp at hlz;omega
     have ck:=hc k hlk;obtain ⟨z,hz⟩:∃ z,s5.getD k 0=z:=⟨_,rfl⟩;have hzm:z∈s5:=by rw [← hz];exact getD_of (by omega)
     rw [hz] at ck;have hok:=FX.out.1.ok z hzm;obtain ⟨z0,z1,z2⟩:=hok;have z0B:(z == 0)=false:=by simpa using z0
     have HFO:=hide (rfollows_any w.heap.size qL nL cL ls z wm (H.out.1.below HBm.out) HBm.out.size HF.out.2 ⟨z0,z1,z2⟩);have HTR:Hid (FlP ls z 512):=fun B _ h9=>FX.out.1.tr z hzm (bM B) (all_hl.2 h9)
     have h9I:¬ (9 < z):=by omega
     have h9J:¬ (z < -9):=by omega
     clear hc hz hzm ilm hlz;go_wp2_with fail
     refine HFO.out.mono ?_;rintro e w7 ⟨⟨x9,rfl,hx9⟩,b7⟩;obtain rfl:x9=true:=hx9.2 HTR.out;have HE:Hid (Below w6.heap.size w6 w7):=HK.out.trans (b7.mono HK.out.size);clear hx9 b7 HFO;go_wp2;go_roundw
     case rel=>exact ⟨k + 1,by go_num,by omega,HE.out⟩
     case measure=>simp [intOf] <;> omega
    ·
     have hlkI:¬ ((k:Int) < (ny:Int)):=by omega
     have SQm:=hide (SQ6.out.below HK.out);by_cases h0:i=0
     ·
      subst h0;have HSO:=hide (SQm.out.solve bu (by omega))
      go_wp2_with fail
      refine HSO.out.mono ?_;rintro e w7 ⟨d,a,U,A2,s7,hn,hfo,bl7,hA2,hs0,hs1,hcase⟩;have hA2':A2≤nL + (0 + 1)*1048576:=by omega
      rcases hcase with ⟨rfl,q1,-⟩ | ⟨rfl,q1,-⟩ | ⟨rfl,q1,-⟩
      ·
       have HE:Hid (∃ A',A'≤nL + 1*1048576∧SvQ g g (ls.map (·.map lit)) A' w1 w7):=⟨A2,by omega,d,a,U,s7,q1,hn,hfo,bl7⟩
       clear s7 hn hfo bl7 q1 HSO hs0 hs1;go_wp2;go_roundw
       case rel=>exact ⟨1,by go_num,by omega,HE.out⟩
       case measure=>simp [intOf]
      ·
       have HE:Hid (∃ A',A'≤nL + 1*1048576∧SvQ g g (ls.map (·.map lit)) A' w1 w7):=⟨A2,by omega,d,a,U,s7,q1.w,hn,hfo,bl7⟩
       clear s7 hn hfo bl7 q1 HSO hs0 hs1;go_wp2;go_roundw
       case rel=>exact ⟨1,by go_num,by omega,HE.out⟩
       case measure=>simp [intOf]
      ·
       have HE:Hid (Below w.heap.size w w7):=HB1.out.trans (bl7.mono hgN);have HR:=hide (fixed_ref g w7 s7.lt (by have h9:w7.cell? ⟨g,5,none⟩=some (.bool d.refuted):=s7.cell 5;rw [q1.rf] at h9;exact h9))
       clear s7 hn hfo bl7 q1 HSO hs0 hs1;go_wp2_with fail
       refine HR.out.mono ?_;rintro e w9 ⟨rfl,hw9⟩;obtain rfl:=hw9.symm;clear HR;go_wp2;go_ret
       exact ⟨rfl,HE.out⟩
     ·
      obtain rfl:i=1:=by omega
      have HE:Hid (∃ A',A'≤nL + 2*1048576∧SvQ g g (ls.map (·.map lit)) A' w1 wm):=⟨A',by omega,SQm.out⟩
      go_wp2;go_roundw
      case rel=>exact ⟨2,by go_num,by omega,HE.out⟩
      case measure=>simp [intOf]
  ·
   have hltI:¬ ((i:Int) < 2):=by omega
   obtain ⟨A',-,sq⟩:=HJ.out;have HE:Hid (Below w.heap.size w wl):=HB1.out.trans (sq.bl.mono hgN);clear sq HJ;go_wp2;go_ret
   exact ⟨rfl,HE.out⟩
end Sat
end Go.Proofs.YtbmkkhpoaicclabGreat
