/- Joined: RParse, Keep, Pars, Ints3: words and contracts; no statement of the seat is proved here. -/
import Derived.Test.YteefniagebcagaaGreatDoorJoin8Reckons
import Derived.Test.YteefniagebcagaaGreatDoorJoin7Reckons
import Derived.Deep.DeepCutAuto
namespace Go.Proofs.YteefniagebcagaaGreatDoor
open Go.RowKit
def RHeld (w : World) (v : Value) (c z : Int) (L : Nat) : Prop := (c = 0 ∧ z.natAbs < lim ∧ RNum w v z L) ∨ (c = 11 ∧ lim ≤ z.natAbs ∧ RNum w v 0 L)
def RParseR (w : World) (v : Value) (c : Int) (l : List Nat) : Prop := (¬ Good l ∧ c = 10 ∧ RNum w v 0 400) ∨ (Good l ∧ RHeld w v c (pval l) 400)
theorem pval_natAbs (l : List Nat) : (pval l).natAbs = dec (pbody l) := sv_natAbs _ _
theorem Good.big {l : List Nat} (h : Good l) (hl : 400 < l.length) : lim ≤ (pval l).natAbs := by
 rw [pval_natAbs];refine h.1.big ?_;unfold pbody;split
 · rw [List.length_drop];omega
 · omega
theorem exact_any (s : ByteArray) (w : World) (hl : s.size ≤ 9000) (hg : Good (bs s)) :
  Calls Tryz.prog 94 #[.string s] w fun e w' => ∃ v,e = .returned v ∧ RNum w' v (pval (bs s)) s.size ∧ Below w.heap.size w w' := by
 by_cases hp : pneg (bs s) = true
 ·
  obtain ⟨g1,g2,g3⟩ := (good_iff (bs s) 1 (by rw [if_pos hp])).1 hg
  rw [bs_length] at g1 g3;have e : pval (bs s) = sv true (dec ((bs s).drop 1)) := by rw [pval,pbody,if_pos hp,hp]
  rw [e];exact exact_aux s true 1 w hl g1 (Nat.le_refl _) (fun _ => ⟨rfl,((pneg_iff s).1 hp).2⟩) (fun h => by cases h) g3
 ·
  obtain ⟨g1,g2,g3⟩ := (good_iff (bs s) 0 (by rw [if_neg hp])).1 hg
  rw [bs_length] at g1 g3;have e : pval (bs s) = sv false (dec ((bs s).drop 0)) := by rw [pval,pbody,if_neg hp,Bool.eq_false_iff.2 hp,List.drop_zero]
  rw [e];exact exact_aux s false 0 w hl g1 (Nat.zero_le _) (fun h => by cases h) (fun _ => rfl) g3
set_option maxHeartbeats 1000000 in
theorem rparse_any (s : ByteArray) (w : World) (hl : s.size ≤ 10000) :
  Calls Tryz.prog 54 #[.string s] w fun e w' => ∃ v c,e = .returned (.tuple #[v,.int .i64 c]) ∧ Below w.heap.size w w' ∧ RParseR w' v c (bs s) := by
 have B0 := Blk.new w 39 #[.bool false,.slice none 0 0];by_cases hg : Good (bs s)
 ·
  have HG : Hid (Good (bs s)) := hg;clear hg;by_cases h4 : 400 < s.size
  ·
   go_enter Tryz.func54,Tryz.ntmps54;go_wp2_with (go_at_call 93;refine (form_yes s _ hl HG.out).mono ?_;rintro e w' ⟨rfl,rfl⟩)
   refine bodyPost_ret (v := .tuple #[.agg #[.bool false,.slice none 0 0],.int .i64 11]) (by simp [results,Tryz.results54,go_sem]) rfl ?_
   exact ⟨_,_,rfl,(Below.refl _ _).alloc (Nat.le_refl _) _,Or.inr ⟨HG.out,Or.inr ⟨rfl,HG.out.big (by rw [bs_length];exact h4),RNum.zero _ _⟩⟩⟩
  ·
   go_enter Tryz.func54,Tryz.ntmps54;go_wp2_with (first
    | (go_at_call 93;refine (form_yes s _ hl HG.out).mono ?_;rintro e w' ⟨rfl,rfl⟩)
    | (go_at_call 94;refine (exact_any s _ (by omega) HG.out).mono ?_;rintro e w1 ⟨v1,rfl,hn1,hb1⟩;obtain ⟨neg,ds,⟨ao,cap,rfl,k1,k2,k3,k4,k5,k6,k7⟩,hz,hdl⟩ := hn1;have B1 := B0.stay hb1;obtain ⟨c0,c1,f0,f1⟩ := B1.two;have HZ : Hid (pval (bs s) = sv neg (val 10 ds)) := hz;clear hz))
   have hv1 : NumV w1 (.agg #[.bool neg,.slice ao ds.length cap]) neg ds := ⟨ao,cap,rfl,k1,k2,k3,k4,k5,k6,k7⟩;have hb2 : Below w.heap.size w w1 := ((Below.refl _ _).alloc (Nat.le_refl _) _).step hb1 (Nat.le_refl _);have C1 := Blk.new w1 39 #[.bool neg,.slice ao ds.length cap];have hlt := B1.lt;clear k3 k7;by_cases hbig : lim ≤ val 10 ds
   ·
    have hdc : decide (lim ≤ val 10 ds) = true := by simp [hbig]
    refine (toobig_any _ neg ds _ (hv1.below ((Below.refl _ _).alloc (Nat.le_refl _) _)) (by omega)).mono ?_
    rintro e w2 ⟨rfl,hb3⟩;have B2 := (B1.alloc (.cells #[.bool neg,.slice ao ds.length cap] 39 (0,0))).stay hb3;have C2 := C1.stay hb3;clear c0 c1 f0 f1;obtain ⟨c0,c1,f0,f1⟩ := B2.two;obtain ⟨d0,d1,g0,g1⟩ := C2.two;have HB : Hid (lim ≤ val 10 ds) := hbig;clear hbig;go_wp2;refine bodyPost_ret (v := .tuple #[.agg #[.bool false,.slice none 0 0],.int .i64 11]) (by simp [results,Tryz.results54,go_sem,c0,c1]) rfl ?_
    have hb4 : Below w.heap.size w w2 := (hb2.alloc hb2.size _).step hb3 (Nat.le_refl _);exact ⟨_,_,rfl,below_store2 hb4 (Nat.le_refl _) _ _,Or.inr ⟨HG.out,Or.inr ⟨rfl,by rw [HZ.out,sv_natAbs];exact HB.out,RNum.zero _ _⟩⟩⟩
   ·
    have hdc : decide (lim ≤ val 10 ds) = false := by simp [hbig]
    refine (toobig_any _ neg ds _ (hv1.below ((Below.refl _ _).alloc (Nat.le_refl _) _)) (by omega)).mono ?_
    rintro e w2 ⟨rfl,hb3⟩;have B2 := (B1.alloc (.cells #[.bool neg,.slice ao ds.length cap] 39 (0,0))).stay hb3;have C2 := C1.stay hb3;clear c0 c1 f0 f1;obtain ⟨c0,c1,f0,f1⟩ := B2.two;obtain ⟨d0,d1,g0,g1⟩ := C2.two;have HB : Hid (¬ lim ≤ val 10 ds) := hbig;clear hbig;go_wp2;refine bodyPost_ret (v := .tuple #[.agg #[.bool neg,.slice ao ds.length cap],.int .i64 0]) (by simp [results,Tryz.results54,go_sem,c0,c1]) rfl ?_
    have hb4 : Below w.heap.size w w2 := (hb2.alloc hb2.size _).step hb3 (Nat.le_refl _);have hw : Below w1.heap.size w1 w2 := ((Below.refl _ _).alloc (Nat.le_refl _) _).step hb3 (Nat.le_refl _);refine ⟨_,_,rfl,below_store2 hb4 (Nat.le_refl _) _ _,Or.inr ⟨HG.out,Or.inl ⟨rfl,by rw [HZ.out,sv_natAbs];exact Nat.lt_of_not_le HB.out,?_⟩⟩⟩
    exact ⟨neg,ds,(hv1.below hw).store2 B2 _ _ _ _,HZ.out,by omega⟩
 ·
  have HG : Hid (¬ Good (bs s)) := hg;clear hg;go_enter Tryz.func54,Tryz.ntmps54;go_wp2_with (go_at_call 93;refine (form_no s _ hl HG.out).mono ?_;rintro e w' ⟨rfl,rfl⟩)
  refine bodyPost_ret (v := .tuple #[.agg #[.bool false,.slice none 0 0],.int .i64 10]) (by simp [results,Tryz.results54,go_sem]) rfl ?_
  exact ⟨_,_,rfl,(Below.refl _ _).alloc (Nat.le_refl _) _,Or.inl ⟨HG.out,rfl,RNum.zero _ _⟩⟩
theorem text_a (v : Value) (z : Int) (w : World) (hv : AInt w v z) :
  Calls Tryz.prog 31 #[v] w fun e w' => ∃ S,e = .returned (.string S) ∧ TextOf S z ∧ Below w.heap.size w w' := by
 obtain ⟨neg,xs,h1,h2,h3⟩ := hv;rw [h2];exact text_any v neg xs w h1 (by have := AInt.len h1 h3;omega)
theorem sv_not (n : Bool) (m : Nat) : sv (!n) m = - sv n m := by cases n <;> simp [sv]
theorem copied_lim (v : Value) (N L : Nat) (w : World) (hv : LimR w v N L) (hN : N < lim) :
  Calls Tryz.prog 100 #[v] w fun e w' => ∃ v',e = .returned v' ∧ LimR w' v' N 9001 ∧ Below w.heap.size w w' := by
 obtain ⟨ao,cap,ls,rfl,h1,h2,hs,hd,hn,rfl⟩ := hv;have hl := norm_len hn hN;refine (copied_any ao ls.length cap ls w rfl (by omega) hs).mono ?_
 rintro e w' ⟨rfl,hr,hb,_⟩;exact ⟨_,rfl,LimR.all hr hd hn 9001 (by omega),hb⟩
set_option maxHeartbeats 4000000 in
theorem neg_any (va : Value) (x : Int) (w : World) (ha : AInt w va x) :
  Calls Tryz.prog 61 #[va] w fun e w' => ∃ v,e = .returned v ∧ AInt w' v (-x) ∧ Below w.heap.size w w' := by
 obtain ⟨na,xs,hva,hxe,hxl⟩ := ha;obtain ⟨ao,cap,rfl,h1,h2,hs,hd,hn,h3⟩ := hva;have HX : Hid (-x = sv (!na) (val 4294967296 xs) ∧ val 4294967296 xs < lim) := ⟨by rw [sv_not,hxe],hxl⟩
 clear hxe hxl h3;have A0 := (Blk.new w 31 #[.bool na,.slice ao xs.length cap]).alloc (.cells #[.bool false,.slice none 0 0] 31 (0,0));have R0 := Blk.new (w.alloc (.cells #[.bool na,.slice ao xs.length cap] 31 (0,0))) 31 #[.bool false,.slice none 0 0];simp only [World.size_alloc] at R0;have hbw : Below w.heap.size w ((w.alloc (.cells #[.bool na,.slice ao xs.length cap] 31 (0,0))).alloc (.cells #[.bool false,.slice none 0 0] 31 (0,0))) := by go_grown
 have HL : Hid (LimR ((w.alloc (.cells #[.bool na,.slice ao xs.length cap] 31 (0,0))).alloc (.cells #[.bool false,.slice none 0 0] 31 (0,0))).drew (.slice ao xs.length cap) (val 4294967296 xs) 10000) := ⟨ao,cap,xs,rfl,h1,h2,hs.below hbw.drew,hd,hn,rfl⟩;go_enter Tryz.func61,Tryz.ntmps61;go_wp2;go_region_held3 (fun w' => w'.cell? ⟨w.heap.size,0,none⟩ = some (.bool na) ∧ w'.cell? ⟨w.heap.size,1,none⟩ = some (.slice ao xs.length cap))
  (simp [*,go_sem])
  (first
   | (go_at_call 100;refine (copied_lim _ _ 10000 _ HL.out HX.out.2).mono ?_;rintro e w1 ⟨v1,rfl,hl,hb1⟩;have A1 := A0.drew.stay hb1;have R1 := R0.drew.stay hb1;obtain ⟨ca0,ca1,_,_⟩ := A1.two)
   | (go_at_call 88;refine (signed_lim _ v1 _ 9001 _ hl (by decide) HX.out.2).mono ?_;rintro e w2 ⟨v2,rfl,ha2,hb2⟩;obtain ⟨xx,aa,nn,cc,rfl⟩ := ha2.shape;obtain ⟨da0,da1,_,_⟩ := (A1.stay hb2).two;have R2 := R1.stay hb2;obtain ⟨r0,r1,q0,q1⟩ := R2.two))
 go_wp2;refine bodyPost_ret (v := .agg #[.bool xx,.slice aa nn cc]) (by simp [results,Tryz.results61,go_sem,r0,r1]) rfl ?_
 refine ⟨_,rfl,?_,below_store2 (((hbw.drew).step hb1 (Nat.le_refl _)).step hb2 (Nat.le_refl _)) (by omega) _ _⟩
 rw [HX.out.1];exact ha2.store2 R2 _ _ _ _
theorem sign_sub_pos (m n : Nat) : ((sv false m) - (sv false n)).sign = ((m : Int) - n).sign := rfl
theorem sign_sub_neg (m n : Nat) : ((sv true m) - (sv true n)).sign = ((n : Int) - m).sign := by
 have : sv true m - sv true n = (n : Int) - m := by simp [sv];omega
 rw [this]
theorem sign_tf (m n : Nat) (hm : 0 < m) : ((sv true m) - (sv false n)).sign = -1 := Int.sign_eq_neg_one_of_neg (by simp [sv]; omega)
theorem sign_ft (m n : Nat) (hn : 0 < n) : ((sv false m) - (sv true n)).sign = 1 := Int.sign_eq_one_of_pos (by simp [sv]; omega)
set_option maxHeartbeats 4000000 in
theorem cmp_any (va vb : Value) (x y : Int) (w : World) (ha : AInt w va x) (hb : AInt w vb y) :
  Calls Tryz.prog 51 #[va,vb] w fun e w' => e = .returned (.int .i64 (x - y).sign) ∧ Below w.heap.size w w' := by
 obtain ⟨na,xs,hva,hxe,hxl⟩ := ha;obtain ⟨nb,ys,hvb,hye,hyl⟩ := hb;have hl1 := AInt.len hva hxl;have hl2 := AInt.len hvb hyl;obtain ⟨ao,cap,rfl,h1,h2,hs,hd,hn,h3⟩ := hva;obtain ⟨bo,cap',rfl,k1,k2,ks,kd,kn,k3⟩ := hvb;have hpos : ∀ zs : List Nat,∀ ng : Bool,Norm zs → (zs.length = 0 → ng = false) → ng = true → 0 < val 4294967296 zs := by
  intro zs ng hz1 hz2 hz3;refine (hz1.pos (B := 4294967296) (List.ne_nil_of_length_pos ?_)).resolve_right (by decide)
  rcases Nat.eq_zero_or_pos zs.length with h | h
  · rw [hz2 h] at hz3;cases hz3
  · exact h
 have HXY : Hid ((x - y) = sv na (val 4294967296 xs) - sv nb (val 4294967296 ys) ∧ (na = true → 0 < val 4294967296 xs) ∧ (nb = true → 0 < val 4294967296 ys)) := ⟨by rw [hxe,hye],hpos xs na hn h3,hpos ys nb kn k3⟩
 clear hxe hye hxl hyl h3 k3 hpos;have hbw : Below w.heap.size w ((w.alloc (.cells #[.bool na,.slice ao xs.length cap] 31 (0,0))).alloc (.cells #[.bool nb,.slice bo ys.length cap'] 31 (0,0))) := by go_grown
 cases na with
 | true =>
  cases nb with
  | true =>
   have HR : Hid ((x - y).sign = cmpL 4294967296 ys xs) := by show _ = _;rw [HXY.out.1,sign_sub_neg,cmpL_norm (by decide) kd hd kn hn]
   go_enter Tryz.func51,Tryz.ntmps51;go_wp2_with (go_at_call 87;refine (cmpLimbs_any bo ao ys.length xs.length cap' cap ys xs _ rfl rfl (by omega) (by omega) (ks.below hbw) (hs.below hbw) kd hd).mono ?_;rintro e w1 ⟨rfl,hb1⟩)
   go_ret
   exact ⟨by rw [HR.out];rfl,hbw.step hb1 (Nat.le_refl _)⟩
  | false =>
   have HR : Hid ((x - y).sign = -1) := by show _ = _;rw [HXY.out.1,sign_tf _ _ (HXY.out.2.1 rfl)]
   go_enter Tryz.func51,Tryz.ntmps51;go_wp2;go_ret
   exact ⟨by rw [HR.out];rfl,hbw⟩
 | false =>
  cases nb with
  | true =>
   have HR : Hid ((x - y).sign = 1) := by show _ = _;rw [HXY.out.1,sign_ft _ _ (HXY.out.2.2 rfl)]
   go_enter Tryz.func51,Tryz.ntmps51;go_wp2;go_ret
   exact ⟨by rw [HR.out];rfl,hbw⟩
  | false =>
   have HR : Hid ((x - y).sign = cmpL 4294967296 xs ys) := by show _ = _;rw [HXY.out.1,sign_sub_pos,cmpL_norm (by decide) hd kd hn kn]
   go_enter Tryz.func51,Tryz.ntmps51;go_wp2_with (go_at_call 87;refine (cmpLimbs_any ao bo xs.length ys.length cap cap' xs ys _ rfl rfl (by omega) (by omega) (hs.below hbw) (ks.below hbw) hd kd).mono ?_;rintro e w1 ⟨rfl,hb1⟩)
   go_ret
   exact ⟨by rw [HR.out];rfl,hbw.step hb1 (Nat.le_refl _)⟩
end Go.Proofs.YteefniagebcagaaGreatDoor
