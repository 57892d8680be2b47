/- Joined: Gcd2, VarsD, QV, RegF: words and contracts; no statement of the seat is proved here. -/
import Derived.Test.YteefniagebcagaaGreatDoorJoin12Reckons
import Derived.Test.YteefniagebcagaaGreatDoorJoin7Reckons
import Derived.Test.YteefniagebcagaaGreatDoorJoin2Reckons
import Derived.Test.YteefniagebcagaaGreatDoorJoin10Reckons
namespace Go.Proofs.YteefniagebcagaaGreatDoor
open Go.RowKit
set_option maxRecDepth 20000 in
set_option maxHeartbeats 8000000 in
theorem gcd_long (va vb : Value) (na nb : Bool) (xs ys : List Nat) (w : World) (hva : IntV w va na xs) (hvb : IntV w vb nb ys) (hxl : val 4294967296 xs < lim) (hyl : val 4294967296 ys < lim) :
  Calls Tryz.prog 76 #[va,vb] w fun e w' => ∃ v,e = .returned v ∧ AInt w' v (Nat.gcd (val 4294967296 xs) (val 4294967296 ys)) ∧ Below w.heap.size w w' := by
 obtain ⟨ao,cap,rfl,h1,h2,hs,hd,hn,h3⟩ := hva;obtain ⟨bo,cap',rfl,k1,k2,ks,kd,kn,k3⟩ := hvb;have HXL : Hid (val 4294967296 xs < lim) := hxl;have HYL : Hid (val 4294967296 ys < lim) := hyl;clear h3 k3 hxl hyl;have R0 := Blk.new ((w.alloc (.cells #[.bool na,.slice ao xs.length cap] 31 (0,0))).alloc (.cells #[.bool nb,.slice bo ys.length cap'] 31 (0,0))) 31 #[.bool false,.slice none 0 0];simp only [World.size_alloc] at R0;have hbw : Below w.heap.size w (((w.alloc (.cells #[.bool na,.slice ao xs.length cap] 31 (0,0))).alloc (.cells #[.bool nb,.slice bo ys.length cap'] 31 (0,0))).alloc (.cells #[.bool false,.slice none 0 0] 31 (0,0))) := by go_grown
 go_enter Tryz.func76,Tryz.ntmps76;go_wp2;go_region
 go_wp2;go_loopg [5,6] (val 4294967296 ys) (fun gk v5 v6 wr => ∃ p q : List Nat,∃ pa qa : Option Addr,∃ pc qc : Nat,v5 = .slice pa p.length pc ∧ v6 = .slice qa q.length qc ∧ p.length ≤ pc ∧ pc ≤ 10000 ∧ q.length ≤ qc ∧ qc ≤ 10000 ∧
   Seg .u32 wr pa p ∧ Seg .u32 wr qa q ∧ Digs 4294967296 p ∧ Digs 4294967296 q ∧ Norm p ∧ Norm q ∧
   Hid (val 4294967296 p < lim ∧ val 4294967296 q < lim ∧ val 4294967296 q = gk ∧ Nat.gcd (val 4294967296 p) (val 4294967296 q) = Nat.gcd (val 4294967296 xs) (val 4294967296 ys)) ∧
   Blk 31 wr (w.heap.size + 1 + 1) #[.bool false,.slice none 0 0] ∧ Below w.heap.size w wr)
 case atStart =>
  exact ⟨xs,ys,ao,bo,cap,cap',rfl,rfl,h1,h2,k1,k2,hs.below hbw.drew,ks.below hbw.drew,hd,kd,hn,kn,⟨HXL.out,HYL.out,rfl,rfl⟩,R0.drew,hbw.drew⟩
 case round =>
  obtain ⟨p,q,pa,qa,pc,qc,rfl,rfl,p1,p2,q1,q2,ps,qs,pd,qd,pn,qn,HG,R1,hbel⟩ := hrel;have hpl := norm_len pn HG.out.1;have hql := norm_len qn HG.out.2.1;by_cases hsm : p.length ≤ 2 ∧ q.length ≤ 2
  ·
   obtain ⟨s1,s2⟩ := hsm;have g1 : decide (2 < (p.length : Int)) = false := by simp;omega
   have g2 : decide (2 < (q.length : Int)) = false := by simp;omega
   have HX : Hid (val 4294967296 p < 18446744073709551616) := two_limbs pd s1;have HY : Hid (val 4294967296 q < 18446744073709551616) := two_limbs qd s2;have HGG : Hid (Nat.gcd (val 4294967296 p) (val 4294967296 q) < 18446744073709551616) := by
    show _ < _
    rcases Nat.eq_zero_or_pos (val 4294967296 p) with h | h
    · rw [h,Nat.gcd_zero_left];exact HY.out
    · exact Nat.lt_of_le_of_lt (Nat.gcd_le_left _ h) HX.out
   go_wp2_with fail
   refine (joinWord_any pa p.length pc p _ rfl s1 ps pd).mono ?_;rintro e w1 ⟨rfl,rfl⟩;go_wp2_with fail
   refine (joinWord_any qa q.length qc q _ rfl s2 qs qd).mono ?_;rintro e w1 ⟨rfl,rfl⟩;go_wp2_with fail
   refine (gcdWords_any _ _ _ (by have := HX.out;omega) (by have := HY.out;omega)).mono ?_
   rintro e w1 ⟨rfl,hb1⟩;have R2 := R1.stay hb1;go_wp2_with fail
   refine (splitWord_int _ _ rfl _ HGG.out).mono ?_;rintro e w2 ⟨v2,rfl,hl,hb2⟩;have R3 := R2.stay hb2;go_wp2_with fail
   refine (signed_lim false v2 _ 2 _ hl (by decide) (Nat.lt_of_lt_of_le HGG.out word_lim)).mono ?_
   rintro e w3 ⟨v3,rfl,ha3,hb3⟩;have R4 := R3.stay hb3;obtain ⟨x,a,n,c,rfl⟩ := ha3.shape;obtain ⟨r0,r1,f0,f1⟩ := R4.two;go_wp2;refine bodyPost_ret (v := .agg #[.bool x,.slice a n c]) (by simp [results,Tryz.results76,go_sem,r0,r1]) rfl ?_
   refine ⟨_,rfl,?_,below_store2 (((hbel.step hb1 (Nat.le_refl _)).step hb2 (Nat.le_refl _)).step hb3 (Nat.le_refl _)) (by omega) _ _⟩
   have h5 := ha3.store2 R4 x a n c;rw [HG.out.2.2.2] at h5;exact h5
  ·
   by_cases hq0 : q.length = 0
   ·
    have hqz : (((q.length : Nat) : Int) == 0) = true := by rw [beq_iff_eq];omega
    have g1 : decide (2 < (p.length : Int)) = true := by simp;omega
    have HQ : Hid (val 4294967296 q = 0) := by
     have : q = [] := List.eq_nil_of_length_eq_zero hq0;subst this;exact rfl
    have HP : Hid (LimR wr (.slice pa p.length pc) (val 4294967296 p) 10000) := ⟨pa,pc,p,rfl,p1,p2,ps,pd,pn,rfl⟩;clear hsm hq0;go_wp2_with fail
    refine (copied_lim _ _ 10000 _ HP.out HG.out.1).mono ?_;rintro e w1 ⟨v1,rfl,hl,hb1⟩;have R2 := R1.stay hb1;go_wp2_with fail
    refine (signed_lim _ v1 _ 9001 _ hl (by decide) HG.out.1).mono ?_
    rintro e w2 ⟨v2,rfl,ha2,hb2⟩;have R3 := R2.stay hb2;obtain ⟨x,a,n,c,rfl⟩ := ha2.shape;obtain ⟨r0,r1,f0,f1⟩ := R3.two;go_wp2;refine bodyPost_ret (v := .agg #[.bool x,.slice a n c]) (by simp [results,Tryz.results76,go_sem,r0,r1]) rfl ?_
    refine ⟨_,rfl,?_,below_store2 ((hbel.step hb1 (Nat.le_refl _)).step hb2 (Nat.le_refl _)) (by omega) _ _⟩
    have h5 := ha2.store2 R3 x a n c;have h6 := HG.out.2.2.2;rw [HQ.out,Nat.gcd_zero_right] at h6;rw [← h6];exact h5
   ·
    have hqz : (((q.length : Nat) : Int) == 0) = false := by rw [beq_eq_false_iff_ne];omega
    have HDC : Hid (DivC p q) := divC_all p q (by omega) (by omega) (by omega) pd qd pn qn
    have HQ : Hid (0 < val 4294967296 q) := (qn.pos (B := 4294967296) (List.ne_nil_of_length_pos (by omega))).resolve_right (by decide)
    have key : ∀ u2 w2,LimR w2 u2 (val 4294967296 p % val 4294967296 q) 9001 → Below wr.heap.size wr w2 → ∃ ra rc,∃ ls : List Nat,u2 = .slice ra ls.length rc ∧ Hid (ls.length ≤ rc ∧ rc ≤ 10000 ∧ Seg .u32 w2 ra ls ∧ Digs 4294967296 ls ∧ Norm ls ∧ val 4294967296 ls = val 4294967296 p % val 4294967296 q) := by
     rintro u2 w2 ⟨ra,rc,ls,rfl,l1,l2,l3,l4,l5,l6⟩ _;exact ⟨ra,rc,ls,rfl,l1,by omega,l3,l4,l5,l6⟩
    have HK := Hid2.mk key;clear key hq0;have tail : True := trivial;by_cases hp2 : 2 < p.length
    ·
     have g1 : decide (2 < (p.length : Int)) = true := by simp;omega
     clear hsm hp2;go_wp2_with fail
     refine (HDC.out pa qa pc qc _ ps qs).mono ?_;rintro e w2 ⟨u1,u2,rfl,hu1,hu2,hb2⟩;obtain ⟨ra,rc,ls,rfl,HLS⟩ := HK.out u2 w2 hu2 hb2;have R2 := R1.stay hb2;go_wp2;go_roundg (val 4294967296 ls)
     case measure => rw [HLS.out.2.2.2.2.2,← HG.out.2.2.1];exact Nat.mod_lt _ HQ.out
     case rel =>
      obtain ⟨l1,l2,l3,l4,l5,l6⟩ := HLS.out;refine ⟨q,ls,qa,ra,qc,rc,rfl,rfl,q1,q2,l1,l2,qs.below hb2,l3,qd,l4,qn,l5,⟨HG.out.2.1,?_,rfl,?_⟩,R2,hbel.step hb2 (Nat.le_refl _)⟩
      · rw [l6];exact Nat.lt_trans (Nat.mod_lt _ HQ.out) HG.out.2.1
      · rw [l6,← HG.out.2.2.2,Nat.gcd_comm,← Nat.gcd_rec,Nat.gcd_comm]
    ·
     have g1 : decide (2 < (p.length : Int)) = false := by simp;omega
     have g2 : decide (2 < (q.length : Int)) = true := by simp;omega
     clear hsm hp2;go_wp2_with fail
     refine (HDC.out pa qa pc qc _ ps qs).mono ?_;rintro e w2 ⟨u1,u2,rfl,hu1,hu2,hb2⟩;obtain ⟨ra,rc,ls,rfl,HLS⟩ := HK.out u2 w2 hu2 hb2;have R2 := R1.stay hb2;go_wp2;go_roundg (val 4294967296 ls)
     case measure => rw [HLS.out.2.2.2.2.2,← HG.out.2.2.1];exact Nat.mod_lt _ HQ.out
     case rel =>
      obtain ⟨l1,l2,l3,l4,l5,l6⟩ := HLS.out;refine ⟨q,ls,qa,ra,qc,rc,rfl,rfl,q1,q2,l1,l2,qs.below hb2,l3,qd,l4,qn,l5,⟨HG.out.2.1,?_,rfl,?_⟩,R2,hbel.step hb2 (Nat.le_refl _)⟩
      · rw [l6];exact Nat.lt_trans (Nat.mod_lt _ HQ.out) HG.out.2.1
      · rw [l6,← HG.out.2.2.2,Nat.gcd_comm,← Nat.gcd_rec,Nat.gcd_comm]
theorem gcd_h (va vb : Value) (x y z : Int) (w : World) (ha : AInt w va x) (hb : AInt w vb y) (hz' : ((Int.gcd x y : Nat) : Int) = z) :
  Calls Tryz.prog 76 #[va,vb] w fun e w' => ∃ s a n c,e = .returned (.agg #[.bool s,.slice a n c]) ∧ AInt w' (.agg #[.bool s,.slice a n c]) z ∧ Below w.heap.size w w' := by
 subst hz';obtain ⟨na,xs,hx,rfl,hxl⟩ := ha;obtain ⟨nb,ys,hy,rfl,hyl⟩ := hb;refine (gcd_long va vb na nb xs ys w hx hy hxl hyl).mono ?_;rintro e w' ⟨v,rfl,hv,hb⟩;obtain ⟨s,a,n,c,rfl⟩ := hv.shape;refine ⟨s,a,n,c,rfl,?_,hb⟩;rw [show Int.gcd (sv na (val 4294967296 xs)) (sv nb (val 4294967296 ys)) = Nat.gcd (val 4294967296 xs) (val 4294967296 ys) by unfold Int.gcd;rw [sv_natAbs,sv_natAbs]]
 exact hv
section
variable {w w' : World} {x : Bool} {a : Option Addr} {n c : Nat} {y : Bool} {e : Option Addr} {m f : Nat} {q : Rat} {v : Value}
end
open Go Go.RowKit
def IS (v : Value) : Value → World → Prop := fun u _ => u = v
def INT (z : Int) : Value → World → Prop := fun u w => AInt w u z
def RNM (z : Int) (N : Nat) : Value → World → Prop := fun u w => RNum w u z N
def T2 (p q : Value → World → Prop) : Value → World → Prop := fun u w => ∃ a b, u = .tuple #[a, b] ∧ p a w ∧ q b w
def Mono (p : Value → World → Prop) : Prop := ∀ u w w', KeepI w w' → p u w → p u w'
theorem mv {p : Value → World → Prop} (hp : Mono p) {w w' : World} (hk : KeepI w w') {b : Prop} {u : Value} (h : b → p u w) : b → p u w' := fun k => hp _ _ _ hk (h k)
def BlkV (t : TypeId) (w : World) (b : Nat) (v : Value) : Prop := ∃ cs, v = .agg cs ∧ Blk t w b cs
theorem BlkV.stay {t : TypeId} {w w' : World} {b : Nat} {v : Value} (h : BlkV t w b v) (hb : Below w.heap.size w w') : BlkV t w' b v := by
 obtain ⟨cs,h1,h2⟩ := h;exact ⟨cs,h1,h2.stay hb⟩
theorem flip_v {P : Value → Prop} {b : Bool} (hb : b = false) {u u' z : Value} (h : P (bif b then u else z)) : P (bif b then u' else z) := by rw [hb] at h ⊢;exact h
end Go.Proofs.YteefniagebcagaaGreatDoor
