/- Joined: Ints4, Vars, Lst, DivP: words and contracts; no statement of the seat is proved here. -/
import Derived.Test.YteefniagebcagaaGreatDoorJoin9Reckons
import Derived.Test.YteefniagebcagaaGreatDoorJoin2Reckons
import Derived.Test.YteefniagebcagaaGreatDoorJoin5Reckons
namespace Go.Proofs.YteefniagebcagaaGreatDoor
open Go.RowKit
theorem sv_add (n : Bool) (a b : Nat) : sv n a + sv n b = sv n (a + b) := by cases n <;> simp [sv] <;> omega
theorem sv_diff (n m : Bool) (a b : Nat) (h : (n == m) = false) (hle : b ≤ a) : sv n a + sv m b = sv n (a - b) := by
 cases n <;> cases m <;> simp [sv] at h ⊢ <;> omega
theorem sv_diff' (n m : Bool) (a b : Nat) (h : (n == m) = false) (hle : a ≤ b) : sv n a + sv m b = sv m (b - a) := by
 cases n <;> cases m <;> simp [sv] at h ⊢ <;> omega
set_option maxHeartbeats 8000000 in
theorem add_any (va vb : Value) (x y : Int) (w : World) (ha : AInt w va x) (hb : AInt w vb y) :
  Calls Tryz.prog 50 #[va,vb] w fun e w' => ∃ v c,e = .returned (.tuple #[v,.int .i64 c]) ∧ Held w' v c (x + y) ∧ Below w.heap.size w w' := by
 obtain ⟨na,xs,hva,hxe,hxl⟩ := ha;obtain ⟨nb,ys,hvb,hye,hyl⟩ := hb;have hl1 := AInt.len hva hxl;have hl2 := AInt.len hvb hyl;obtain ⟨ao,cap,rfl,h1,h2,hs,hd,hn,h3⟩ := hva;obtain ⟨bo,cap',rfl,k1,k2,ks,kd,kn,k3⟩ := hvb;have HE : Hid (x + y = sv na (val 4294967296 xs) + sv nb (val 4294967296 ys) ∧ val 4294967296 xs < lim ∧ val 4294967296 ys < lim) := ⟨by rw [hxe,hye],hxl,hyl⟩
 clear hxe hye hxl hyl h3 k3;have A0 := ((Blk.new w 31 #[.bool na,.slice ao xs.length cap]).alloc (.cells #[.bool nb,.slice bo ys.length cap'] 31 (0,0))).alloc (.cells #[.bool false,.slice none 0 0] 31 (0,0));have B0 := (Blk.new (w.alloc (.cells #[.bool na,.slice ao xs.length cap] 31 (0,0))) 31 #[.bool nb,.slice bo ys.length cap']).alloc (.cells #[.bool false,.slice none 0 0] 31 (0,0));have R0 := Blk.new ((w.alloc (.cells #[.bool na,.slice ao xs.length cap] 31 (0,0))).alloc (.cells #[.bool nb,.slice bo ys.length cap'] 31 (0,0))) 31 #[.bool false,.slice none 0 0];simp only [World.size_alloc] at B0 R0;have hbw : Below w.heap.size w (((w.alloc (.cells #[.bool na,.slice ao xs.length cap] 31 (0,0))).alloc (.cells #[.bool nb,.slice bo ys.length cap'] 31 (0,0))).alloc (.cells #[.bool false,.slice none 0 0] 31 (0,0))) := by go_grown
 by_cases hst : (na == nb) = true
 ·
  have HXY : Hid (x + y = sv na (val 4294967296 xs + val 4294967296 ys)) := by
   show _ = _
   have e : na = nb := by simpa using hst
   rw [HE.out.1,← e,sv_add]
  go_enter Tryz.func50,Tryz.ntmps50;go_wp2;go_region_held3 (fun w' => w'.cell? ⟨w.heap.size,0,none⟩ = some (.bool na) ∧ w'.cell? ⟨w.heap.size,1,none⟩ = some (.slice ao xs.length cap) ∧ w'.cell? ⟨w.heap.size + 1,0,none⟩ = some (.bool nb) ∧ w'.cell? ⟨w.heap.size + 1,1,none⟩ = some (.slice bo ys.length cap'))
   (simp [*,go_sem])
   (first
    | (go_at_call 86;refine (addLimbs_any ao bo xs.length ys.length cap cap' xs ys _ rfl rfl (by omega) (by omega) (hs.below hbw.drew) (ks.below hbw.drew) hd kd).mono ?_;rintro e w1 ⟨v1,rfl,hl,hb1⟩;have A1 := A0.drew.stay hb1;have B1 := B0.drew.stay hb1;have R1 := R0.drew.stay hb1;obtain ⟨ca0,ca1,_,_⟩ := A1.two;obtain ⟨cb0,cb1,_,_⟩ := B1.two)
    | (go_at_call 85;refine (fitting_lim _ v1 _ 9001 _ hl (by decide)).mono ?_;rintro e w2 ⟨v2,c,rfl,hheld,hb2⟩;obtain ⟨xx,aa,nn,cc,rfl⟩ := hheld.shape;obtain ⟨da0,da1,_,_⟩ := (A1.stay hb2).two;obtain ⟨db0,db1,_,_⟩ := (B1.stay hb2).two;have R2 := R1.stay hb2;obtain ⟨r0,r1,q0,q1⟩ := R2.two))
  go_wp2;refine bodyPost_ret (v := .tuple #[.agg #[.bool xx,.slice aa nn cc],.int .i64 c]) (by simp [results,Tryz.results50,go_sem,r0,r1]) rfl ?_
  refine ⟨_,_,rfl,?_,below_store2 (((hbw.drew).step hb1 (Nat.le_refl _)).step hb2 (Nat.le_refl _)) (by omega) _ _⟩
  rw [HXY.out];exact hheld.store2 R2 _ _ _ _
 ·
  have hst' : (na == nb) = false := by simpa using hst
  clear hst;by_cases hlt : val 4294967296 xs < val 4294967296 ys
  ·
   have hc : cmpL 4294967296 xs ys < 0 := (cmpL_neg (by decide) hd kd hn kn).2 hlt
   have HXY : Hid (x + y = sv nb (val 4294967296 ys - val 4294967296 xs)) := by show _ = _;rw [HE.out.1,sv_diff' _ _ _ _ hst' (Nat.le_of_lt hlt)]
   have HLM : Hid (val 4294967296 ys - val 4294967296 xs < lim) := Nat.lt_of_le_of_lt (Nat.sub_le _ _) HE.out.2.2;have HLT : Hid (val 4294967296 xs < val 4294967296 ys) := hlt;clear hlt;go_enter Tryz.func50,Tryz.ntmps50;go_wp2_with (go_at_call 87;refine (cmpLimbs_any ao bo xs.length ys.length cap cap' xs ys _ rfl rfl (by omega) (by omega) (hs.below hbw) (ks.below hbw) hd kd).mono ?_;rintro e w5 ⟨rfl,hb5⟩;have A5 := A0.stay hb5;have B5 := B0.stay hb5;have R5 := R0.stay hb5;have hbw5 := hbw.step hb5 (Nat.le_refl _);obtain ⟨_,_,_,_⟩ := A5.two;obtain ⟨_,_,_,_⟩ := B5.two)
   have HLX : Hid (LimR w5.drew (.slice ao xs.length cap) (val 4294967296 xs) 10000) := ⟨ao,cap,xs,rfl,h1,h2,hs.below hbw5.drew,hd,hn,rfl⟩;have HLY : Hid (LimR w5.drew (.slice bo ys.length cap') (val 4294967296 ys) 10000) := ⟨bo,cap',ys,rfl,k1,k2,ks.below hbw5.drew,kd,kn,rfl⟩;go_region_held3 (fun w' => w'.cell? ⟨w.heap.size,0,none⟩ = some (.bool na) ∧ w'.cell? ⟨w.heap.size,1,none⟩ = some (.slice ao xs.length cap) ∧ w'.cell? ⟨w.heap.size + 1,0,none⟩ = some (.bool nb) ∧ w'.cell? ⟨w.heap.size + 1,1,none⟩ = some (.slice bo ys.length cap'))
    (simp [*,go_sem])
    (first
     | (go_at_call 89;refine (subLimbs_lim _ _ _ _ 10000 10000 _ HLY.out HLX.out HE.out.2.2 (Nat.le_of_lt HLT.out)).mono ?_;rintro e w1 ⟨v1,rfl,hl,hb1⟩;have A1 := A5.drew.stay hb1;have B1 := B5.drew.stay hb1;have R1 := R5.drew.stay hb1;obtain ⟨ca0,ca1,_,_⟩ := A1.two;obtain ⟨cb0,cb1,_,_⟩ := B1.two)
     | (go_at_call 88;refine (signed_lim nb v1 _ 9001 _ hl (by decide) HLM.out).mono ?_;rintro e w2 ⟨v2,rfl,ha2,hb2⟩;obtain ⟨xx,aa,nn,cc,rfl⟩ := ha2.shape;obtain ⟨da0,da1,_,_⟩ := (A1.stay hb2).two;obtain ⟨db0,db1,_,_⟩ := (B1.stay hb2).two;have R2 := R1.stay hb2;obtain ⟨r0,r1,q0,q1⟩ := R2.two))
   go_wp2;refine bodyPost_ret (v := .tuple #[.agg #[.bool xx,.slice aa nn cc],.int .i64 0]) (by simp [results,Tryz.results50,go_sem,r0,r1]) rfl ?_
   refine ⟨_,_,rfl,Or.inl ⟨rfl,by rw [HXY.out,sv_natAbs];exact HLM.out,?_⟩,below_store2 (((hbw5.drew).step hb1 (Nat.le_refl _)).step hb2 (Nat.le_refl _)) (by omega) _ _⟩
   rw [HXY.out];exact ha2.store2 R2 _ _ _ _
  ·
   have hc : ¬ cmpL 4294967296 xs ys < 0 := fun h => hlt ((cmpL_neg (by decide) hd kd hn kn).1 h)
   have HXY : Hid (x + y = sv na (val 4294967296 xs - val 4294967296 ys)) := by show _ = _;rw [HE.out.1,sv_diff _ _ _ _ hst' (by omega)]
   have HLM : Hid (val 4294967296 xs - val 4294967296 ys < lim) := Nat.lt_of_le_of_lt (Nat.sub_le _ _) HE.out.2.1;have HLT : Hid (val 4294967296 ys ≤ val 4294967296 xs) := Nat.le_of_not_lt hlt;clear hlt;go_enter Tryz.func50,Tryz.ntmps50;go_wp2_with (go_at_call 87;refine (cmpLimbs_any ao bo xs.length ys.length cap cap' xs ys _ rfl rfl (by omega) (by omega) (hs.below hbw) (ks.below hbw) hd kd).mono ?_;rintro e w5 ⟨rfl,hb5⟩;have A5 := A0.stay hb5;have B5 := B0.stay hb5;have R5 := R0.stay hb5;have hbw5 := hbw.step hb5 (Nat.le_refl _);obtain ⟨_,_,_,_⟩ := A5.two;obtain ⟨_,_,_,_⟩ := B5.two)
   have HLX : Hid (LimR w5.drew (.slice ao xs.length cap) (val 4294967296 xs) 10000) := ⟨ao,cap,xs,rfl,h1,h2,hs.below hbw5.drew,hd,hn,rfl⟩;have HLY : Hid (LimR w5.drew (.slice bo ys.length cap') (val 4294967296 ys) 10000) := ⟨bo,cap',ys,rfl,k1,k2,ks.below hbw5.drew,kd,kn,rfl⟩;go_region_held3 (fun w' => w'.cell? ⟨w.heap.size,0,none⟩ = some (.bool na) ∧ w'.cell? ⟨w.heap.size,1,none⟩ = some (.slice ao xs.length cap) ∧ w'.cell? ⟨w.heap.size + 1,0,none⟩ = some (.bool nb) ∧ w'.cell? ⟨w.heap.size + 1,1,none⟩ = some (.slice bo ys.length cap'))
    (simp [*,go_sem])
    (first
     | (go_at_call 89;refine (subLimbs_lim _ _ _ _ 10000 10000 _ HLX.out HLY.out HE.out.2.1 HLT.out).mono ?_;rintro e w1 ⟨v1,rfl,hl,hb1⟩;have A1 := A5.drew.stay hb1;have B1 := B5.drew.stay hb1;have R1 := R5.drew.stay hb1;obtain ⟨ca0,ca1,_,_⟩ := A1.two;obtain ⟨cb0,cb1,_,_⟩ := B1.two)
     | (go_at_call 88;refine (signed_lim na v1 _ 9001 _ hl (by decide) HLM.out).mono ?_;rintro e w2 ⟨v2,rfl,ha2,hb2⟩;obtain ⟨xx,aa,nn,cc,rfl⟩ := ha2.shape;obtain ⟨da0,da1,_,_⟩ := (A1.stay hb2).two;obtain ⟨db0,db1,_,_⟩ := (B1.stay hb2).two;have R2 := R1.stay hb2;obtain ⟨r0,r1,q0,q1⟩ := R2.two))
   go_wp2;refine bodyPost_ret (v := .tuple #[.agg #[.bool xx,.slice aa nn cc],.int .i64 0]) (by simp [results,Tryz.results50,go_sem,r0,r1]) rfl ?_
   refine ⟨_,_,rfl,Or.inl ⟨rfl,by rw [HXY.out,sv_natAbs];exact HLM.out,?_⟩,below_store2 (((hbw5.drew).step hb1 (Nat.le_refl _)).step hb2 (Nat.le_refl _)) (by omega) _ _⟩
   rw [HXY.out];exact ha2.store2 R2 _ _ _ _
def hz (z : Int) : Int := if z.natAbs < lim then z else 0
def ec (z : Int) : Int := if z.natAbs < lim then 0 else 11
theorem hz_of {z : Int} (h : z.natAbs < lim) : hz z = z := if_pos h
theorem ec_of {z : Int} (h : z.natAbs < lim) : ec z = 0 := if_pos h
theorem ec_not {z : Int} (h : ¬ z.natAbs < lim) : ec z = 11 := if_neg h
theorem Held.code {w : World} {v : Value} {c z : Int} (h : Held w v c z) : c = ec z ∧ AInt w v (hz z) := by
 rcases h with ⟨h1,h2,h3⟩ | ⟨h1,h2,h3⟩
 · rw [ec_of h2,hz_of h2];exact ⟨h1,h3⟩
 ·
  have h4 : ¬ z.natAbs < lim := Nat.not_lt.2 h2;refine ⟨by rw [ec_not h4];exact h1,?_⟩
  have e : hz z = 0 := if_neg h4;rw [e];exact h3
theorem AInt.lt {w : World} {v : Value} {z : Int} (h : AInt w v z) : z.natAbs < lim := by
 obtain ⟨neg,xs,_,h2,h3⟩ := h;rw [h2,sv_natAbs];exact h3
theorem below_new (w : World) (o : Obj) : Below w.heap.size w (w.alloc o) := (Below.refl _ _).alloc (Nat.le_refl _) _
theorem add_h (va vb : Value) (x y : Int) (w : World) (ha : AInt w va x) (hb : AInt w vb y) :
  Calls Tryz.prog 50 #[va,vb] w fun e w' => ∃ s a n c,e = .returned (.tuple #[.agg #[.bool s,.slice a n c],.int .i64 (ec (x + y))]) ∧ AInt w' (.agg #[.bool s,.slice a n c]) (hz (x + y)) ∧ Below w.heap.size w w' := by
 refine (add_any va vb x y w ha hb).mono ?_;rintro e w' ⟨v,c,rfl,hh,hb⟩;obtain ⟨rfl,h⟩ := hh.code;obtain ⟨s,a,n,c,rfl⟩ := h.shape;exact ⟨s,a,n,c,rfl,h,hb⟩
theorem mul_h (va vb : Value) (x y : Int) (w : World) (ha : AInt w va x) (hb : AInt w vb y) :
  Calls Tryz.prog 67 #[va,vb] w fun e w' => ∃ s a n c,e = .returned (.tuple #[.agg #[.bool s,.slice a n c],.int .i64 (ec (x * y))]) ∧ AInt w' (.agg #[.bool s,.slice a n c]) (hz (x * y)) ∧ Below w.heap.size w w' := by
 refine (mul_any va vb x y w ha hb).mono ?_;rintro e w' ⟨v,c,rfl,hh,hb⟩;obtain ⟨rfl,h⟩ := hh.code;obtain ⟨s,a,n,c,rfl⟩ := h.shape;exact ⟨s,a,n,c,rfl,h,hb⟩
theorem cmp_h (va vb : Value) (x y r : Int) (w : World) (ha : AInt w va x) (hb : AInt w vb y) (hr : (x - y).sign = r) :
  Calls Tryz.prog 51 #[va,vb] w fun e w' => e = .returned (.int .i64 r) ∧ Below w.heap.size w w' := by
 subst hr;exact cmp_any va vb x y w ha hb
theorem sign_h (va : Value) (x : Int) (w : World) (ha : AInt w va x) :
  Calls Tryz.prog 63 #[va] w fun e w' => e = .returned (.int .i64 x.sign) ∧ Below w.heap.size w w' := by
 obtain ⟨neg,xs,h1,h2,h3⟩ := ha;rw [h2];exact sign_any va neg xs w h1
def KeepI (w w' : World) : Prop := (∀ p k x, w.cell? p = some (.int k x) → w'.cell? p = some (.int k x)) ∧ ∀ (b : Nat) (cs : Array Value) (t : TypeId), w.heap[b]? = some (.cells cs t (0, 0)) → ∃ cs', w'.heap[b]? = some (.cells cs' t (0, 0))
theorem KeepI.below {w w' : World} (h : Below w.heap.size w w') : KeepI w w' := ⟨fun p _ _ hp => (h.cell (p := p) (World.block_lt_of_cell? w p hp)).trans hp, fun b cs _ hb => ⟨cs, (h.block b (Array.getElem?_eq_some_iff.1 hb).1).trans hb⟩⟩
theorem IntB.keepI {w w' : World} {ao : Option Addr} (h : IntB w ao) (hk : KeepI w w') : IntB w' ao := by
 intro a ha;obtain ⟨cs,hc⟩ := h a ha;exact hk.2 _ _ _ hc
theorem Seg.keepI {k : IntKind} {w w' : World} {ao : Option Addr} {xs : List Nat} (h : Seg k w ao xs) (hk : KeepI w w') : Seg k w' ao xs := by
 rcases h with h | ⟨b,off,rfl,hc⟩
 · exact Or.inl h
 · exact Or.inr ⟨b,off,rfl,fun i hi => hk.1 _ _ _ (hc i hi)⟩
theorem AInt.keepI {w w' : World} {v : Value} {z : Int} (h : AInt w v z) (hk : KeepI w w') : AInt w' v z := by
 obtain ⟨neg,xs,⟨ao,cap,h1,h2,h3,h4,h5⟩,h6⟩ := h;exact ⟨neg,xs,⟨ao,cap,h1,h2,h3,h4.keepI hk,h5⟩,h6⟩
theorem RNum.keepI {w w' : World} {v : Value} {z : Int} {L : Nat} (h : RNum w v z L) (hk : KeepI w w') : RNum w' v z L := by
 obtain ⟨neg,xs,⟨ao,cap,h1,h2,h3,h4,h5⟩,h6⟩ := h;exact ⟨neg,xs,⟨ao,cap,h1,h2,h3,h4,h5.1.keepI hk,h5.2.1,h5.2.2.1,h5.2.2.2.1,h5.2.2.2.2.keepI hk⟩,h6⟩
def NoI (u : Value) : Prop := ∀ k x, u ≠ .int k x
def Lst (e : TypeId) (base : Nat) (w : World) (v : Value) (n : Nat) (xs : List Value) : Prop :=
  xs.length = n * 2 ∧ ((v = .slice none 0 0 ∧ n = 0) ∨
    ∃ g cap cur, v = .slice (some ⟨g, 0, none⟩) n cap ∧ base ≤ g ∧ w.heap[g]? = some (.cells cur e (0, 0)) ∧ n ≤ cap ∧ cap ≤ maxLen ∧ cur.size = cap * 2 ∧ cur.toList.take (n * 2) = xs ∧ ∀ u ∈ cur.toList, NoI u)
section
variable {e : TypeId} {base : Nat} {w w' : World} {v : Value} {n : Nat} {xs : List Value}
theorem Lst.nil (e : TypeId) (base : Nat) (w : World) : Lst e base w (.slice none 0 0) 0 [] := ⟨by simp, Or.inl ⟨rfl, rfl⟩⟩
theorem Lst.owns (h : Lst e base w v n xs) : w.ownsRow base e 2 v n xs := by
 refine ⟨h.1,?_⟩;rcases h.2 with h | ⟨g,cap,cur,h1,h2,h3,h4,h5,h6,h7,_⟩
 · exact Or.inl h
 · exact Or.inr ⟨g,cap,cur,h1,h2,h3,h4,h5,h6,h7⟩
theorem Lst.lt (h : Lst e base w v n xs) : ∀ b, v.ownBlock = some b → base ≤ b ∧ b < w.heap.size := World.ownsRow.lt h.owns
theorem Lst.stay (h : Lst e base w v n xs) (hb : ∀ b,v.ownBlock = some b → w'.heap[b]? = w.heap[b]?) : Lst e base w' v n xs := by
 refine ⟨h.1,?_⟩;rcases h.2 with hn | ⟨g,cap,cur,rfl,hbg,hg,r⟩
 · exact Or.inl hn
 · exact Or.inr ⟨g,cap,cur,rfl,hbg,(hb g rfl).trans hg,r⟩
theorem Lst.below (h : Lst e base w v n xs) (hb : Below w.heap.size w w') : Lst e base w' v n xs := h.stay fun b hv => hb.block b (h.lt b hv).2
theorem Lst.apart {e' : TypeId} {v' : Value} {n' : Nat} {xs' : List Value} (h : Lst e base w v n xs) (h' : Lst e' base w v' n' xs') (he : e ≠ e') : ∀ b,v.ownBlock = some b → some b ≠ v'.ownBlock := by
 intro b hb hb';rcases h.2 with ⟨rfl,_⟩ | ⟨g,cap,cur,rfl,_,hg,_⟩
 · cases hb
 ·
  rcases h'.2 with ⟨rfl,_⟩ | ⟨g',cap',cur',rfl,_,hg',_⟩
  · cases hb'
  ·
   cases hb
   have e1 : g = g' := by simpa [Value.ownBlock] using hb'
   subst e1;rw [hg] at hg';injection hg' with hg';injection hg' with _ h2;exact he h2
theorem Lst.cells (h : Lst e base w v n xs) : n = 0 ∨ ∃ g cap,v = .slice (some ⟨g,0,none⟩) n cap ∧ n ≤ cap ∧ cap ≤ maxLen ∧ base ≤ g ∧ g < w.heap.size ∧ ∀ j u,xs[j]? = some u → w.cell? ⟨g,j,none⟩ = some u := by
 rcases h.2 with ⟨_,h⟩ | ⟨g,cap,cur,h1,h2,h3,h4,h5,h6,h7,_⟩
 · exact Or.inl h
 ·
  refine Or.inr ⟨g,cap,h1,h4,h5,h2,(Array.getElem?_eq_some_iff.1 h3).1,fun j u hj => ?_⟩
  rw [cell_of_row w g j cur e (0,0) h3,← Array.getElem?_toList];have h8 : j < n * 2 := by
   have := (List.getElem?_eq_some_iff.1 hj).1;rw [h.1] at this;exact this
  rw [← h7,List.getElem?_take,if_pos h8] at hj;exact hj
end
theorem mem_zeroCells {z : Array Value} {n : Nat} {u : Value} (h : u ∈ (Builtin.zeroCells z n).toList) : u ∈ z.toList := by
 simp [Builtin.zeroCells] at h;obtain ⟨a,ha,rfl⟩ := h;have hz : 0 < z.size := by
  rcases Nat.eq_zero_or_pos z.size with k | k
  · rw [k,Nat.mul_zero] at ha;omega
  · exact k
 have hm := Nat.mod_lt a hz;rw [getElem!_pos z (a % z.size) hm];simp
theorem keepI_setRow {w : World} {g : Nat} {cur cur' : Array Value} {e : TypeId} (hg : w.heap[g]? = some (.cells cur e (0,0))) (hN : ∀ u ∈ cur.toList,NoI u) : KeepI w (w.setRow g cur') := by
 refine ⟨?_,fun b cs t hb => ?_⟩
 rotate_left
 ·
  by_cases h : b = g
  · subst h;rw [hg] at hb;injection hb with hb;injection hb with _ h2;exact ⟨cur',by rw [← h2];exact setRow_heap w b cur cur' e _ hg⟩
  · exact ⟨cs,(setRow_other w g b cur' h).trans hb⟩
 intro p k x hp;by_cases h : p.block = g
 ·
  exfalso
  subst h;obtain ⟨b,o,m⟩ := p;have h1 : m = none ∧ cur[o]? = some (Value.int k x) := by simpa [World.cell?,hg] using hp
  exact hN _ (by rw [Array.mem_toList_iff];exact Array.mem_of_getElem? h1.2) k x rfl
 · have h1 := setRow_other w g p.block cur' h;rw [World.cell?_of_block (w := w) h1];exact hp
theorem run_append_two {P : Program} (w : World) (base : Nat) (t ty e : TypeId) (i : TypeInfo) (z : Value) (ht : P.underlying t = some (.slice e)) (hi : P.info? e = some i) (hz : i.zero = some z) (hsize : i.size = 2) (hby : i.bytes ≤ 1000) (hzs : z.cells.size = 2) (hzN : ∀ u ∈ z.cells.toList,NoI u)
  (v : Value) (n : Nat) (xs : List Value) (hown : Lst e base w v n xs) (a : Addr) (c : Nat) (u0 u1 : Value) (h0 : w.cell? (a.add 0) = some u0) (h1 : w.cell? (a.add 1) = some u1) (o0 : u0.oneCell' = true) (o1 : u1.oneCell' = true) (m0 : NoI u0) (m1 : NoI u1) (hn : n ≤ 1000) (hbase : base ≤ w.heap.size) :
  ∃ v' w',(Builtin.append_ #[t,t] ty #[v,.slice (some a) 1 c]).run P w = .ok v' w' ∧ Lst e base w' v' (n + 1) (xs ++ [u0,u1]) ∧ w.grownBy w' v.ownBlock ∧ KeepI w w' ∧ Lst e base w' v n xs := by
 have hnews : ∀ j u,[u0,u1][j]? = some u → w.cell? (a.add j) = some u := by
  intro j u hj;match j,hj with
  | 0,hj => simp at hj;subst hj;exact h0
  | 1,hj => simp at hj;subst hj;exact h1
  | j + 2,hj => simp at hj
 have ho : ∀ u ∈ [u0,u1],u.oneCell' = true := by intro u hu;simp at hu;rcases hu with rfl | rfl <;> assumption
 have hm : ∀ u ∈ [u0,u1],NoI u := by intro u hu;simp at hu;rcases hu with rfl | rfl <;> assumption
 have hl : [u0,u1].length = 1 * i.size := by rw [hsize];rfl
 have hlen : (xs ++ [u0,u1]).length = (n + 1) * 2 := by rw [List.length_append,hown.1];simp;omega
 have hmx : 1001 ≤ maxLen := by unfold maxLen;decide
 have grown : ∀ (old : Nat),old < n + 1 → (∀ u ∈ xs,NoI u) → ∀ (row : Option Nat),
   Lst e base (w.drew.alloc (.cells (xs.toArray ++ [u0,u1].toArray ++ Builtin.zeroCells z.cells (grownCap w (n + 1) old e - (n + 1))) e)) (.slice (some ⟨w.heap.size,0,none⟩) (n + 1) (grownCap w (n + 1) old e)) (n + 1) (xs ++ [u0,u1]) ∧
   w.grownBy (w.drew.alloc (.cells (xs.toArray ++ [u0,u1].toArray ++ Builtin.zeroCells z.cells (grownCap w (n + 1) old e - (n + 1))) e)) row ∧
   KeepI w (w.drew.alloc (.cells (xs.toArray ++ [u0,u1].toArray ++ Builtin.zeroCells z.cells (grownCap w (n + 1) old e - (n + 1))) e)) := by
  intro old ho' hxs row;have hge := grownCap_ge w (n + 1) old e;have hcm : grownCap w (n + 1) old e ≤ maxLen := grownCap_le_maxLen w (n + 1) old e (by omega)
  refine ⟨⟨hlen,Or.inr ⟨w.heap.size,_,_,rfl,hbase,heap_alloc_new w.drew _,hge,hcm,?_,?_,?_⟩⟩,⟨rfl,rfl,rfl,by simp,fun k hk _ => Below.heap_alloc w.drew _ k hk⟩,?_⟩
  · simp only [Array.size_append,List.size_toArray,size_zeroCells,hzs,hown.1,List.length_cons,List.length_nil];omega
  · simp only [Array.toList_append,List.append_assoc];rw [← List.append_assoc,← hlen];exact List.take_left
  ·
   intro u hu;simp only [Array.toList_append,List.mem_append] at hu;rcases hu with (hu | hu) | hu
   · exact hxs u hu
   · exact hm u hu
   · exact hzN u (mem_zeroCells hu)
  · exact KeepI.below ⟨rfl,rfl,rfl,by simp,fun k hk => Below.heap_alloc w.drew _ k hk⟩
 rcases hown.2 with ⟨rfl,rfl⟩ | ⟨g,cap,cur,rfl,hbg,hg,hnc,hcm,hcs,htake,hN⟩
 ·
  have hx : xs = [] := List.eq_nil_of_length_eq_zero (by simpa using hown.1)
  subst hx;have hr := run_append_nil (P := P) w t ty e i z ht hi hz a 1 c [u0,u1] hl hnews (by decide) (by decide) (by omega)
  have hgr := grown 0 (by omega) (by simp) (Value.ownBlock (.slice none 0 0))
  simp only [Nat.zero_add,List.nil_append,Array.empty_append] at hgr ⊢;exact ⟨_,_,hr,hgr.1,hgr.2.1,hgr.2.2,Lst.nil _ _ _⟩
 ·
  by_cases hroom : n + 1 ≤ cap
  ·
   have hfit : n * i.size + [u0,u1].length ≤ cur.size := by rw [hsize,hcs];simp;omega
   have hr := run_append_room (P := P) w t ty e i ht hi g n cap cur hg a 1 c [u0,u1] hl hnews ho hroom hfit;rw [hsize] at hr;have q1 : (cur.toList.take (n * 2) ++ [u0,u1] ++ cur.toList.drop (n * 2 + [u0,u1].length)).toArray.size = cap * 2 := by
    simp only [List.size_toArray,List.length_append,List.length_take,List.length_drop,Array.length_toList,List.length_cons,List.length_nil];omega
   have q2 : (cur.toList.take (n * 2) ++ [u0,u1] ++ cur.toList.drop (n * 2 + [u0,u1].length)).toArray.toList.take ((n + 1) * 2) = xs ++ [u0,u1] := by
    rw [htake,← hlen];exact List.take_left
   have q3 : (cur.toList.take (n * 2) ++ [u0,u1] ++ cur.toList.drop (n * 2 + [u0,u1].length)).toArray.toList.take (n * 2) = xs := by
    rw [htake,← hown.1];simp only [List.append_assoc];exact List.take_left
   have q4 : ∀ u ∈ (cur.toList.take (n * 2) ++ [u0,u1] ++ cur.toList.drop (n * 2 + [u0,u1].length)).toArray.toList,NoI u := by
    intro u hu;simp only [List.mem_append] at hu;rcases hu with (hu | hu) | hu
    · exact hN u (List.mem_of_mem_take hu)
    · exact hm u hu
    · exact hN u (List.mem_of_mem_drop hu)
   exact ⟨_,_,hr,⟨hlen,Or.inr ⟨g,cap,_,rfl,hbg,setRow_heap w g cur _ e _ hg,hroom,hcm,q1,q2,q4⟩⟩,⟨rfl,rfl,rfl,by simp,fun k _ hk => setRow_other w g k _ (fun e => hk (by simp [Value.ownBlock,e]))⟩,keepI_setRow hg hN,⟨hown.1,Or.inr ⟨g,cap,_,rfl,hbg,setRow_heap w g cur _ e _ hg,hnc,hcm,q1,q3,q4⟩⟩⟩
  ·
   have holds : ∀ j u,xs[j]? = some u → w.cell? ((⟨g,0,none⟩ : Addr).add j) = some u := hown.owns.cells (g := g) rfl;have hr := run_append_grow (P := P) w t ty e i z ht hi hz ⟨g,0,none⟩ n cap xs (by rw [hsize];exact hown.1) holds a 1 c [u0,u1] hl hnews (by omega) (by omega) (growslice_fits (by omega) (by have := Nat.mul_le_mul (show n + 1 ≤ 1001 by omega) hby;omega))
   have hgr := grown cap (by omega) (fun u hu => hN u (List.mem_of_mem_take (by rw [htake];exact hu))) (Value.ownBlock (.slice (some ⟨g,0,none⟩) n cap))
   exact ⟨_,_,hr,hgr.1,hgr.2.1,hgr.2.2,hown.below ⟨rfl,rfl,rfl,by simp,fun k hk => Below.heap_alloc w.drew _ k hk⟩⟩
theorem mid_get (a b c : List Nat) (o k : Nat) (ho : a.length = o) (h : k < b.length) : (a ++ (b ++ c)).getD (o + k) 0 = b.getD k 0 := by
 subst ho;rw [List.getD_eq_getElem?_getD,List.getElem?_append_right (by omega),Nat.add_sub_cancel_left,List.getElem?_append_left h,← List.getD_eq_getElem?_getD]
theorem mid_set (a b c : List Nat) (o k d : Nat) (ho : a.length = o) (h : k < b.length) : (a ++ (b ++ c)).set (o + k) d = a ++ (b.set k d ++ c) := by
 subst ho;rw [List.set_append_right _ _ (Nat.le_add_right _ _),Nat.add_sub_cancel_left,List.set_append_left _ _ h]
theorem take_step (P A m Y X c b y x l c' d b' B : Nat) (h : A + m * Y = X + P * (c + b)) (hp : m * y + c = l + B * c') (hs : d + l + b = x + B * b') : (A + P * d) + m * (Y + P * y) = (X + P * x) + P * B * (c' + b') := by
 have e : d + m * y + (c + b) = x + B * (c' + b') := by rw [Nat.mul_add];omega
 have e2 := congrArg (P * ·) e;simp only [Nat.mul_add] at e2 h ⊢;rw [Nat.mul_left_comm m P y,Nat.mul_assoc P B c',Nat.mul_assoc P B b'];omega
theorem take_last (P A Y X c b x d b' B : Nat) (h : A + Y = X + P * (c + b)) (hs : d + c + b = x + B * b') : (A + P * d) + Y = (X + P * x) + P * B * b' := by
 have e2 := congrArg (P * ·) hs;simp only [Nat.mul_add] at e2 h;rw [Nat.mul_assoc P B b'];omega
theorem put_step (P A Y X c y x d c' B : Nat) (h : A + P * c = X + Y) (hs : d + B * c' = x + y + c) : (A + P * d) + P * B * c' = (X + P * x) + (Y + P * y) := by
 have e2 := congrArg (P * ·) hs;simp only [Nat.mul_add] at e2;rw [Nat.mul_assoc P B c'];omega
theorem guess_low {u v U V ul vl P B g : Nat} (hu : u = U * P + ul) (hul : ul < P) (hv : v = V * P + vl) (hb : u < B * v) (hg : U / V ≤ g ∨ B ≤ g + 1) (hV : 0 < V) : u / v ≤ g := by
 have hP : 0 < P := by omega
 have hv0 : 0 < v := by rw [hv];have := Nat.mul_pos hV hP;omega
 rcases hg with h | h
 ·
  refine Nat.le_trans ?_ h;rw [Nat.le_div_iff_mul_le hV];have h1 : u / v * v ≤ u := Nat.div_mul_le_self u v;have h2 : u / v * (V * P) ≤ u / v * v := Nat.mul_le_mul_left _ (by omega)
  rw [← Nat.mul_assoc] at h2;have h3 : u / v * V * P < (U + 1) * P := by rw [Nat.add_mul,Nat.one_mul];omega
  have := Nat.lt_of_mul_lt_mul_right h3;omega
 ·
  have : u / v < B := by rw [Nat.div_lt_iff_lt_mul hv0];exact hb
  omega
theorem guess_high {u v U V ul vl P B g : Nat} (hu : u = U * P + ul) (hv : v = V * P + vl) (hvl : vl < P) (hg : g * V ≤ U) (hgB : g < B) (hvB : B * P ≤ v) : g ≤ u / v + 1 := by
 have hv0 : 0 < v := by have := Nat.mul_pos (show 0 < B by omega) (show 0 < P by omega);omega
 have h1 : g * v ≤ u + v := by
  rw [hv,Nat.mul_add,← Nat.mul_assoc,← hv];have h2 : g * V * P ≤ U * P := Nat.mul_le_mul_right _ hg;have h3 : g * vl ≤ B * P := Nat.mul_le_mul (Nat.le_of_lt hgB) (Nat.le_of_lt hvl);omega
 have h4 : g ≤ (u + v) / v := by rw [Nat.le_div_iff_mul_le hv0];exact h1
 rwa [Nat.add_div_right _ hv0] at h4
theorem val_three (B : Nat) (xs : List Nat) (m : Nat) (h : xs.length = m + 3) : val B xs = ((xs.getD (m + 2) 0 * B + xs.getD (m + 1) 0) * B + xs.getD m 0) * B ^ m + val B (xs.take m) := by
 have e : xs = xs.take (m + 3) := by rw [List.take_of_length_le (by omega)]
 rw [e,val_take_succ B xs (m + 2) (by omega),val_take_succ B xs (m + 1) (by omega),val_take_succ B xs m (by omega),← e,show B ^ (m + 2) = B ^ m * B * B by rw [Nat.pow_succ,Nat.pow_succ],Nat.pow_succ]
 simp only [Nat.add_mul];generalize B ^ m = P;generalize xs.getD (m + 2) 0 = a;generalize xs.getD (m + 1) 0 = b;generalize xs.getD m 0 = c;simp only [Nat.mul_comm,Nat.mul_left_comm];omega
theorem val_two (B : Nat) (xs : List Nat) (m : Nat) (h : xs.length = m + 2) : val B xs = (xs.getD (m + 1) 0 * B + xs.getD m 0) * B ^ m + val B (xs.take m) := by
 have e : xs = xs.take (m + 2) := by rw [List.take_of_length_le (by omega)]
 rw [e,val_take_succ B xs (m + 1) (by omega),val_take_succ B xs m (by omega),← e,Nat.pow_succ]
 simp only [Nat.add_mul];generalize B ^ m = P;generalize xs.getD (m + 1) 0 = b;generalize xs.getD m 0 = c;rw [Nat.mul_comm P c,Nat.mul_comm (P * B) b,Nat.mul_comm P B];simp only [Nat.mul_assoc];omega
theorem step_low {u v g u' b T : Nat} (hg : g ≤ u / v) (hu' : u' < T) (h : u' + g * v = u + T * b) (hb : b ≤ 1) (hlow : u / v ≤ g) : b = 0 ∧ g = u / v ∧ u' = u % v := by
 have e : g = u / v := by omega
 have h1 : g * v ≤ u := by rw [e];exact Nat.div_mul_le_self u v
 have hb0 : b = 0 := by
  rcases Nat.eq_zero_or_pos b with k | k
  · exact k
  ·
   have : b = 1 := by omega
   subst this;omega
 subst hb0;refine ⟨rfl,e,?_⟩;have h2 := Nat.div_add_mod u v;rw [Nat.mul_comm,← e] at h2;omega
theorem step_high {u v g u' b T u2 c : Nat} (hv : 0 < v) (hg : g = u / v + 1) (_hu' : u' < T) (h : u' + g * v = u + T * b) (_hb : b ≤ 1) (hu2 : u2 < T) (hc : u2 + T * c = u' + v) (hc1 : c ≤ 1) : b = 1 ∧ u2 = u % v := by
 have h1 := Nat.div_add_mod u v;have h2 := Nat.mod_lt u hv;rw [Nat.mul_comm] at h1;rw [hg,Nat.add_mul,Nat.one_mul] at h;have hb1 : b = 1 := by
  rcases Nat.eq_zero_or_pos b with k | k
  · subst k;omega
  · omega
 subst hb1;refine ⟨rfl,?_⟩;have : c = 1 := by
  rcases Nat.eq_zero_or_pos c with k | k
  · subst k;omega
  · omega
 subst this;omega
end Go.Proofs.YteefniagebcagaaGreatDoor
