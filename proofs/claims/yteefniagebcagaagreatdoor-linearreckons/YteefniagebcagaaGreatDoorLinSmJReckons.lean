/- Contracts of linear's sameParts and Same; they prove no statement of the seat. -/
import Derived.Test.YteefniagebcagaaGreatDoorJoin23Reckons
namespace Go.Proofs.YteefniagebcagaaGreatDoor
open Go.RowKit
set_option linter.unusedVariables false
set_option maxRecDepth 20000 in
set_option maxHeartbeats 8000000 in
theorem sameParts_any (pA : Nat) (xA : Bool) (aA : Option Addr) (nA cA pB : Nat) (xB : Bool) (aB : Option Addr) (nB cB : Nat) (x y : Int) (w : World) (hA : AInt w (.agg #[.bool xA,.slice aA nA cA]) x) (hB : AInt w (.agg #[.bool xB,.slice aB nB cB]) y) :
  Calls Tryz.prog 66 #[.agg #[.int .i64 (pA : Nat),.bool xA,.slice aA nA cA],.agg #[.int .i64 (pB : Nat),.bool xB,.slice aB nB cB]] w fun e w' => e = .returned (.bool (decide (pA = pB ∧ x = y))) ∧ Below w.heap.size w w' := by
 have oA := ((Blk.new w 116 #[.int .i64 (pA : Nat),.bool xA,.slice aA nA cA]).alloc (.cells #[.int .i64 (pB : Nat),.bool xB,.slice aB nB cB] 116 (0,0)));have oB := (Blk.new (w.alloc (.cells #[.int .i64 (pA : Nat),.bool xA,.slice aA nA cA] 116 (0,0))) 116 #[.int .i64 (pB : Nat),.bool xB,.slice aB nB cB]);simp only [World.size_alloc] at oB;have hbw : Below w.heap.size w ((w.alloc (.cells #[.int .i64 (pA : Nat),.bool xA,.slice aA nA cA] 116 (0,0))).alloc (.cells #[.int .i64 (pB : Nat),.bool xB,.slice aB nB cB] 116 (0,0))) := by go_grown
 have ltA := oA.lt;have lwA : w.heap.size ≤ w.heap.size := by omega
 have ltB := oB.lt;have lwB : w.heap.size ≤ w.heap.size + 1 := by omega
 go_enter Tryz.func66,Tryz.ntmps66;replace hA := hA.below hbw;replace hB := hB.below hbw;by_cases hp : pA = pB
 ·
  subst hp;obtain ⟨Ac0,Ac1,Ac2⟩ := oA.three;obtain ⟨Ak0,Ak1,Ak2⟩ := oA.frozen3;obtain ⟨Bc0,Bc1,Bc2⟩ := oB.three;obtain ⟨Bk0,Bk1,Bk2⟩ := oB.frozen3;go_wp2_with fail
  refine (cmp_h _ _ x y _ _ hA hB rfl).mono ?_;rintro e w1 ⟨rfl,hb⟩;clear Ac0 Ac1 Ac2 Ak0 Ak1 Ak2;clear Bc0 Bc1 Bc2 Bk0 Bk1 Bk2;replace oA := oA.stay hb;replace ltA := oA.lt;replace oB := oB.stay hb;replace ltB := oB.lt;replace hA := hA.below hb;replace hB := hB.below hb;replace hbw := hbw.step hb (Nat.le_refl _);clear hb;go_wp2;go_ret
  have e9 : decide (x = y) = ((x - y).sign == 0) := by
   by_cases h : x = y
   · subst h;simp
   ·
    have h2 : (x - y).sign ≠ 0 := fun k => h (by have := Int.sign_eq_zero_iff_zero.1 k;omega)
    rw [decide_eq_false h,beq_eq_false_iff_ne.2 h2]
  rw [e9];exact ⟨rfl,hbw⟩
 ·
  have hp2 : ¬ (pA : Int) = (pB : Nat) := by omega
  have HP : Hid (¬ pA = pB) := hp;clear hp;obtain ⟨Ac0,Ac1,Ac2⟩ := oA.three;obtain ⟨Ak0,Ak1,Ak2⟩ := oA.frozen3;obtain ⟨Bc0,Bc1,Bc2⟩ := oB.three;obtain ⟨Bk0,Bk1,Bk2⟩ := oB.frozen3;go_wp2;go_ret
  rw [decide_eq_false (fun k => HP.out k.1)]
  exact ⟨rfl,hbw⟩
set_option maxRecDepth 20000 in
set_option maxHeartbeats 8000000 in
theorem equalFunc_any (vX vY : Value) (a b : List (Nat × Int)) (w : World) (ha : PTS a vX w) (hb : PTS b vY w) (fa : Fine a) (fb : Fine b) :
  Calls Tryz.prog 65 #[vX,vY,.func (.func 66) #[] #[]] w fun e w' => e = .returned (.bool (decide (a = b))) ∧ Below w.heap.size w w' := by
 obtain ⟨ao,n,cap,rfl,h1,h2,h3,h4,h5⟩ := ha;obtain ⟨bo,m,cap2,rfl,k1,k2,k3,k4,k5⟩ := hb;have HA : Hid (PArr w ao a) := h5;have HB : Hid (PArr w bo b) := k5;have HLA : Hid (a.length = n) := h1;have HLB : Hid (b.length = m) := k1;have hna : n ≤ 4096 := by rw [← h1];exact fa.len
 have hnb : m ≤ 4096 := by rw [← k1];exact fb.len
 clear h1 h2 h3 h4 h5 k1 k2 k3 k4 k5 fa fb;have hbw := Below.refl w.heap.size w;go_enter Tryz.func65,Tryz.ntmps65;by_cases hnm : n = m
 ·
  subst hnm;go_wp2;go_loopw [17] (fun i wl => ∃ (k : Nat),k ≤ n ∧ i = .int .i64 k ∧ Hid (a.take k = b.take k) ∧ Below w.heap.size w wl) (fun i _ => n - (intOf i).toNat)
  case atStart => exact ⟨0,Nat.zero_le _,rfl,rfl,hbw⟩
  case round =>
   rename World => wl
   clear hbw;obtain ⟨k,hk,hi9,HT,hbw⟩ := hrel;subst hi9;by_cases h0 : k < n
   ·
    obtain ⟨gE,oE,sE,aE,mE,cE,had,k1,k2,k3,k4⟩ := HA.out.at k (by rw [HLA.out];exact h0)
    subst had;obtain ⟨gF,oF,sF,aF,mF,cF,had,j1,j2,j3,j4⟩ := HB.out.at k (by rw [HLB.out];exact h0)
    subst had;obtain ⟨pv,hpv⟩ : ∃ x9,x9 = (a.getD k (0,0)).1 := ⟨_,rfl⟩;obtain ⟨pz,hpz⟩ : ∃ x9,x9 = (a.getD k (0,0)).2 := ⟨_,rfl⟩;rw [← hpv] at k1;rw [← hpz] at k4;have Hp : Hid (a.getD k (0,0) = (pv,pz)) := by show _ = _;rw [hpv,hpz]
    clear hpv hpz;obtain ⟨qv,hqv⟩ : ∃ x9,x9 = (b.getD k (0,0)).1 := ⟨_,rfl⟩;obtain ⟨qz,hqz⟩ : ∃ x9,x9 = (b.getD k (0,0)).2 := ⟨_,rfl⟩;rw [← hqv] at j1;rw [← hqz] at j4;have Hq : Hid (b.getD k (0,0) = (qv,qz)) := by show _ = _;rw [hqv,hqz]
    clear hqv hqz;have A0 := (hbw.cell (p := ⟨gE,oE + k * 3,none⟩) (World.block_lt_of_cell? w _ k1)).trans k1;have A1 := (hbw.cell (p := ⟨gE,oE + k * 3 + 1,none⟩) (World.block_lt_of_cell? w _ k2)).trans k2;have A2 := (hbw.cell (p := ⟨gE,oE + k * 3 + 2,none⟩) (World.block_lt_of_cell? w _ k3)).trans k3;have B0 := (hbw.cell (p := ⟨gF,oF + k * 3,none⟩) (World.block_lt_of_cell? w _ j1)).trans j1;have B1 := (hbw.cell (p := ⟨gF,oF + k * 3 + 1,none⟩) (World.block_lt_of_cell? w _ j2)).trans j2;have B2 := (hbw.cell (p := ⟨gF,oF + k * 3 + 2,none⟩) (World.block_lt_of_cell? w _ j3)).trans j3;have hE0 := k4.below hbw;have hF0 := j4.below hbw;clear k1 k2 k3 k4 j1 j2 j3 j4;have hb3 := (below_new wl (.cells #[.int .i64 (pv : Nat),.bool sE,.slice aE mE cE] 116 (0,0))).step (below_new (wl.alloc (.cells #[.int .i64 (pv : Nat),.bool sE,.slice aE mE cE] 116 (0,0))) (.cells #[.int .i64 (qv : Nat),.bool sF,.slice aF mF cF] 116 (0,0))) (Nat.le_refl _);have B0 := B0;have hg1 := hbw.size;have B0n := ((below_new wl (.cells #[.int .i64 (pv : Nat),.bool sE,.slice aE mE cE] 116 (0,0))).cell (p := ⟨gF,oF + k * 3,none⟩) (World.block_lt_of_cell? wl _ B0)).trans B0;have B1n := ((below_new wl (.cells #[.int .i64 (pv : Nat),.bool sE,.slice aE mE cE] 116 (0,0))).cell (p := ⟨gF,oF + k * 3 + 1,none⟩) (World.block_lt_of_cell? wl _ B1)).trans B1;have B2n := ((below_new wl (.cells #[.int .i64 (pv : Nat),.bool sE,.slice aE mE cE] 116 (0,0))).cell (p := ⟨gF,oF + k * 3 + 2,none⟩) (World.block_lt_of_cell? wl _ B2)).trans B2;go_wp2_with fail
    refine (sameParts_any pv sE aE mE cE qv sF aF mF cF pz qz _ (hE0.below hb3) (hF0.below hb3)).mono ?_;rintro e w1 ⟨rfl,hb4⟩;replace hbw := (hbw.step hb3 (Nat.le_refl _)).step hb4 (Nat.le_refl _);by_cases hs : pv = qv ∧ pz = qz
    ·
     obtain ⟨rfl,rfl⟩ := hs;have HT2 : Hid (a.take (k + 1) = b.take (k + 1)) := by
      show _ = _
      have e1 := Hp.out;have e2 := Hq.out;rw [List.getD_eq_getElem?_getD,List.getElem?_eq_getElem (by rw [HLA.out];exact h0)] at e1
      rw [List.getD_eq_getElem?_getD,List.getElem?_eq_getElem (by rw [HLB.out];exact h0)] at e2
      simp at e1 e2;rw [List.take_succ_eq_append_getElem (by rw [HLA.out];exact h0),List.take_succ_eq_append_getElem (by rw [HLB.out];exact h0),HT.out,e1,e2]
     go_wp2;go_roundw
     case rel => exact ⟨k + 1,by omega,by go_num,HT2.out,hbw⟩
     case measure => simp [intOf];omega
    ·
     have hs2 : decide (pv = qv ∧ pz = qz) = false := decide_eq_false hs;have HN : Hid (¬ a = b) := fun h => hs (by
      have e1 := Hp.out;rw [h,Hq.out] at e1;injection e1 with e1 e2;exact ⟨e1.symm,e2.symm⟩)
     clear hs;go_wp2;go_ret
     rw [decide_eq_false HN.out];exact ⟨rfl,hbw⟩
   ·
    have HE : Hid (a = b) := by
     have h := HT.out;rw [List.take_of_length_le (by rw [HLA.out];omega),List.take_of_length_le (by rw [HLB.out];omega)] at h
     exact h
    go_wp2;go_ret
    rw [decide_eq_true HE.out];exact ⟨rfl,hbw⟩
 ·
  have hnm2 : ¬ (n : Int) = (m : Nat) := by omega
  have HN : Hid (¬ a = b) := fun h => hnm (by rw [← HLA.out,← HLB.out,h])
  clear hnm;go_wp2;go_ret
  rw [decide_eq_false HN.out];exact ⟨rfl,hbw⟩
set_option maxRecDepth 20000 in
set_option maxHeartbeats 8000000 in
theorem lsame_any (vX vY : Value) (a b : List (Nat × Int)) (r t : Int) (w : World) (hX : TermR w vX a r) (hY : TermR w vY b t) :
  Calls Tryz.prog 21 #[vX,vY] w fun e w' => e = .returned (.bool (decide (a = b ∧ r = t))) ∧ Below w.heap.size w w' := by
 obtain ⟨pX,qX,rX,xX,aX,nX,cX,rfl,hX⟩ := hX;obtain ⟨pY,qY,rY,xY,aY,nY,cY,rfl,hY⟩ := hY;have oX := ((Blk.new w 33 #[.slice pX qX rX,.bool xX,.slice aX nX cX]).alloc (.cells #[.slice pY qY rY,.bool xY,.slice aY nY cY] 33 (0,0)));have oY := (Blk.new (w.alloc (.cells #[.slice pX qX rX,.bool xX,.slice aX nX cX] 33 (0,0))) 33 #[.slice pY qY rY,.bool xY,.slice aY nY cY]);simp only [World.size_alloc] at oY;have hbw : Below w.heap.size w ((w.alloc (.cells #[.slice pX qX rX,.bool xX,.slice aX nX cX] 33 (0,0))).alloc (.cells #[.slice pY qY rY,.bool xY,.slice aY nY cY] 33 (0,0))) := by go_grown
 replace hX := hX.below hbw;replace hY := hY.below hbw;have ltX := oX.lt;have lwX : w.heap.size ≤ w.heap.size := by omega
 have ltY := oY.lt;have lwY : w.heap.size ≤ w.heap.size + 1 := by omega
 go_enter Tryz.func21,Tryz.ntmps21;obtain ⟨Xc0,Xc1,Xc2⟩ := oX.three;obtain ⟨Xk0,Xk1,Xk2⟩ := oX.frozen3;obtain ⟨Yc0,Yc1,Yc2⟩ := oY.three;obtain ⟨Yk0,Yk1,Yk2⟩ := oY.frozen3;go_wp2_with fail
 refine (cmp_h _ _ r t _ _ hX.rest hY.rest rfl).mono ?_;rintro e w1 ⟨rfl,hb⟩;clear Xc0 Xc1 Xc2 Xk0 Xk1 Xk2;clear Yc0 Yc1 Yc2 Yk0 Yk1 Yk2;replace oX := oX.stay hb;replace ltX := oX.lt;replace oY := oY.stay hb;replace ltY := oY.lt;replace hX := hX.below hb;replace hY := hY.below hb;replace hbw := hbw.step hb (Nat.le_refl _);clear hb;by_cases hr : r = t
 ·
  have hs : ((r - t).sign == 0) = true := by rw [hr,Int.sub_self];rfl
  have HR : Hid (r = t) := hr;clear hr;obtain ⟨Xc0,Xc1,Xc2⟩ := oX.three;obtain ⟨Xk0,Xk1,Xk2⟩ := oX.frozen3;obtain ⟨Yc0,Yc1,Yc2⟩ := oY.three;obtain ⟨Yk0,Yk1,Yk2⟩ := oY.frozen3;go_wp2_with fail
  refine (equalFunc_any _ _ a b _ hX.pts hY.pts hX.fine hY.fine).mono ?_;rintro e w2 ⟨rfl,hb⟩;clear Xc0 Xc1 Xc2 Xk0 Xk1 Xk2;clear Yc0 Yc1 Yc2 Yk0 Yk1 Yk2;replace oX := oX.stay hb;replace ltX := oX.lt;replace oY := oY.stay hb;replace ltY := oY.lt;replace hX := hX.below hb;replace hY := hY.below hb;replace hbw := hbw.step hb (Nat.le_refl _);clear hb;go_wp2;go_ret
  have e9 : decide (a = b ∧ r = t) = decide (a = b) := decide_eq_decide.2 ⟨fun h => h.1,fun h => ⟨h,HR.out⟩⟩
  rw [e9];exact ⟨rfl,hbw⟩
 ·
  have hs : ((r - t).sign == 0) = false := by rw [beq_eq_false_iff_ne];exact fun k => hr (by have := Int.sign_eq_zero_iff_zero.1 k;omega)
  have HR : Hid (¬ r = t) := hr;clear hr;go_wp2;go_ret
  rw [decide_eq_false (fun h => HR.out h.2)]
  exact ⟨rfl,hbw⟩
end Go.Proofs.YteefniagebcagaaGreatDoor
