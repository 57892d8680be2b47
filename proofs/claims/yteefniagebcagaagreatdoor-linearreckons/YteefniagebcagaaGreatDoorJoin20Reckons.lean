/- Joined: RInts1, RMul, RFrom, Pow: words and contracts; no statement of the seat is proved here. -/
import Derived.Test.YteefniagebcagaaGreatDoorJoin12Reckons
import Derived.Test.YteefniagebcagaaGreatDoorJoin11Reckons
import Derived.Test.YteefniagebcagaaGreatDoorJoin5Reckons
namespace Go.Proofs.YteefniagebcagaaGreatDoor
open Go.RowKit
theorem rtrim_seg (neg : Bool) (v : Value) (xs : List Nat) (z : Int) (w : World) (hv : ∃ ao cap,v = .slice ao xs.length cap ∧ xs.length ≤ cap ∧ cap ≤ maxLen ∧ Seg .i64 w ao xs) (h3 : xs.length ≤ 10000) (hd : Digs 10 xs) (hz' : sv neg (val 10 xs) = z) :
  Calls Tryz.prog 95 #[.bool neg,v] w fun e w' => ∃ s a n c,e = .returned (.agg #[.bool s,.slice a n c]) ∧ RNum w' (.agg #[.bool s,.slice a n c]) z xs.length ∧ Below w.heap.size w w' := by
 obtain ⟨ao,cap,rfl,h1,h2,hs⟩ := hv;subst hz';refine (rtrim_any neg ao xs.length cap xs w rfl h1 h2 h3 hs hd).mono ?_;rintro e w' ⟨v,rfl,h,hb⟩;obtain ⟨s,a,n,c,rfl⟩ := h.shape;exact ⟨s,a,n,c,rfl,h,hb⟩
theorem val_set_get (B : Nat) : ∀ (zs : List Nat) (k d : Nat), k < zs.length → val B (zs.set k d) + B ^ k * zs.getD k 0 = val B zs + B ^ k * d
  | [], k, _, h => by simp at h
  | z :: r, 0, d, _ => by simp [val]; omega
  | z :: r, k + 1, d, h => by
    have ih := val_set_get B r k d (by simpa using h)
    have e := congrArg (B * ·) ih
    simp only [Nat.mul_add] at e
    simp only [List.set_cons_succ, val, List.getD_cons_succ, Nat.pow_succ]
    rw [Nat.mul_comm (B ^ k) B, Nat.mul_assoc, Nat.mul_assoc]
    omega
theorem put_digit {B Z Z' P z d c c' T S : Nat} (hset : Z' + P * z = Z + P * d) (h : Z + P * c = T) (hd : d + B * c' = c + S + z) : Z' + P * B * c' = T + P * S := by
 have e := congrArg (P * ·) hd;simp only [Nat.mul_add] at e;rw [Nat.mul_assoc];omega
theorem carry_in {k N c T : Nat} (h : 10 ^ k * c ≤ T) (hT : T < 10 ^ N) (hc : 0 < c) : k < N := by
 rcases Nat.lt_or_ge k N with h1 | h1
 · exact h1
 ·
  have h2 : 10 ^ N ≤ 10 ^ k := Nat.pow_le_pow_right (by decide) h1
  have h3 : 10 ^ k * 1 ≤ 10 ^ k * c := Nat.mul_le_mul_left _ hc;omega
theorem prod_lt {xs ys : List Nat} (i : Nat) (hx : Digs 10 xs) (hy : Digs 10 ys) (hi : i ≤ xs.length) : val 10 (xs.take i) * val 10 ys < 10 ^ (xs.length + ys.length) := by
 have h1 := val_lt (hx.take i);rw [List.length_take,Nat.min_eq_left hi] at h1;have h2 := val_lt hy;have h3 : val 10 (xs.take i) * val 10 ys < 10 ^ i * 10 ^ ys.length := Nat.mul_lt_mul'' h1 h2;rw [← Nat.pow_add] at h3;exact Nat.lt_of_lt_of_le h3 (Nat.pow_le_pow_right (by decide) (by omega))
def MulS (w wr : World) (A B : Array Value) (zs : List Nat) : Prop :=
  Row .i64 3 wr (w.heap.size + 1 + 1 + 1) zs ∧ Blk 39 wr w.heap.size A ∧ Blk 39 wr (w.heap.size + 1) B ∧ Blk 39 wr (w.heap.size + 1 + 1) #[.bool false, .slice none 0 0] ∧ Below w.heap.size w wr
theorem MulS.set {w wr : World} {A B : Array Value} {zs : List Nat} (h : MulS w wr A B zs) (k : Nat) (z : Int) (d : Nat) (hz : z = (d : Int)) : MulS w (wr.setCell ⟨w.heap.size + 1 + 1 + 1, k, none⟩ (.int .i64 z)) A B (zs.set k d) :=
  ⟨h.1.set k z d hz, h.2.1.other (by show w.heap.size + 1 + 1 + 1 ≠ _; omega) _, h.2.2.1.other (by show w.heap.size + 1 + 1 + 1 ≠ _; omega) _, h.2.2.2.1.other (by show w.heap.size + 1 + 1 + 1 ≠ _; omega) _, h.2.2.2.2.setCell (p := ⟨w.heap.size + 1 + 1 + 1, k, none⟩) (by show _ ≤ w.heap.size + 1 + 1 + 1; omega) _⟩
theorem MulS.dN {w wr : World} {A B : Array Value} {zs : List Nat} (h : MulS w wr A B zs) (q : Nat) : MulS w (wr.drewN q) A B zs := ⟨h.1, h.2.1, h.2.2.1, h.2.2.2.1, below_dN2 h.2.2.2.2 q⟩
set_option maxRecDepth 20000 in
set_option maxHeartbeats 8000000 in
theorem rMul_any (va vb : Value) (x y z : Int) (L M : Nat) (w : World) (ha : RNum w va x L) (hb : RNum w vb y M) (hL : L + M ≤ 9000) (hz' : x * y = z) :
  Calls Tryz.prog 68 #[va,vb] w fun e w' => ∃ s a n c,e = .returned (.agg #[.bool s,.slice a n c]) ∧ RNum w' (.agg #[.bool s,.slice a n c]) z (L + M + 1) ∧ Below w.heap.size w w' := by
 subst hz';obtain ⟨na,xs,hva,hxe,hxl⟩ := ha;obtain ⟨nb,ys,hvb,hye,hyl⟩ := hb;obtain ⟨ao,cap,rfl,h1,h2,h4,hs,hd,hn,h3,-⟩ := hva;obtain ⟨bo,cap',rfl,k1,k2,k4,ks,kd,kn,k3,-⟩ := hvb;have HXY : Hid (x = sv na (val 10 xs) ∧ y = sv nb (val 10 ys)) := ⟨hxe,hye⟩;clear hxe hye h3 k3 h4 k4;have A0 := ((Blk.new w 39 #[.bool na,.slice ao xs.length cap]).alloc (.cells #[.bool nb,.slice bo ys.length cap'] 39 (0,0))).alloc (.cells #[.bool false,.slice none 0 0] 39 (0,0));have B0 := (Blk.new (w.alloc (.cells #[.bool na,.slice ao xs.length cap] 39 (0,0))) 39 #[.bool nb,.slice bo ys.length cap']).alloc (.cells #[.bool false,.slice none 0 0] 39 (0,0));have R0 := Blk.new ((w.alloc (.cells #[.bool na,.slice ao xs.length cap] 39 (0,0))).alloc (.cells #[.bool nb,.slice bo ys.length cap'] 39 (0,0))) 39 #[.bool false,.slice none 0 0];simp only [World.size_alloc] at B0 R0;have hbw : Below w.heap.size w (((w.alloc (.cells #[.bool na,.slice ao xs.length cap] 39 (0,0))).alloc (.cells #[.bool nb,.slice bo ys.length cap'] 39 (0,0))).alloc (.cells #[.bool false,.slice none 0 0] 39 (0,0))) := by go_grown
 obtain ⟨n,hnn⟩ : ∃ n,xs.length = n := ⟨_,rfl⟩;obtain ⟨m,hmm⟩ : ∃ m,ys.length = m := ⟨_,rfl⟩;have HN : Hid (xs.length = n) := hnn;have HM : Hid (ys.length = m) := hmm;rw [hnn] at A0 R0 hbw hxl h1 ⊢;rw [hnn] at B0;rw [hmm] at A0 B0 R0 hbw hyl k1 ⊢;clear hnn hmm;go_enter Tryz.func68,Tryz.ntmps68;go_wp2_with (first
  | (at_make;refine wpList_make_nums _ rfl _ _ 37 rfl 3 .i64 8 Tryz.underlying37 Tryz.info3 _ _ _ _ (n + m + 1) rfl rfl (by omega) (by omega) (by decide) (by omega) ?_;intro w1 hr1 hb1 hz1))
 simp only [World.size_alloc] at hr1;have hS1 : MulS w w1 #[.bool na,.slice ao n cap] #[.bool nb,.slice bo m cap'] (List.replicate (n + m + 1) 0) := ⟨hr1,A0.stay hb1,B0.stay hb1,R0.stay hb1,hbw.step hb1 (Nat.le_refl _)⟩;clear A0 B0 R0 hr1 hb1 hz1 hbw;go_loopw [6] (fun i wr => ∃ k : Nat,∃ zs,k ≤ n ∧ i = .int .i64 k ∧ Hid (zs.length = n + m + 1) ∧ Digs 10 zs ∧ Hid (val 10 zs = val 10 (xs.take k) * val 10 ys) ∧ MulS w wr #[.bool na,.slice ao n cap] #[.bool nb,.slice bo m cap'] zs) (fun i _ => n - (intOf i).toNat)
 case atStart => exact ⟨0,_,Nat.zero_le _,rfl,(List.length_replicate : _ = _),Digs.replicate _ _ (by decide),(by rw [val_replicate_zero];simp [val] : _ = _),hS1⟩
 case round =>
  obtain ⟨k,z0,hk,rfl,HZ0,hzd0,HV0,hS0⟩ := hrel;obtain ⟨a0,a1,-,-⟩ := hS0.2.1.two;obtain ⟨b0,b1,-,-⟩ := hS0.2.2.1.two;by_cases h0 : k < n
  ·
   obtain ⟨b,off,rfl,hcs⟩ := hs.open k (by have := HN.out;omega)
   have hcx := hcs k (by have := HN.out;omega)
   have hbx : b < w.heap.size := World.block_lt_of_cell? w ⟨b,off + k,none⟩ hcx;obtain ⟨x',hx'⟩ : ∃ x',x' = xs.getD k 0 := ⟨_,rfl⟩;rw [← hx'] at hcx;have hx10 : x' < 10 := hx' ▸ hd.getD (by decide) k
   have HX : Hid (x' = xs.getD k 0) := hx';have HT : Hid (val 10 z0 + 10 ^ k * x' * val 10 ys = val 10 (xs.take (k + 1)) * val 10 ys) := by
    show _ = _
    rw [HV0.out,val_take_succ',← hx',Nat.add_mul]
   have HTL : Hid (val 10 (xs.take (k + 1)) * val 10 ys < 10 ^ (n + m)) := by
    have h5 := prod_lt (k + 1) hd kd (by have := HN.out;omega)
    rw [HN.out,HM.out] at h5;exact h5
   have HCX : Hid (w.cell? ⟨b,off + k,none⟩ = some (.int .i64 x')) := hcx;clear hx' hcs hcx;go_wp2;clear a0 a1 b0 b1;go_loopw [7,8] (fun c i wr => ∃ j cN : Nat,∃ zs,j ≤ m ∧ i = .int .i64 j ∧ c = .int .i64 cN ∧ cN ≤ 9 ∧ Hid (zs.length = n + m + 1) ∧ Digs 10 zs ∧
    Hid (val 10 zs + 10 ^ k * 10 ^ j * cN = val 10 z0 + 10 ^ k * x' * val 10 (ys.take j)) ∧ MulS w wr #[.bool na,.slice (some ⟨b,off,none⟩) n cap] #[.bool nb,.slice bo m cap'] zs) (fun _ i _ => m - (intOf i).toNat)
   case atStart => exact ⟨0,0,z0,Nat.zero_le _,rfl,rfl,by omega,HZ0,hzd0,(by simp [val] : _ = _),hS0⟩
   case round =>
    obtain ⟨j,cN,zs,hj,rfl,rfl,hcl,HZ,hzd,HV,hS⟩ := hrel;obtain ⟨a0,a1,-,-⟩ := hS.2.1.two;obtain ⟨b0,b1,-,-⟩ := hS.2.2.1.two;by_cases hjm : j < m
    ·
     obtain ⟨b2,off2,rfl,hcs2⟩ := ks.open j (by have := HM.out;omega)
     have hbw2 : b2 < w.heap.size := World.block_lt_of_cell? w ⟨b2,off2 + j,none⟩ (hcs2 j (by have := HM.out;omega))
     have hcell2 := (hS.2.2.2.2.cell (p := ⟨b2,off2 + j,none⟩) hbw2).trans (hcs2 j (by have := HM.out;omega))
     have hcell1 := (hS.2.2.2.2.cell (p := ⟨b,off + k,none⟩) hbx).trans HCX.out;obtain ⟨y',hy'⟩ : ∃ y',y' = ys.getD j 0 := ⟨_,rfl⟩;have hy10 : y' < 10 := hy' ▸ kd.getD (by decide) j
     rw [← hy'] at hcell2;have HY : Hid (y' = ys.getD j 0) := hy';have hout := hS.1.cell (k + j) (by have := HZ.out;omega)
     obtain ⟨z,hz⟩ : ∃ z,z = zs.getD (k + j) 0 := ⟨_,rfl⟩;rw [← hz] at hout;have hz10 : z < 10 := hz ▸ hzd.getD (by decide) (k + j)
     have HZZ : Hid (z = zs.getD (k + j) 0) := hz;have hfr := hS.1.frozen (k + j);have hprod : x' * y' ≤ 81 := Nat.mul_le_mul (show x' ≤ 9 by omega) (show y' ≤ 9 by omega)
     obtain ⟨pr,hpr⟩ : ∃ pr,pr = x' * y' := ⟨_,rfl⟩;have hmul : (x' : Int) * (y' : Int) = (pr : Int) := by rw [hpr,Int.natCast_mul]
     have hpl : pr ≤ 81 := by omega
     have HP : Hid (pr = x' * y') := hpr;clear hy' hz hcs2 hprod hpr;go_wp2;go_quiet (fail)
     go_wp2;go_roundw
     case rel =>
      refine ⟨j + 1,(cN + pr + z) / 10,zs.set (k + j) ((cN + pr + z) % 10),by omega,by go_num,rfl,by omega,?_,hzd.set _ _ (Nat.mod_lt _ (by decide)),?_,(hS.dN nq).set (k + j) _ _ rfl⟩
      ·
       show _ = _
       rw [List.length_set];exact HZ.out
      ·
       show _ = _
       have h5 := val_set_get 10 zs (k + j) ((cN + pr + z) % 10) (by have := HZ.out;omega)
       rw [← HZZ.out,Nat.pow_add] at h5;have h6 := put_digit (B := 10) (c' := (cN + pr + z) / 10) h5 HV.out (Nat.mod_add_div _ _);rw [Nat.pow_succ,← Nat.mul_assoc,h6,val_take_succ',← HY.out,Nat.mul_add,HP.out,Nat.mul_mul_mul_comm (10 ^ k) x',Nat.add_assoc]
     case measure => simp [intOf];omega
    ·
     have hjm' : j = m := by omega
     subst hjm';have HV2 : Hid (val 10 zs + 10 ^ (k + j) * cN = val 10 (xs.take (k + 1)) * val 10 ys) := by
      show _ = _
      have h5 := HV.out;rw [List.take_of_length_le (l := ys) (by have := HM.out;omega),HT.out,← Nat.pow_add] at h5
      exact h5
     clear HV;go_wp2;clear a0 a1 b0 b1;go_loopw [7,9] (fun c i wr => ∃ p cN : Nat,∃ zs,p ≤ n + j ∧ i = .int .i64 p ∧ c = .int .i64 cN ∧ cN ≤ 9 ∧ Hid (zs.length = n + j + 1) ∧ Digs 10 zs ∧
      Hid (val 10 zs + 10 ^ p * cN = val 10 (xs.take (k + 1)) * val 10 ys) ∧ MulS w wr #[.bool na,.slice (some ⟨b,off,none⟩) n cap] #[.bool nb,.slice bo j cap'] zs) (fun _ i _ => n + j - (intOf i).toNat)
     case atStart => exact ⟨k + j,cN,zs,by omega,by go_num,rfl,hcl,HZ,hzd,HV2,hS⟩
     case round =>
      obtain ⟨p,cM,ws,hp,rfl,rfl,hcl2,HW,hwd,HVW,hSW⟩ := hrel;by_cases hc0 : 0 < cM
      ·
       have hpn : p < n + j := carry_in (c := cM) (by have := HVW.out;omega) HTL.out hc0
       have hout := hSW.1.cell p (by have := HW.out;omega)
       obtain ⟨z,hz⟩ : ∃ z,z = ws.getD p 0 := ⟨_,rfl⟩;rw [← hz] at hout;have hz10 : z < 10 := hz ▸ hwd.getD (by decide) p
       have HZZ : Hid (z = ws.getD p 0) := hz;have hfr := hSW.1.frozen p;clear hz;go_wp2;go_roundw
       case rel =>
        refine ⟨p + 1,(cM + z) / 10,ws.set p ((cM + z) % 10),by omega,by go_num,rfl,by omega,?_,hwd.set _ _ (Nat.mod_lt _ (by decide)),?_,hSW.set p _ _ rfl⟩
        ·
         show _ = _
         rw [List.length_set];exact HW.out
        ·
         show _ = _
         have h5 := val_set_get 10 ws p ((cM + z) % 10) (by have := HW.out;omega)
         rw [← HZZ.out] at h5;have h6 := put_digit (B := 10) (S := 0) (c' := (cM + z) / 10) h5 HVW.out (Nat.mod_add_div _ _);rw [Nat.pow_succ,h6,Nat.mul_zero,Nat.add_zero]
       case measure => simp [intOf];omega
      ·
       have hc00 : cM = 0 := by omega
       subst hc00;go_wp2;go_roundw
       case rel =>
        refine ⟨k + 1,ws,by omega,by go_num,HW,hwd,?_,hSW⟩
        show _ = _
        have h5 := HVW.out;rw [Nat.mul_zero,Nat.add_zero] at h5;exact h5
       case measure => simp [intOf];omega
  ·
   have hkn : k = n := by omega
   subst hkn;obtain ⟨r0,r1,rf0,rf1⟩ := hS0.2.2.2.1.two;have HZV : Hid (sv (!(na == nb)) (val 10 z0) = x * y) := by
    show _ = _
    have h5 := HV0.out;rw [List.take_of_length_le (by have := HN.out;omega)] at h5
    rw [h5,sv_mul,HXY.out.1,HXY.out.2]
   go_wp2_with fail
   refine (rtrim_seg (!(na == nb)) _ z0 (x * y) _ ⟨some ⟨w.heap.size + 1 + 1 + 1,0,none⟩,k + m + 1,by rw [HZ0.out],by rw [HZ0.out];exact Nat.le_refl _,by unfold maxLen;omega,hS0.1.all⟩ (by rw [HZ0.out];omega) hzd0 HZV.out).mono ?_
   rintro e w2 ⟨s,a,n',c,rfl,hr,hb2⟩;have R2 := hS0.2.2.2.1.stay hb2;obtain ⟨r0,r1,rf0,rf1⟩ := R2.two;have HLZ : Hid (z0.length = k + m + 1) := HZ0;go_wp2;refine bodyPost_ret (v := .agg #[.bool s,.slice a n' c]) (by simp [results,Tryz.results68,go_sem,r0,r1]) rfl ?_
   exact ⟨_,_,_,_,rfl,(hr.mono (by rw [HLZ.out];omega)).store2 R2 _ _ _ _,below_store2 (hS0.2.2.2.2.step hb2 (Nat.le_refl _)) (by omega) _ _⟩
theorem from_word (n : Int) (h1 : -9223372036854775808 ≤ n) (h2 : n < 0) : IntKind.u64.wrap (-IntKind.u64.wrap n) = ((n.natAbs : Nat) : Int) := by
 simp only [IntKind.wrap,IntKind.bits,IntKind.signed];simp;omega
set_option maxHeartbeats 4000000 in
theorem rfrom_any (n : Int) (w : World) (h1 : -9223372036854775808 ≤ n) (h2 : n ≤ 9223372036854775807) :
  Calls Tryz.prog 60 #[.int .i64 n] w fun e w' => ∃ s a m c,e = .returned (.agg #[.bool s,.slice a m c]) ∧ RNum w' (.agg #[.bool s,.slice a m c]) n 20 ∧ Below w.heap.size w w' := by
 have B0 := Blk.new w 39 #[.bool false,.slice none 0 0];have HLEN : Hid (∀ k u N : Nat,0 < u → 10 ^ k * u ≤ N → N < 18446744073709551616 → k < 20) := by
  intro k u N hu h hN;have h3 : 10 ^ k * 1 ≤ 10 ^ k * u := Nat.mul_le_mul_left _ hu;have h4 : 10 ^ k < 10 ^ 20 := by omega
  exact (Nat.pow_lt_pow_iff_right (by decide)).1 h4
 by_cases hneg : n < 0
 ·
  go_enter Tryz.func60,Tryz.ntmps60;go_wp2;go_loopw [3,4] (fun uv v wr => ∃ u : Nat,∃ zs,uv = .int .u64 u ∧ (u : Int) < 18446744073709551616 ∧ Own .i64 3 (w.heap.size + 1) wr v zs ∧ Digs 10 zs ∧ Hid (val 10 zs + 10 ^ zs.length * u = n.natAbs) ∧ Hid (zs.length ≤ 20) ∧ Below (w.heap.size + 1) (w.alloc (.cells #[.bool false,.slice none 0 0] 39)) wr) (fun uv _ _ => (intOf uv).toNat)
  case atStart =>
   refine ⟨n.natAbs,[],by rw [from_word n h1 hneg],by omega,Own.nil _ _ _ _,Digs.nil _,(by simp [val] : _ = _),(Nat.zero_le _ : _ ≤ _),Below.refl _ _⟩
  case round =>
   obtain ⟨u,zs,rfl,hu,hown,hd,HV,HL,hbel⟩ := hrel;have HSZ : Hid (w.heap.size + 1 ≤ wr.heap.size) := by have := hbel.size;simp at this;exact this
   by_cases h0 : 0 < u
   ·
    have HZL : Hid (zs.length ≤ 100000) := Nat.le_trans HL.out (by decide)
    go_wp2_with (at_builtin;refine wpList_append_num rfl (.tmp 13) (.tmp 17) 37 rfl (w.heap.size + 1) 3 .i64 8 Tryz.underlying37 Tryz.info3 (by decide) _ _ rfl hown _ (u % 10) (by omega) rfl HZL.out HSZ.out ?_;intro v' w3 hown3 hblk3 hbel3)
    go_roundw
    case rel =>
     refine ⟨u / 10,zs ++ [u % 10],by rw [Int.natCast_ediv];rfl,by omega,hown3,hd.append (Digs.cons (Nat.mod_lt _ (by decide)) (Digs.nil _)),?_,?_,hbel.trans hbel3⟩
     ·
      show _ = _
      rw [val_snoc,List.length_append,List.length_singleton,Nat.pow_succ,Nat.mul_assoc,Nat.add_assoc,← Nat.mul_add,Nat.mod_add_div];exact HV.out
     ·
      show _ ≤ _
      have := HLEN.out zs.length u n.natAbs h0 (by have := HV.out;omega) (by omega)
      simp;omega
    case measure => simp [intOf];omega
   ·
    have hu0 : u = 0 := by omega
    subst hu0;have B1 := B0.keep hbel (by omega)
    obtain ⟨ao,cap,rfl,q1,q2,hsg,q3⟩ := hown.open;have hbw : Below w.heap.size w wr := ((Below.refl _ _).alloc (Nat.le_refl _) _).trans (hbel.mono (by omega))
    go_wp2_with fail
    refine (rtrim_seg true _ zs n _ ⟨ao,cap,rfl,q1,q2,hsg⟩ (by have := HL.out;omega) hd (by have := HV.out;simp [sv];omega)).mono ?_
    rintro e w1 ⟨s,a,m,c,rfl,hr,hb1⟩;have R1 := B1.stay hb1;obtain ⟨r0,r1,rf0,rf1⟩ := R1.two;go_wp2;refine bodyPost_ret (v := .agg #[.bool s,.slice a m c]) (by simp [results,Tryz.results60,go_sem,r0,r1]) rfl ?_
    exact ⟨_,_,_,_,rfl,(hr.mono HL.out).store2 R1 _ _ _ _,below_store2 (hbw.step hb1 (Nat.le_refl _)) (Nat.le_refl _) _ _⟩
 ·
  obtain ⟨N,rfl⟩ := Int.eq_ofNat_of_zero_le (Int.not_lt.1 hneg);go_enter Tryz.func60,Tryz.ntmps60;go_wp2;go_loopw [3,4] (fun uv v wr => ∃ u : Nat,∃ zs,uv = .int .u64 u ∧ (u : Int) < 18446744073709551616 ∧ Own .i64 3 (w.heap.size + 1) wr v zs ∧ Digs 10 zs ∧ Hid (val 10 zs + 10 ^ zs.length * u = N) ∧ Hid (zs.length ≤ 20) ∧ Below (w.heap.size + 1) (w.alloc (.cells #[.bool false,.slice none 0 0] 39)) wr) (fun uv _ _ => (intOf uv).toNat)
  case atStart =>
   refine ⟨N,[],rfl,by omega,Own.nil _ _ _ _,Digs.nil _,(by simp [val] : _ = _),(Nat.zero_le _ : _ ≤ _),Below.refl _ _⟩
  case round =>
   obtain ⟨u,zs,rfl,hu,hown,hd,HV,HL,hbel⟩ := hrel;have HSZ : Hid (w.heap.size + 1 ≤ wr.heap.size) := by have := hbel.size;simp at this;exact this
   by_cases h0 : 0 < u
   ·
    have HZL : Hid (zs.length ≤ 100000) := Nat.le_trans HL.out (by decide)
    go_wp2_with (at_builtin;refine wpList_append_num rfl (.tmp 13) (.tmp 17) 37 rfl (w.heap.size + 1) 3 .i64 8 Tryz.underlying37 Tryz.info3 (by decide) _ _ rfl hown _ (u % 10) (by omega) rfl HZL.out HSZ.out ?_;intro v' w3 hown3 hblk3 hbel3)
    go_roundw
    case rel =>
     refine ⟨u / 10,zs ++ [u % 10],by rw [Int.natCast_ediv];rfl,by omega,hown3,hd.append (Digs.cons (Nat.mod_lt _ (by decide)) (Digs.nil _)),?_,?_,hbel.trans hbel3⟩
     ·
      show _ = _
      rw [val_snoc,List.length_append,List.length_singleton,Nat.pow_succ,Nat.mul_assoc,Nat.add_assoc,← Nat.mul_add,Nat.mod_add_div];exact HV.out
     ·
      show _ ≤ _
      have := HLEN.out zs.length u N h0 (by have := HV.out;omega) (by omega)
      simp;omega
    case measure => simp [intOf];omega
   ·
    have hu0 : u = 0 := by omega
    subst hu0;have B1 := B0.keep hbel (by omega)
    obtain ⟨ao,cap,rfl,q1,q2,hsg,q3⟩ := hown.open;have hbw : Below w.heap.size w wr := ((Below.refl _ _).alloc (Nat.le_refl _) _).trans (hbel.mono (by omega))
    go_wp2_with fail
    refine (rtrim_seg false _ zs N _ ⟨ao,cap,rfl,q1,q2,hsg⟩ (by have := HL.out;omega) hd (by have := HV.out;simp [sv];omega)).mono ?_
    rintro e w1 ⟨s,a,m,c,rfl,hr,hb1⟩;have R1 := B1.stay hb1;obtain ⟨r0,r1,rf0,rf1⟩ := R1.two;go_wp2;refine bodyPost_ret (v := .agg #[.bool s,.slice a m c]) (by simp [results,Tryz.results60,go_sem,r0,r1]) rfl ?_
    exact ⟨_,_,_,_,rfl,(hr.mono HL.out).store2 R1 _ _ _ _,below_store2 (hbw.step hb1 (Nat.le_refl _)) (Nat.le_refl _) _ _⟩
end Go.Proofs.YteefniagebcagaaGreatDoor
