/- Joined: DivH, DivL, VarsZ, DivA: words and contracts; no statement of the seat is proved here. -/
import Derived.Test.YteefniagebcagaaGreatDoorJoin11Reckons
import Derived.Test.YteefniagebcagaaGreatDoorJoin5Reckons
import Derived.Test.YteefniagebcagaaGreatDoorJoin6Reckons
import Derived.Test.YteefniagebcagaaGreatDoorJoin10Reckons
namespace Go.Proofs.YteefniagebcagaaGreatDoor
open Go.RowKit
set_option maxHeartbeats 2000000 in
theorem lead_any (x : Nat) (w : World) (hx : x < 4294967296) (h0 : 0 < x) :
  Calls Tryz.prog 132 #[.int .u32 x] w fun e w' => ∃ s : Nat,e = .returned (.int .i64 s) ∧ s ≤ 31 ∧ x * 2 ^ s < 4294967296 ∧ 2147483648 ≤ x * 2 ^ s ∧ w' = w := by
 obtain ⟨a,b,c⟩ := bitLen_bounds x (by omega) (by omega)
 generalize hB : Lib.bitLen x = k at a b c;have hk : k ≤ 32 := by
  rcases Nat.lt_or_ge 32 k with h | h
  ·
   have := Nat.pow_le_pow_right (show 0 < 2 by decide) (show 32 ≤ k - 1 by omega)
   omega
  · exact h
 have HB : Hid (Lib.bitLen ((x : Int)).toNat = k) := by show _ = _;simpa using hB
 have HA : Hid (x * 2 ^ (32 - k) < 4294967296 ∧ 2147483648 ≤ x * 2 ^ (32 - k)) := by
  have e : 2 ^ k * 2 ^ (32 - k) = 4294967296 := by rw [← Nat.pow_add,show k + (32 - k) = 32 by omega]
  have e2 : 2 ^ (k - 1) * 2 ^ (32 - k) = 2147483648 := by rw [← Nat.pow_add,show k - 1 + (32 - k) = 31 by omega]
  have hp : 0 < 2 ^ (32 - k) := Nat.pow_pos (by decide)
  refine ⟨?_,?_⟩
  · rw [← e];exact Nat.mul_lt_mul_of_pos_right b hp
  · rw [← e2];exact Nat.mul_le_mul_right _ a
 clear a b hB;go_enter Tryz.func132,Tryz.ntmps132;go_wp2_with fail
 refine (len32_any x _ (by omega) (by omega)).mono ?_
 rintro e w1 ⟨rfl,rfl⟩;rw [HB.out];go_wp2;go_ret
 refine ⟨32 - k,?_,by omega,HA.out.1,HA.out.2,rfl⟩
 rw [show (((32 - k : Nat) : Nat) : Int) = 32 - (k : Int) by omega]
 rfl
set_option maxHeartbeats 4000000 in
theorem shiftedUp_any (ao : Option Addr) (n cap s : Nat) (xs : List Nat) (w : World) (hn : xs.length = n) (h1 : n ≤ 9000) (hs : s ≤ 31) (hsg : Seg .u32 w ao xs) (hd : Digs 4294967296 xs) :
  Calls Tryz.prog 133 #[.slice ao n cap,.int .i64 s] w fun e w' => ∃ zs,e = .returned (.slice (some ⟨w.heap.size,0,none⟩) (n + 1) (n + 1)) ∧ zs.length = n + 1 ∧ Digs 4294967296 zs ∧ val 4294967296 zs = val 4294967296 xs * 2 ^ s ∧ Row .u32 167 w' w.heap.size zs ∧ Below w.heap.size w w' := by
 have HN : Hid (xs.length = n) := hn;clear hn;go_enter Tryz.func133,Tryz.ntmps133;go_wp2_with (first
  | (at_make;refine wpList_make_nums _ rfl _ _ 29 rfl 167 .u32 4 Tryz.underlying29 Tryz.info167 _ _ _ _ (n + 1) rfl rfl (by omega) (by omega) (by decide) (by omega) ?_;intro w1 hr1 hb1 hz1))
 go_loopw [15] (fun i wr => ∃ k : Nat,∃ zs,k ≤ n ∧ i = .int .i64 k ∧ Hid (zs.length = n + 1) ∧ Digs 4294967296 zs ∧ Hid (zs.getD k 0 < 2 ^ s ∧ val 4294967296 (zs.take (k + 1)) = val 4294967296 (xs.take k) * 2 ^ s) ∧ Row .u32 167 wr w.heap.size zs ∧ Below w.heap.size w wr) (fun i _ => n - (intOf i).toNat)
 case atStart => exact ⟨0,_,Nat.zero_le _,rfl,(by simp : _ = _),Digs.replicate _ _ (by decide),(⟨by simp;exact Nat.pow_pos (by decide),by rw [take_zeros];simp [val]⟩ : _ ∧ _),hr1,hb1⟩
 case round =>
  obtain ⟨k,z0,hk,rfl,HZ0,hzd0,HV0,hrow0,hbel0⟩ := hrel;by_cases h0 : k < n
  ·
   obtain ⟨b,off,rfl,hcs⟩ := hsg.open k (by have := HN.out;omega)
   have hbw : b < w.heap.size := World.block_lt_of_cell? w ⟨b,off + k,none⟩ (hcs k (by have := HN.out;omega))
   have hcell := (hbel0.cell (p := ⟨b,off + k,none⟩) hbw).trans (hcs k (by have := HN.out;omega))
   obtain ⟨x,hx⟩ : ∃ x,x = xs.getD k 0 := ⟨_,rfl⟩;have hxl : x < 4294967296 := hx ▸ hd.getD (by decide) k
   rw [← hx] at hcell;have HX : Hid (x = xs.getD k 0) := hx;have hout := hrow0.cell k (by have := HZ0.out;omega)
   obtain ⟨z,hz⟩ : ∃ z,z = z0.getD k 0 := ⟨_,rfl⟩;rw [← hz] at hout;have HZZ : Hid (z = z0.getD k 0) := hz;have hzl : z < 4294967296 := hz ▸ hzd0.getD (by decide) k
   have hfr := hrow0.frozen k;obtain ⟨W,hW⟩ : ∃ W,W = x * 2 ^ s := ⟨_,rfl⟩;obtain ⟨D,hD⟩ : ∃ D,D = z + W % 4294967296 := ⟨_,rfl⟩;have hps : 2 ^ s ≤ 2147483648 := Nat.pow_le_pow_right (by decide) hs
   have hWl : W ≤ 9223372034707292160 := by
    have := Nat.mul_le_mul (show x ≤ 4294967295 by omega) hps
    omega
   have hwr : IntKind.u64.wrap ((x : Int) * 2 ^ s) = (W : Int) := by
    rw [show (x : Int) * 2 ^ s = (W : Int) by rw [hW,Int.natCast_mul,Int.natCast_pow];rfl]
    exact wrap_u64 (by omega)
   have e32 : 2 ^ s * 2 ^ (32 - s) = 4294967296 := by rw [← Nat.pow_add,show s + (32 - s) = 32 by omega]
   have hlow : W % 4294967296 = 2 ^ s * (x % 2 ^ (32 - s)) := by
    rw [hW,← e32,Nat.mul_comm x,Nat.mul_mod_mul_left]
   have hzs : z < 2 ^ s := by rw [hz];exact HV0.out.1
   have hor : bits BinOp.or IntKind.u32 (z : Int) ((W : Int) % 4294967296) = (D : Int) := by
    rw [show (W : Int) % 4294967296 = ((W % 4294967296 : Nat) : Int) by omega,u32_or_nat _ _ hzl (by omega),hD]
    congr 1
    rw [Nat.or_comm,hlow,shl_or _ _ _ hzs,Nat.add_comm]
   have hDl : D < 4294967296 := by
    have h2 := u32_or_nat z (W % 4294967296) hzl (by omega)
    rw [hD,hlow];have h3 := Nat.mod_lt x (show 0 < 2 ^ (32 - s) from Nat.pow_pos (by decide))
    have h4 : 2 ^ s * (x % 2 ^ (32 - s) + 1) ≤ 2 ^ s * 2 ^ (32 - s) := Nat.mul_le_mul_left _ h3;rw [e32,Nat.mul_add] at h4;omega
   have HST : Hid (W / 4294967296 < 2 ^ s ∧ D + 4294967296 * (W / 4294967296) = x * 2 ^ s + z) := by
    refine ⟨?_,?_⟩
    ·
     rw [Nat.div_lt_iff_lt_mul (by decide),hW,Nat.mul_comm (2 ^ s)]
     exact Nat.mul_lt_mul_of_pos_right hxl (Nat.pow_pos (by decide))
    · rw [← hW,hD];omega
   have hrow1 := hrow0.set k (D : Int) D rfl;have hl1 : (z0.set k D).length = n + 1 := by rw [List.length_set];exact HZ0.out
   have hout1 := hrow1.cell (k + 1) (by omega)
   have hfr1 := hrow1.frozen (k + 1);obtain ⟨z1,hz1⟩ : ∃ z1,z1 = (z0.set k D).getD (k + 1) 0 := ⟨_,rfl⟩;rw [← hz1] at hout1;clear hx hcs hr1 hb1 hz1 hz hW hD hps hlow hzs e32 hl1;go_wp2;go_roundw
   case rel =>
    refine ⟨k + 1,(z0.set k D).set (k + 1) (W / 4294967296),by omega,by go_num,?_,(hzd0.set _ _ hDl).set _ _ (by omega),⟨?_,?_⟩,?_,?_⟩
    ·
     show _ = _
     rw [List.length_set,List.length_set];exact HZ0.out
    · rw [getD_set _ _ _ _ (by rw [List.length_set];have := HZ0.out;omega),if_pos rfl];exact HST.out.1
    ·
     rw [val_set_succ _ _ _ _ (by rw [List.length_set];have := HZ0.out;omega),val_set_succ _ _ _ _ (by have := HZ0.out;omega),val_take_succ',← HX.out,Nat.pow_succ]
     have h5 := HV0.out.2;rw [val_take_succ',← HZZ.out] at h5;exact up_step _ _ _ _ _ _ _ _ _ h5 HST.out.2
    · exact hrow1.set (k + 1) _ _ (by omega)
    · exact (hbel0.setCell (Nat.le_refl _) _).setCell (Nat.le_refl _) _
   case measure => simp [intOf];omega
  ·
   have hkn : k = n := by omega
   subst hkn;go_wp2;go_ret
   refine ⟨z0,rfl,HZ0.out,hzd0,?_,hrow0,hbel0⟩;have h := HV0.out.2;rw [List.take_of_length_le (by have := HZ0.out;omega),List.take_of_length_le (by have := HN.out;omega)] at h
   exact h
theorem down_rel {Pk A d B E T N : Nat} (h : A + Pk * N = T) (hN : N = d + B * E) : (A + Pk * d) + Pk * B * E = T := by
 rw [← h,hN,Nat.mul_add,Nat.mul_assoc];omega
structure Hid2 (p : Prop) : Prop where
  out : p
set_option maxHeartbeats 4000000 in
theorem shiftDown_any (g n cap s : Nat) (zs : List Nat) (w : World) (hn : zs.length = n) (h1 : n ≤ 9001) (hs : s ≤ 31) (hr : Row .u32 167 w g zs) (hd : Digs 4294967296 zs) :
  Calls Tryz.prog 135 #[.slice (some ⟨g,0,none⟩) n cap,.int .i64 s] w fun e w' => ∃ v,e = .returned v ∧ ∃ rs,rs.length = n ∧ Digs 4294967296 rs ∧ val 4294967296 rs = val 4294967296 zs / 2 ^ s ∧ Row .u32 167 w' g rs ∧ Only g w w' := by
 have HN : Hid (zs.length = n) := hn;clear hn;go_enter Tryz.func135,Tryz.ntmps135;go_wp2;go_loopw [8] (fun i wr => ∃ k : Nat,∃ rs,k ≤ n ∧ i = .int .i64 k ∧ Hid (rs.length = n) ∧ Digs 4294967296 rs ∧ Hid (rs.drop k = zs.drop k ∧ val 4294967296 (rs.take k) + 4294967296 ^ k * (val 4294967296 (zs.drop k) / 2 ^ s) = val 4294967296 zs / 2 ^ s) ∧ Row .u32 167 wr g rs ∧ Only g w wr) (fun i _ => n - (intOf i).toNat)
 case atStart => exact ⟨0,zs,Nat.zero_le _,rfl,HN,hd,(⟨rfl,by simp [val]⟩ : _ ∧ _),hr,Only.refl _ _⟩
 case round =>
  obtain ⟨k,rs,hk,rfl,HR,hrd,HV,hrow,honly⟩ := hrel;by_cases h0 : k < n
  ·
   have hc0 := hrow.cell k (by have := HR.out;omega)
   have ex : rs.getD k 0 = zs.getD k 0 := getD_drop0 rs zs k HV.out.1;rw [ex] at hc0;obtain ⟨x,hx⟩ : ∃ x,x = zs.getD k 0 := ⟨_,rfl⟩;rw [← hx] at hc0;have hxl : x < 4294967296 := hx ▸ hd.getD (by decide) k
   have hfr := hrow.frozen k;obtain ⟨y,hy⟩ : ∃ y,y = zs.getD (k + 1) 0 := ⟨_,rfl⟩;have hyl : y < 4294967296 := hy ▸ hd.getD (by decide) (k + 1)
   obtain ⟨W,hW⟩ : ∃ W,W = y * 4294967296 + x := ⟨_,rfl⟩;have hWl : W ≤ 18446744073709551615 := by omega
   have hor : bits BinOp.or IntKind.u64 (x : Int) ((y : Int) * 4294967296) = (W : Int) := by
    rw [hW,← or_shift y x hyl hxl,show (y : Int) * 4294967296 = ((y * 4294967296 : Nat) : Int) by omega,u64_or_nat _ _ (by omega) (by omega),u64_or_nat _ _ (by omega) (by omega),Nat.or_comm]
   have HE : Hid (val 4294967296 (zs.drop k) / 2 ^ s = W / 2 ^ s % 4294967296 + 4294967296 * (val 4294967296 (zs.drop (k + 1)) / 2 ^ s)) := by
    show _ = _
    have e32 : 2 ^ s * 2 ^ (32 - s) = 4294967296 := by rw [← Nat.pow_add,show s + (32 - s) = 32 by omega]
    have hps : 0 < 2 ^ s := Nat.pow_pos (by decide)
    have h5 : val 4294967296 (zs.drop (k + 1)) % 2 ^ s = y % 2 ^ s := by
     by_cases h2 : k + 1 < n
     ·
      rw [val_drop_cons _ _ _ (by have := HN.out;omega),← hy]
      generalize val 4294967296 (zs.drop (k + 1 + 1)) = D;rw [← e32,Nat.mul_assoc,Nat.add_mul_mod_self_left]
     ·
      rw [hy,List.drop_of_length_le (by have := HN.out;omega),List.getD_eq_getElem?_getD,List.getElem?_eq_none (by have := HN.out;omega)]
      rfl
    have h6 := down_step (2 ^ s) (2 ^ (32 - s)) x y (val 4294967296 (zs.drop (k + 1))) hps (by rw [e32];exact hxl) h5
    rw [e32] at h6;rw [val_drop_cons _ _ _ (by have := HN.out;omega),← hx,h6,hW,Nat.add_comm (y * 4294967296),Nat.mul_comm y]
   have HD2 : ∀ d : Nat,d = W / 2 ^ s % 4294967296 → (rs.set k d).drop (k + 1) = zs.drop (k + 1) ∧ val 4294967296 ((rs.set k d).take (k + 1)) + 4294967296 ^ (k + 1) * (val 4294967296 (zs.drop (k + 1)) / 2 ^ s) = val 4294967296 zs / 2 ^ s := by
    intro d hd2;refine ⟨by rw [drop_set_succ];exact drop_succ_of _ _ _ HV.out.1,?_⟩
    rw [val_set_succ _ _ _ _ (by have := HR.out;omega),Nat.pow_succ,hd2]
    exact down_rel HV.out.2 HE.out
   have HDD := Hid2.mk HD2;clear HD2;by_cases h2 : k + 1 < n
   ·
    have hc1 := hrow.cell (k + 1) (by have := HR.out;omega)
    rw [getD_drop0 rs zs (k + 1) (drop_succ_of _ _ _ HV.out.1),← hy] at hc1;clear hx ex hW hy;go_wp2;go_roundw
    case rel =>
     refine ⟨k + 1,rs.set k (W / 2 ^ s % 4294967296),by omega,by go_num,?_,hrd.set _ _ (Nat.mod_lt _ (by decide)),HDD.out _ rfl,hrow.set k _ _ (by rw [Int.natCast_emod,Int.natCast_ediv,Int.natCast_pow];rfl),honly.set _ _⟩
     show _ = _
     rw [List.length_set];exact HR.out
    case measure => simp [intOf];omega
   ·
    have hy0 : y = 0 := by rw [hy,List.getD_eq_getElem?_getD,List.getElem?_eq_none (by have := HN.out;omega)];rfl
    have hWx : W = x := by rw [hW,hy0];omega
    subst hWx;clear hx ex hW hy hor hy0;go_wp2;go_roundw
    case rel =>
     refine ⟨k + 1,rs.set k (W / 2 ^ s % 4294967296),by omega,by go_num,?_,hrd.set _ _ (Nat.mod_lt _ (by decide)),HDD.out _ rfl,hrow.set k _ _ (by rw [Int.natCast_emod,Int.natCast_ediv,Int.natCast_pow];rfl),honly.set _ _⟩
     show _ = _
     rw [List.length_set];exact HR.out
    case measure => simp [intOf];omega
  ·
   have hkn : k = n := by omega
   subst hkn;go_wp2;go_end0
   refine ⟨_,rfl,rs,HR.out,hrd,?_,hrow,honly⟩;have h := HV.out.2;rw [List.take_of_length_le (by have := HR.out;omega),List.drop_of_length_le (by have := HN.out;omega)] at h
   simpa [val] using h
theorem knuth_init (B V r l : Nat) : r = V * (B ^ (l + 1) * val B ((List.replicate (l + 1) 0).drop (l + 1))) + r := by
 rw [List.drop_of_length_le (by simp),val_nil,Nat.mul_zero,Nat.mul_zero,Nat.zero_add]
theorem i64_pred (l : Nat) : Value.int .i64 (l : Int) = Value.int .i64 (((l + 1 : Nat) : Int) - 1) := by
 congr 1;omega
theorem len_zeros (l : Nat) : (List.replicate (l + 1) 0).length = l + 1 := List.length_replicate
theorem knuth_round {B V n j U q : Nat} {R Q win' : List Nat} (hR : j + n + 1 ≤ R.length) (hQ : j < Q.length) (hz : val B (R.drop (j + n + 1)) = 0) (hw : val B ((R.drop j).take (n + 1)) = val B (R.drop j))
  (hq : q = val B ((R.drop j).take (n + 1)) / V) (hv : val B win' = val B ((R.drop j).take (n + 1)) % V) (hV : 0 < V) (hU : U = V * (B ^ (j + 1) * val B (Q.drop (j + 1))) + val B R) :
  val B ((R.take j ++ (win' ++ R.drop (j + n + 1))).drop j) < V ∧ U = V * (B ^ j * val B ((Q.set j q).drop j)) + val B (R.take j ++ (win' ++ R.drop (j + n + 1))) := by
 have hl : (R.take j).length = j := by rw [List.length_take];omega
 have e1 : (R.take j ++ (win' ++ R.drop (j + n + 1))).drop j = win' ++ R.drop (j + n + 1) := by
  rw [List.drop_append,List.drop_of_length_le (by omega),hl,Nat.sub_self];rfl
 have e2 : val B (win' ++ R.drop (j + n + 1)) = val B win' := by rw [val_append,hz];omega
 rw [e1,e2,val_append,hl,e2];refine ⟨by rw [hv];exact Nat.mod_lt _ hV,?_⟩
 have e3 := val_cut B R j (by omega)
 have e4 : val B ((Q.set j q).drop j) = q + B * val B (Q.drop (j + 1)) := by
  rw [val_drop_cons _ _ _ (by rw [List.length_set];exact hQ),getD_set _ _ _ _ hQ,if_pos rfl,drop_set_succ]
 rw [e4];refine knuth_step U V _ (val B R) _ (B ^ j) (val B (R.drop j)) q _ B (by rw [← Nat.pow_succ];exact hU) e3 ?_
 rw [hv,hq,hw];exact (Nat.div_add_mod _ _).symm
theorem knuth_last {B V U X Y S : Nat} {R Q : List Nat} (hS : 0 < S) (h : val B (R.drop 0) < V ∧ U = V * (B ^ 0 * val B (Q.drop 0)) + val B R) (hU : U = X * S) (hV : V = Y * S) : val B Q = X / Y ∧ val B R / S = X % Y := by
 rw [List.drop_zero,List.drop_zero,Nat.pow_zero,Nat.one_mul] at h;exact knuth_end hS h.2 h.1 hU hV
set_option maxRecDepth 20000 in
set_option maxHeartbeats 8000000 in
theorem divLimbs_long (m l : Nat) (xs ys : List Nat) (hl : m + 2 + l ≤ 8000) (hxl : xs.length = m + 2 + l) (hyl : ys.length = m + 2) (hdx : Digs 4294967296 xs) (hdy : Digs 4294967296 ys) (nx : Norm xs) (ny : Norm ys) (hge : val 4294967296 ys ≤ val 4294967296 xs) : DivC xs ys := by
 intro ao bo cap cap' w hs ht;have hc : ¬ cmpL 4294967296 xs ys < 0 := fun h => by have := (cmpL_neg (by decide) hdx hdy nx ny).1 h;omega
 have hone : (((m + 2 : Nat) : Int) == 1) = false := by rw [beq_eq_false_iff_ne];omega
 obtain ⟨b,off,rfl,hcs⟩ := ht.open 0 (by omega)
 have hc0 := hcs (m + 1) (by omega)
 obtain ⟨y,hy⟩ : ∃ y,y = ys.getD (m + 1) 0 := ⟨_,rfl⟩;rw [← hy] at hc0;have hyb : y < 4294967296 := hy ▸ hdy.getD (by decide) _
 have hy0 : 0 < y := by
  have := ny.last (by omega)
  rw [hyl] at this;rw [hy];exact Nat.pos_of_ne_zero this
 have hbw : b < w.heap.size := World.block_lt_of_cell? w ⟨b,off + (m + 1),none⟩ hc0;have HY : Hid (y = ys.getD (m + 1) 0) := hy;have HXL : Hid (xs.length = m + 2 + l) := hxl;have HYL : Hid (ys.length = m + 2) := hyl;rw [hxl,hyl];clear hcs hy hge hxl hyl;go_enter Tryz.func114,Tryz.ntmps114;go_wp2_with fail
 refine (cmpLimbs_any ao _ (m + 2 + l) (m + 2) cap cap' xs ys _ HXL.out HYL.out (by omega) (by omega) hs ht hdx hdy).mono ?_
 rintro e w1 ⟨rfl,hb1⟩;have hc1 := (hb1.cell (p := ⟨b,off + (m + 1),none⟩) hbw).trans hc0;go_wp2_with fail
 refine (lead_any y _ hyb hy0).mono ?_;rintro e w1' ⟨s,rfl,hs31,hs1,hs2,rfl⟩;have HS : Hid (y * 2 ^ s < 4294967296 ∧ 2147483648 ≤ y * 2 ^ s) := ⟨hs1,hs2⟩;clear hs1 hs2;go_wp2_with fail
 refine (shiftedUp_any ao (m + 2 + l) cap s xs _ HXL.out (by omega) hs31 (hs.below hb1) hdx).mono ?_
 rintro e w2 ⟨rs0,rfl,hrl0,hrd0,hrv0,hrr0,hb2⟩;have hb12 := hb1.step hb2 (Nat.le_refl _);have HR0 : Hid (rs0.length = m + 2 + l + 1 ∧ val 4294967296 rs0 = val 4294967296 xs * 2 ^ s) := ⟨hrl0,hrv0⟩;clear hrl0 hrv0;go_wp2_with fail
 refine (shiftedUp_any _ (m + 2) cap' s ys _ HYL.out (by omega) hs31 (ht.below hb12) hdy).mono ?_
 rintro e w3 ⟨bs,rfl,hbl,hbd,hbv,hbr,hb3⟩;have hb13 := hb12.step hb3 (Nat.le_refl _);go_wp2_with fail
 refine (trimmed_any (some ⟨w2.heap.size,0,none⟩) (m + 2 + 1) (m + 2 + 1) bs _ hbl (Nat.le_refl _) (by unfold maxLen;omega) hbr.all).mono ?_
 rintro e w3' ⟨rfl,rfl⟩;have HB0 : Hid (bs.length = m + 2 + 1 ∧ val 4294967296 bs = val 4294967296 ys * 2 ^ s) := ⟨hbl,hbv⟩;have hvl : 4294967296 ^ (m + 1) * 2147483648 ≤ val 4294967296 bs ∧ val 4294967296 bs < 4294967296 ^ (m + 2) := by
  have e1 := val_take_succ 4294967296 ys (m + 1) (by have := HYL.out;omega)
  rw [List.take_of_length_le (by have := HYL.out;omega),← HY.out] at e1
  have h2 := val_lt (hdy.take (m + 1));rw [List.length_take,Nat.min_eq_left (by have := HYL.out;omega)] at h2
  rw [hbv,e1];generalize val 4294967296 (ys.take (m + 1)) = A at h2;rw [Nat.pow_succ 4294967296 (m + 1)];generalize 4294967296 ^ (m + 1) = P at h2;have h3 := HS.out;have hp : 0 < 2 ^ s := Nat.pow_pos (by decide)
  have e32 : 2 ^ s * 2 ^ (32 - s) = 4294967296 := by rw [← Nat.pow_add,show s + (32 - s) = 32 by omega]
  refine ⟨?_,?_⟩
  · have h4 : P * 2147483648 ≤ P * (y * 2 ^ s) := Nat.mul_le_mul_left _ h3.2;rw [Nat.add_mul,Nat.mul_assoc P y];omega
  ·
   have h5 : y < 2 ^ (32 - s) := by
    have h6 : 2 ^ s * y < 2 ^ s * 2 ^ (32 - s) := by rw [e32,Nat.mul_comm];exact h3.1
    exact Nat.lt_of_mul_lt_mul_left h6
   have h7 : A + P * y < P * 2 ^ (32 - s) := by
    have : P * (y + 1) ≤ P * 2 ^ (32 - s) := Nat.mul_le_mul_left _ h5;rw [Nat.mul_add] at this;omega
   have h8 := Nat.mul_lt_mul_of_pos_right h7 hp;rw [Nat.mul_assoc,Nat.mul_comm (2 ^ (32 - s)),e32] at h8;exact h8
 have hnl : (trimZ bs).length = m + 2 := by
  refine norm_length (B := 4294967296) (by decide) (norm_trimZ bs) hbd.trimZ (by omega) ?_ ?_
  · rw [val_trimZ,show m + 2 - 1 = m + 1 by omega];omega
  · rw [val_trimZ];exact hvl.2
 have HVL : Hid (4294967296 ^ (m + 1) * 2147483648 ≤ val 4294967296 bs ∧ val 4294967296 bs < 4294967296 ^ (m + 2)) := hvl;have HNL : Hid ((trimZ bs).length = m + 2) := hnl;rw [hnl];clear hbl hbv hvl hnl;go_wp2_with (first
  | (at_make;refine wpList_make_nums _ rfl _ _ 29 rfl 167 .u32 4 Tryz.underlying29 Tryz.info167 _ _ _ _ (l + 1) rfl rfl (by omega) (by omega) (by decide) (by omega) ?_;intro w4 hr4 hb4 hz4))
 have g1 : w.heap.size ≤ w1'.heap.size := hb1.size;have g2 : w1'.heap.size < w2.heap.size := hrr0.lt;have g3 : w2.heap.size < w3'.heap.size := hbr.lt;have hrr4 := (hrr0.keep hb3 g2).keep hb4 (by omega)
 have hbr4 := hbr.keep hb4 g3;have hb14 := hb13.step hb4 (Nat.le_refl _);have HU : Hid (val 4294967296 rs0 = val 4294967296 xs * 2 ^ s) := HR0.out.2;have HST : Hid (val 4294967296 (rs0.drop (l + 1)) < val 4294967296 bs) := by
  show _ < _
  have h2 := val_lt hdx;rw [HXL.out] at h2;exact knuth_start (B := 4294967296) (V := val 4294967296 bs) (X := val 4294967296 xs) (S := 2 ^ s) (la := m + 2 + l) (n := m + 2) (L := l + 1) (r := 2147483648) HR0.out.1 HU.out h2 (by omega) (by omega) (by rw [show m + 2 - 1 = m + 1 by omega];exact HVL.out.1) (Nat.pow_le_pow_right (by decide) hs31) (Nat.pow_pos (by decide))
 clear hrr0 hbr hb2 hb3 hb4 hz4 hb12 hb13 hb1 hc1 hc0 hy0 hyb;go_loopw [12] (fun i wr => ∃ k : Nat,∃ R Q,k ≤ l + 1 ∧ i = .int .i64 ((k : Int) - 1) ∧ Hid (R.length = m + 2 + l + 1) ∧ Hid (Q.length = l + 1) ∧ Digs 4294967296 R ∧ Digs 4294967296 Q ∧
   Hid (val 4294967296 (R.drop k) < val 4294967296 bs ∧ val 4294967296 rs0 = val 4294967296 bs * (4294967296 ^ k * val 4294967296 (Q.drop k)) + val 4294967296 R) ∧
   Row .u32 167 wr w1'.heap.size R ∧ Row .u32 167 wr w3'.heap.size Q ∧ Row .u32 167 wr w2.heap.size bs ∧ Below w.heap.size w wr) (fun i _ => (intOf i + 1).toNat)
 case atStart =>
  have hst : val 4294967296 (rs0.drop (l + 1)) < val 4294967296 bs ∧ val 4294967296 rs0 = val 4294967296 bs * (4294967296 ^ (l + 1) * val 4294967296 ((List.replicate (l + 1) 0).drop (l + 1))) + val 4294967296 rs0 := ⟨HST.out,knuth_init _ _ _ _⟩;exact ⟨l + 1,rs0,List.replicate (l + 1) 0,Nat.le_refl _,i64_pred l,HR0.out.1,len_zeros l,hrd0,Digs.replicate _ _ (by decide),hst,hrr4,hr4,hbr4,hb14⟩
 case round =>
  obtain ⟨k,R,Q,hk,rfl,HRL,HQL,hRd,hQd,HV,hRr,hQr,hBr,hbel⟩ := hrel;by_cases h0 : 0 < k
  ·
   obtain ⟨j,rfl⟩ : ∃ j,k = j + 1 := ⟨k - 1,by omega⟩
   obtain ⟨hz,hw,hlt⟩ := win_facts (B := 4294967296) (V := val 4294967296 bs) (n := m + 2) (R := R) (j := j) (by decide) hRd (by have := HRL.out;omega) (Nat.le_of_lt HVL.out.2) HV.out.1
   have HW : Hid (val 4294967296 (R.drop (j + (m + 2) + 1)) = 0 ∧ val 4294967296 ((R.drop j).take (m + 2 + 1)) = val 4294967296 (R.drop j)) := ⟨hz,hw⟩;have hwin : Win wr w1'.heap.size j (R.take j) ((R.drop j).take (m + 3)) (R.drop (j + (m + 2) + 1)) := by
    refine ⟨?_,by rw [List.length_take];have := HRL.out;omega⟩
    rw [show j + (m + 2) + 1 = j + (m + 3) by omega,← List.drop_drop,List.take_append_drop,List.take_append_drop]
    exact hRr
   have hwl : ((R.drop j).take (m + 3)).length = m + 3 := by rw [List.length_take,List.length_drop];have := HRL.out;omega
   have hlt2 : val 4294967296 ((R.drop j).take (m + 3)) < 4294967296 * val 4294967296 (trimZ bs) := by
    rw [val_trimZ,show m + 3 = m + 2 + 1 by omega,hw];exact hlt
   have htop : 0 < (trimZ bs).getD (m + 1) 0 := by
    have := (norm_trimZ bs).last (by rw [HNL.out];omega)
    rw [HNL.out] at this;exact Nat.pos_of_ne_zero this
   have hstep := fun cap cap' => divStep_any w1'.heap.size j m cap cap' (some ⟨w2.heap.size,0,none⟩) (R.take j) ((R.drop j).take (m + 3)) (R.drop (j + (m + 2) + 1)) (trimZ bs) wr hwin hwl HNL.out (by omega) (trimZ_seg hBr) (by intro a ha;cases ha;exact Nat.ne_of_gt g2) ((hRd.drop j).take _) hbd.trimZ hlt2 htop
   have HSTEP := Hid2.mk hstep;clear hstep hz hw hlt hwin hwl hlt2 htop;go_wp2_with fail
   rw [show j + (m + 2) + 1 - j = m + 3 by omega]
   refine (HSTEP.out _ _).mono ?_;rintro e wq ⟨q,win',rfl,hq,hqv,hwl',hwd',hwv',hwin',hbut⟩;have hQ2 := hbut.row hQr (by omega)
   have hB2 := hbut.row hBr (by omega)
   have hcq := hQ2.cell j (by have := HQL.out;omega)
   have hfq := hQ2.frozen j;obtain ⟨z,hzq⟩ : ∃ z,z = Q.getD j 0 := ⟨_,rfl⟩;rw [← hzq] at hcq;have hbel2 := hbel.trans (hbut.1 _ g1);have HE : Hid2 (val 4294967296 ((R.take j ++ (win' ++ R.drop (j + (m + 2) + 1))).drop j) < val 4294967296 bs ∧ val 4294967296 rs0 = val 4294967296 bs * (4294967296 ^ j * val 4294967296 ((Q.set j q).drop j)) + val 4294967296 (R.take j ++ (win' ++ R.drop (j + (m + 2) + 1)))) := by
    rw [val_trimZ] at hqv hwv';exact ⟨knuth_round (B := 4294967296) (n := m + 2) (by have := HRL.out;omega) (by have := HQL.out;omega) HW.out.1 HW.out.2 hqv hwv' (by have := HV.out.1;omega) HV.out.2⟩
   have HRL2 : Hid ((R.take j ++ (win' ++ R.drop (j + (m + 2) + 1))).length = m + 2 + l + 1) := by
    show _ = _
    have := HRL.out;rw [List.length_append,List.length_append,hwl',List.length_take,List.length_drop];omega
   have hRd2 : Digs 4294967296 (R.take j ++ (win' ++ R.drop (j + (m + 2) + 1))) := (hRd.take j).append (hwd'.append (hRd.drop _));have hR2 := hwin'.1;clear hqv hwl' hwd' hwv' hwin' hzq hbut HSTEP;generalize R.take j ++ (win' ++ R.drop (j + (m + 2) + 1)) = R2 at HE HRL2 hRd2 hR2;go_wp2;go_roundw
   case rel =>
    have hlq : (Q.set j q).length = l + 1 := by rw [List.length_set];exact HQL.out
    exact ⟨j,R2,Q.set j q,by omega,by go_num,HRL2.out,hlq,hRd2,hQd.set _ _ hq,HE.out,(hR2.other (a := ⟨w3'.heap.size,j,none⟩) (by show w3'.heap.size ≠ _;omega) _),hQ2.set j _ _ rfl,(hB2.other (a := ⟨w3'.heap.size,j,none⟩) (by show w3'.heap.size ≠ _;omega) _),hbel2.setCell (p := ⟨w3'.heap.size,j,none⟩) (by show _ ≤ w3'.heap.size;omega) _⟩
   case measure => simp [intOf]
  ·
   have hk0 : k = 0 := by omega
   subst hk0;have HE : Hid2 (val 4294967296 Q = val 4294967296 xs / val 4294967296 ys ∧ val 4294967296 R / 2 ^ s = val 4294967296 xs % val 4294967296 ys) :=
    ⟨knuth_last (B := 4294967296) (Nat.pow_pos (by decide)) HV.out HU.out HB0.out.2⟩
   clear HV;go_wp2_with fail
   refine (shiftDown_any w1'.heap.size (m + 2 + l + 1) (m + 2 + l + 1) s R _ HRL.out (by omega) hs31 hRr hRd).mono ?_
   rintro e wd ⟨v,rfl,rs,hrsl,hrsd,hrsv,hrsr,honly⟩;have hQ2 := honly.row hQr (by omega)
   have HRS : Hid2 (rs.length = m + 2 + l + 1 ∧ val 4294967296 rs = val 4294967296 R / 2 ^ s) := ⟨hrsl,hrsv⟩;clear hrsl hrsv;go_wp2_with fail
   refine (trimmed_any (some ⟨w3'.heap.size,0,none⟩) (l + 1) (l + 1) Q _ HQL.out (Nat.le_refl _) (by unfold maxLen;omega) hQ2.all).mono ?_
   rintro e wd' ⟨rfl,rfl⟩;go_wp2_with fail
   refine (trimmed_any (some ⟨w1'.heap.size,0,none⟩) (m + 2 + l + 1) (m + 2 + l + 1) rs _ HRS.out.1 (Nat.le_refl _) (by unfold maxLen;omega) hrsr.all).mono ?_
   rintro e wd'' ⟨rfl,rfl⟩;go_wp2;go_ret2
   refine ⟨_,_,rfl,?_,?_,hbel.trans (honly.below g1)⟩
   · rw [← HE.out.1];exact LimR.row hQ2 hQd (l + 1) 9001 (by rw [HQL.out];exact Nat.le_refl _) (by omega)
   · rw [← HE.out.2,← HRS.out.2];exact LimR.row hrsr hrsd (m + 2 + l + 1) 9001 (by rw [HRS.out.1];exact Nat.le_refl _) (by omega)
theorem divC_all (xs ys : List Nat) (hl : xs.length ≤ 8000) (hl' : ys.length ≤ 8000) (hy : 0 < ys.length) (hdx : Digs 4294967296 xs) (hdy : Digs 4294967296 ys) (nx : Norm xs) (ny : Norm ys) : DivC xs ys := by
 rcases Nat.lt_or_ge (val 4294967296 xs) (val 4294967296 ys) with h | h
 · exact divLimbs_less xs ys (by omega) (by omega) hdx hdy nx ny h
 ·
  by_cases h1 : ys.length = 1
  · exact divLimbs_one xs ys (by omega) h1 hdx hdy nx ny h
  ·
   have h2 : ys.length ≤ xs.length := by
    rcases Nat.lt_or_ge xs.length ys.length with k | k
    · have := val_lt_of_length hdx ny (by decide) k;omega
    · exact k
   exact divLimbs_long (ys.length - 2) (xs.length - ys.length) xs ys (by omega) (by omega) (by omega) hdx hdy nx ny h
theorem div_h (va vb : Value) (x y q r : Int) (w : World) (ha : AInt w va x) (hb : AInt w vb y) (hy : y ≠ 0) (hq : x.fdiv y = q) (hr : x.fmod y = r) :
  Calls Tryz.prog 122 #[va,vb] w fun e w' => ∃ s a n c s' a' n' c',e = .returned (.tuple #[.agg #[.bool s,.slice a n c],.agg #[.bool s',.slice a' n' c'],.int .i64 0]) ∧ AInt w' (.agg #[.bool s,.slice a n c]) q ∧ AInt w' (.agg #[.bool s',.slice a' n' c']) r ∧ Below w.heap.size w w' := by
 subst hq hr;obtain ⟨na,xs,hx,rfl,hxl⟩ := ha;obtain ⟨nb,ys,hy',rfl,hyl⟩ := hb;have hl1 := AInt.len hx hxl;have hl2 := AInt.len hy' hyl;have hy0 : 0 < ys.length := by
  rcases Nat.eq_zero_or_pos ys.length with h | h
  ·
   exfalso
   have : ys = [] := List.eq_nil_of_length_eq_zero h;subst this;exact hy (by rw [val_nil,sv_zero])
  · exact h
 have hdc : DivC xs ys := by
  obtain ⟨_,_,_,_,_,_,d1,n1,_⟩ := hx;obtain ⟨_,_,_,_,_,_,d2,n2,_⟩ := hy';exact divC_all xs ys (by omega) (by omega) hy0 d1 d2 n1 n2
 refine (div_of va vb na nb xs ys w hx hy' hxl hyl hy0 hdc).mono ?_;rintro e w' ⟨vq,vr,rfl,hq,hr,hb⟩;obtain ⟨s,a,n,c,rfl⟩ := hq.shape;obtain ⟨s',a',n',c',rfl⟩ := hr.shape;exact ⟨s,a,n,c,s',a',n',c',rfl,hq,hr,hb⟩
end Go.Proofs.YteefniagebcagaaGreatDoor
