/- Joined: RTrim, RForm, RForm2, RExact: words and contracts; no statement of the seat is proved here. -/
import Derived.Test.YteefniagebcagaaGreatDoorJoin7Reckons
namespace Go.Proofs.YteefniagebcagaaGreatDoor
open Go.RowKit
def RNum (w : World) (v : Value) (z : Int) (L : Nat) : Prop := ∃ neg ds, NumV w v neg ds ∧ z = sv neg (val 10 ds) ∧ ds.length ≤ L
theorem RNum.below {w w' : World} {v : Value} {z : Int} {L : Nat} (h : RNum w v z L) (hb : Below w.heap.size w w') : RNum w' v z L := by
 obtain ⟨neg,ds,h1,h2⟩ := h;exact ⟨neg,ds,h1.below hb,h2⟩
theorem RNum.store2 {w : World} {v : Value} {z : Int} {L : Nat} (h : RNum w v z L) {t : TypeId} {b : Nat} {x : Bool} {a : Option Addr} {n c : Nat} (hB : Blk t w b #[.bool x,.slice a n c]) (y : Bool) (a' : Option Addr) (n' c' : Nat) :
  RNum ((w.setCell ⟨b,0,none⟩ (.bool y)).setCell ⟨b,1,none⟩ (.slice a' n' c')) v z L := by
 obtain ⟨neg,ds,h1,h2⟩ := h;exact ⟨neg,ds,h1.store2 hB y a' n' c',h2⟩
theorem RNum.zero (w : World) (L : Nat) : RNum w (.agg #[.bool false, .slice none 0 0]) 0 L := ⟨false, [], NumV.zero w, by simp [sv, val], Nat.zero_le _⟩
theorem RNum.shape {w : World} {v : Value} {z : Int} {L : Nat} (h : RNum w v z L) : ∃ x a n c,v = .agg #[.bool x,.slice a n c] := by
 obtain ⟨neg,ds,⟨ao,cap,h,_⟩,_⟩ := h;exact ⟨neg,ao,ds.length,cap,h⟩
theorem RNum.mono {w : World} {v : Value} {z : Int} {L L' : Nat} (h : RNum w v z L) (hl : L ≤ L') : RNum w v z L' := by
 obtain ⟨neg,ds,h1,h2,h3⟩ := h;exact ⟨neg,ds,h1,h2,Nat.le_trans h3 hl⟩
theorem toobig_any (v : Value) (neg : Bool) (ds : List Nat) (w : World) (hv : NumV w v neg ds) (hl : ds.length ≤ 10000) :
  Calls Tryz.prog 58 #[v] w fun e w' => e = .returned (.bool (decide (lim ≤ val 10 ds))) ∧ Below w.heap.size w w' := by
 have hv' := hv;obtain ⟨ao,cap,_,_,_,_,_,hd,hn,_⟩ := hv';rcases Nat.lt_trichotomy ds.length 309 with h | h | h
 ·
  have := toobig_short hd h;rw [show decide (lim ≤ val 10 ds) = false by simp;omega]
  exact toobig_short_any v neg ds w hv hl h
 · exact toobig_mid_any v neg ds w hv h
 ·
  have := toobig_long hn h;rw [show decide (lim ≤ val 10 ds) = true by simp;omega]
  exact toobig_long_any v neg ds w hv hl h
set_option maxHeartbeats 1000000 in
theorem rtrim_any (neg : Bool) (ao : Option Addr) (n cap : Nat) (xs : List Nat) (w : World) (hn : xs.length = n) (h1 : n ≤ cap) (_h2 : cap ≤ maxLen) (h3 : n ≤ 10000) (hs : Seg .i64 w ao xs) (hd : Digs 10 xs) :
  Calls Tryz.prog 95 #[.bool neg,.slice ao n cap] w fun e w' => ∃ v,e = .returned v ∧ RNum w' v (sv neg (val 10 xs)) n ∧ Below w.heap.size w w' := by
 have HN : Hid (xs.length = n) := hn;clear hn;unfold maxLen at _h2;have hs' : Seg .i64 (w.alloc (.cells #[.bool false,.slice none 0 0] 39)) ao xs := hs.below ((Below.refl _ _).alloc (Nat.le_refl _) _);have B0 := Blk.new w 39 #[.bool false,.slice none 0 0];go_enter Tryz.func95,Tryz.ntmps95;go_wp2;go_loop [5] (fun i => ∃ k : Nat,k ≤ n ∧ i = .int .i64 k ∧ Hid (∀ i,k ≤ i → i < n → xs.getD i 0 = 0)) (fun i => (intOf i).toNat)
 case atStart => exact ⟨_,Nat.le_refl _,rfl,fun i h1 h2 => by omega⟩
 case round =>
  obtain ⟨k,hk,rfl,hz⟩ := hrel;by_cases h0 : 0 < k
  ·
   obtain ⟨b,off,rfl,hc⟩ := hs'.open (k - 1) (by have := HN.out;omega)
   obtain ⟨j,rfl⟩ : ∃ j,k = j + 1 := ⟨k - 1,by omega⟩
   have hcell := hc j (by have := HN.out;omega)
   obtain ⟨x,hx⟩ : ∃ x,x = xs.getD j 0 := ⟨_,rfl⟩;rw [← hx] at hcell;have HX : Hid (x = xs.getD j 0) := hx;clear hc hx;by_cases hx0 : x = 0
   ·
    have hb : ((x : Int) == 0) = true := by rw [beq_iff_eq];omega
    have HX0 : Hid (x = 0) := hx0;clear hx0;go_wp2;go_round
    case rel =>
     refine ⟨j,by omega,rfl,fun i h1 h2 => ?_⟩
     by_cases e : i = j
     · subst e;rw [← HX.out,HX0.out]
     · exact hz.out i (by omega) h2
    case measure => simp [intOf]
   ·
    have hb : ((x : Int) == 0) = false := by rw [beq_eq_false_iff_ne];omega
    have HX0 : Hid (x ≠ 0) := hx0;have hk0 : (((j : Int) + 1) == 0) = false := by rw [beq_eq_false_iff_ne];omega
    clear hx0;have hjn : j + 1 ≤ 10000 := by omega
    have hob : Own .i64 3 (w.heap.size + 1) ((w.alloc (.cells #[.bool false,.slice none 0 0] 39)).alloc (.cells #[] 3)) (.slice (some ⟨w.heap.size + 1,0,none⟩) 0 0) [] := by
     have h := Own.lit (w.alloc (.cells #[.bool false,.slice none 0 0] 39)) .i64 3 [] (w.heap.size + 1) (by simp) (by decide)
     simpa using h
    have B1 : Blk 39 ((w.alloc (.cells #[.bool false,.slice none 0 0] 39)).alloc (.cells #[] 3)) w.heap.size #[.bool false,.slice none 0 0] := B0.alloc _;have hsx : Seg .i64 ((w.alloc (.cells #[.bool false,.slice none 0 0] 39)).alloc (.cells #[] 3)) (some ⟨b,off,none⟩) (xs.take (j + 1)) := (hs'.below ((Below.refl _ _).alloc (Nat.le_refl _) _)).take (j + 1);have HTL : Hid ((xs.take (j + 1)).length = j + 1) := by show _ = _;rw [List.length_take,HN.out];omega
    go_wp2_with (at_builtin;refine wpList_append_seg rfl (.tmp 24) (.tmp 27) 37 rfl (w.heap.size + 1) 3 .i64 8 Tryz.underlying37 Tryz.info3 (by decide) _ [] rfl hob (some ⟨b,off,none⟩) (j + 1) _ rfl (fun h => by cases h) (xs.take (j + 1)) HTL.out hsx (by simp;omega) (by simp) ?_;intro v' w3 hown3 hblk3 hbel3;rw [List.nil_append] at hown3;obtain ⟨ao3,cap3,hv3,q1,q2,hs3,q3⟩ := hown3.open;rw [HTL.out] at hv3 q1;subst hv3;have HTY : Hid (IntB w3 ao3) := IntB.own hown3.ty;have B3 := B1.keep hbel3 (by omega);obtain ⟨c0,c1,f0,f1⟩ := B3.two;clear hblk3 q3)
    refine bodyPost_ret (v := .agg #[.bool neg,.slice ao3 (j + 1) cap3]) (by simp [results,Tryz.results95,go_sem,c0,c1]) rfl ?_
    have e1 : trimZ xs = xs.take (j + 1) := by
     rw [trimZ_eq_of_zeros xs (j + 1) (by have := HN.out;omega) (by rw [HN.out];exact hz.out),take_snoc xs j (by have := HN.out;omega),trimZ_snoc_ne _ _ (by rw [← HX.out];exact HX0.out)]
    have hbw : Below w.heap.size w w3 := (((Below.refl _ _).alloc (Nat.le_refl _) _).alloc (by simp) _).trans (hbel3.mono (by omega))
    refine ⟨_,rfl,⟨neg,xs.take (j + 1),NumV.store2 ⟨ao3,cap3,by rw [HTL.out],by rw [HTL.out];exact q1,q2,?_,hs3,hd.take _,by rw [← e1];exact norm_trimZ _,fun h => by rw [HTL.out] at h;omega,HTY.out⟩ B3 _ _ _ _,?_,by rw [HTL.out];exact hk⟩,below_store2 hbw (Nat.le_refl _) _ _⟩
    ·
     intro h;rw [h] at hs3;rcases hs3 with h' | ⟨_,_,h',_⟩
     · have := congrArg List.length h';rw [HTL.out] at this;simp at this
     · cases h'
    · rw [← e1,val_trimZ]
  ·
   have hk0 : k = 0 := by omega
   subst hk0;go_wp2;refine bodyPost_ret (v := .agg #[.bool false,.slice none 0 0]) (by simp [results,Tryz.results95,go_sem]) rfl ?_
   have e1 : trimZ xs = [] := by rw [trimZ_eq_of_zeros xs 0 (by omega) (by rw [HN.out];exact hz.out)];rfl
   have e2 := val_trimZ 10 xs;rw [e1,val_nil] at e2;refine ⟨_,rfl,?_,(Below.refl _ _).alloc (Nat.le_refl _) _⟩;rw [← e2,sv_zero];exact RNum.zero _ _
theorem good_iff (l : List Nat) (i0 : Nat) (hi : i0 = if pneg l = true then 1 else 0) :
  Good l ↔ i0 < l.length ∧ ¬ (l.getD i0 0 = 48 ∧ 1 < l.length) ∧ ∀ i,i0 ≤ i → i < l.length → 48 ≤ l.getD i 0 ∧ l.getD i 0 ≤ 57 := by
 unfold Good GoodB Plain pbody;by_cases h : pneg l = true
 ·
  rw [if_pos h] at hi ⊢;subst hi;cases l with
  | nil => simp
  | cons x r =>
   simp only [List.drop_succ_cons,List.drop_zero,List.length_cons];constructor
   ·
    rintro ⟨⟨h1,h2,h3⟩,h4⟩;refine ⟨by omega,?_,?_⟩
    ·
     rintro ⟨h5,h6⟩;have h7 : r.getD 0 0 = 48 := by simpa using h5
     apply h4
     refine ⟨h,?_⟩;match r,h1,h2,h7 with
     | [y],_,_,h7 => simp at h7;rw [h7]
     | y :: z :: q,_,h2,h7 => exact absurd ⟨h7,by simp⟩ h2
    ·
     intro i h5 h6;obtain ⟨j,rfl⟩ : ∃ j,i = j + 1 := ⟨i - 1,by omega⟩
     simpa using h3 j (by omega)
   ·
    rintro ⟨h1,h2,h3⟩;refine ⟨⟨by omega,?_,?_⟩,?_⟩
    · rintro ⟨h5,h6⟩;exact h2 ⟨by simpa using h5,by omega⟩
    · intro i h5;simpa using h3 (i + 1) (by omega) (by omega)
    · rintro ⟨_,h5⟩;subst h5;exact h2 ⟨by simp,by simp⟩
 ·
  rw [if_neg h] at hi ⊢;subst hi;constructor
  · rintro ⟨⟨h1,h2,h3⟩,_⟩;exact ⟨h1,h2,fun i _ h5 => h3 i h5⟩
  · rintro ⟨h1,h2,h3⟩;exact ⟨⟨h1,h2,fun i h5 => h3 i (Nat.zero_le _) h5⟩,fun h5 => h h5.1⟩
set_option maxHeartbeats 1000000 in
theorem form_yes (s : ByteArray) (w : World) (hl : s.size ≤ 10000) (hg : Good (bs s)) :
  Calls Tryz.prog 93 #[.string s] w fun e w' => e = .returned (.bool true) ∧ w' = w := by
 by_cases hp : pneg (bs s) = true
 ·
  obtain ⟨g1,g2,g3⟩ := (good_iff (bs s) 1 (by rw [if_pos hp])).1 hg
  rw [bs_length] at g1 g2 g3;have hp' := ((pneg_iff s).1 hp).2;have x0 := bs_get s 0 (by omega)
  have x1 := bs_get s 1 g1;have t0 : (((s[0]'(by omega)).toNat : Int) == 45) = true := by rw [beq_iff_eq];omega
  have t1 : (((s[1]'g1).toNat : Int) == 48) = false := by
   rw [beq_eq_false_iff_ne];intro h;exact g2 ⟨by omega,g1⟩
  have t2 : ((1 : Int) == (s.size : Int)) = false := by rw [beq_eq_false_iff_ne];omega
  have hsz : 0 < s.size := by omega
  have HA : Hid (∀ i,1 ≤ i → i < s.size → 48 ≤ (bs s).getD i 0 ∧ (bs s).getD i 0 ≤ 57) := g3;clear g2 g3 x0 x1 hp' hp hg;go_enter Tryz.func93,Tryz.ntmps93;go_wp2;go_loop [3] (fun i => ∃ k : Nat,1 ≤ k ∧ k ≤ s.size ∧ i = .int .i64 k) (fun i => s.size - (intOf i).toNat)
  case atStart => exact ⟨1,Nat.le_refl _,by omega,rfl⟩
  case round =>
   obtain ⟨k,hk1,hk,rfl⟩ := hrel;by_cases hlt : k < s.size
   ·
    have hx := bs_get s k hlt;have ha := HA.out k hk1 hlt;rw [← hx] at ha;obtain ⟨ha1,ha2⟩ := ha;clear hx;go_wp2;go_round
    case rel => exact ⟨k + 1,by omega,by omega,by go_num⟩
    case measure => simp [intOf];omega
   ·
    go_wp2;go_ret
    exact ⟨rfl,rfl⟩
 ·
  obtain ⟨g1,g2,g3⟩ := (good_iff (bs s) 0 (by rw [if_neg hp])).1 hg
  rw [bs_length] at g1 g2 g3;have x0 := bs_get s 0 g1;have t0 : (((s[0]'g1).toNat : Int) == 45) = false := by
   rw [beq_eq_false_iff_ne];intro h;exact hp ((pneg_iff s).2 ⟨g1,by omega⟩)
  have t2 : ((0 : Int) == (s.size : Int)) = false := by rw [beq_eq_false_iff_ne];omega
  have hcase : ((((s[0]'g1).toNat : Int) == 48) = true ∧ ¬ 1 < s.size) ∨ (((s[0]'g1).toNat : Int) == 48) = false := by
   by_cases e : (s[0]'g1).toNat = 48
   · left;exact ⟨by simp [e],fun h => g2 ⟨by omega,h⟩⟩
   · right;rw [beq_eq_false_iff_ne];omega
  have HA : Hid (∀ i,0 ≤ i → i < s.size → 48 ≤ (bs s).getD i 0 ∧ (bs s).getD i 0 ≤ 57) := g3;clear g2 g3 x0 hp hg;rcases hcase with ⟨hf,hs⟩ | hf
  all_goals
   go_enter Tryz.func93,Tryz.ntmps93;go_wp2;go_loop [3] (fun i => ∃ k : Nat,k ≤ s.size ∧ i = .int .i64 k) (fun i => s.size - (intOf i).toNat)
   case atStart => exact ⟨0,by omega,rfl⟩
   case round =>
    obtain ⟨k,hk,rfl⟩ := hrel;by_cases hlt : k < s.size
    ·
     have hx := bs_get s k hlt;have ha := HA.out k (Nat.zero_le _) hlt;rw [← hx] at ha;obtain ⟨ha1,ha2⟩ := ha;clear hx;go_wp2;go_round
     case rel => exact ⟨k + 1,by omega,by go_num⟩
     case measure => simp [intOf];omega
    ·
     go_wp2;go_ret
     exact ⟨rfl,rfl⟩
set_option maxHeartbeats 1000000 in
theorem form_no (s : ByteArray) (w : World) (hl : s.size ≤ 10000) (hg : ¬ Good (bs s)) :
  Calls Tryz.prog 93 #[.string s] w fun e w' => e = .returned (.bool false) ∧ w' = w := by
 by_cases hp : pneg (bs s) = true
 ·
  have hgi := fun h => hg ((good_iff (bs s) 1 (by rw [if_pos hp])).2 h)
  rw [bs_length] at hgi;obtain ⟨hsz,hp'⟩ := (pneg_iff s).1 hp;have x0 := bs_get s 0 (by omega)
  have t0 : (((s[0]'(by omega)).toNat : Int) == 45) = true := by rw [beq_iff_eq];omega
  clear x0 hp' hp hg;by_cases g1 : 1 < s.size
  ·
   have t2 : ((1 : Int) == (s.size : Int)) = false := by rw [beq_eq_false_iff_ne];omega
   have x1 := bs_get s 1 g1;by_cases e1 : (s[1]'g1).toNat = 48
   ·
    have t1 : (((s[1]'g1).toNat : Int) == 48) = true := by rw [beq_iff_eq];omega
    clear x1 e1 hgi;go_enter Tryz.func93,Tryz.ntmps93;go_wp2;go_ret
    exact ⟨rfl,rfl⟩
   ·
    have t1 : (((s[1]'g1).toNat : Int) == 48) = false := by rw [beq_eq_false_iff_ne];omega
    have HA : Hid (¬ ∀ i,1 ≤ i → i < s.size → 48 ≤ (bs s).getD i 0 ∧ (bs s).getD i 0 ≤ 57) := fun h => hgi ⟨g1,fun h' => e1 (by omega),h⟩
    clear x1 e1 hgi;go_enter Tryz.func93,Tryz.ntmps93;go_wp2;go_loop [3] (fun i => ∃ k : Nat,1 ≤ k ∧ k ≤ s.size ∧ i = .int .i64 k ∧ Hid (∀ i,1 ≤ i → i < k → 48 ≤ (bs s).getD i 0 ∧ (bs s).getD i 0 ≤ 57)) (fun i => s.size - (intOf i).toNat)
    case atStart => exact ⟨1,Nat.le_refl _,by omega,rfl,fun i h1 h2 => by omega⟩
    case round =>
     obtain ⟨k,hk1,hk,rfl,hAD⟩ := hrel;by_cases hlt : k < s.size
     ·
      have HX : Hid ((s[k]'hlt).toNat = (bs s).getD k 0) := bs_get s k hlt;by_cases hd1 : 48 ≤ (s[k]'hlt).toNat
      ·
       by_cases hd2 : (s[k]'hlt).toNat ≤ 57
       ·
        go_wp2;go_round
        case rel =>
         refine ⟨k + 1,by omega,by omega,by go_num,fun i h1 h2 => ?_⟩
         by_cases e : i = k
         · subst e;rw [← HX.out];exact ⟨hd1,hd2⟩
         · exact hAD.out i h1 (by omega)
        case measure => simp [intOf];omega
       ·
        go_wp2;go_ret
        exact ⟨rfl,rfl⟩
      ·
       go_wp2;go_ret
       exact ⟨rfl,rfl⟩
     ·
      have hk' : k = s.size := by omega
      exact absurd (hk' ▸ hAD.out) HA.out
  ·
   have t2 : ((1 : Int) == (s.size : Int)) = true := by rw [beq_iff_eq];omega
   clear hgi;go_enter Tryz.func93,Tryz.ntmps93;go_wp2;go_ret
   exact ⟨rfl,rfl⟩
 ·
  have hgi := fun h => hg ((good_iff (bs s) 0 (by rw [if_neg hp])).2 h)
  rw [bs_length] at hgi;by_cases g1 : 0 < s.size
  ·
   have x0 := bs_get s 0 g1;have t0 : (((s[0]'g1).toNat : Int) == 45) = false := by
    rw [beq_eq_false_iff_ne];intro h;exact hp ((pneg_iff s).2 ⟨g1,by omega⟩)
   have t2 : ((0 : Int) == (s.size : Int)) = false := by rw [beq_eq_false_iff_ne];omega
   clear hp hg;by_cases h2 : (s[0]'g1).toNat = 48 ∧ 1 < s.size
   ·
    obtain ⟨e1,e2⟩ := h2;have hf : (((s[0]'g1).toNat : Int) == 48) = true := by rw [beq_iff_eq];omega
    clear e1 x0 hgi;go_enter Tryz.func93,Tryz.ntmps93;go_wp2;go_ret
    exact ⟨rfl,rfl⟩
   ·
    have hcase : ((((s[0]'g1).toNat : Int) == 48) = true ∧ ¬ 1 < s.size) ∨ (((s[0]'g1).toNat : Int) == 48) = false := by
     by_cases e : (s[0]'g1).toNat = 48
     · left;exact ⟨by simp [e],fun h => h2 ⟨e,h⟩⟩
     · right;rw [beq_eq_false_iff_ne];omega
    have HA : Hid (¬ ∀ i,0 ≤ i → i < s.size → 48 ≤ (bs s).getD i 0 ∧ (bs s).getD i 0 ≤ 57) := fun h => hgi ⟨g1,fun h' => h2 ⟨by omega,h'.2⟩,h⟩
    clear x0 h2 hgi;rcases hcase with ⟨hf,hs⟩ | hf
    all_goals
     go_enter Tryz.func93,Tryz.ntmps93;go_wp2;go_loop [3] (fun i => ∃ k : Nat,k ≤ s.size ∧ i = .int .i64 k ∧ Hid (∀ i,0 ≤ i → i < k → 48 ≤ (bs s).getD i 0 ∧ (bs s).getD i 0 ≤ 57)) (fun i => s.size - (intOf i).toNat)
     case atStart => exact ⟨0,by omega,rfl,fun i h1 h2 => by omega⟩
     case round =>
      obtain ⟨k,hk,rfl,hAD⟩ := hrel;by_cases hlt : k < s.size
      ·
       have HX : Hid ((s[k]'hlt).toNat = (bs s).getD k 0) := bs_get s k hlt;by_cases hd1 : 48 ≤ (s[k]'hlt).toNat
       ·
        by_cases hd2 : (s[k]'hlt).toNat ≤ 57
        ·
         go_wp2;go_round
         case rel =>
          refine ⟨k + 1,by omega,by go_num,fun i h1 h2 => ?_⟩
          by_cases e : i = k
          · subst e;rw [← HX.out];exact ⟨hd1,hd2⟩
          · exact hAD.out i h1 (by omega)
         case measure => simp [intOf];omega
        ·
         go_wp2;go_ret
         exact ⟨rfl,rfl⟩
       ·
        go_wp2;go_ret
        exact ⟨rfl,rfl⟩
      ·
       have hk' : k = s.size := by omega
       exact absurd (hk' ▸ hAD.out) HA.out
  ·
   have hs : s = ByteArray.empty := by
    apply bs_inj
    apply List.eq_nil_of_length_eq_zero
    rw [bs_length];omega
   subst hs;go_enter Tryz.func93,Tryz.ntmps93;go_wp2;go_ret
   exact ⟨rfl,rfl⟩
def digs (l : List Nat) : List Nat := l.reverse.map fun c => c - 48
theorem digs_length (l : List Nat) : (digs l).length = l.length := by simp [digs]
theorem digs_cons (x : Nat) (l : List Nat) : digs (x :: l) = digs l ++ [x - 48] := by simp [digs]
theorem digs_snoc (x : Nat) (l : List Nat) : digs (l ++ [x]) = (x - 48) :: digs l := by simp [digs]
theorem dec_val_aux (n : Nat) : ∀ l : List Nat,l.length = n → dec l = val 10 (digs l) := by
 induction n with
 | zero => intro l h;rw [List.eq_nil_of_length_eq_zero h];rfl
 | succ n ih =>
  intro l h;have e := take_snoc l n (by omega)
  rw [show n + 1 = l.length by omega,List.take_length] at e
  have h1 := ih (l.take n) (by rw [List.length_take];omega)
  rw [e,dec_snoc,digs_snoc,val_cons,h1];omega
theorem dec_val (l : List Nat) : dec l = val 10 (digs l) := dec_val_aux l.length l rfl
theorem digs_digs (l : List Nat) (h : ∀ x,x ∈ l → x ≤ 57) : Digs 10 (digs l) := by
 intro y hy;obtain ⟨x,hx,rfl⟩ := List.mem_map.1 hy;have := h x (List.mem_reverse.1 hx);omega
set_option maxHeartbeats 2000000 in
theorem exact_aux (s : ByteArray) (neg : Bool) (i0 : Nat) (w : World) (hl : s.size ≤ 9000) (hsz : i0 < s.size) (hi0 : i0 ≤ 1) (hneg : neg = true → i0 = 1 ∧ (bs s).getD 0 0 = 45) (hpos : neg = false → i0 = 0)
  (hdg : ∀ i,i0 ≤ i → i < s.size → 48 ≤ (bs s).getD i 0 ∧ (bs s).getD i 0 ≤ 57) :
  Calls Tryz.prog 94 #[.string s] w fun e w' => ∃ v,e = .returned v ∧ RNum w' v (sv neg (dec ((bs s).drop i0))) s.size ∧ Below w.heap.size w w' := by
 have HDG : Hid (∀ i,i0 ≤ i → i < s.size → 48 ≤ (bs s).getD i 0 ∧ (bs s).getD i 0 ≤ 57) := hdg;have HNG : Hid ((neg = true → i0 = 1 ∧ (bs s).getD 0 0 = 45) ∧ (neg = false → i0 = 0)) := ⟨hneg,hpos⟩;have B0 := Blk.new w 39 #[.bool false,.slice none 0 0];have hs0 : 0 < s.size := by omega
 have HT : Hid ((((s[0]'hs0).toNat : Int) == 45) = neg) := by
  show _ = _
  have hx := bs_get s 0 hs0;cases neg with
  | true => rw [beq_iff_eq];have := (hneg rfl).2;omega
  | false =>
   rw [beq_eq_false_iff_ne];have := hdg 0 (by rw [hpos rfl];exact Nat.le_refl _) hs0
   omega
 clear hdg hneg hpos;go_enter Tryz.func94,Tryz.ntmps94;go_wp2;go_loopw [3,4] (fun v i wr => ∃ k : Nat,i0 ≤ k ∧ k ≤ s.size ∧ i = .int .i64 ((k : Int) - 1) ∧ Own .i64 3 (w.heap.size + 1) wr v (digs ((bs s).drop k)) ∧ Below (w.heap.size + 1) (w.alloc (.cells #[.bool false,.slice none 0 0] 39)) wr) (fun _ i _ => (intOf i + 1).toNat)
 case atStart =>
  refine ⟨s.size,by omega,Nat.le_refl _,rfl,?_,Below.refl _ _⟩
  rw [List.drop_of_length_le (by rw [bs_length];exact Nat.le_refl _)]
  exact Own.nil _ _ _ _
 case round =>
  obtain ⟨k,hk0,hk,rfl,hown,hbel⟩ := hrel;by_cases hgo : i0 < k
  ·
   obtain ⟨j,rfl⟩ : ∃ j,k = j + 1 := ⟨k - 1,by omega⟩
   have hlt : j < s.size := by omega
   have HX : Hid ((s[j]'hlt).toNat = (bs s).getD j 0) := bs_get s j hlt;have hd := HDG.out j (by omega) hlt
   rw [← HX.out] at hd;obtain ⟨hd1,hd2⟩ := hd;have t1 : (((s[j]'hlt).toNat : Int) != 45) = true := by rw [bne_iff_ne];omega
   have HZL : Hid ((digs ((bs s).drop (j + 1))).length ≤ 100000) := by show _ ≤ _;rw [digs_length,List.length_drop,bs_length];omega
   have HSZ : Hid (w.heap.size + 1 ≤ wr.heap.size) := by have := hbel.size;simp at this;exact this
   go_wp2_with (at_builtin;refine wpList_append_num rfl (.tmp 18) (.tmp 24) 37 rfl (w.heap.size + 1) 3 .i64 8 Tryz.underlying37 Tryz.info3 (by decide) _ _ rfl hown _ ((s[j]'hlt).toNat - 48) (by omega) rfl HZL.out HSZ.out ?_;intro v' w3 hown3 hblk3 hbel3)
   go_roundw
   case rel =>
    refine ⟨j,by omega,by omega,rfl,?_,hbel.trans hbel3⟩
    rw [drop_cons_getD _ j (by rw [bs_length];exact hlt),digs_cons,← HX.out]
    exact hown3
   case measure => simp [intOf]
  ·
   have hki : k = i0 := by omega
   subst hki;obtain ⟨ao,cap,rfl,q1,q2,hsg,q3⟩ := hown.open;have HLL : Hid ((digs ((bs s).drop k)).length = s.size - k) := by show _ = _;rw [digs_length,List.length_drop,bs_length]
   rw [HLL.out] at q1;rw [HLL.out];have hdd : Digs 10 (digs ((bs s).drop k)) := by
    refine digs_digs _ (fun x hx => ?_)
    obtain ⟨i,hi,rfl⟩ := List.mem_iff_getElem.1 hx;rw [List.length_drop,bs_length] at hi;have := HDG.out (k + i) (by omega) (by omega)
    rw [List.getD_eq_getElem?_getD,List.getElem?_eq_getElem (by rw [bs_length];omega)] at this
    simp only [List.getElem_drop];simpa using this.2
   have B1 := B0.keep hbel (by omega)
   obtain ⟨c0,c1,f0,f1⟩ := B1.two;have hbw : Below w.heap.size w wr := ((Below.refl _ _).alloc (Nat.le_refl _) _).trans (hbel.mono (by omega))
   cases neg with
   | true =>
    have hk1 := (HNG.out.1 rfl).1;subst hk1;have t0 : (((s[0]'hs0).toNat : Int) == 45) = true := HT.out;have t1 : (((s[0]'hs0).toNat : Int) != 45) = false := by rw [bne_eq_false_iff_eq];rw [beq_iff_eq] at t0;exact t0
    go_wp2_with fail
    refine (rtrim_any true ao (s.size - 1) cap (digs ((bs s).drop 1)) _ HLL.out q1 q2 (by omega) hsg hdd).mono ?_
    rintro e w4 ⟨v4,rfl,hn4,hb4⟩;obtain ⟨x,a,n,c',rfl⟩ := hn4.shape;have B2 := B1.stay hb4;clear c0 c1 f0 f1;obtain ⟨c0,c1,f0,f1⟩ := B2.two;go_wp2;refine bodyPost_ret (v := .agg #[.bool x,.slice a n c']) (by simp [results,Tryz.results94,go_sem,c0,c1]) rfl ?_
    refine ⟨_,rfl,?_,below_store2 (hbw.step hb4 (Nat.le_refl _)) (Nat.le_refl _) _ _⟩;rw [dec_val];exact (hn4.mono (Nat.sub_le _ _)).store2 B2 _ _ _ _
   | false =>
    have hk1 := HNG.out.2 rfl;subst hk1;have t0 : (((s[0]'hs0).toNat : Int) == 45) = false := HT.out;go_wp2_with fail
    refine (rtrim_any false ao (s.size - 0) cap (digs ((bs s).drop 0)) _ HLL.out q1 q2 (by omega) hsg hdd).mono ?_
    rintro e w4 ⟨v4,rfl,hn4,hb4⟩;obtain ⟨x,a,n,c',rfl⟩ := hn4.shape;have B2 := B1.stay hb4;clear c0 c1 f0 f1;obtain ⟨c0,c1,f0,f1⟩ := B2.two;go_wp2;refine bodyPost_ret (v := .agg #[.bool x,.slice a n c']) (by simp [results,Tryz.results94,go_sem,c0,c1]) rfl ?_
    refine ⟨_,rfl,?_,below_store2 (hbw.step hb4 (Nat.le_refl _)) (Nat.le_refl _) _ _⟩;rw [dec_val];exact (hn4.mono (Nat.sub_le _ _)).store2 B2 _ _ _ _
end Go.Proofs.YteefniagebcagaaGreatDoor
