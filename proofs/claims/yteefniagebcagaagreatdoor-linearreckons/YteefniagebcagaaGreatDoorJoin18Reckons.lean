/- Joined: LinI, LinJ, LinK, LinN: words and contracts; no statement of the seat is proved here. -/
import Derived.Test.YteefniagebcagaaGreatDoorJoin17Reckons
import Derived.Lib.AppendZeros
namespace Go.Proofs.YteefniagebcagaaGreatDoor
open Go.RowKit
set_option linter.unusedVariables false
def coefZ (l : List (Nat × Int)) (v : Int) : Int := if 0 ≤ v then coef l v.toNat else 0
def there (l : List (Nat × Int)) (v : Int) : Prop := ∃ p ∈ l, (p.1 : Int) = v
theorem ahead_there {l : List (Nat × Int)} {v : Int} (h : Rise l) {p : Nat × Int} (hp : p ∈ l) (hv : (p.1 : Int) = v) : ahead l v < l.length ∧ l.getD (ahead l v) (0,0) = p ∧ coefZ l v = p.2 := by
 obtain ⟨j,hj,hje⟩ := List.mem_iff_getElem.1 hp;have ej : l.getD j (0,0) = p := by rw [List.getD_eq_getElem?_getD,List.getElem?_eq_getElem hj,hje];rfl
 have ha : ahead l v = j := by
  refine ahead_is h (by omega) ?_ (Or.inr (by rw [ej];omega))
  rcases Nat.eq_zero_or_pos j with k | k
  · exact Or.inl k
  ·
   right
   have := rise_at h (show j - 1 < j by omega) hj
   rw [ej] at this;omega
 rw [ha];refine ⟨hj,ej,?_⟩;unfold coefZ;rw [if_pos (by omega),← hv,Int.toNat_natCast]
 exact coef_mem h hp
theorem coefZ_not {l : List (Nat × Int)} {v : Int} (h : ¬ there l v) : coefZ l v = 0 := by
 unfold coefZ;split
 · refine coef_out fun q hq e => h ⟨q,hq,by omega⟩
 · rfl
set_option maxRecDepth 20000 in
set_option maxHeartbeats 8000000 in
theorem place_any (vX : Value) (a : List (Nat × Int)) (r v : Int) (w : World) (hX : TermR w vX a r) :
  Calls Tryz.prog 69 #[vX,.int .i64 v] w fun e w' => e = .returned (.tuple #[.int .i64 (ahead a v),.bool (decide (∃ p ∈ a,(p.1 : Int) = v))]) ∧ Below w.heap.size w w' := by
 obtain ⟨pX,qX,rX,xX,aX,nX,cX,rfl,hX⟩ := hX;have oX := (Blk.new w 33 #[.slice pX qX rX,.bool xX,.slice aX nX cX]);have hbw : Below w.heap.size w (w.alloc (.cells #[.slice pX qX rX,.bool xX,.slice aX nX cX] 33 (0,0))) := by go_grown
 replace hX := hX.below hbw;have ltX := oX.lt;have lwX : w.heap.size ≤ w.heap.size := by omega
 go_enter Tryz.func69,Tryz.ntmps69;obtain ⟨Xc0,Xc1,Xc2⟩ := oX.three;obtain ⟨Xk0,Xk1,Xk2⟩ := oX.frozen3;go_wp2_with fail
 refine (search_any _ a v _ hX.pts hX.fine).mono ?_;rintro e w1 ⟨rfl,hb⟩;clear Xc0 Xc1 Xc2 Xk0 Xk1 Xk2;replace oX := oX.stay hb;replace ltX := oX.lt;replace hX := hX.below hb;replace hbw := hbw.step hb (Nat.le_refl _);clear hb;go_wp2;go_ret2
 exact ⟨rfl,hbw⟩
theorem Tryz.und_int : Tryz.prog.underlying 3 = some (.int .i64) := by kernel_rfl
set_option maxRecDepth 20000 in
set_option maxHeartbeats 4000000 in
theorem grow_any (n : Nat) (w : World) (hn : n ≤ 10000) :
  Calls Tryz.prog 131 #[.slice none 0 0,.int .i64 n] w fun e w' => ∃ v,e = .returned v ∧ LstG 3 116 w.heap.size w' v 0 [] ∧ (0 < n → v ≠ .slice none 0 0) ∧ Below w.heap.size w w' := by
 rcases Nat.eq_zero_or_pos n with h0 | h0
 ·
  subst h0;go_enter Tryz.func131,Tryz.ntmps131;go_wp2;go_ret
  exact ⟨_,rfl,LstG.nil _ _ _ _,(fun h => absurd h (by decide)),Below.refl _ _⟩
 ·
  obtain ⟨i,hi,hz0,hz1,hz2⟩ := info_parts Tryz.info_part;have hb48 : n * i.bytes ≤ 281474976710656 := by rw [hz2];omega
  have hr := fun ty => Lib.run_append_nil_zeros (P := Tryz.prog) w 28 3 ty 116 i (.agg #[.int .i64 0,.bool false,.slice none 0 0]) .i64 .i64 Tryz.und_parts Tryz.und_int hi hz0 n h0 (by omega) (by omega) hb48
  have HR : Hid (∀ ty,(Builtin.append_ #[28,3] ty #[.slice none 0 0,.int .i64 n]).run Tryz.prog w = .ok (.slice (some ⟨w.heap.size,0,none⟩) n (grownCap w n 0 116)) (w.drew.alloc (.cells (Builtin.zeroCells (Value.agg #[.int .i64 0,.bool false,.slice none 0 0]).cells n ++ Builtin.zeroCells (Value.agg #[.int .i64 0,.bool false,.slice none 0 0]).cells (grownCap w n 0 116 - n)) 116))) := hr;clear hr hi hz0 hz1 hz2 hb48;have hge := grownCap_ge w n 0 116;have hcm : grownCap w n 0 116 ≤ maxLen := grownCap_le_maxLen w n 0 116 (by unfold maxLen;omega)
  have hbw : Below w.heap.size w (w.drew.alloc (.cells (Builtin.zeroCells (Value.agg #[.int .i64 0,.bool false,.slice none 0 0]).cells n ++ Builtin.zeroCells (Value.agg #[.int .i64 0,.bool false,.slice none 0 0]).cells (grownCap w n 0 116 - n)) 116)) := ⟨rfl,rfl,rfl,by simp,fun k hk => Below.heap_alloc w.drew _ k hk⟩
  have hLS : LstG 3 116 w.heap.size (w.drew.alloc (.cells (Builtin.zeroCells (Value.agg #[.int .i64 0,.bool false,.slice none 0 0]).cells n ++ Builtin.zeroCells (Value.agg #[.int .i64 0,.bool false,.slice none 0 0]).cells (grownCap w n 0 116 - n)) 116)) (.slice (some ⟨w.heap.size,0,none⟩) 0 (grownCap w n 0 116)) 0 [] := by
   refine ⟨rfl,Or.inr ⟨w.heap.size,_,_,rfl,Nat.le_refl _,heap_alloc_new w.drew _,Nat.zero_le _,hcm,?_,by simp,?_⟩⟩
   · rw [Array.size_append,size_zeroCells,size_zeroCells];simp [Value.cells];omega
   ·
    intro u hu;rw [Array.toList_append,List.mem_append] at hu;rcases hu with hu | hu
    · exact nuP _ _ _ _ _ u (mem_zeroCells hu)
    · exact nuP _ _ _ _ _ u (mem_zeroCells hu)
  generalize grownCap w n 0 116 = C at *;generalize w.drew.alloc (.cells (Builtin.zeroCells (Value.agg #[.int .i64 0,.bool false,.slice none 0 0]).cells n ++ Builtin.zeroCells (Value.agg #[.int .i64 0,.bool false,.slice none 0 0]).cells (C - n)) 116) = W1 at *;unfold maxLen at hcm;have hp : (0 : Int) < n := by omega
  go_enter Tryz.func131,Tryz.ntmps131;go_wp2_with (at_builtin;refine Lib.wpList_append_run _ rfl (.tmp 20) (.tmp 21) 28 3 rfl _ _ rfl rfl _ _ (HR.out _) ?_)
  go_ret
  exact ⟨_,rfl,hLS,(fun _ h => by cases h),hbw⟩
def tot (n m k : Nat) : Nat := if k = 0 then 0 else if k = 1 then n else n + m
set_option maxRecDepth 20000 in
set_option maxHeartbeats 8000000 in
theorem concat_any (g o c : Nat) (va vb : Value) (a b : List (Nat × Int)) (w : World) (c0 : w.cell? ⟨g,o,none⟩ = some va) (c1 : w.cell? ⟨g,o + 1,none⟩ = some vb) (hc : 2 ≤ c) (ha : PTS a va w) (hb : PTS b vb w) (hl1 : a.length ≤ 5000) (hl2 : b.length ≤ 5000) :
  Calls Tryz.prog 110 #[.slice (some ⟨g,o,none⟩) 2 c] w fun e w' => ∃ v,e = .returned v ∧ PTS (a ++ b) v w' ∧ Below w.heap.size w w' := by
 obtain ⟨ao,n,cap,rfl,a1,a2,a3,a4,a5⟩ := ha;obtain ⟨bo,m,cap2,rfl,b1,b2,b3,b4,b5⟩ := hb;have HA : Hid (PArr w ao a ∧ a.length = n ∧ (ao = none → cap = 0)) := ⟨a5,a1,a4⟩;have HB : Hid (PArr w bo b ∧ b.length = m ∧ (bo = none → cap2 = 0)) := ⟨b5,b1,b4⟩;have hn : n ≤ 5000 := by omega
 have hm : m ≤ 5000 := by omega
 clear a1 a4 a5 b1 b4 b5 hl1 hl2;unfold maxLen at a3 b3;go_enter Tryz.func110,Tryz.ntmps110;go_wp2;go_loopw [3,11] (fun sz i wl => ∃ k : Nat,k ≤ 2 ∧ i = .int .i64 k ∧ sz = .int .i64 (tot n m k) ∧ Below w.heap.size w wl) (fun _ i _ => 2 - (intOf i).toNat)
 case atStart => exact ⟨0,by omega,rfl,rfl,Below.refl _ _⟩
 case round =>
  rename World => wl
  obtain ⟨k,hk,rfl,rfl,hbw⟩ := hrel;have C0 := (hbw.cell (p := ⟨g,o,none⟩) (World.block_lt_of_cell? w _ c0)).trans c0;have C1 := (hbw.cell (p := ⟨g,o + 1,none⟩) (World.block_lt_of_cell? w _ c1)).trans c1;have hk3 : k = 0 ∨ k = 1 ∨ k = 2 := by omega
  rcases hk3 with rfl | rfl | rfl
  ·
   have t0 : tot n m 0 = 0 := rfl;have H1 : Hid (tot n m 1 = n) := rfl;go_wp2;go_roundw
   case rel => exact ⟨1,by omega,by go_num,by first | (rw [H1.out];done) | (rw [H1.out];go_num),hbw⟩
   case measure => simp [intOf]
  ·
   have t0 : tot n m 1 = n := rfl;have H1 : Hid (tot n m 2 = n + m) := rfl;go_wp2;go_roundw
   case rel => exact ⟨2,by omega,by go_num,by first | (rw [H1.out];done) | (rw [H1.out];go_num),hbw⟩
   case measure => simp [intOf]
  ·
   have t0 : tot n m 2 = n + m := rfl;go_wp2_with fail
   refine (grow_any (n + m) _ (by omega)).mono ?_
   rintro e w1 ⟨v0,rfl,hL0,hne0,hb1⟩;have hsz := hbw.size;replace hbw := hbw.step hb1 (Nat.le_refl _);replace hL0 := hL0.mono (base' := w.heap.size) hsz;clear C0 C1 hb1 t0;go_wp2;go_loopw [6,27] (fun v i wl => ∃ (k : Nat) (xs : List Value),k ≤ 2 ∧ i = .int .i64 k ∧ LstG 3 116 w.heap.size wl v ((if k = 0 then [] else if k = 1 then a else a ++ b) : List (Nat × Int)).length xs ∧ ElsP wl xs (if k = 0 then [] else if k = 1 then a else a ++ b) ∧ (0 < n + m → v ≠ .slice none 0 0) ∧ Below w.heap.size w wl) (fun _ i _ => 2 - (intOf i).toNat)
   case atStart => exact ⟨0,[],by omega,rfl,hL0,ElsP.nil _,hne0,hbw⟩
   case round =>
    rename World => wm
    clear hL0 hne0 hbw;obtain ⟨k,xs,hk,rfl,hL,hE,hne,hbw⟩ := hrel;have C0 := (hbw.cell (p := ⟨g,o,none⟩) (World.block_lt_of_cell? w _ c0)).trans c0;have C1 := (hbw.cell (p := ⟨g,o + 1,none⟩) (World.block_lt_of_cell? w _ c1)).trans c1;have hk3 : k = 0 ∨ k = 1 ∨ k = 2 := by omega
    rcases hk3 with rfl | rfl | rfl
    ·
     replace hL : LstG 3 116 w.heap.size wm _ ([] : List (Nat × Int)).length xs := hL;replace hE : ElsP wm xs [] := hE;go_wp2_with (at_builtin;refine wpList_append_pts rfl _ _ 28 rfl w.heap.size 40 Tryz.und_parts Tryz.info_part (by decide) _ [] xs rfl hL hE a _ _ _ rfl HA.out.2.1 HA.out.2.2 a2 (HA.out.1.below hbw) (by simp;omega) hbw.size ?_;intro v1 w2 ys1 hL1 hE1 hA1 hnn1;have hbw1 := hbw.trans hA1.bel;have hne1 := fun h => hnn1 (hne h);clear hL hE hA1 hnn1)
     go_roundw
     case rel => exact ⟨1,ys1,by omega,by go_num,hL1,hE1,hne1,hbw1⟩
     case measure => simp [intOf]
    ·
     replace hL : LstG 3 116 w.heap.size wm _ a.length xs := hL;replace hE : ElsP wm xs a := hE;go_wp2_with (at_builtin;refine wpList_append_pts rfl _ _ 28 rfl w.heap.size 40 Tryz.und_parts Tryz.info_part (by decide) _ a xs rfl hL hE b _ _ _ rfl HB.out.2.1 HB.out.2.2 b2 (HB.out.1.below hbw) (by have := HA.out.2.1;omega) hbw.size ?_;intro v1 w2 ys1 hL1 hE1 hA1 hnn1;have hbw1 := hbw.trans hA1.bel;have hne1 := fun h => hnn1 (hne h);clear hL hE hA1 hnn1)
     go_roundw
     case rel => exact ⟨2,ys1,by omega,by go_num,hL1,hE1,hne1,hbw1⟩
     case measure => simp [intOf]
    ·
     replace hL : LstG 3 116 w.heap.size wm _ (a ++ b).length xs := hL;replace hE : ElsP wm xs (a ++ b) := hE;obtain ⟨ao9,cap9,rfl,q1,q2,q3,q4⟩ := hL.parr hE rfl;go_wp2;go_ret
     exact ⟨_,rfl,⟨_,_,_,rfl,rfl,q1,q2,q3,q4⟩,hbw⟩
theorem Fine.sub {l m : List (Nat × Int)} (h : Fine l) (hs : m.Sublist l) : Fine m := ⟨List.Pairwise.sublist hs h.1, fun p hp => h.2 p (hs.subset hp)⟩
theorem cutOut_sub (l : List (Nat × Int)) (i : Nat) : (l.take i ++ l.drop (i + 1)).Sublist l := by
 have h : (l.take i ++ l.drop (i + 1)).Sublist (l.take i ++ l.drop i) := by
  refine List.Sublist.append_left ?_ _;rw [← List.drop_drop];exact List.drop_sublist _ _
 rwa [List.take_append_drop] at h
theorem PTS.below {w w' : World} {v : Value} {ps : List (Nat × Int)} (h : PTS ps v w) (hb : Below w.heap.size w w') : PTS ps v w' := mp_pts _ _ _ (KeepP.below hb) h
set_option maxRecDepth 20000 in
set_option maxHeartbeats 8000000 in
theorem without_any (vX : Value) (a : List (Nat × Int)) (r : Int) (i : Nat) (w : World) (hX : TermR w vX a r) (hi : i < a.length) :
  Calls Tryz.prog 71 #[vX,.int .i64 i] w fun e w' => ∃ v,e = .returned v ∧ TermR w' v (a.take i ++ a.drop (i + 1)) r ∧ Below w.heap.size w w' := by
 obtain ⟨pX,qX,rX,xX,aX,nX,cX,rfl,hX⟩ := hX;obtain ⟨gE,oE,_,_,_,_,had,_⟩ := hX.arr.at i hi;subst had;have hq := hX.len;have c1 := hX.cap1;have c2 := hX.cap2;unfold maxLen at c2;have hln := hX.n_le;have HS : Hid (PTS (a.take i) (.slice (some ⟨gE,oE,none⟩) i rX) w ∧ PTS (a.drop (i + 1)) (.slice (if rX = i + 1 then some ⟨gE,oE,none⟩ else some ⟨gE,oE + (i + 1) * 3,none⟩) (qX - (i + 1)) (rX - (i + 1))) w) := by
  refine ⟨⟨_,_,_,rfl,by rw [List.length_take];omega,by omega,by unfold maxLen;omega,(fun e => by cases e),hX.arr.take i⟩,⟨_,_,_,rfl,by rw [List.length_drop];omega,by omega,by unfold maxLen;omega,?_,?_⟩⟩
  · intro e;split at e <;> cases e
  ·
   split
   ·
    have : a.drop (i + 1) = [] := List.drop_eq_nil_of_le (by omega)
    rw [this];exact PArr.nil _ _
   · exact hX.arr.drop (i + 1)
 have HS2 : Hid ((a.take i).length ≤ 5000 ∧ (a.drop (i + 1)).length ≤ 5000) := ⟨by rw [List.length_take];omega,by rw [List.length_drop];omega⟩
 have hi2 : i < qX := by omega
 have hiq : (i : Int) + 1 ≤ qX := by omega
 have hir : (i : Int) ≤ rX := by omega
 have hw : IntKind.i64.wrap ((i : Int) + 1) = (i : Int) + 1 := by rw [IntKind.wrap_i64];omega
 clear hq hi;have oX := ((Blk.new w 33 #[.slice (some ⟨gE,oE,none⟩) qX rX,.bool xX,.slice aX nX cX]).alloc (.cells #[.slice none 0 0,.bool false,.slice none 0 0] 33 (0,0)));have oR := (Blk.new (w.alloc (.cells #[.slice (some ⟨gE,oE,none⟩) qX rX,.bool xX,.slice aX nX cX] 33 (0,0))) 33 #[.slice none 0 0,.bool false,.slice none 0 0]);simp only [World.size_alloc] at oR;have hbw : Below w.heap.size w ((w.alloc (.cells #[.slice (some ⟨gE,oE,none⟩) qX rX,.bool xX,.slice aX nX cX] 33 (0,0))).alloc (.cells #[.slice none 0 0,.bool false,.slice none 0 0] 33 (0,0))) := by go_grown
 replace hX := hX.below hbw;have ltX := oX.lt;have lwX : w.heap.size ≤ w.heap.size := by omega
 have ltR := oR.lt;have lwR : w.heap.size ≤ w.heap.size + 1 := by omega
 go_enter Tryz.func71,Tryz.ntmps71;go_wp2;generalize ((w.alloc (.cells #[.slice (some ⟨gE,oE,none⟩) qX rX,.bool xX,.slice aX nX cX] 33 (0,0))).alloc (.cells #[.slice none 0 0,.bool false,.slice none 0 0] 33 (0,0))) = W0 at hbw oX oR ltX ltR hX ⊢;have geR : w.heap.size ≤ w.heap.size + 1 := lwR;have neRX : w.heap.size + 1 ≠ w.heap.size := by omega
 have hbW := hbw;refine wp_region_M (by kernel_rfl) [5,6,7,8,9,10,11,12,13,14,15,16,17,18] [none,none,none,none,none,some 5,some 6,some 7,some 8,some 9,some 10,some 11,some 12,some 13,some 14,some 15,some 16,some 17,some 18] (fun U => by kernel_rfl) (fun L U wr => Below w.heap.size w wr ∧ KeepP W0 wr ∧ W0.heap.size ≤ wr.heap.size ∧ Blk 33 wr (w.heap.size) #[.slice (some ⟨gE,oE,none⟩) qX rX,.bool xX,.slice aX nX cX] ∧ BlkV 33 wr (w.heap.size + 1) (bif L 14 then U 18 else .agg #[.slice none 0 0,.bool false,.slice none 0 0]) ∧ (L 0 = true → IS (.pointer (some ⟨w.heap.size,0,none⟩)) (U 5) wr) ∧ (L 1 = true → IS (.slice (some ⟨gE,oE,none⟩) qX rX) (U 6) wr) ∧ (L 2 = true → IS (.int .i64 i) (U 7) wr) ∧ (L 3 = true → IS (.slice (some ⟨gE,oE,none⟩) i rX) (U 8) wr) ∧ (L 4 = true → IS (.pointer (some ⟨w.heap.size,0,none⟩)) (U 9) wr) ∧ (L 5 = true → IS (.slice (some ⟨gE,oE,none⟩) qX rX) (U 10) wr) ∧ (L 6 = true → IS (.int .i64 i) (U 11) wr) ∧ (L 7 = true → IS (.int .i64 ((i : Int) + 1)) (U 12) wr) ∧ (L 8 = true → IS (.slice (if rX = i + 1 then some ⟨gE,oE,none⟩ else some ⟨gE,oE + (i + 1) * 3,none⟩) (qX - (i + 1)) (rX - (i + 1))) (U 13) wr) ∧ (L 9 = true → L 10 = false → ARR 2 28 #[.slice (some ⟨gE,oE,none⟩) i rX,.slice (if rX = i + 1 then some ⟨gE,oE,none⟩ else some ⟨gE,oE + (i + 1) * 3,none⟩) (qX - (i + 1)) (rX - (i + 1))] (U 14) wr) ∧ (L 10 = true → PTS (a.take i ++ a.drop (i + 1)) (U 15) wr) ∧ (L 11 = true → IS (.pointer (some ⟨w.heap.size,1,none⟩)) (U 16) wr) ∧ (L 12 = true → IS (.agg #[.bool xX,.slice aX nX cX]) (U 17) wr) ∧ (L 13 = true → TRM (a.take i ++ a.drop (i + 1)) r (U 18) wr) ∧ (L 14 = true → L 13 = true) ∧ (L 10 = true → L 9 = true)) (by kernel_rfl) ?_ ?_ ?_
 · exact fun U => ⟨hbw.drew,KeepP.below (Below.refl _ _).drew,Nat.le_refl _,oX.drew,⟨_,rfl,oR.drew⟩,(fun h => by cases h),(fun h => by cases h),(fun h => by cases h),(fun h => by cases h),(fun h => by cases h),(fun h => by cases h),(fun h => by cases h),(fun h => by cases h),(fun h => by cases h),(fun h => by cases h),(fun h => by cases h),(fun h => by cases h),(fun h => by cases h),(fun h => by cases h),(fun h => by cases h),(fun h => by cases h)⟩
 ·
  refine StepsU.run rfl ?_ ?_
  ·
   intro L U wr hF hlk haf A K hA hK;have HA : Hid (A = putAll _ _ U) := hA;clear hA;simp [Aft,Region.binds] at haf;obtain ⟨fb,fk,fs,oX,rR,f0,f1,f2,f3,f4,f5,f6,f7,f8,f9,f10,f11,f12,f13,s14,b9⟩ := hF;have e2 : A.tmps[2]? = some (.pointer (some ⟨w.heap.size,0,none⟩)) := by rw [HA.out];kernel_rfl
   refine ⟨?_⟩;go_simp;refine hK (upd U 5 (.pointer (some ⟨w.heap.size,0,none⟩))) _ _ ?_ ?_
   · rw [HA.out];kernel_rfl
   · exact ⟨fb,fk,fs,oX,rR,(fun _ => rfl),f1,f2,f3,f4,f5,f6,f7,f8,f9,f10,f11,f12,f13,s14,b9⟩
  refine StepsU.run rfl ?_ ?_
  ·
   intro L U wr hF hlk haf A K hA hK;have HA : Hid (A = putAll _ _ U) := hA;clear hA;simp [Aft,Region.binds] at haf;obtain ⟨fb,fk,fs,oX,rR,f0,f1,f2,f3,f4,f5,f6,f7,f8,f9,f10,f11,f12,f13,s14,b9⟩ := hF;have g0 := f0 (by simp [haf])
   have e5 := rd HA.out 5 (by kernel_rfl) g0
   have c0 := oX.cell 0;simp at c0;refine ⟨?_⟩;go_simp;refine hK (upd U 6 (.slice (some ⟨gE,oE,none⟩) qX rX)) _ _ ?_ ?_
   · rw [HA.out];kernel_rfl
   · exact ⟨fb,fk,fs,oX,rR,f0,(fun _ => rfl),f2,f3,f4,f5,f6,f7,f8,f9,f10,f11,f12,f13,s14,b9⟩
  refine StepsU.run rfl ?_ ?_
  ·
   intro L U wr hF hlk haf A K hA hK;have HA : Hid (A = putAll _ _ U) := hA;clear hA;simp [Aft,Region.binds] at haf;obtain ⟨fb,fk,fs,oX,rR,f0,f1,f2,f3,f4,f5,f6,f7,f8,f9,f10,f11,f12,f13,s14,b9⟩ := hF;have e1 : A.tmps[1]? = some (.int .i64 i) := by rw [HA.out];kernel_rfl
   refine ⟨?_⟩;go_simp;refine hK (upd U 7 (.int .i64 i)) _ _ ?_ ?_
   · rw [HA.out];kernel_rfl
   · exact ⟨fb,fk,fs,oX,rR,f0,f1,(fun _ => rfl),f3,f4,f5,f6,f7,f8,f9,f10,f11,f12,f13,s14,b9⟩
  refine StepsU.run rfl ?_ ?_
  ·
   intro L U wr hF hlk haf A K hA hK;have HA : Hid (A = putAll _ _ U) := hA;clear hA;simp [Aft,Region.binds] at haf;obtain ⟨fb,fk,fs,oX,rR,f0,f1,f2,f3,f4,f5,f6,f7,f8,f9,f10,f11,f12,f13,s14,b9⟩ := hF;have g1 := f1 (by simp [haf])
   have g2 := f2 (by simp [haf])
   have e6 := rd HA.out 6 (by kernel_rfl) g1
   have e7 := rd HA.out 7 (by kernel_rfl) g2
   refine ⟨?_⟩;go_simp;refine hK (upd U 8 (.slice (some ⟨gE,oE,none⟩) i rX)) _ _ ?_ ?_
   · rw [HA.out];kernel_rfl
   · exact ⟨fb,fk,fs,oX,rR,f0,f1,f2,(fun _ => rfl),f4,f5,f6,f7,f8,f9,f10,f11,f12,f13,s14,b9⟩
  refine StepsU.run rfl ?_ ?_
  ·
   intro L U wr hF hlk haf A K hA hK;have HA : Hid (A = putAll _ _ U) := hA;clear hA;simp [Aft,Region.binds] at haf;obtain ⟨fb,fk,fs,oX,rR,f0,f1,f2,f3,f4,f5,f6,f7,f8,f9,f10,f11,f12,f13,s14,b9⟩ := hF;have e2 : A.tmps[2]? = some (.pointer (some ⟨w.heap.size,0,none⟩)) := by rw [HA.out];kernel_rfl
   refine ⟨?_⟩;go_simp;refine hK (upd U 9 (.pointer (some ⟨w.heap.size,0,none⟩))) _ _ ?_ ?_
   · rw [HA.out];kernel_rfl
   · exact ⟨fb,fk,fs,oX,rR,f0,f1,f2,f3,(fun _ => rfl),f5,f6,f7,f8,f9,f10,f11,f12,f13,s14,b9⟩
  refine StepsU.run rfl ?_ ?_
  ·
   intro L U wr hF hlk haf A K hA hK;have HA : Hid (A = putAll _ _ U) := hA;clear hA;simp [Aft,Region.binds] at haf;obtain ⟨fb,fk,fs,oX,rR,f0,f1,f2,f3,f4,f5,f6,f7,f8,f9,f10,f11,f12,f13,s14,b9⟩ := hF;have g4 := f4 (by simp [haf])
   have e9 := rd HA.out 9 (by kernel_rfl) g4
   have c0 := oX.cell 0;simp at c0;refine ⟨?_⟩;go_simp;refine hK (upd U 10 (.slice (some ⟨gE,oE,none⟩) qX rX)) _ _ ?_ ?_
   · rw [HA.out];kernel_rfl
   · exact ⟨fb,fk,fs,oX,rR,f0,f1,f2,f3,f4,(fun _ => rfl),f6,f7,f8,f9,f10,f11,f12,f13,s14,b9⟩
  refine StepsU.run rfl ?_ ?_
  ·
   intro L U wr hF hlk haf A K hA hK;have HA : Hid (A = putAll _ _ U) := hA;clear hA;simp [Aft,Region.binds] at haf;obtain ⟨fb,fk,fs,oX,rR,f0,f1,f2,f3,f4,f5,f6,f7,f8,f9,f10,f11,f12,f13,s14,b9⟩ := hF;have e1 : A.tmps[1]? = some (.int .i64 i) := by rw [HA.out];kernel_rfl
   refine ⟨?_⟩;go_simp;refine hK (upd U 11 (.int .i64 i)) _ _ ?_ ?_
   · rw [HA.out];kernel_rfl
   · exact ⟨fb,fk,fs,oX,rR,f0,f1,f2,f3,f4,f5,(fun _ => rfl),f7,f8,f9,f10,f11,f12,f13,s14,b9⟩
  refine StepsU.run rfl ?_ ?_
  ·
   intro L U wr hF hlk haf A K hA hK;have HA : Hid (A = putAll _ _ U) := hA;clear hA;simp [Aft,Region.binds] at haf;obtain ⟨fb,fk,fs,oX,rR,f0,f1,f2,f3,f4,f5,f6,f7,f8,f9,f10,f11,f12,f13,s14,b9⟩ := hF;have g6 := f6 (by simp [haf])
   have e11 := rd HA.out 11 (by kernel_rfl) g6
   refine ⟨?_⟩;go_simp;refine hK (upd U 12 (.int .i64 ((i : Int) + 1))) _ _ ?_ ?_
   · rw [HA.out];kernel_rfl
   · exact ⟨fb,fk,fs,oX,rR,f0,f1,f2,f3,f4,f5,f6,(fun _ => rfl),f8,f9,f10,f11,f12,f13,s14,b9⟩
  refine StepsU.run rfl ?_ ?_
  ·
   intro L U wr hF hlk haf A K hA hK;have HA : Hid (A = putAll _ _ U) := hA;clear hA;simp [Aft,Region.binds] at haf;obtain ⟨fb,fk,fs,oX,rR,f0,f1,f2,f3,f4,f5,f6,f7,f8,f9,f10,f11,f12,f13,s14,b9⟩ := hF;have g5 := f5 (by simp [haf])
   have g7 := f7 (by simp [haf])
   have e10 := rd HA.out 10 (by kernel_rfl) g5
   have e12 := rd HA.out 12 (by kernel_rfl) g7
   refine ⟨?_⟩;go_simp;refine hK (upd U 13 (.slice (if rX = i + 1 then some ⟨gE,oE,none⟩ else some ⟨gE,oE + (i + 1) * 3,none⟩) (qX - (i + 1)) (rX - (i + 1)))) _ _ ?_ ?_
   · rw [HA.out];kernel_rfl
   · exact ⟨fb,fk,fs,oX,rR,f0,f1,f2,f3,f4,f5,f6,f7,(fun _ => rfl),f9,f10,f11,f12,f13,s14,b9⟩
  refine StepsU.run rfl ?_ ?_
  ·
   intro L U wr hF hlk haf A K hA hK;have HA : Hid (A = putAll _ _ U) := hA;clear hA;simp [Aft,Region.binds] at haf;obtain ⟨fb,fk,fs,oX,rR,f0,f1,f2,f3,f4,f5,f6,f7,f8,f9,f10,f11,f12,f13,s14,b9⟩ := hF;have g3 := f3 (by simp [haf])
   have g8 := f8 (by simp [haf])
   have e8 := rd HA.out 8 (by kernel_rfl) g3
   have e13 := rd HA.out 13 (by kernel_rfl) g8
   refine ⟨?_⟩;go_simp;have hb := below_new wr (.cells #[.slice (some ⟨gE,oE,none⟩) i rX,.slice (if rX = i + 1 then some ⟨gE,oE,none⟩ else some ⟨gE,oE + (i + 1) * 3,none⟩) (qX - (i + 1)) (rX - (i + 1))] 28 (0,0))
   refine hK (upd U 14 (.slice (some ⟨wr.heap.size,0,none⟩) 2 2)) _ _ ?_ ?_
   · rw [HA.out];kernel_rfl
   · exact ⟨(fb.step hb (Nat.le_refl _)),(fk.trans (KeepP.below hb)),(Nat.le_trans fs hb.size),(oX.stay hb),(rR.stay hb),f0,f1,f2,f3,f4,f5,f6,f7,f8,(fun _ _ => ⟨wr.heap.size,rfl,Blk.new wr 28 #[.slice (some ⟨gE,oE,none⟩) i rX,.slice (if rX = i + 1 then some ⟨gE,oE,none⟩ else some ⟨gE,oE + (i + 1) * 3,none⟩) (qX - (i + 1)) (rX - (i + 1))]⟩),(mvP mp_pts (KeepP.below hb) f10),f11,f12,(mvP mp_trm (KeepP.below hb) f13),s14,(fun _ => rfl)⟩
  refine StepsU.run rfl ?_ ?_
  ·
   intro L U wr hF hlk haf A K hA hK;have HA : Hid (A = putAll _ _ U) := hA;clear hA;simp [Aft,Region.binds] at haf;obtain ⟨fb,fk,fs,oX,rR,f0,f1,f2,f3,f4,f5,f6,f7,f8,f9,f10,f11,f12,f13,s14,b9⟩ := hF;obtain ⟨gb9,hgb9,hBb9⟩ := f9 (by simp [haf]) hlk
   have e14 := rd HA.out 14 (by kernel_rfl) hgb9
   refine ⟨?_⟩;go_simp;refine (concat_any gb9 0 2 _ _ (a.take i) (a.drop (i + 1)) _ (hBb9.cell 0) (hBb9.cell 1) (Nat.le_refl _) (HS.out.1.below fb) (HS.out.2.below fb) HS2.out.1 HS2.out.2).mono ?_;rintro e w1 ⟨v,rfl,hr,hb⟩;go_simp;refine hK (upd U 15 v) _ _ ?_ ?_
   · rw [HA.out];kernel_rfl
   · exact ⟨(fb.step hb (Nat.le_refl _)),(fk.trans (KeepP.below hb)),(Nat.le_trans fs hb.size),(oX.stay hb),(rR.stay hb),f0,f1,f2,f3,f4,f5,f6,f7,f8,(fun _ h => by cases h),(fun _ => hr),f11,f12,(mvP mp_trm (KeepP.below hb) f13),s14,(fun _ => by simp [haf])⟩
  refine StepsU.run rfl ?_ ?_
  ·
   intro L U wr hF hlk haf A K hA hK;have HA : Hid (A = putAll _ _ U) := hA;clear hA;simp [Aft,Region.binds] at haf;obtain ⟨fb,fk,fs,oX,rR,f0,f1,f2,f3,f4,f5,f6,f7,f8,f9,f10,f11,f12,f13,s14,b9⟩ := hF;have e2 : A.tmps[2]? = some (.pointer (some ⟨w.heap.size,0,none⟩)) := by rw [HA.out];kernel_rfl
   refine ⟨?_⟩;go_simp;refine hK (upd U 16 (.pointer (some ⟨w.heap.size,1,none⟩))) _ _ ?_ ?_
   · rw [HA.out];kernel_rfl
   · exact ⟨fb,fk,fs,oX,rR,f0,f1,f2,f3,f4,f5,f6,f7,f8,f9,f10,(fun _ => rfl),f12,f13,s14,b9⟩
  refine StepsU.run rfl ?_ ?_
  ·
   intro L U wr hF hlk haf A K hA hK;have HA : Hid (A = putAll _ _ U) := hA;clear hA;simp [Aft,Region.binds] at haf;obtain ⟨fb,fk,fs,oX,rR,f0,f1,f2,f3,f4,f5,f6,f7,f8,f9,f10,f11,f12,f13,s14,b9⟩ := hF;have g11 := f11 (by simp [haf])
   have e16 := rd HA.out 16 (by kernel_rfl) g11
   have c1 := oX.cell 1;have c2 := oX.cell 2;simp at c1;simp at c2;refine ⟨?_⟩;go_simp;refine hK (upd U 17 (.agg #[.bool xX,.slice aX nX cX])) _ _ ?_ ?_
   · rw [HA.out];kernel_rfl
   · exact ⟨fb,fk,fs,oX,rR,f0,f1,f2,f3,f4,f5,f6,f7,f8,f9,f10,f11,(fun _ => rfl),f13,s14,b9⟩
  refine StepsU.run rfl ?_ ?_
  ·
   intro L U wr hF hlk haf A K hA hK;have HA : Hid (A = putAll _ _ U) := hA;clear hA;simp [Aft,Region.binds] at haf;obtain ⟨fb,fk,fs,oX,rR,f0,f1,f2,f3,f4,f5,f6,f7,f8,f9,f10,f11,f12,f13,s14,b9⟩ := hF;have g10 := f10 (by simp [haf])
   have g12 := f12 (by simp [haf])
   obtain ⟨y1,y2,y3,hv,h1,h2,h3,h4,h5⟩ := g10;have e15 := rd HA.out 15 (by kernel_rfl) hv
   have e17 := rd HA.out 17 (by kernel_rfl) g12
   refine ⟨?_⟩;go_simp;have hs14 : L 14 = false := by cases h : L 14 with | false => rfl | true => rw [s14 h] at hlk;cases hlk
   refine hK (upd U 18 (.agg #[.slice y1 y2 y3,.bool xX,.slice aX nX cX])) _ _ ?_ ?_
   · rw [HA.out];kernel_rfl
   · exact ⟨fb,fk,fs,oX,(flip_v (P := fun v => BlkV _ _ _ v) hs14 rR),f0,f1,f2,f3,f4,f5,f6,f7,f8,f9,f10,f11,f12,(fun _ => ⟨_,_,_,_,_,_,_,rfl,⟨h1,h2,h3,h4,h5,hX.rest.keepP fk,hX.fine.sub (cutOut_sub a i)⟩⟩),(fun _ => rfl),b9⟩
  refine StepsU.run rfl ?_ StepsU.nil
  ·
   intro L U wr hF hlk haf A K hA hK;have HA : Hid (A = putAll _ _ U) := hA;clear hA;simp [Aft,Region.binds] at haf;obtain ⟨fb,fk,fs,oX,rR,f0,f1,f2,f3,f4,f5,f6,f7,f8,f9,f10,f11,f12,f13,s14,b9⟩ := hF;have g13 := f13 (by simp [haf])
   obtain ⟨yp,yq,yr,yx,ya,yn,yc,hsrc⟩ := TermR.shape g13;have e18 := rd HA.out 18 (by kernel_rfl) hsrc
   have e4 : A.tmps[4]? = some (.pointer (some ⟨w.heap.size + 1,0,none⟩)) := by rw [HA.out];kernel_rfl
   have rV := rR;rw [hlk,cond_false] at rV;obtain ⟨cs,hcs,hblk⟩ := rV;injection hcs with hcs;subst hcs;have q0 := hblk.frozen 0;have q1 := hblk.frozen 1;have q2 := hblk.frozen 2;have c0 := hblk.cell 0;have c1 := hblk.cell 1;have c2 := hblk.cell 2;simp at c0;simp at c1;simp at c2;have hlt := hblk.lt;refine ⟨?_⟩;go_simp;refine hK U _ _ ?_ ?_
   · exact HA.out
   · exact ⟨(below_stores geR [.slice yp yq yr,.bool yx,.slice ya yn yc] 0 fb),(fk.trans (keepP_stores (by decide) (by decide) [.slice yp yq yr,.bool yx,.slice ya yn yc] 0 hblk (nuT _ _ _ _ _ _ _) (nuT _ _ _ _ _ _ _))),(by simp;exact fs),(oX.otherS neRX 0 [.slice yp yq yr,.bool yx,.slice ya yn yc]),(by simp only [cond_true,Bool.true_or,beq_self_eq_true];exact ⟨_,hsrc,hblk.overS [.slice yp yq yr,.bool yx,.slice ya yn yc] 0 rfl⟩),f0,f1,f2,f3,f4,f5,f6,f7,f8,(fun _ h => by simp [haf] at h),(mvP mp_pts (keepP_stores (by decide) (by decide) [.slice yp yq yr,.bool yx,.slice ya yn yc] 0 hblk (nuT _ _ _ _ _ _ _) (nuT _ _ _ _ _ _ _)) f10),f11,f12,(mvP mp_trm (keepP_stores (by decide) (by decide) [.slice yp yq yr,.bool yx,.slice ya yn yc] 0 hblk (nuT _ _ _ _ _ _ _) (nuT _ _ _ _ _ _ _)) f13),(fun _ => by simp [haf]),b9⟩
 clear hbw oX oR;intro L U1 V1 hall hF;obtain ⟨hbw,fk,fs,oX,rR,f0,f1,f2,f3,f4,f5,f6,f7,f8,f9,f10,f11,f12,f13,s14,b9⟩ := hF;clear s14 b9;have g0 := f0 (hall 0 (by decide))
 have g1 := f1 (hall 1 (by decide))
 have g2 := f2 (hall 2 (by decide))
 have g3 := f3 (hall 3 (by decide))
 have g4 := f4 (hall 4 (by decide))
 have g5 := f5 (hall 5 (by decide))
 have g6 := f6 (hall 6 (by decide))
 have g7 := f7 (hall 7 (by decide))
 have g8 := f8 (hall 8 (by decide))
 have g10 := f10 (hall 10 (by decide))
 have g11 := f11 (hall 11 (by decide))
 have g12 := f12 (hall 12 (by decide))
 have g13 := f13 (hall 13 (by decide))
 rw [hall 14 (by decide),cond_true] at rR
 clear hall f0 f1 f2 f3 f4 f5 f6 f7 f8 f9 f10 f11 f12 f13;replace hX := hX.keepP fk;obtain ⟨csR,hcsR,oR⟩ := rR;obtain ⟨pR,qR,rR,xR,aR,nR,cR,hvR⟩ := TermR.shape g13;have hR : TermR _ _ _ _ := g13;rw [hvR] at hR hcsR;injection hcsR with hcsR;subst hcsR;clear hvR;replace ltR := oR.lt;replace ltX := oX.lt;try clear g0
 try clear g1
 try clear g2
 try clear g3
 try clear g4
 try clear g5
 try clear g6
 try clear g7
 try clear g8
 try clear g10
 try clear g11
 try clear g12
 try clear g13
 clear hbW;simp only [setM_some,setM_none,setM_nil];clear fk fs;obtain ⟨Rc0,Rc1,Rc2⟩ := oR.three;obtain ⟨Rk0,Rk1,Rk2⟩ := oR.frozen3;try simp only []
 try go_at_K
 repeat (first | go_values | go_skip | go_guarded | go_step | go_upon)
 refine bodyPost_ret (v := .agg #[.slice pR qR rR,.bool xR,.slice aR nR cR]) (by simp [results,Tryz.results71,go_sem,Rc0,Rc1,Rc2]) rfl ?_
 exact ⟨_,rfl,hR,hbw⟩
end Go.Proofs.YteefniagebcagaaGreatDoor
