/- Joined: LinKS, LinE, LinF, LinH: words and contracts; no statement of the seat is proved here. -/
import Derived.Test.YteefniagebcagaaGreatDoorJoin0Reckons
import Derived.Test.YteefniagebcagaaGreatDoorJoin16Reckons
import Derived.Test.YteefniagebcagaaGreatDoorJoin15Reckons
namespace Go.Proofs.YteefniagebcagaaGreatDoor
open Go Go.RowKit Go.Maps Go.Sort Go.Shelf
set_option linter.unusedVariables false
theorem Tryz.sortsA (m : Nat) : AnyZI.SortsIn Tryz.prog Tryz.sortedA_ren Fence.wide m :=
  ⟨fun blk off cap ss W hH hblk hsz => callsIn_wide.2 (AnyM.slices_Sort_int Tryz.sortA blk off cap ss W hH hblk hsz),
   fun p cap W => callsIn_wide.2 (AnyM.slices_Sort_int_none Tryz.sortA p cap W)⟩
theorem keys_h (b : Nat) (w : World) :
    Calls Tryz.prog 120 #[.map (some b)] w fun e w' => e = .returned (.func (.func 138) #[] #[.pointer (some ⟨w.heap.size, 0, none⟩)]) ∧ w' = w.alloc (.cells #[.map (some b)] 130 (0, 0)) :=
  (callsIn_wide (n := 5)).1 (AnyZI.keys_in Tryz.keysA Fence.wide 5 trivial rfl (some b) w)
theorem keys_mDt (l : List (Nat × Value)) : intKeys (mDt l) = l.map fun p => (p.1 : Int) := by
 unfold mDt intKeys;simp [mE,List.map_map,Function.comp_def];intro a b _;rfl
theorem size_mDt (l : List (Nat × Value)) : Maps.size (mDt l) = l.length := by
 unfold mDt Maps.size;simp
theorem sorted_keys {ss : List Int} {l : List (Nat × Value)} (h : ss.Perm (intKeys (mDt l))) (hr : (l.map (·.1)).Pairwise (· < ·)) : ss.mergeSort (fun x y => decide (x ≤ y)) = l.map fun p => (p.1 : Int) := by
 rw [keys_mDt] at h;have e1 : ss.mergeSort leI = (l.map fun p => (p.1 : Int)).mergeSort leI := mergeSort_of_perm_i h
 refine e1.trans (List.mergeSort_of_pairwise ?_);rw [List.pairwise_map] at hr ⊢;exact hr.imp fun hab => by simp;omega
def KA (w : World) (ao : Option Addr) (ks : List Nat) : Prop := ks = [] ∨ ∃ g cur, ao = some ⟨g, 0, none⟩ ∧ w.heap[g]? = some (.cells cur 3 (0, 0)) ∧ ∀ i, i < ks.length → cur[i]? = some (.int .i64 (ks.getD i 0 : Nat))
theorem KA.at {w : World} {ao : Option Addr} {ks : List Nat} (h : KA w ao ks) (i : Nat) (hi : i < ks.length) : ∃ g,ao = some ⟨g,0,none⟩ ∧ w.cell? ⟨g,i,none⟩ = some (.int .i64 (ks.getD i 0 : Nat)) := by
 rcases h with h | ⟨g,cur,h1,h2,h3⟩
 · rw [h] at hi;simp at hi
 · refine ⟨g,h1,?_⟩;unfold World.cell?;rw [h2];exact h3 i hi
theorem KA.keepN {w w' : World} {ao : Option Addr} {ks : List Nat} (h : KA w ao ks) (hk : KeepN w w') : KA w' ao ks := by
 rcases h with h | ⟨g,cur,h1,h2,h3⟩
 · exact Or.inl h
 · exact Or.inr ⟨g,cur,h1,hk.i g cur h2,h3⟩
def KArr (w : World) (v : Value) (ks : List Nat) : Prop := ∃ ao cap, v = .slice ao ks.length cap ∧ ks.length ≤ cap ∧ cap ≤ maxLen ∧ KA w ao ks
theorem KArr.of {w : World} {base : Nat} {v : Value} {n : Nat} {ks : List Nat} (h : w.ownsRow base 3 1 v n (ks.map fun k => Value.int .i64 (k : Nat))) : KArr w v ks := by
 have hl : ks.length = n := by have := h.1;simpa using this
 subst hl;rcases h.2 with ⟨rfl,h0⟩ | ⟨g,cap,cur,rfl,h1,h2,h3,h4,h5,h6⟩
 · exact ⟨none,0,by rw [h0],by omega,Nat.zero_le _,Or.inl (List.eq_nil_of_length_eq_zero h0)⟩
 ·
  refine ⟨_,cap,rfl,h3,h4,Or.inr ⟨g,cur,rfl,h2,fun i hi => ?_⟩⟩
  have e1 : (cur.toList.take (ks.length * 1))[i]? = some (.int .i64 (ks.getD i 0 : Nat)) := by
   rw [h6,List.getElem?_map,List.getElem?_eq_getElem hi];simp [List.getD_eq_getElem?_getD,List.getElem?_eq_getElem hi]
  rw [List.getElem?_take,if_pos (by omega)] at e1
  simpa using e1
set_option maxHeartbeats 1000000 in
theorem sorted_h (b nn : Nat) (l : List (Nat × Value)) (w : World) (hown : MapR w b nn l) (hl : l.length ≤ 10000) (hr : (l.map (·.1)).Pairwise (· < ·)) :
  Calls Tryz.prog 119 #[.func (.func 138) #[] #[.pointer (some ⟨w.heap.size,0,none⟩)]] (w.alloc (.cells #[.map (some b)] 130 (0,0))) fun e w' => ∃ v,e = .returned v ∧ KArr w' v (l.map (·.1)) ∧ Below w.heap.size w w' := by
 have hbl := World.ownsMap.lt hown;have hown1 : MapR (w.alloc (.cells #[.map (some b)] 130 (0,0))) b nn l := hown.below (below_new _ _);have hseq : SeqGives Fence.wide 2 Tryz.prog 138 #[.pointer (some ⟨w.heap.size,0,none⟩)] encZ (fun ss => ss.Perm (intKeys (mDt l))) (Maps.size (mDt l)) (w.alloc (.cells #[.map (some b)] 130 (0,0))) :=
  AnyZI.keys_gives (ρ := Tryz.keysA_ren) { Tryz.keysA with } Fence.wide _ trivial rfl (by omega) w.heap.size b nn (mDt l) _ (by simp) (by simp) hown1
 have cS := AnyZI.sorted_in Tryz.sortedA Fence.wide 5 trivial trivial trivial trivial rfl (by omega) (Tryz.sortsA _) (enters_of Tryz.func137 (by kernel_rfl) rfl) 138 #[.pointer (some ⟨w.heap.size,0,none⟩)] trivial (enters_of Tryz.func138 (by kernel_rfl) rfl) _ _ (by rw [size_mDt];unfold maxLen;omega) (by rw [size_mDt];omega) _ hseq
 refine ((callsIn_wide (n := 5)).1 cS).mono ?_;rintro e w' ⟨v,ss,rfl,h1,h2,h3,h4⟩;refine ⟨v,rfl,?_,(below_new _ _).trans (h4.mono (by simp))⟩
 rw [sorted_keys h1 hr] at h2;refine KArr.of (n := ss.length) (base := w.heap.size) ?_;rw [List.map_map];rw [List.map_map] at h2;exact ownsRow_base_a h2 (by simp)
theorem sorted_n (b nn : Nat) (l : List (Nat × Value)) (w : World) (hown : MapR w b nn l) (hl : l.length ≤ 10000) (ks : List Nat) (n : Nat) (hk : l.map (·.1) = ks) (hn : ks.length = n) (hr : ks.Pairwise (· < ·)) (B : Nat) (hB : w.heap.size = B) :
  Calls Tryz.prog 119 #[.func (.func 138) #[] #[.pointer (some ⟨B,0,none⟩)]] (w.alloc (.cells #[.map (some b)] 130 (0,0))) fun e w' => ∃ ao cap,e = .returned (.slice ao n cap) ∧ KA w' ao ks ∧ n ≤ cap ∧ cap ≤ maxLen ∧ Below w.heap.size w w' := by
 subst hk hB;refine (sorted_h b nn l w hown hl hr).mono ?_;rintro e w' ⟨v,rfl,⟨ao,cap,rfl,h1,h2,h3⟩,hb⟩;subst hn;exact ⟨ao,cap,rfl,h3,h1,h2,hb⟩
open Go.RowKit
theorem ptake_step (l : List (Nat × Int)) (k : Nat) (f : Nat × Int → Nat × Int) (h : k < l.length) : (l.take (k + 1)).map f = (l.take k).map f ++ [f (l.getD k (0,0))] := by
 rw [List.take_succ_eq_append_getElem h,List.map_append,List.getD_eq_getElem?_getD,List.getElem?_eq_getElem h];rfl
theorem neg_h (va : Value) (x : Int) (w : World) (ha : AInt w va x) :
  Calls Tryz.prog 61 #[va] w fun e w' => ∃ s a n c,e = .returned (.agg #[.bool s,.slice a n c]) ∧ AInt w' (.agg #[.bool s,.slice a n c]) (-x) ∧ Below w.heap.size w w' := by
 refine (neg_any va x w ha).mono ?_;rintro e w' ⟨v,rfl,h,hb⟩;obtain ⟨s,a,n,c,rfl⟩ := h.shape;exact ⟨s,a,n,c,rfl,h,hb⟩
theorem ElsP.step {w : World} {xs : List Value} {ps : List (Nat × Int)} {k p : Nat} {x : Bool} {a : Option Addr} {m c : Nat} {z : Int} (h : ElsP w (xs.take (k * 3)) ps) (hl : ps.length = k) (hx : k * 3 + 3 ≤ xs.length) (hz : AInt w (.agg #[.bool x,.slice a m c]) z) :
  ElsP w ((xs.take (k * 3) ++ [Value.int .i64 p,.bool x,.slice a m c] ++ xs.drop (k * 3 + 3)).take ((k + 1) * 3)) (ps ++ [(p,z)]) := by
 have e : (xs.take (k * 3) ++ [Value.int .i64 p,.bool x,.slice a m c] ++ xs.drop (k * 3 + 3)).take ((k + 1) * 3) = xs.take (k * 3) ++ [.int .i64 p,.bool x,.slice a m c] := by
  rw [show (k + 1) * 3 = (xs.take (k * 3) ++ [Value.int .i64 p,.bool x,.slice a m c]).length by simp only [List.length_append,List.length_take,List.length_cons,List.length_nil];omega]
  exact List.take_left
 rw [e];exact h.app (by rw [List.length_take,hl];omega) (ElsP.one hz)
set_option maxRecDepth 20000 in
set_option maxHeartbeats 8000000 in
theorem lneg_any (vX : Value) (a : List (Nat × Int)) (r : Int) (w : World) (hX : TermR w vX a r) :
  Calls Tryz.prog 18 #[vX] w fun e w' => ∃ v,e = .returned v ∧ TermR w' v (mulP a (-1)) (-r) ∧ Below w.heap.size w w' := by
 obtain ⟨pX,qX,rX,xX,aX,nX,cX,rfl,hX⟩ := hX;have ha0 := hX.arr;have hr0 := hX.rest;have oX := ((Blk.new w 33 #[.slice pX qX rX,.bool xX,.slice aX nX cX]).alloc (.cells #[.slice none 0 0,.bool false,.slice none 0 0] 33 (0,0)));have oR := (Blk.new (w.alloc (.cells #[.slice pX qX rX,.bool xX,.slice aX nX cX] 33 (0,0))) 33 #[.slice none 0 0,.bool false,.slice none 0 0]);simp only [World.size_alloc] at oR;have hbw : Below w.heap.size w ((w.alloc (.cells #[.slice pX qX rX,.bool xX,.slice aX nX cX] 33 (0,0))).alloc (.cells #[.slice none 0 0,.bool false,.slice none 0 0] 33 (0,0))) := by go_grown
 replace hX := hX.below hbw;have ltX := oX.lt;have lwX : w.heap.size ≤ w.heap.size := by omega
 have ltR := oR.lt;have lwR : w.heap.size ≤ w.heap.size + 1 := by omega
 go_enter Tryz.func18,Tryz.ntmps18;have HX : Hid (PArr w pX a) := ha0;have HRS : Hid (AInt w (.agg #[.bool xX,.slice aX nX cX]) r) := hr0;have HFN : Hid (Fine a) := hX.fine;clear hr0;have hlen := hX.n_le;have HLN : Hid (a.length = qX) := hX.len;clear ha0;obtain ⟨Xc0,Xc1,Xc2⟩ := oX.three;obtain ⟨Xk0,Xk1,Xk2⟩ := oX.frozen3;go_wp2_with (at_make;refine wpList_make_g _ rfl _ _ 28 rfl 3 116 (.agg #[.int .i64 0,.bool false,.slice none 0 0]) 40 Tryz.und_parts Tryz.info_part rfl (by decide) (nuP _ _ _ _ _) _ _ _ _ qX qX rfl rfl rfl rfl (by decide) (Nat.le_refl _) (by omega) ?_;intro w1 xs0 hL0 hB0 hS0;have oX1 := oX.stay hB0;have oR1 := oR.stay hB0;obtain ⟨Y0,Y1,Y2⟩ := oX1.three;have hbw1 := hbw.step hB0 (Nat.le_refl _))
 have hL1 : LstG 3 116 w.heap.size w1 (.slice (some ⟨w.heap.size + 1 + 1,0,none⟩) qX qX) qX xs0 := by have h := hL0.mono (base' := w.heap.size) (by simp;omega);simpa using h
 clear hL0;go_loopw [13] (fun i wl => ∃ (k : Nat) (xs : List Value),k ≤ qX ∧ i = .int .i64 k ∧ Blk 33 wl w.heap.size #[.slice pX qX rX,.bool xX,.slice aX nX cX] ∧ Blk 33 wl (w.heap.size + 1) #[.slice none 0 0,.bool false,.slice none 0 0] ∧ LstG 3 116 w.heap.size wl (.slice (some ⟨w.heap.size + 1 + 1,0,none⟩) qX qX) qX xs ∧ ElsP wl (xs.take (k * 3)) (mulP (a.take k) (-1)) ∧ Below w.heap.size w wl) (fun i _ => qX - (intOf i).toNat)
 case atStart => exact ⟨0,xs0,Nat.zero_le _,rfl,oX1,oR1,hL1,by simpa [mulP] using ElsP.nil _,hbw1⟩
 case round =>
  rename World => wl
  clear oX oR hbw oX1 oR1 hL1 hbw1 hB0 hS0 ltX ltR Xc0 Xc1 Xc2 Xk0 Xk1 Xk2 Y0 Y1 Y2 hX;obtain ⟨k,xs,hk,rfl,oX,oR,hL,hE,hbw⟩ := hrel;by_cases h0 : k < qX
  ·
   obtain ⟨gE,oE,sE,aE,mE,cE,had,k1,k2,k3,k4⟩ := HX.out.at k (by rw [HLN.out];exact h0)
   subst had;obtain ⟨pv,hpv⟩ : ∃ x,x = (a.getD k (0,0)).1 := ⟨_,rfl⟩;obtain ⟨pz,hpz⟩ : ∃ x,x = (a.getD k (0,0)).2 := ⟨_,rfl⟩;rw [← hpv] at k1;rw [← hpz] at k4;have HPV : Hid (a.getD k (0,0) = (pv,pz)) := by show _ = _;rw [hpv,hpz]
   clear hpv hpz;have A0 := (hbw.cell (p := ⟨gE,oE + k * 3,none⟩) (World.block_lt_of_cell? w _ k1)).trans k1;have A1 := (hbw.cell (p := ⟨gE,oE + k * 3 + 1,none⟩) (World.block_lt_of_cell? w _ k2)).trans k2;have A2 := (hbw.cell (p := ⟨gE,oE + k * 3 + 2,none⟩) (World.block_lt_of_cell? w _ k3)).trans k3;have hE0 := k4.below hbw;clear k1 k2 k3 k4;have ltX := oX.lt;have ltR := oR.lt;have ltL := (hL.lt _ rfl).2;obtain ⟨Xc0,Xc1,Xc2⟩ := oX.three;obtain ⟨Xk0,Xk1,Xk2⟩ := oX.frozen3;go_wp2;have hn := below_new wl (.cells #[.int .i64 (pv : Nat),.bool sE,.slice aE mE cE] 116 (0,0));have oP := Blk.new wl 116 #[.int .i64 (pv : Nat),.bool sE,.slice aE mE cE];have neXP : w.heap.size ≠ wl.heap.size := by have := ltX;(try simp at this);omega
   have neRP : w.heap.size + 1 ≠ wl.heap.size := by have := ltR;(try simp at this);omega
   have lwP : w.heap.size ≤ wl.heap.size := by have := hbw.size;(try simp at this);omega
   replace oX := oX.stay hn;replace ltX := oX.lt;replace oR := oR.stay hn;replace ltR := oR.lt;replace hE0 := hE0.below hn;replace hL := hL.below hn;replace hbw := hbw.step hn (Nat.le_refl _);clear hn;have ltP := oP.lt;replace hE := hE.keep (KeepN.below (below_new wl (.cells #[.int .i64 (pv : Nat),.bool sE,.slice aE mE cE] 116 (0,0))));clear A0 A1 A2;clear Xc0 Xc1 Xc2 Xk0 Xk1 Xk2;have naX : w.heap.size + 1 + 1 ≠ w.heap.size := by omega
   have naR : w.heap.size + 1 + 1 ≠ w.heap.size + 1 := by omega
   have naP : w.heap.size + 1 + 1 ≠ wl.heap.size := by omega
   have hLg := Nat.le_refl w.heap.size;have HXL := hL.1;have HXL0 : Hid (xs.length = qX * 3) := HXL;clear HXL;generalize (wl.alloc (.cells #[.int .i64 (pv : Nat),.bool sE,.slice aE mE cE] 116 (0,0))) = W at hbw oX oR oP ltX ltR ltP hE0 hL hE ⊢;have hbW := hbw;refine wp_region_M (by kernel_rfl) [18,19,20,21,22,23,24,25,26] [none,none,none,none,none,none,none,none,none,none,none,none,none,none,none,none,none,none,some 18,some 19,some 20,some 21,some 22,some 23,some 24,some 25,some 26] (fun U => by kernel_rfl) (fun L U wr => Below w.heap.size w wr ∧ KeepN W wr ∧ W.heap.size ≤ wr.heap.size ∧ Blk 33 wr (w.heap.size) #[.slice (some ⟨gE,oE,none⟩) qX rX,.bool xX,.slice aX nX cX] ∧ Blk 33 wr (w.heap.size + 1) #[.slice none 0 0,.bool false,.slice none 0 0] ∧ Blk 116 wr (wl.heap.size) #[.int .i64 (pv : Nat),.bool sE,.slice aE mE cE] ∧ (L 9 = false → LstG 3 116 w.heap.size wr (.slice (some ⟨w.heap.size + 1 + 1,0,none⟩) qX qX) qX xs) ∧ (L 9 = true → PUT3 w.heap.size (.slice (some ⟨w.heap.size + 1 + 1,0,none⟩) qX qX) qX xs k pv (-pz) wr) ∧ (L 0 = true → IS (.slice (some ⟨w.heap.size + 1 + 1,0,none⟩) qX qX) (U 18) wr) ∧ (L 1 = true → IS (.int .i64 k) (U 19) wr) ∧ (L 2 = true → IS (.pointer (some ⟨wl.heap.size,0,none⟩)) (U 20) wr) ∧ (L 3 = true → IS (.int .i64 (pv : Nat)) (U 21) wr) ∧ (L 4 = true → IS (.pointer (some ⟨wl.heap.size,1,none⟩)) (U 22) wr) ∧ (L 5 = true → IS (.agg #[.bool sE,.slice aE mE cE]) (U 23) wr) ∧ (L 6 = true → INT (-pz) (U 24) wr) ∧ (L 7 = true → PRT pv (-pz) (U 25) wr) ∧ (L 8 = true → IS (.pointer (some ⟨w.heap.size + 1 + 1,k * 3,none⟩)) (U 26) wr)) (by kernel_rfl) ?_ ?_ ?_
   · exact fun U => ⟨hbw.drew,KeepN.below (Below.refl _ _).drew,Nat.le_refl _,oX.drew,oR.drew,oP.drew,(fun _ => hL.below (Below.refl _ _).drew),(fun h => by cases h),(fun h => by cases h),(fun h => by cases h),(fun h => by cases h),(fun h => by cases h),(fun h => by cases h),(fun h => by cases h),(fun h => by cases h),(fun h => by cases h),(fun h => by cases h)⟩
   ·
    refine StepsU.run rfl ?_ ?_
    ·
     intro L U wr hF hlk haf A K hA hK;have HA : Hid (A = putAll _ _ U) := hA;clear hA;simp [Aft,Region.binds] at haf;obtain ⟨fb,fk,fs,oX,oR,oP,fl,fq,f0,f1,f2,f3,f4,f5,f6,f7,f8⟩ := hF;have e3 : A.tmps[3]? = some (.slice (some ⟨w.heap.size + 1 + 1,0,none⟩) qX qX) := by rw [HA.out];kernel_rfl
     refine ⟨?_⟩;go_simp;refine hK (upd U 18 (.slice (some ⟨w.heap.size + 1 + 1,0,none⟩) qX qX)) _ _ ?_ ?_
     · rw [HA.out];kernel_rfl
     · exact ⟨fb,fk,fs,oX,oR,oP,fl,fq,(fun _ => rfl),f1,f2,f3,f4,f5,f6,f7,f8⟩
    refine StepsU.run rfl ?_ ?_
    ·
     intro L U wr hF hlk haf A K hA hK;have HA : Hid (A = putAll _ _ U) := hA;clear hA;simp [Aft,Region.binds] at haf;obtain ⟨fb,fk,fs,oX,oR,oP,fl,fq,f0,f1,f2,f3,f4,f5,f6,f7,f8⟩ := hF;have e4 : A.tmps[4]? = some (.int .i64 k) := by rw [HA.out];kernel_rfl
     refine ⟨?_⟩;go_simp;refine hK (upd U 19 (.int .i64 k)) _ _ ?_ ?_
     · rw [HA.out];kernel_rfl
     · exact ⟨fb,fk,fs,oX,oR,oP,fl,fq,f0,(fun _ => rfl),f2,f3,f4,f5,f6,f7,f8⟩
    refine StepsU.run rfl ?_ ?_
    ·
     intro L U wr hF hlk haf A K hA hK;have HA : Hid (A = putAll _ _ U) := hA;clear hA;simp [Aft,Region.binds] at haf;obtain ⟨fb,fk,fs,oX,oR,oP,fl,fq,f0,f1,f2,f3,f4,f5,f6,f7,f8⟩ := hF;have e5 : A.tmps[5]? = some (.pointer (some ⟨wl.heap.size,0,none⟩)) := by rw [HA.out];kernel_rfl
     refine ⟨?_⟩;go_simp;refine hK (upd U 20 (.pointer (some ⟨wl.heap.size,0,none⟩))) _ _ ?_ ?_
     · rw [HA.out];kernel_rfl
     · exact ⟨fb,fk,fs,oX,oR,oP,fl,fq,f0,f1,(fun _ => rfl),f3,f4,f5,f6,f7,f8⟩
    refine StepsU.run rfl ?_ ?_
    ·
     intro L U wr hF hlk haf A K hA hK;have HA : Hid (A = putAll _ _ U) := hA;clear hA;simp [Aft,Region.binds] at haf;obtain ⟨fb,fk,fs,oX,oR,oP,fl,fq,f0,f1,f2,f3,f4,f5,f6,f7,f8⟩ := hF;have g2 := f2 (by simp [haf])
     have e20 := rd HA.out 20 (by kernel_rfl) g2
     have c0 := oP.cell 0;simp at c0;refine ⟨?_⟩;go_simp;refine hK (upd U 21 (.int .i64 (pv : Nat))) _ _ ?_ ?_
     · rw [HA.out];kernel_rfl
     · exact ⟨fb,fk,fs,oX,oR,oP,fl,fq,f0,f1,f2,(fun _ => rfl),f4,f5,f6,f7,f8⟩
    refine StepsU.run rfl ?_ ?_
    ·
     intro L U wr hF hlk haf A K hA hK;have HA : Hid (A = putAll _ _ U) := hA;clear hA;simp [Aft,Region.binds] at haf;obtain ⟨fb,fk,fs,oX,oR,oP,fl,fq,f0,f1,f2,f3,f4,f5,f6,f7,f8⟩ := hF;have e5 : A.tmps[5]? = some (.pointer (some ⟨wl.heap.size,0,none⟩)) := by rw [HA.out];kernel_rfl
     refine ⟨?_⟩;go_simp;refine hK (upd U 22 (.pointer (some ⟨wl.heap.size,1,none⟩))) _ _ ?_ ?_
     · rw [HA.out];kernel_rfl
     · exact ⟨fb,fk,fs,oX,oR,oP,fl,fq,f0,f1,f2,f3,(fun _ => rfl),f5,f6,f7,f8⟩
    refine StepsU.run rfl ?_ ?_
    ·
     intro L U wr hF hlk haf A K hA hK;have HA : Hid (A = putAll _ _ U) := hA;clear hA;simp [Aft,Region.binds] at haf;obtain ⟨fb,fk,fs,oX,oR,oP,fl,fq,f0,f1,f2,f3,f4,f5,f6,f7,f8⟩ := hF;have g4 := f4 (by simp [haf])
     have e22 := rd HA.out 22 (by kernel_rfl) g4
     have c1 := oP.cell 1;have c2 := oP.cell 2;simp at c1;simp at c2;refine ⟨?_⟩;go_simp;refine hK (upd U 23 (.agg #[.bool sE,.slice aE mE cE])) _ _ ?_ ?_
     · rw [HA.out];kernel_rfl
     · exact ⟨fb,fk,fs,oX,oR,oP,fl,fq,f0,f1,f2,f3,f4,(fun _ => rfl),f6,f7,f8⟩
    refine StepsU.run rfl ?_ ?_
    ·
     intro L U wr hF hlk haf A K hA hK;have HA : Hid (A = putAll _ _ U) := hA;clear hA;simp [Aft,Region.binds] at haf;obtain ⟨fb,fk,fs,oX,oR,oP,fl,fq,f0,f1,f2,f3,f4,f5,f6,f7,f8⟩ := hF;have g5 := f5 (by simp [haf])
     have e23 := rd HA.out 23 (by kernel_rfl) g5
     refine ⟨?_⟩;go_simp;refine (neg_h _ pz _ (hE0.keepN fk)).mono ?_;rintro e w1 ⟨u1,u2,u3,u4,rfl,hr,hb⟩;go_simp;refine hK (upd U 24 (.agg #[.bool u1,.slice u2 u3 u4])) _ _ ?_ ?_
     · rw [HA.out];kernel_rfl
     · exact ⟨(fb.step hb (Nat.le_refl _)),(fk.trans (KeepN.below hb)),(Nat.le_trans fs hb.size),(oX.stay hb),(oR.stay hb),(oP.stay hb),(fun h => (fl h).below hb),(fun h => (fq h).below hb),f0,f1,f2,f3,f4,f5,(fun _ => hr),(mvN mn_prt (KeepN.below hb) f7),f8⟩
    refine StepsU.run rfl ?_ ?_
    ·
     intro L U wr hF hlk haf A K hA hK;have HA : Hid (A = putAll _ _ U) := hA;clear hA;simp [Aft,Region.binds] at haf;obtain ⟨fb,fk,fs,oX,oR,oP,fl,fq,f0,f1,f2,f3,f4,f5,f6,f7,f8⟩ := hF;have g3 := f3 (by simp [haf])
     have g6 := f6 (by simp [haf])
     obtain ⟨yx,ya,yn,yc,hv⟩ := AInt.shape g6;have hy : AInt _ _ _ := g6;rw [hv] at hy;have e21 := rd HA.out 21 (by kernel_rfl) g3
     have e24 := rd HA.out 24 (by kernel_rfl) hv
     refine ⟨?_⟩;go_simp;refine hK (upd U 25 (.agg #[.int .i64 (pv : Nat),.bool yx,.slice ya yn yc])) _ _ ?_ ?_
     · rw [HA.out];kernel_rfl
     · exact ⟨fb,fk,fs,oX,oR,oP,fl,fq,f0,f1,f2,f3,f4,f5,f6,(fun _ => ⟨yx,ya,yn,yc,rfl,hy⟩),f8⟩
    refine StepsU.run rfl ?_ ?_
    ·
     intro L U wr hF hlk haf A K hA hK;have HA : Hid (A = putAll _ _ U) := hA;clear hA;simp [Aft,Region.binds] at haf;obtain ⟨fb,fk,fs,oX,oR,oP,fl,fq,f0,f1,f2,f3,f4,f5,f6,f7,f8⟩ := hF;have g0 := f0 (by simp [haf])
     have g1 := f1 (by simp [haf])
     have e18 := rd HA.out 18 (by kernel_rfl) g0
     have e19 := rd HA.out 19 (by kernel_rfl) g1
     refine ⟨?_⟩;go_simp;refine hK (upd U 26 (.pointer (some ⟨w.heap.size + 1 + 1,k * 3,none⟩))) _ _ ?_ ?_
     · rw [HA.out];kernel_rfl
     · exact ⟨fb,fk,fs,oX,oR,oP,fl,fq,f0,f1,f2,f3,f4,f5,f6,f7,(fun _ => rfl)⟩
    refine StepsU.run rfl ?_ StepsU.nil
    ·
     intro L U wr hF hlk haf A K hA hK;have HA : Hid (A = putAll _ _ U) := hA;clear hA;simp [Aft,Region.binds] at haf;obtain ⟨fb,fk,fs,oX,oR,oP,fl,fq,f0,f1,f2,f3,f4,f5,f6,f7,f8⟩ := hF;have g7 := f7 (by simp [haf])
     have g8 := f8 (by simp [haf])
     obtain ⟨yx,ya,ym,yc,hv,hzz⟩ := g7;have e25 := rd HA.out 25 (by kernel_rfl) hv
     have e26 := rd HA.out 26 (by kernel_rfl) g8
     have hL := fl hlk;obtain ⟨z0,c0,-⟩ := hL.cell (k * 3) (by have := h0;omega)
     obtain ⟨z1,c1,-⟩ := hL.cell (k * 3 + 1) (by have := h0;omega)
     obtain ⟨z2,c2,-⟩ := hL.cell (k * 3 + 2) (by have := h0;omega)
     have q0 := hL.frozen (k * 3);have q1 := hL.frozen (k * 3 + 1);have q2 := hL.frozen (k * 3 + 2);have hKN := keepN_list hL (k * 3) [.int .i64 pv,.bool yx,.slice ya ym yc] (nuP _ _ _ _ _);have hPU := hL.putA (k * 3) [.int .i64 pv,.bool yx,.slice ya ym yc] (by have := h0;simp;omega) (nuP _ _ _ _ _)
     obtain ⟨-,-,-,hgb⟩ := hL.blkG;have HL2 : Hid (LstG _ _ _ _ _ _ _) := hPU;clear hPU hL;refine ⟨?_⟩;go_simp;refine hK U _ _ ?_ ?_
     · exact HA.out
     · exact ⟨(below_stores (Nat.le_trans hLg hgb) [.int .i64 pv,.bool yx,.slice ya ym yc] (k * 3) fb),(fk.trans hKN),(by simp;exact fs),(oX.otherS naX (k * 3) [.int .i64 pv,.bool yx,.slice ya ym yc]),(oR.otherS naR (k * 3) [.int .i64 pv,.bool yx,.slice ya ym yc]),(oP.otherS naP (k * 3) [.int .i64 pv,.bool yx,.slice ya ym yc]),(fun h => by cases h),(fun _ => ⟨yx,ya,ym,yc,HL2.out,hzz.keepN hKN⟩),f0,f1,f2,f3,f4,f5,(mvN mn_int hKN f6),(mvN mn_prt hKN f7),f8⟩
   clear hbw oX oR oP hL;intro L U V hall hF;obtain ⟨hbw,fk,fs,oX,oR,oP,fl,fq,f0,f1,f2,f3,f4,f5,f6,f7,f8⟩ := hF;clear fl;have g0 := f0 (hall 0 (by decide))
   have g1 := f1 (hall 1 (by decide))
   have g2 := f2 (hall 2 (by decide))
   have g3 := f3 (hall 3 (by decide))
   have g4 := f4 (hall 4 (by decide))
   have g5 := f5 (hall 5 (by decide))
   have g6 := f6 (hall 6 (by decide))
   have g7 := f7 (hall 7 (by decide))
   have g8 := f8 (hall 8 (by decide))
   have hQ := fq (hall 9 (by decide))
   clear fq;clear hall f0 f1 f2 f3 f4 f5 f6 f7 f8;replace ltX := oX.lt;replace ltR := oR.lt;replace ltP := oP.lt;try clear g0
   try clear g1
   try clear g2
   try clear g3
   try clear g4
   try clear g5
   try clear g6
   try clear g7
   try clear g8
   clear hbW;simp only [setM_some,setM_none,setM_nil];obtain ⟨x2,a2,m2,c2,hL2,hz2⟩ := hQ;have hE2 := (hE.keep fk).step (p := pv) (by simp [mulP];have := HLN.out;omega) (by rw [HXL0.out];omega) hz2
   clear hE fk fs oP ltP;go_wp2;go_roundw
   case rel =>
    refine ⟨k + 1,_,by omega,by go_num,oX,oR,hL2,?_,hbw⟩
    have e9 : mulP (a.take (k + 1)) (-1) = mulP (a.take k) (-1) ++ [(pv,-pz)] := by
     unfold mulP;rw [ptake_step a k _ (by rw [HLN.out];exact h0),HPV.out];simp
    rw [e9];exact hE2
   case measure => simp [intOf];omega
  ·
   have hkq : k = qX := by omega
   subst hkq;have hPA := hL.parr (ps := mulP a (-1)) (by have h := hE;rw [List.take_of_length_le (by rw [hL.1];exact Nat.le_refl _),List.take_of_length_le (by rw [HLN.out];exact Nat.le_refl _)] at h;exact h) (by simp [mulP,HLN.out])
   clear hE hk h0;obtain ⟨ao9,cap9,hv9,q1,q2,q3,q4⟩ := hPA;cases hv9
   clear hL;have ltX := oX.lt;have ltR := oR.lt;obtain ⟨Xc0,Xc1,Xc2⟩ := oX.three;obtain ⟨Xk0,Xk1,Xk2⟩ := oX.frozen3;go_wp2_with fail
   refine (neg_h _ r _ (HRS.out.below hbw)).mono ?_;rintro e w1 ⟨xN,aN,nN,cN,rfl,hN,hb⟩;clear Xc0 Xc1 Xc2 Xk0 Xk1 Xk2;replace oX := oX.stay hb;replace ltX := oX.lt;replace oR := oR.stay hb;replace ltR := oR.lt;replace q4 := q4.below hb;replace hbw := hbw.step hb (Nat.le_refl _);clear hb;obtain ⟨Rc0,Rc1,Rc2⟩ := oR.three;obtain ⟨Rk0,Rk1,Rk2⟩ := oR.frozen3;try simp only []
   try go_at_K
   repeat (first | go_values | go_skip | go_guarded | go_step | go_upon)
   refine bodyPost_ret (v := .agg #[.slice (some ⟨w.heap.size + 1 + 1,0,none⟩) k k,.bool xN,.slice aN nN cN]) (by simp [results,Tryz.results18,go_sem,Rc0,Rc1,Rc2]) rfl ?_
   obtain ⟨K1,B1,_⟩ := resT (by decide) (by decide) oR hbw lwR (some ⟨w.heap.size + 1 + 1,0,none⟩) k k xN aN nN cN
   exact ⟨_,rfl,⟨_,_,_,_,_,_,_,rfl,⟨by simp [mulP,HLN.out],q1,q2,q3,q4.keepP K1,hN.keepP K1,negP_fine HFN.out⟩⟩,B1⟩
theorem lcopied_any (vX : Value) (ps : List (Nat × Int)) (r : Int) (w : World) (hX : TermR w vX ps r) :
  Calls Tryz.prog 70 #[vX] w fun e w' => ∃ v,e = .returned v ∧ TermR w' v ps r ∧ Below w.heap.size w w' := by
 have hl : ps.length ≤ 4096 := by obtain ⟨_,_,_,_,_,_,_,_,h⟩ := hX;exact h.fine.len
 refine copied_tn (fun ao n cap w h h1 h2 h3 h4 => clone_any ao n cap ps w h h1 h2 h3 h4 (by omega)) vX r w hX
set_option maxRecDepth 20000 in
set_option maxHeartbeats 8000000 in
theorem lsub_any (vX vY : Value) (a b : List (Nat × Int)) (r s : Int) (w : World) (hX : TermR w vX a r) (hY : TermR w vY b s) :
  Calls Tryz.prog 14 #[vX,vY] w fun e w' => ∃ v c,e = .returned (.tuple #[v,.int .i64 c]) ∧ TRes (tAddOk a (mulP b (-1)) r (-s)) (addP a (mulP b (-1))) (r + -s) v c w' ∧ Below w.heap.size w w' := by
 obtain ⟨pX,qX,rX,xX,aX,nX,cX,rfl,hX⟩ := hX;obtain ⟨pY,qY,rY,xY,aY,nY,cY,rfl,hY⟩ := hY;have oX := (((Blk.new w 33 #[.slice pX qX rX,.bool xX,.slice aX nX cX]).alloc (.cells #[.slice pY qY rY,.bool xY,.slice aY nY cY] 33 (0,0))).alloc (.cells #[.slice none 0 0,.bool false,.slice none 0 0] 33 (0,0)));have oY := ((Blk.new (w.alloc (.cells #[.slice pX qX rX,.bool xX,.slice aX nX cX] 33 (0,0))) 33 #[.slice pY qY rY,.bool xY,.slice aY nY cY]).alloc (.cells #[.slice none 0 0,.bool false,.slice none 0 0] 33 (0,0)));have oR := (Blk.new ((w.alloc (.cells #[.slice pX qX rX,.bool xX,.slice aX nX cX] 33 (0,0))).alloc (.cells #[.slice pY qY rY,.bool xY,.slice aY nY cY] 33 (0,0))) 33 #[.slice none 0 0,.bool false,.slice none 0 0]);simp only [World.size_alloc] at oY oR;have hbw : Below w.heap.size w (((w.alloc (.cells #[.slice pX qX rX,.bool xX,.slice aX nX cX] 33 (0,0))).alloc (.cells #[.slice pY qY rY,.bool xY,.slice aY nY cY] 33 (0,0))).alloc (.cells #[.slice none 0 0,.bool false,.slice none 0 0] 33 (0,0))) := by go_grown
 replace hX := hX.below hbw;replace hY := hY.below hbw;have ltX := oX.lt;have lwX : w.heap.size ≤ w.heap.size := by omega
 have ltY := oY.lt;have lwY : w.heap.size ≤ w.heap.size + 1 := by omega
 have ltR := oR.lt;have lwR : w.heap.size ≤ w.heap.size + 1 + 1 := by omega
 go_enter Tryz.func14,Tryz.ntmps14;go_wp2;by_cases hok : tAddOk a (mulP b (-1)) r (-s)
 ·
  have HOK : Hid (tAddOk a (mulP b (-1)) r (-s)) := hok;clear hok;generalize (((w.alloc (.cells #[.slice pX qX rX,.bool xX,.slice aX nX cX] 33 (0,0))).alloc (.cells #[.slice pY qY rY,.bool xY,.slice aY nY cY] 33 (0,0))).alloc (.cells #[.slice none 0 0,.bool false,.slice none 0 0] 33 (0,0))) = W0 at hbw oX oY oR ltX ltY ltR hX hY ⊢;have geR : w.heap.size ≤ w.heap.size + 1 + 1 := lwR;have neRX : w.heap.size + 1 + 1 ≠ w.heap.size := by omega
  have neRY : w.heap.size + 1 + 1 ≠ w.heap.size + 1 := by omega
  have hbW := hbw;refine wp_region_M (by kernel_rfl) [5,6,7,8,9,10,11] [none,none,none,none,none,some 5,some 6,some 7,some 8,some 9,some 10,some 11] (fun U => by kernel_rfl) (fun L U wr => Below w.heap.size w wr ∧ KeepP W0 wr ∧ W0.heap.size ≤ wr.heap.size ∧ Blk 33 wr (w.heap.size) #[.slice pX qX rX,.bool xX,.slice aX nX cX] ∧ Blk 33 wr (w.heap.size + 1) #[.slice pY qY rY,.bool xY,.slice aY nY cY] ∧ BlkV 33 wr (w.heap.size + 1 + 1) (bif L 6 then U 10 else .agg #[.slice none 0 0,.bool false,.slice none 0 0]) ∧ (L 0 = true → IS (.agg #[.slice pX qX rX,.bool xX,.slice aX nX cX]) (U 6) wr) ∧ (L 1 = true → IS (.agg #[.slice pY qY rY,.bool xY,.slice aY nY cY]) (U 7) wr) ∧ (L 2 = true → TRM (mulP b (-1)) (-s) (U 8) wr) ∧ (L 3 = true → T2 (TRM (addP a (mulP b (-1))) (r + -s)) (IS (.int .i64 0)) (U 9) wr) ∧ (L 4 = true → TRM (addP a (mulP b (-1))) (r + -s) (U 10) wr) ∧ (L 5 = true → IS (.int .i64 0) (U 11) wr) ∧ (L 7 = true → IS (.int .i64 0) (U 5) wr) ∧ (L 6 = true → L 4 = true)) (by kernel_rfl) ?_ ?_ ?_
  · exact fun U => ⟨hbw.drew,KeepP.below (Below.refl _ _).drew,Nat.le_refl _,oX.drew,oY.drew,⟨_,rfl,oR.drew⟩,(fun h => by cases h),(fun h => by cases h),(fun h => by cases h),(fun h => by cases h),(fun h => by cases h),(fun h => by cases h),(fun h => by cases h),(fun h => by cases h)⟩
  ·
   refine StepsU.run rfl ?_ ?_
   ·
    intro L U wr hF hlk haf A K hA hK;have HA : Hid (A = putAll _ _ U) := hA;clear hA;simp [Aft,Region.binds] at haf;obtain ⟨fb,fk,fs,oX,oY,rR,f0,f1,f2,f3,f4,f5,f7,s6⟩ := hF;have e2 : A.tmps[2]? = some (.pointer (some ⟨w.heap.size,0,none⟩)) := by rw [HA.out];kernel_rfl
    have c0 := oX.cell 0;have c1 := oX.cell 1;have c2 := oX.cell 2;simp at c0;simp at c1;simp at c2;refine ⟨?_⟩;go_simp;refine hK (upd U 6 (.agg #[.slice pX qX rX,.bool xX,.slice aX nX cX])) _ _ ?_ ?_
    · rw [HA.out];kernel_rfl
    · exact ⟨fb,fk,fs,oX,oY,rR,(fun _ => rfl),f1,f2,f3,f4,f5,f7,s6⟩
   refine StepsU.run rfl ?_ ?_
   ·
    intro L U wr hF hlk haf A K hA hK;have HA : Hid (A = putAll _ _ U) := hA;clear hA;simp [Aft,Region.binds] at haf;obtain ⟨fb,fk,fs,oX,oY,rR,f0,f1,f2,f3,f4,f5,f7,s6⟩ := hF;have e3 : A.tmps[3]? = some (.pointer (some ⟨w.heap.size + 1,0,none⟩)) := by rw [HA.out];kernel_rfl
    have c0 := oY.cell 0;have c1 := oY.cell 1;have c2 := oY.cell 2;simp at c0;simp at c1;simp at c2;refine ⟨?_⟩;go_simp;refine hK (upd U 7 (.agg #[.slice pY qY rY,.bool xY,.slice aY nY cY])) _ _ ?_ ?_
    · rw [HA.out];kernel_rfl
    · exact ⟨fb,fk,fs,oX,oY,rR,f0,(fun _ => rfl),f2,f3,f4,f5,f7,s6⟩
   refine StepsU.run rfl ?_ ?_
   ·
    intro L U wr hF hlk haf A K hA hK;have HA : Hid (A = putAll _ _ U) := hA;clear hA;simp [Aft,Region.binds] at haf;obtain ⟨fb,fk,fs,oX,oY,rR,f0,f1,f2,f3,f4,f5,f7,s6⟩ := hF;have g1 := f1 (by simp [haf])
    have e7 := rd HA.out 7 (by kernel_rfl) g1
    refine ⟨?_⟩;go_simp;refine (lneg_any _ b s _ (hY.keepP fk).val).mono ?_;rintro e w1 ⟨v,rfl,hr,hb⟩;go_simp;refine hK (upd U 8 v) _ _ ?_ ?_
    · rw [HA.out];kernel_rfl
    · exact ⟨(fb.step hb (Nat.le_refl _)),(fk.trans (KeepP.below hb)),(Nat.le_trans fs hb.size),(oX.stay hb),(oY.stay hb),(rR.stay hb),f0,f1,(fun _ => hr),(mvP (mp_t2 mp_trm mp_is) (KeepP.below hb) f3),(mvP mp_trm (KeepP.below hb) f4),f5,f7,s6⟩
   refine StepsU.run rfl ?_ ?_
   ·
    intro L U wr hF hlk haf A K hA hK;have HA : Hid (A = putAll _ _ U) := hA;clear hA;simp [Aft,Region.binds] at haf;obtain ⟨fb,fk,fs,oX,oY,rR,f0,f1,f2,f3,f4,f5,f7,s6⟩ := hF;have g0 := f0 (by simp [haf])
    have e6 := rd HA.out 6 (by kernel_rfl) g0
    have g2 := f2 (by simp [haf])
    have e8 := rd HA.out 8 (by kernel_rfl) rfl
    refine ⟨?_⟩;go_simp;refine (ladd_any _ _ a (mulP b (-1)) r (-s) _ (hX.keepP fk).val g2).mono ?_;rintro e w1 ⟨v,c,rfl,hM,hb⟩;go_simp;refine hK (upd U 9 (.tuple #[v,.int .i64 c])) _ _ ?_ ?_
    · rw [HA.out];kernel_rfl
    · exact ⟨(fb.step hb (Nat.le_refl _)),(fk.trans (KeepP.below hb)),(Nat.le_trans fs hb.size),(oX.stay hb),(oY.stay hb),(rR.stay hb),f0,f1,(mvP mp_trm (KeepP.below hb) f2),(fun _ => (by rcases hM with ⟨h1,rfl,h3⟩ | ⟨h1,rfl,h3⟩;exact ⟨_,_,rfl,h3,rfl⟩;exact absurd HOK.out h1)),(mvP mp_trm (KeepP.below hb) f4),f5,f7,s6⟩
   refine StepsU.run rfl ?_ ?_
   ·
    intro L U wr hF hlk haf A K hA hK;have HA : Hid (A = putAll _ _ U) := hA;clear hA;simp [Aft,Region.binds] at haf;obtain ⟨fb,fk,fs,oX,oY,rR,f0,f1,f2,f3,f4,f5,f7,s6⟩ := hF;have g3 := f3 (by simp [haf])
    obtain ⟨t0,t1,hT,k0,k1⟩ := g3;have e9 := rd HA.out 9 (by kernel_rfl) hT
    refine ⟨?_⟩;go_simp;have hs6 : L 6 = false := by cases h : L 6 with | false => rfl | true => rw [s6 h] at hlk;cases hlk
    refine hK (upd U 10 t0) _ _ ?_ ?_
    · rw [HA.out];kernel_rfl
    · exact ⟨fb,fk,fs,oX,oY,(flip_v (P := fun v => BlkV _ _ _ v) hs6 rR),f0,f1,f2,f3,(fun _ => k0),f5,f7,(fun _ => rfl)⟩
   refine StepsU.run rfl ?_ ?_
   ·
    intro L U wr hF hlk haf A K hA hK;have HA : Hid (A = putAll _ _ U) := hA;clear hA;simp [Aft,Region.binds] at haf;obtain ⟨fb,fk,fs,oX,oY,rR,f0,f1,f2,f3,f4,f5,f7,s6⟩ := hF;have g3 := f3 (by simp [haf])
    obtain ⟨t0,t1,hT,k0,k1⟩ := g3;have e9 := rd HA.out 9 (by kernel_rfl) hT
    refine ⟨?_⟩;go_simp;refine hK (upd U 11 t1) _ _ ?_ ?_
    · rw [HA.out];kernel_rfl
    · exact ⟨fb,fk,fs,oX,oY,rR,f0,f1,f2,f3,f4,(fun _ => k1),f7,s6⟩
   refine StepsU.run rfl ?_ ?_
   ·
    intro L U wr hF hlk haf A K hA hK;have HA : Hid (A = putAll _ _ U) := hA;clear hA;simp [Aft,Region.binds] at haf;obtain ⟨fb,fk,fs,oX,oY,rR,f0,f1,f2,f3,f4,f5,f7,s6⟩ := hF;have g4 := f4 (by simp [haf])
    obtain ⟨yp,yq,yr,yx,ya,yn,yc,hsrc⟩ := TermR.shape g4;have e10 := rd HA.out 10 (by kernel_rfl) hsrc
    have e4 : A.tmps[4]? = some (.pointer (some ⟨w.heap.size + 1 + 1,0,none⟩)) := by rw [HA.out];kernel_rfl
    have rV := rR;rw [hlk,cond_false] at rV;obtain ⟨cs,hcs,hblk⟩ := rV;injection hcs with hcs;subst hcs;have q0 := hblk.frozen 0;have q1 := hblk.frozen 1;have q2 := hblk.frozen 2;have c0 := hblk.cell 0;have c1 := hblk.cell 1;have c2 := hblk.cell 2;simp at c0;simp at c1;simp at c2;have hlt := hblk.lt;refine ⟨?_⟩;go_simp;refine hK U _ _ ?_ ?_
    · exact HA.out
    · exact ⟨(below_stores geR [.slice yp yq yr,.bool yx,.slice ya yn yc] 0 fb),(fk.trans (keepP_stores (by decide) (by decide) [.slice yp yq yr,.bool yx,.slice ya yn yc] 0 hblk (nuT _ _ _ _ _ _ _) (nuT _ _ _ _ _ _ _))),(by simp;exact fs),(oX.otherS neRX 0 [.slice yp yq yr,.bool yx,.slice ya yn yc]),(oY.otherS neRY 0 [.slice yp yq yr,.bool yx,.slice ya yn yc]),(by simp only [cond_true,Bool.true_or,beq_self_eq_true];exact ⟨_,hsrc,hblk.overS [.slice yp yq yr,.bool yx,.slice ya yn yc] 0 rfl⟩),f0,f1,(mvP mp_trm (keepP_stores (by decide) (by decide) [.slice yp yq yr,.bool yx,.slice ya yn yc] 0 hblk (nuT _ _ _ _ _ _ _) (nuT _ _ _ _ _ _ _)) f2),(mvP (mp_t2 mp_trm mp_is) (keepP_stores (by decide) (by decide) [.slice yp yq yr,.bool yx,.slice ya yn yc] 0 hblk (nuT _ _ _ _ _ _ _) (nuT _ _ _ _ _ _ _)) f3),(mvP mp_trm (keepP_stores (by decide) (by decide) [.slice yp yq yr,.bool yx,.slice ya yn yc] 0 hblk (nuT _ _ _ _ _ _ _) (nuT _ _ _ _ _ _ _)) f4),f5,f7,(fun _ => by simp [haf])⟩
   refine StepsU.run rfl ?_ StepsU.nil
   ·
    intro L U wr hF hlk haf A K hA hK;have HA : Hid (A = putAll _ _ U) := hA;clear hA;simp [Aft,Region.binds] at haf;obtain ⟨fb,fk,fs,oX,oY,rR,f0,f1,f2,f3,f4,f5,f7,s6⟩ := hF;have g5 := f5 (by simp [haf])
    have e11 := rd HA.out 11 (by kernel_rfl) rfl
    refine ⟨?_⟩;go_simp;refine hK (upd U 5 (U 11)) _ _ ?_ ?_
    · rw [HA.out];kernel_rfl
    · exact ⟨fb,fk,fs,oX,oY,rR,f0,f1,f2,f3,f4,f5,(fun _ => g5),s6⟩
  clear hbw oX oY oR;intro L U1 V1 hall hF;obtain ⟨hbw,fk,fs,oX,oY,rR,f0,f1,f2,f3,f4,f5,f7,s6⟩ := hF;clear s6;have g0 := f0 (hall 0 (by decide))
  have g1 := f1 (hall 1 (by decide))
  have g2 := f2 (hall 2 (by decide))
  have g3 := f3 (hall 3 (by decide))
  have g4 := f4 (hall 4 (by decide))
  have g5 := f5 (hall 5 (by decide))
  have g7 := f7 (hall 7 (by decide))
  rw [hall 6 (by decide),cond_true] at rR
  clear hall f0 f1 f2 f3 f4 f5 f7;replace hX := hX.keepP fk;replace hY := hY.keepP fk;obtain ⟨csR,hcsR,oR⟩ := rR;obtain ⟨pR,qR,rR,xR,aR,nR,cR,hvR⟩ := TermR.shape g4;have hR : TermR _ _ _ _ := g4;rw [hvR] at hR hcsR;injection hcsR with hcsR;subst hcsR;clear hvR;replace ltR := oR.lt;replace ltX := oX.lt;replace ltY := oY.lt;try clear g0
  try clear g1
  try clear g2
  try clear g3
  try clear g4
  try clear g5
  clear hbW;simp only [setM_some,setM_none,setM_nil];clear fk fs;have e5 : U1 5 = _ := g7;obtain ⟨Rc0,Rc1,Rc2⟩ := oR.three;obtain ⟨Rk0,Rk1,Rk2⟩ := oR.frozen3;try simp only []
  try go_at_K
  repeat (first | go_values | go_skip | go_guarded | go_step | go_upon)
  refine bodyPost_ret (v := .tuple #[.agg #[.slice pR qR rR,.bool xR,.slice aR nR cR],.int .i64 0]) (by simp [results,Tryz.results14,go_sem,Rc0,Rc1,Rc2,e5]) rfl ?_
  exact ⟨_,_,rfl,Or.inl ⟨HOK.out,rfl,hR⟩,hbw⟩
 ·
  have HOK : Hid (¬ tAddOk a (mulP b (-1)) r (-s)) := hok;clear hok;generalize (((w.alloc (.cells #[.slice pX qX rX,.bool xX,.slice aX nX cX] 33 (0,0))).alloc (.cells #[.slice pY qY rY,.bool xY,.slice aY nY cY] 33 (0,0))).alloc (.cells #[.slice none 0 0,.bool false,.slice none 0 0] 33 (0,0))) = W0 at hbw oX oY oR ltX ltY ltR hX hY ⊢;have geR : w.heap.size ≤ w.heap.size + 1 + 1 := lwR;have neRX : w.heap.size + 1 + 1 ≠ w.heap.size := by omega
  have neRY : w.heap.size + 1 + 1 ≠ w.heap.size + 1 := by omega
  have hbW := hbw;refine wp_region_M (by kernel_rfl) [5,6,7,8,9,10,11] [none,none,none,none,none,some 5,some 6,some 7,some 8,some 9,some 10,some 11] (fun U => by kernel_rfl) (fun L U wr => Below w.heap.size w wr ∧ KeepP W0 wr ∧ W0.heap.size ≤ wr.heap.size ∧ Blk 33 wr (w.heap.size) #[.slice pX qX rX,.bool xX,.slice aX nX cX] ∧ Blk 33 wr (w.heap.size + 1) #[.slice pY qY rY,.bool xY,.slice aY nY cY] ∧ BlkV 33 wr (w.heap.size + 1 + 1) (bif L 6 then U 10 else .agg #[.slice none 0 0,.bool false,.slice none 0 0]) ∧ (L 0 = true → IS (.agg #[.slice pX qX rX,.bool xX,.slice aX nX cX]) (U 6) wr) ∧ (L 1 = true → IS (.agg #[.slice pY qY rY,.bool xY,.slice aY nY cY]) (U 7) wr) ∧ (L 2 = true → TRM (mulP b (-1)) (-s) (U 8) wr) ∧ (L 3 = true → T2 (TRM [] 0) (IS (.int .i64 11)) (U 9) wr) ∧ (L 4 = true → TRM [] 0 (U 10) wr) ∧ (L 5 = true → IS (.int .i64 11) (U 11) wr) ∧ (L 7 = true → IS (.int .i64 11) (U 5) wr) ∧ (L 6 = true → L 4 = true)) (by kernel_rfl) ?_ ?_ ?_
  · exact fun U => ⟨hbw.drew,KeepP.below (Below.refl _ _).drew,Nat.le_refl _,oX.drew,oY.drew,⟨_,rfl,oR.drew⟩,(fun h => by cases h),(fun h => by cases h),(fun h => by cases h),(fun h => by cases h),(fun h => by cases h),(fun h => by cases h),(fun h => by cases h),(fun h => by cases h)⟩
  ·
   refine StepsU.run rfl ?_ ?_
   ·
    intro L U wr hF hlk haf A K hA hK;have HA : Hid (A = putAll _ _ U) := hA;clear hA;simp [Aft,Region.binds] at haf;obtain ⟨fb,fk,fs,oX,oY,rR,f0,f1,f2,f3,f4,f5,f7,s6⟩ := hF;have e2 : A.tmps[2]? = some (.pointer (some ⟨w.heap.size,0,none⟩)) := by rw [HA.out];kernel_rfl
    have c0 := oX.cell 0;have c1 := oX.cell 1;have c2 := oX.cell 2;simp at c0;simp at c1;simp at c2;refine ⟨?_⟩;go_simp;refine hK (upd U 6 (.agg #[.slice pX qX rX,.bool xX,.slice aX nX cX])) _ _ ?_ ?_
    · rw [HA.out];kernel_rfl
    · exact ⟨fb,fk,fs,oX,oY,rR,(fun _ => rfl),f1,f2,f3,f4,f5,f7,s6⟩
   refine StepsU.run rfl ?_ ?_
   ·
    intro L U wr hF hlk haf A K hA hK;have HA : Hid (A = putAll _ _ U) := hA;clear hA;simp [Aft,Region.binds] at haf;obtain ⟨fb,fk,fs,oX,oY,rR,f0,f1,f2,f3,f4,f5,f7,s6⟩ := hF;have e3 : A.tmps[3]? = some (.pointer (some ⟨w.heap.size + 1,0,none⟩)) := by rw [HA.out];kernel_rfl
    have c0 := oY.cell 0;have c1 := oY.cell 1;have c2 := oY.cell 2;simp at c0;simp at c1;simp at c2;refine ⟨?_⟩;go_simp;refine hK (upd U 7 (.agg #[.slice pY qY rY,.bool xY,.slice aY nY cY])) _ _ ?_ ?_
    · rw [HA.out];kernel_rfl
    · exact ⟨fb,fk,fs,oX,oY,rR,f0,(fun _ => rfl),f2,f3,f4,f5,f7,s6⟩
   refine StepsU.run rfl ?_ ?_
   ·
    intro L U wr hF hlk haf A K hA hK;have HA : Hid (A = putAll _ _ U) := hA;clear hA;simp [Aft,Region.binds] at haf;obtain ⟨fb,fk,fs,oX,oY,rR,f0,f1,f2,f3,f4,f5,f7,s6⟩ := hF;have g1 := f1 (by simp [haf])
    have e7 := rd HA.out 7 (by kernel_rfl) g1
    refine ⟨?_⟩;go_simp;refine (lneg_any _ b s _ (hY.keepP fk).val).mono ?_;rintro e w1 ⟨v,rfl,hr,hb⟩;go_simp;refine hK (upd U 8 v) _ _ ?_ ?_
    · rw [HA.out];kernel_rfl
    · exact ⟨(fb.step hb (Nat.le_refl _)),(fk.trans (KeepP.below hb)),(Nat.le_trans fs hb.size),(oX.stay hb),(oY.stay hb),(rR.stay hb),f0,f1,(fun _ => hr),(mvP (mp_t2 mp_trm mp_is) (KeepP.below hb) f3),(mvP mp_trm (KeepP.below hb) f4),f5,f7,s6⟩
   refine StepsU.run rfl ?_ ?_
   ·
    intro L U wr hF hlk haf A K hA hK;have HA : Hid (A = putAll _ _ U) := hA;clear hA;simp [Aft,Region.binds] at haf;obtain ⟨fb,fk,fs,oX,oY,rR,f0,f1,f2,f3,f4,f5,f7,s6⟩ := hF;have g0 := f0 (by simp [haf])
    have e6 := rd HA.out 6 (by kernel_rfl) g0
    have g2 := f2 (by simp [haf])
    have e8 := rd HA.out 8 (by kernel_rfl) rfl
    refine ⟨?_⟩;go_simp;refine (ladd_any _ _ a (mulP b (-1)) r (-s) _ (hX.keepP fk).val g2).mono ?_;rintro e w1 ⟨v,c,rfl,hM,hb⟩;go_simp;refine hK (upd U 9 (.tuple #[v,.int .i64 c])) _ _ ?_ ?_
    · rw [HA.out];kernel_rfl
    · exact ⟨(fb.step hb (Nat.le_refl _)),(fk.trans (KeepP.below hb)),(Nat.le_trans fs hb.size),(oX.stay hb),(oY.stay hb),(rR.stay hb),f0,f1,(mvP mp_trm (KeepP.below hb) f2),(fun _ => (by rcases hM with ⟨h1,rfl,h3⟩ | ⟨h1,rfl,h3⟩;exact absurd h1 HOK.out;exact ⟨_,_,rfl,h3,rfl⟩)),(mvP mp_trm (KeepP.below hb) f4),f5,f7,s6⟩
   refine StepsU.run rfl ?_ ?_
   ·
    intro L U wr hF hlk haf A K hA hK;have HA : Hid (A = putAll _ _ U) := hA;clear hA;simp [Aft,Region.binds] at haf;obtain ⟨fb,fk,fs,oX,oY,rR,f0,f1,f2,f3,f4,f5,f7,s6⟩ := hF;have g3 := f3 (by simp [haf])
    obtain ⟨t0,t1,hT,k0,k1⟩ := g3;have e9 := rd HA.out 9 (by kernel_rfl) hT
    refine ⟨?_⟩;go_simp;have hs6 : L 6 = false := by cases h : L 6 with | false => rfl | true => rw [s6 h] at hlk;cases hlk
    refine hK (upd U 10 t0) _ _ ?_ ?_
    · rw [HA.out];kernel_rfl
    · exact ⟨fb,fk,fs,oX,oY,(flip_v (P := fun v => BlkV _ _ _ v) hs6 rR),f0,f1,f2,f3,(fun _ => k0),f5,f7,(fun _ => rfl)⟩
   refine StepsU.run rfl ?_ ?_
   ·
    intro L U wr hF hlk haf A K hA hK;have HA : Hid (A = putAll _ _ U) := hA;clear hA;simp [Aft,Region.binds] at haf;obtain ⟨fb,fk,fs,oX,oY,rR,f0,f1,f2,f3,f4,f5,f7,s6⟩ := hF;have g3 := f3 (by simp [haf])
    obtain ⟨t0,t1,hT,k0,k1⟩ := g3;have e9 := rd HA.out 9 (by kernel_rfl) hT
    refine ⟨?_⟩;go_simp;refine hK (upd U 11 t1) _ _ ?_ ?_
    · rw [HA.out];kernel_rfl
    · exact ⟨fb,fk,fs,oX,oY,rR,f0,f1,f2,f3,f4,(fun _ => k1),f7,s6⟩
   refine StepsU.run rfl ?_ ?_
   ·
    intro L U wr hF hlk haf A K hA hK;have HA : Hid (A = putAll _ _ U) := hA;clear hA;simp [Aft,Region.binds] at haf;obtain ⟨fb,fk,fs,oX,oY,rR,f0,f1,f2,f3,f4,f5,f7,s6⟩ := hF;have g4 := f4 (by simp [haf])
    obtain ⟨yp,yq,yr,yx,ya,yn,yc,hsrc⟩ := TermR.shape g4;have e10 := rd HA.out 10 (by kernel_rfl) hsrc
    have e4 : A.tmps[4]? = some (.pointer (some ⟨w.heap.size + 1 + 1,0,none⟩)) := by rw [HA.out];kernel_rfl
    have rV := rR;rw [hlk,cond_false] at rV;obtain ⟨cs,hcs,hblk⟩ := rV;injection hcs with hcs;subst hcs;have q0 := hblk.frozen 0;have q1 := hblk.frozen 1;have q2 := hblk.frozen 2;have c0 := hblk.cell 0;have c1 := hblk.cell 1;have c2 := hblk.cell 2;simp at c0;simp at c1;simp at c2;have hlt := hblk.lt;refine ⟨?_⟩;go_simp;refine hK U _ _ ?_ ?_
    · exact HA.out
    · exact ⟨(below_stores geR [.slice yp yq yr,.bool yx,.slice ya yn yc] 0 fb),(fk.trans (keepP_stores (by decide) (by decide) [.slice yp yq yr,.bool yx,.slice ya yn yc] 0 hblk (nuT _ _ _ _ _ _ _) (nuT _ _ _ _ _ _ _))),(by simp;exact fs),(oX.otherS neRX 0 [.slice yp yq yr,.bool yx,.slice ya yn yc]),(oY.otherS neRY 0 [.slice yp yq yr,.bool yx,.slice ya yn yc]),(by simp only [cond_true,Bool.true_or,beq_self_eq_true];exact ⟨_,hsrc,hblk.overS [.slice yp yq yr,.bool yx,.slice ya yn yc] 0 rfl⟩),f0,f1,(mvP mp_trm (keepP_stores (by decide) (by decide) [.slice yp yq yr,.bool yx,.slice ya yn yc] 0 hblk (nuT _ _ _ _ _ _ _) (nuT _ _ _ _ _ _ _)) f2),(mvP (mp_t2 mp_trm mp_is) (keepP_stores (by decide) (by decide) [.slice yp yq yr,.bool yx,.slice ya yn yc] 0 hblk (nuT _ _ _ _ _ _ _) (nuT _ _ _ _ _ _ _)) f3),(mvP mp_trm (keepP_stores (by decide) (by decide) [.slice yp yq yr,.bool yx,.slice ya yn yc] 0 hblk (nuT _ _ _ _ _ _ _) (nuT _ _ _ _ _ _ _)) f4),f5,f7,(fun _ => by simp [haf])⟩
   refine StepsU.run rfl ?_ StepsU.nil
   ·
    intro L U wr hF hlk haf A K hA hK;have HA : Hid (A = putAll _ _ U) := hA;clear hA;simp [Aft,Region.binds] at haf;obtain ⟨fb,fk,fs,oX,oY,rR,f0,f1,f2,f3,f4,f5,f7,s6⟩ := hF;have g5 := f5 (by simp [haf])
    have e11 := rd HA.out 11 (by kernel_rfl) rfl
    refine ⟨?_⟩;go_simp;refine hK (upd U 5 (U 11)) _ _ ?_ ?_
    · rw [HA.out];kernel_rfl
    · exact ⟨fb,fk,fs,oX,oY,rR,f0,f1,f2,f3,f4,f5,(fun _ => g5),s6⟩
  clear hbw oX oY oR;intro L U1 V1 hall hF;obtain ⟨hbw,fk,fs,oX,oY,rR,f0,f1,f2,f3,f4,f5,f7,s6⟩ := hF;clear s6;have g0 := f0 (hall 0 (by decide))
  have g1 := f1 (hall 1 (by decide))
  have g2 := f2 (hall 2 (by decide))
  have g3 := f3 (hall 3 (by decide))
  have g4 := f4 (hall 4 (by decide))
  have g5 := f5 (hall 5 (by decide))
  have g7 := f7 (hall 7 (by decide))
  rw [hall 6 (by decide),cond_true] at rR
  clear hall f0 f1 f2 f3 f4 f5 f7;replace hX := hX.keepP fk;replace hY := hY.keepP fk;obtain ⟨csR,hcsR,oR⟩ := rR;obtain ⟨pR,qR,rR,xR,aR,nR,cR,hvR⟩ := TermR.shape g4;have hR : TermR _ _ _ _ := g4;rw [hvR] at hR hcsR;injection hcsR with hcsR;subst hcsR;clear hvR;replace ltR := oR.lt;replace ltX := oX.lt;replace ltY := oY.lt;try clear g0
  try clear g1
  try clear g2
  try clear g3
  try clear g4
  try clear g5
  clear hbW;simp only [setM_some,setM_none,setM_nil];clear fk fs;have e5 : U1 5 = _ := g7;obtain ⟨Rc0,Rc1,Rc2⟩ := oR.three;obtain ⟨Rk0,Rk1,Rk2⟩ := oR.frozen3;try simp only []
  try go_at_K
  repeat (first | go_values | go_skip | go_guarded | go_step | go_upon)
  refine bodyPost_ret (v := .tuple #[.agg #[.slice pR qR rR,.bool xR,.slice aR nR cR],.int .i64 11]) (by simp [results,Tryz.results14,go_sem,Rc0,Rc1,Rc2,e5]) rfl ?_
  exact ⟨_,_,rfl,Or.inr ⟨HOK.out,rfl,hR⟩,hbw⟩
def tMulOk (a : List (Nat × Int)) (r k : Int) : Prop := (r * k).natAbs < lim ∧ ∀ p ∈ a, (p.2 * k).natAbs < lim
set_option maxRecDepth 20000 in
set_option maxHeartbeats 8000000 in
theorem lscale_any (vX vB : Value) (a : List (Nat × Int)) (r z : Int) (w : World) (hX : TermR w vX a r) (hB : AInt w vB z) :
  Calls Tryz.prog 23 #[vX,vB] w fun e w' => ∃ v c,e = .returned (.tuple #[v,.int .i64 c]) ∧ ((z = 0 ∧ c = 0 ∧ TermR w' v [] 0) ∨ (z ≠ 0 ∧ tMulOk a r z ∧ c = 0 ∧ TermR w' v (mulP a z) (r * z)) ∨ (z ≠ 0 ∧ ¬ tMulOk a r z ∧ c = 11 ∧ TermR w' v [] 0)) ∧ Below w.heap.size w w' := by
 obtain ⟨pX,qX,rX,xX,aX,nX,cX,rfl,hX⟩ := hX;obtain ⟨xB,aB,nB,cB,rfl⟩ := hB.shape;have ha0 := hX.arr;have oX := (((Blk.new w 33 #[.slice pX qX rX,.bool xX,.slice aX nX cX]).alloc (.cells #[.bool xB,.slice aB nB cB] 31 (0,0))).alloc (.cells #[.slice none 0 0,.bool false,.slice none 0 0] 33 (0,0)));have oB := ((Blk.new (w.alloc (.cells #[.slice pX qX rX,.bool xX,.slice aX nX cX] 33 (0,0))) 31 #[.bool xB,.slice aB nB cB]).alloc (.cells #[.slice none 0 0,.bool false,.slice none 0 0] 33 (0,0)));have oR := (Blk.new ((w.alloc (.cells #[.slice pX qX rX,.bool xX,.slice aX nX cX] 33 (0,0))).alloc (.cells #[.bool xB,.slice aB nB cB] 31 (0,0))) 33 #[.slice none 0 0,.bool false,.slice none 0 0]);simp only [World.size_alloc] at oB oR;have hbw : Below w.heap.size w (((w.alloc (.cells #[.slice pX qX rX,.bool xX,.slice aX nX cX] 33 (0,0))).alloc (.cells #[.bool xB,.slice aB nB cB] 31 (0,0))).alloc (.cells #[.slice none 0 0,.bool false,.slice none 0 0] 33 (0,0))) := by go_grown
 replace hX := hX.below hbw;replace hB := hB.below hbw;have ltX := oX.lt;have lwX : w.heap.size ≤ w.heap.size := by omega
 have ltB := oB.lt;have lwB : w.heap.size ≤ w.heap.size + 1 := by omega
 have ltR := oR.lt;have lwR : w.heap.size ≤ w.heap.size + 1 + 1 := by omega
 go_enter Tryz.func23,Tryz.ntmps23;have HX : Hid (PArr w pX a) := ha0;have hlen := hX.n_le;have HLN : Hid (a.length = qX) := hX.len;have HFN : Hid (Fine a) := hX.fine;clear ha0;obtain ⟨Bc0,Bc1,Bk0,Bk1⟩ := oB.two;go_wp2_with fail
 refine (sign_h _ z _ hB).mono ?_;rintro e w1 ⟨rfl,hb⟩;clear Bc0 Bc1 Bk0 Bk1;replace oX := oX.stay hb;replace ltX := oX.lt;replace oB := oB.stay hb;replace ltB := oB.lt;replace oR := oR.stay hb;replace ltR := oR.lt;replace hX := hX.below hb;replace hB := hB.below hb;replace hbw := hbw.step hb (Nat.le_refl _);clear hb;by_cases hz0 : z = 0
 ·
  have hs : (z.sign == 0) = true := by rw [hz0];rfl
  have HZ : Hid (z = 0) := hz0;clear hz0;obtain ⟨Rc0,Rc1,Rc2⟩ := oR.three;obtain ⟨Rk0,Rk1,Rk2⟩ := oR.frozen3;try simp only []
  try go_at_K
  repeat (first | go_values | go_skip | go_guarded | go_step | go_upon)
  refine bodyPost_ret (v := .tuple #[.agg #[.slice none 0 0,.bool false,.slice none 0 0],.int .i64 0]) (by simp [results,Tryz.results23,go_sem,Rc0,Rc1,Rc2]) rfl ?_
  obtain ⟨K1,B1,_⟩ := resT (by decide) (by decide) oR hbw lwR none 0 0 false none 0 0
  exact ⟨_,_,rfl,Or.inl ⟨HZ.out,rfl,(TP.zero _).val⟩,B1⟩
 ·
  have hs : (z.sign == 0) = false := by rw [beq_eq_false_iff_ne];exact fun h => hz0 (Int.sign_eq_zero_iff_zero.1 h)
  have HZ : Hid (z ≠ 0) := hz0;clear hz0;by_cases hr : (r * z).natAbs < lim
  ·
   have E0 : ec (r * z) = 0 := if_pos hr;have HR : Hid ((r * z).natAbs < lim) := hr;clear hr;obtain ⟨Xc0,Xc1,Xc2⟩ := oX.three;obtain ⟨Xk0,Xk1,Xk2⟩ := oX.frozen3;obtain ⟨Bc0,Bc1,Bk0,Bk1⟩ := oB.two;go_wp2_with fail
   refine (mul_h _ _ r z _ hX.rest hB).mono ?_;rintro e w2 ⟨xS,aS,nS,cS,rfl,hS,hb⟩;clear Xc0 Xc1 Xc2 Xk0 Xk1 Xk2;clear Bc0 Bc1 Bk0 Bk1;replace oX := oX.stay hb;replace ltX := oX.lt;replace oB := oB.stay hb;replace ltB := oB.lt;replace oR := oR.stay hb;replace ltR := oR.lt;replace hX := hX.below hb;replace hB := hB.below hb;replace hbw := hbw.step hb (Nat.le_refl _);clear hb;rw [hz_of HR.out] at hS;have hn := below_new w2 (.cells #[.bool xS,.slice aS nS cS] 31 (0,0));have oS := Blk.new w2 31 #[.bool xS,.slice aS nS cS];have neXS : w.heap.size ≠ w2.heap.size := by have := ltX;(try simp at this);omega
   have neBS : w.heap.size + 1 ≠ w2.heap.size := by have := ltB;(try simp at this);omega
   have neRS : w.heap.size + 1 + 1 ≠ w2.heap.size := by have := ltR;(try simp at this);omega
   have lwS : w.heap.size ≤ w2.heap.size := by have := hbw.size;(try simp at this);omega
   replace oX := oX.stay hn;replace ltX := oX.lt;replace oB := oB.stay hn;replace ltB := oB.lt;replace oR := oR.stay hn;replace ltR := oR.lt;replace hX := hX.below hn;replace hB := hB.below hn;replace hS := hS.below hn;replace hbw := hbw.step hn (Nat.le_refl _);clear hn;have ltS := oS.lt;obtain ⟨Xc0,Xc1,Xc2⟩ := oX.three;obtain ⟨Xk0,Xk1,Xk2⟩ := oX.frozen3;go_wp2_with (at_make;refine wpList_make_g _ rfl _ _ 28 rfl 3 116 (.agg #[.int .i64 0,.bool false,.slice none 0 0]) 40 Tryz.und_parts Tryz.info_part rfl (by decide) (nuP _ _ _ _ _) _ _ _ _ qX qX rfl rfl rfl rfl (by decide) (Nat.le_refl _) (by omega) ?_;intro w3 xs0 hL0 hB0 hS0;have oX1 := oX.stay hB0;have oB1 := oB.stay hB0;have oR1 := oR.stay hB0;have oS1 := oS.stay hB0;have hS1 := hS.below hB0;have hB1 := hB.below hB0;obtain ⟨Y0,Y1,Y2⟩ := oX1.three;have hbw1 := hbw.step hB0 (Nat.le_refl _))
   have hL1 : LstG 3 116 w.heap.size w3 (.slice (some ⟨w2.heap.size + 1,0,none⟩) qX qX) qX xs0 := by have h := hL0.mono (base' := w.heap.size) hbw.size;simpa using h
   clear hL0;go_loopw [35] (fun i wl => ∃ (k : Nat) (xs : List Value),k ≤ qX ∧ i = .int .i64 k ∧ Blk 33 wl (w.heap.size) #[.slice pX qX rX,.bool xX,.slice aX nX cX] ∧ Blk 31 wl (w.heap.size + 1) #[.bool xB,.slice aB nB cB] ∧ Blk 33 wl (w.heap.size + 1 + 1) #[.slice none 0 0,.bool false,.slice none 0 0] ∧ Blk 31 wl (w2.heap.size) #[.bool xS,.slice aS nS cS] ∧ AInt wl (.agg #[.bool xS,.slice aS nS cS]) (r * z) ∧ AInt wl (.agg #[.bool xB,.slice aB nB cB]) z ∧ LstG 3 116 w.heap.size wl (.slice (some ⟨w2.heap.size + 1,0,none⟩) qX qX) qX xs ∧ ElsP wl (xs.take (k * 3)) (mulP (a.take k) z) ∧ Hid (∀ p ∈ a.take k,(p.2 * z).natAbs < lim) ∧ Below w.heap.size w wl) (fun i _ => qX - (intOf i).toNat)
   case atStart => exact ⟨0,xs0,Nat.zero_le _,rfl,oX1,oB1,oR1,oS1,hS1,hB1,hL1,by simpa [mulP] using ElsP.nil _,(fun p hp => by simp at hp),hbw1⟩
   case round =>
    rename World => wl
    clear oX oB oR oS hbw hS hB oX1 oB1 oR1 oS1 hS1 hB1 hL1 hbw1 hB0 hS0 ltX ltB ltR ltS Xc0 Xc1 Xc2 Xk0 Xk1 Xk2 Y0 Y1 Y2 hX;obtain ⟨k,xs,hk,rfl,oX,oB,oR,oS,hS,hB,hL,hE,HFT,hbw⟩ := hrel;have ltX := oX.lt;have ltB := oB.lt;have ltR := oR.lt;have ltS := oS.lt;by_cases h0 : k < qX
    ·
     obtain ⟨gE,oE,sE,aE,mE,cE,had,k1,k2,k3,k4⟩ := HX.out.at k (by rw [HLN.out];exact h0)
     subst had;obtain ⟨pv,hpv⟩ : ∃ x,x = (a.getD k (0,0)).1 := ⟨_,rfl⟩;obtain ⟨pz,hpz⟩ : ∃ x,x = (a.getD k (0,0)).2 := ⟨_,rfl⟩;rw [← hpv] at k1;rw [← hpz] at k4;have HPV : Hid (a.getD k (0,0) = (pv,pz)) := by show _ = _;rw [hpv,hpz]
     clear hpv hpz;have A0 := (hbw.cell (p := ⟨gE,oE + k * 3,none⟩) (World.block_lt_of_cell? w _ k1)).trans k1;have A1 := (hbw.cell (p := ⟨gE,oE + k * 3 + 1,none⟩) (World.block_lt_of_cell? w _ k2)).trans k2;have A2 := (hbw.cell (p := ⟨gE,oE + k * 3 + 2,none⟩) (World.block_lt_of_cell? w _ k3)).trans k3;have hE0 := k4.below hbw;clear k1 k2 k3 k4;have ltL := (hL.lt _ rfl).2;have hn := below_new wl (.cells #[.int .i64 (pv : Nat),.bool sE,.slice aE mE cE] 116 (0,0));have oP := Blk.new wl 116 #[.int .i64 (pv : Nat),.bool sE,.slice aE mE cE];obtain ⟨Xc0,Xc1,Xc2⟩ := oX.three;obtain ⟨Xk0,Xk1,Xk2⟩ := oX.frozen3;obtain ⟨Bc0,Bc1,Bk0,Bk1⟩ := oB.two;go_wp2_with fail
     refine (mul_h _ _ pz z _ (hE0.below hn) (hB.below hn)).mono ?_;rintro e w5 ⟨xT,aT,nT,cT,rfl,hT,hb5⟩;replace oP := oP.stay hb5;have ltP := oP.lt;obtain ⟨P0,P1,P2⟩ := oP.three;have hb := hn.step hb5 (Nat.le_refl _);replace hE := hE.keep (KeepN.below hb);replace ltL := Nat.lt_of_lt_of_le ltL hb.size;clear A0 A1 A2 hn hb5;clear Xc0 Xc1 Xc2 Xk0 Xk1 Xk2;clear Bc0 Bc1 Bk0 Bk1;replace oX := oX.stay hb;replace ltX := oX.lt;replace oB := oB.stay hb;replace ltB := oB.lt;replace oR := oR.stay hb;replace ltR := oR.lt;replace oS := oS.stay hb;replace ltS := oS.lt;replace hS := hS.below hb;replace hB := hB.below hb;replace hL := hL.below hb;replace hE0 := hE0.below hb;replace hbw := hbw.step hb (Nat.le_refl _);clear hb;have HXL : Hid (xs.length = qX * 3) := hL.1;by_cases hbig : (pz * z).natAbs < lim
     ·
      have E1 : ec (pz * z) = 0 := if_pos hbig;rw [hz_of hbig] at hT;have HBG : Hid ((pz * z).natAbs < lim) := hbig;clear hbig;obtain ⟨z0,c0,-⟩ := hL.cell (k * 3) (by omega)
      obtain ⟨z1,c1,-⟩ := hL.cell (k * 3 + 1) (by omega)
      obtain ⟨z2,c2,-⟩ := hL.cell (k * 3 + 2) (by omega)
      have q0 := hL.frozen (k * 3);have q1 := hL.frozen (k * 3 + 1);have q2 := hL.frozen (k * 3 + 2);have hKN := keepN_list hL (k * 3) [.int .i64 (pv : Nat),.bool xT,.slice aT nT cT] (nuP _ _ _ _ _);have HPU : Hid (LstG _ _ _ _ _ _ _) := hL.putA (k * 3) [.int .i64 (pv : Nat),.bool xT,.slice aT nT cT] (by simp;omega) (nuP _ _ _ _ _)
      have hE2 := (hE.keep hKN).step (p := pv) (by simp [mulP];have := HLN.out;omega) (by rw [HXL.out];omega) (hT.keepN hKN)
      obtain ⟨-,-,-,hgb⟩ := hL.blkG;have hbw2 := below_stores hgb [.int .i64 (pv : Nat),.bool xT,.slice aT nT cT] (k * 3) hbw;have hn := below_new (stores w5 (w2.heap.size + 1) (k * 3) [.int .i64 (pv : Nat),.bool xT,.slice aT nT cT]) (.cells #[.bool xT,.slice aT nT cT] 31 (0,0));replace oX := (oX.otherS (show w2.heap.size + 1 ≠ w.heap.size by have := neXS;omega) (k * 3) [.int .i64 (pv : Nat),.bool xT,.slice aT nT cT]).stay hn
      replace oB := (oB.otherS (show w2.heap.size + 1 ≠ w.heap.size + 1 by have := neBS;omega) (k * 3) [.int .i64 (pv : Nat),.bool xT,.slice aT nT cT]).stay hn
      replace oR := (oR.otherS (show w2.heap.size + 1 ≠ w.heap.size + 1 + 1 by have := neRS;omega) (k * 3) [.int .i64 (pv : Nat),.bool xT,.slice aT nT cT]).stay hn
      replace oS := (oS.otherS (show w2.heap.size + 1 ≠ w2.heap.size by omega) (k * 3) [.int .i64 (pv : Nat),.bool xT,.slice aT nT cT]).stay hn
      replace hS := (hS.keepN hKN).below hn;replace hB := (hB.keepN hKN).below hn;have HP2 := HPU.out.below hn;replace hE2 := hE2.keep (KeepN.below hn);replace hbw2 := hbw2.step hn (Nat.le_refl _);clear hn hKN hE;have H9 : Hid (mulP (a.take (k + 1)) z = mulP (a.take k) z ++ [(pv,pz * z)] ∧ ∀ p ∈ a.take (k + 1),(p.2 * z).natAbs < lim) := by
       constructor
       · unfold mulP;rw [ptake_step a k _ (by rw [HLN.out];exact h0),HPV.out]
       ·
        intro p hp;rw [List.take_succ_eq_append_getElem (by rw [HLN.out];exact h0),List.mem_append] at hp
        rcases hp with hp | hp
        · exact HFT.out p hp
        ·
         have e9 := HPV.out;rw [List.getD_eq_getElem?_getD,List.getElem?_eq_getElem (by rw [HLN.out];exact h0)] at e9
         simp at hp e9;rw [hp,e9];exact HBG.out
      go_wp2;go_roundw
      case rel =>
       refine ⟨k + 1,_,by omega,by go_num,oX,oB,oR,oS,hS,hB,HP2,?_,H9.out.2,hbw2⟩
       rw [H9.out.1];exact hE2
      case measure => simp [intOf];omega
     ·
      have E1 : ec (pz * z) = 11 := if_neg hbig;have HBG : Hid (¬ (pz * z).natAbs < lim) := hbig;clear hbig;have HNO : Hid (¬ tMulOk a r z) := fun h => HBG.out (by
       have e9 := HPV.out;rw [List.getD_eq_getElem?_getD,List.getElem?_eq_getElem (by rw [HLN.out];exact h0)] at e9
       simp at e9;have := h.2 _ (List.getElem_mem (by rw [HLN.out];exact h0))
       rw [e9] at this;exact this)
      obtain ⟨Rc0,Rc1,Rc2⟩ := oR.three;obtain ⟨Rk0,Rk1,Rk2⟩ := oR.frozen3;try simp only []
      try go_at_K
      repeat (first | go_values | go_skip | go_guarded | go_step | go_upon)
      refine bodyPost_ret (v := .tuple #[.agg #[.slice none 0 0,.bool false,.slice none 0 0],.int .i64 11]) (by simp [results,Tryz.results23,go_sem,Rc0,Rc1,Rc2,E1,ltR]) rfl ?_
      obtain ⟨K1,B1,_⟩ := resT (by decide) (by decide) oR hbw lwR none 0 0 false none 0 0
      exact ⟨_,_,rfl,Or.inr (Or.inr ⟨HZ.out,HNO.out,rfl,(TP.zero _).val⟩),B1.step (below_new _ _) (Nat.le_refl _)⟩
    ·
     have hkq : k = qX := by omega
     subst hkq;have hPA := hL.parr (ps := mulP a z) (by have h := hE;rw [List.take_of_length_le (by rw [hL.1];exact Nat.le_refl _),List.take_of_length_le (by rw [HLN.out];exact Nat.le_refl _)] at h;exact h) (by simp [mulP,HLN.out])
     have HOK : Hid (∀ p ∈ a,(p.2 * z).natAbs < lim) := by
      have h := HFT.out;rw [List.take_of_length_le (by rw [HLN.out];exact Nat.le_refl _)] at h
      exact h
     clear hE hk h0 HFT;obtain ⟨ao9,cap9,hv9,q1,q2,q3,q4⟩ := hPA;cases hv9
     clear hL;obtain ⟨Rc0,Rc1,Rc2⟩ := oR.three;obtain ⟨Rk0,Rk1,Rk2⟩ := oR.frozen3;obtain ⟨Sc0,Sc1,Sk0,Sk1⟩ := oS.two;try simp only []
     try go_at_K
     repeat (first | go_values | go_skip | go_guarded | go_step | go_upon)
     refine bodyPost_ret (v := .tuple #[.agg #[.slice (some ⟨w2.heap.size + 1,0,none⟩) k k,.bool xS,.slice aS nS cS],.int .i64 0]) (by simp [results,Tryz.results23,go_sem,Rc0,Rc1,Rc2]) rfl ?_
     obtain ⟨K1,B1,_⟩ := resT (by decide) (by decide) oR hbw lwR (some ⟨w2.heap.size + 1,0,none⟩) k k xS aS nS cS
     exact ⟨_,_,rfl,Or.inr (Or.inl ⟨HZ.out,⟨HR.out,HOK.out⟩,rfl,⟨_,_,_,_,_,_,_,rfl,⟨by simp [mulP,HLN.out],q1,q2,q3,q4.keepP K1,hS.keepP K1,mulP_fine HFN.out HZ.out HOK.out⟩⟩⟩),B1⟩
  ·
   have E0 : ec (r * z) = 11 := if_neg hr;have HR : Hid (¬ (r * z).natAbs < lim) := hr;clear hr;obtain ⟨Xc0,Xc1,Xc2⟩ := oX.three;obtain ⟨Xk0,Xk1,Xk2⟩ := oX.frozen3;obtain ⟨Bc0,Bc1,Bk0,Bk1⟩ := oB.two;go_wp2_with fail
   refine (mul_h _ _ r z _ hX.rest hB).mono ?_;rintro e w2 ⟨xS,aS,nS,cS,rfl,hS,hb⟩;clear Xc0 Xc1 Xc2 Xk0 Xk1 Xk2;clear Bc0 Bc1 Bk0 Bk1;replace oX := oX.stay hb;replace ltX := oX.lt;replace oB := oB.stay hb;replace ltB := oB.lt;replace oR := oR.stay hb;replace ltR := oR.lt;replace hX := hX.below hb;replace hB := hB.below hb;replace hbw := hbw.step hb (Nat.le_refl _);clear hb;obtain ⟨Rc0,Rc1,Rc2⟩ := oR.three;obtain ⟨Rk0,Rk1,Rk2⟩ := oR.frozen3;try simp only []
   try go_at_K
   repeat (first | go_values | go_skip | go_guarded | go_step | go_upon)
   refine bodyPost_ret (v := .tuple #[.agg #[.slice none 0 0,.bool false,.slice none 0 0],.int .i64 11]) (by simp [results,Tryz.results23,go_sem,Rc0,Rc1,Rc2,E0,ltR]) rfl ?_
   obtain ⟨K1,B1,_⟩ := resT (by decide) (by decide) oR hbw lwR none 0 0 false none 0 0
   exact ⟨_,_,rfl,Or.inr (Or.inr ⟨HZ.out,fun h => HR.out h.1,rfl,(TP.zero _).val⟩),B1.step (below_new _ _) (Nat.le_refl _)⟩
def vcmp (x y : Int) : Int := if x < y then -1 else if y < x then 1 else 0
theorem compare_any (x y : Int) (w : World) :
  Calls Tryz.prog 108 #[.int .i64 x,.int .i64 y] w fun e w' => e = .returned (.int .i64 (vcmp x y)) ∧ w' = w := by
 by_cases h1 : x < y
 ·
  have HV : Hid (vcmp x y = -1) := if_pos h1;go_enter Tryz.func108,Tryz.ntmps108;go_wp2;go_ret
  rw [HV.out];exact ⟨rfl,rfl⟩
 ·
  by_cases h2 : y < x
  ·
   have HV : Hid (vcmp x y = 1) := by show _ = _;unfold vcmp;rw [if_neg h1,if_pos h2]
   go_enter Tryz.func108,Tryz.ntmps108;go_wp2;go_ret
   rw [HV.out];exact ⟨rfl,rfl⟩
  ·
   have HV : Hid (vcmp x y = 0) := by show _ = _;unfold vcmp;rw [if_neg h1,if_neg h2]
   go_enter Tryz.func108,Tryz.ntmps108;go_wp2;go_ret
   rw [HV.out];exact ⟨rfl,rfl⟩
theorem place1_any (p : Int) (s : Bool) (a : Option Addr) (m c : Nat) (v : Int) (w : World) :
  Calls Tryz.prog 107 #[.agg #[.int .i64 p,.bool s,.slice a m c],.int .i64 v] w fun e w' => e = .returned (.int .i64 (vcmp p v)) ∧ Below w.heap.size w w' := by
 have hbw := below_new w (.cells #[.int .i64 p,.bool s,.slice a m c] 116 (0,0));go_enter Tryz.func107,Tryz.ntmps107;go_wp2_with fail
 refine (compare_any p v _).mono ?_;rintro e w1 ⟨rfl,rfl⟩;go_wp2;go_ret
 exact ⟨rfl,hbw⟩
def ahead (l : List (Nat × Int)) (v : Int) : Nat := l.countP fun p => decide ((p.1 : Int) < v)
theorem rise_at {l : List (Nat × Int)} (h : Rise l) {i j : Nat} (hij : i < j) (hj : j < l.length) : (l.getD i (0,0)).1 < (l.getD j (0,0)).1 := by
 have := List.pairwise_iff_getElem.1 h i j (by omega) hj hij
 simpa [List.getD_eq_getElem?_getD,List.getElem?_eq_getElem hj,List.getElem?_eq_getElem (show i < l.length by omega)] using this
theorem countP_at (p : Nat × Int → Bool) : ∀ (l : List (Nat × Int)) (i : Nat), i ≤ l.length → (∀ j, j < i → p (l.getD j (0, 0)) = true) → (∀ j, i ≤ j → j < l.length → p (l.getD j (0, 0)) = false) → l.countP p = i
  | [], i, hi, _, _ => by simp at hi; simp [hi]
  | x :: l, 0, _, _, h2 => by
    have h0 := h2 0 (Nat.le_refl _) (by simp)
    have := countP_at p l 0 (Nat.zero_le _) (fun j hj => absurd hj (Nat.not_lt_zero _)) (fun j _ hj => by simpa using h2 (j + 1) (Nat.zero_le _) (by simpa using hj))
    simp at h0
    simp [h0, this]
  | x :: l, i + 1, hi, h1, h2 => by
    have h0 := h1 0 (by omega)
    have := countP_at p l i (by simpa using hi) (fun j hj => by simpa using h1 (j + 1) (by omega)) (fun j hj hl => by simpa using h2 (j + 1) (by omega) (by simpa using hl))
    simp at h0
    simp [h0, this]
theorem ahead_is {l : List (Nat × Int)} {v : Int} {i : Nat} (h : Rise l) (hi : i ≤ l.length) (h1 : i = 0 ∨ (((l.getD (i - 1) (0,0)).1 : Int) < v)) (h2 : i = l.length ∨ v ≤ ((l.getD i (0,0)).1 : Int)) : ahead l v = i := by
 refine countP_at _ l i hi ?_ ?_
 ·
  intro j hj;rcases h1 with h1 | h1
  · omega
  ·
   rcases Nat.lt_or_ge j (i - 1) with k | k
   · have := rise_at h k (by omega);exact decide_eq_true (by omega)
   ·
    have : j = i - 1 := by omega
    subst this;simpa using h1
 ·
  intro j hj hl;rcases h2 with h2 | h2
  · omega
  ·
   rcases Nat.lt_or_ge i j with k | k
   · have := rise_at h k hl;exact decide_eq_false (by omega)
   ·
    have : j = i := by omega
    subst this;simpa using h2
set_option maxRecDepth 20000 in
set_option maxHeartbeats 8000000 in
theorem search_any (vX : Value) (l : List (Nat × Int)) (v : Int) (w : World) (hv : PTS l vX w) (hf : Fine l) :
  Calls Tryz.prog 106 #[vX,.int .i64 v,.func (.func 107) #[] #[]] w fun e w' => e = .returned (.tuple #[.int .i64 (ahead l v),.bool (decide (∃ p ∈ l,(p.1 : Int) = v))]) ∧ Below w.heap.size w w' := by
 obtain ⟨ao,n,cap,rfl,h1,h2,h3,h4,h5⟩ := hv;have HX : Hid (PArr w ao l) := h5;have HLN : Hid (l.length = n) := h1;have HFN : Hid (Rise l) := hf.1;have hn : n ≤ 4096 := by rw [← h1];exact hf.len
 clear h1 h2 h3 h4 h5 hf;go_enter Tryz.func106,Tryz.ntmps106;go_wp2;go_loopw [9,10] (fun i j wl => ∃ x y : Nat,i = .int .i64 x ∧ j = .int .i64 y ∧ x ≤ y ∧ y ≤ n ∧ Hid ((x = 0 ∨ (((l.getD (x - 1) (0,0)).1 : Int) < v)) ∧ (y = n ∨ v ≤ ((l.getD y (0,0)).1 : Int))) ∧ Below w.heap.size w wl) (fun i j _ => (intOf j).toNat - (intOf i).toNat)
 case atStart => exact ⟨0,n,rfl,rfl,Nat.zero_le _,Nat.le_refl _,⟨Or.inl rfl,Or.inl rfl⟩,Below.refl _ _⟩
 case round =>
  rename World => wl
  obtain ⟨x,y,rfl,rfl,hxy,hyn,HI,hbw⟩ := hrel;by_cases h0 : x < y
  ·
   obtain ⟨m,hm⟩ : ∃ m,m = (x + y) / 2 := ⟨_,rfl⟩;have hm1 : x ≤ m := by omega
   have hm2 : m < y := by omega
   have HM : Hid (m = (x + y) / 2) := hm;clear hm;obtain ⟨gE,oE,sE,aE,mE,cE,had,k1,k2,k3,k4⟩ := HX.out.at m (by have := HLN.out;omega)
   subst had;obtain ⟨pv,hpv⟩ : ∃ x9,x9 = (l.getD m (0,0)).1 := ⟨_,rfl⟩;obtain ⟨pz,hpz⟩ : ∃ x9,x9 = (l.getD m (0,0)).2 := ⟨_,rfl⟩;rw [← hpv] at k1;rw [← hpz] at k4;have HPV : Hid (l.getD m (0,0) = (pv,pz)) := by show _ = _;rw [hpv,hpz]
   clear hpv hpz;have A0 := (hbw.cell (p := ⟨gE,oE + m * 3,none⟩) (World.block_lt_of_cell? w _ k1)).trans k1;have A1 := (hbw.cell (p := ⟨gE,oE + m * 3 + 1,none⟩) (World.block_lt_of_cell? w _ k2)).trans k2;have A2 := (hbw.cell (p := ⟨gE,oE + m * 3 + 2,none⟩) (World.block_lt_of_cell? w _ k3)).trans k3;have hE0 := k4.below hbw;clear k1 k2 k3 k4;rw [HM.out] at A0 A1 A2;go_wp2_with fail
   refine (place1_any pv sE aE mE cE v _).mono ?_;rintro e w1 ⟨rfl,hb1⟩;replace hbw := hbw.step hb1 (Nat.le_refl _);clear A0 A1 A2 hE0;by_cases hc : (pv : Int) < v
   ·
    have hc1 : vcmp pv v < 0 := by unfold vcmp;rw [if_pos hc];decide
    have HC : Hid ((pv : Int) < v) := hc;clear hc;go_wp2;go_roundw
    case rel =>
     refine ⟨m + 1,y,?_,rfl,by omega,hyn,⟨Or.inr ?_,HI.out.2⟩,hbw⟩
     · have := HM.out;rw [this];go_num
     · rw [Nat.add_sub_cancel,HPV.out];exact HC.out
    case measure => have := HM.out;simp [intOf];omega
   ·
    have hc1 : ¬ vcmp pv v < 0 := by
     unfold vcmp;rw [if_neg hc];split <;> decide
    have HC : Hid (¬ (pv : Int) < v) := hc;clear hc;go_wp2;go_roundw
    case rel =>
     refine ⟨x,m,rfl,?_,hm1,by omega,⟨HI.out.1,Or.inr ?_⟩,hbw⟩
     · have := HM.out;rw [this];go_num
     · rw [HPV.out];have := HC.out;simp only;omega
    case measure => have := HM.out;simp [intOf];omega
  ·
   have hxe : x = y := by omega
   subst hxe;have HAH : Hid (ahead l v = x) := ahead_is HFN.out (by rw [HLN.out];exact hyn) HI.out.1 (by rw [HLN.out];exact HI.out.2)
   by_cases hxn : x < n
   ·
    clear h0;obtain ⟨gE,oE,sE,aE,mE,cE,had,k1,k2,k3,k4⟩ := HX.out.at x (by have := HLN.out;omega)
    subst had;obtain ⟨pv,hpv⟩ : ∃ x9,x9 = (l.getD x (0,0)).1 := ⟨_,rfl⟩;obtain ⟨pz,hpz⟩ : ∃ x9,x9 = (l.getD x (0,0)).2 := ⟨_,rfl⟩;rw [← hpv] at k1;rw [← hpz] at k4;have HPV : Hid (l.getD x (0,0) = (pv,pz)) := by show _ = _;rw [hpv,hpz]
    clear hpv hpz;have A0 := (hbw.cell (p := ⟨gE,oE + x * 3,none⟩) (World.block_lt_of_cell? w _ k1)).trans k1;have A1 := (hbw.cell (p := ⟨gE,oE + x * 3 + 1,none⟩) (World.block_lt_of_cell? w _ k2)).trans k2;have A2 := (hbw.cell (p := ⟨gE,oE + x * 3 + 2,none⟩) (World.block_lt_of_cell? w _ k3)).trans k3;have hE0 := k4.below hbw;clear k1 k2 k3 k4;go_wp2_with fail
    refine (place1_any pv sE aE mE cE v _).mono ?_;rintro e w1 ⟨rfl,hb1⟩;replace hbw := hbw.step hb1 (Nat.le_refl _);have HQ : Hid (decide (∃ p ∈ l,(p.1 : Int) = v) = (vcmp pv v == 0)) := by
     show _ = _
     have hmem : (pv,pz) ∈ l := by
      have e9 := HPV.out;rw [List.getD_eq_getElem?_getD,List.getElem?_eq_getElem (by rw [HLN.out];exact hxn)] at e9
      simp at e9;rw [← e9];exact List.getElem_mem _
     have hge : v ≤ (pv : Int) := by
      rcases HI.out.2 with k | k
      · omega
      · rw [HPV.out] at k;exact k
     by_cases hpv : (pv : Int) = v
     · rw [decide_eq_true ⟨_,hmem,hpv⟩];unfold vcmp;rw [if_neg (by omega),if_neg (by omega)];rfl
     ·
      have hno : ¬ ∃ p ∈ l,(p.1 : Int) = v := by
       rintro ⟨p,hp,hpe⟩;obtain ⟨j,hj,hje⟩ := List.mem_iff_getElem.1 hp;have ej : l.getD j (0,0) = p := by rw [List.getD_eq_getElem?_getD,List.getElem?_eq_getElem hj,hje];rfl
       rcases Nat.lt_trichotomy j x with k | k | k
       ·
        rcases HI.out.1 with i0 | i0
        · omega
        ·
         rcases Nat.lt_or_ge j (x - 1) with k2 | k2
         ·
          have := rise_at HFN.out k2 (by have := HLN.out;omega)
          rw [ej] at this;omega
         · rw [show x - 1 = j by omega,ej] at i0;omega
       · subst k;rw [HPV.out] at ej;rw [← ej] at hpe;exact hpv hpe
       · have := rise_at HFN.out k hj;rw [ej,HPV.out] at this;simp only at this;omega
      rw [decide_eq_false hno];unfold vcmp;rw [if_neg (by omega),if_pos (by omega)];rfl
    go_wp2;go_ret2
    rw [HAH.out,HQ.out];exact ⟨rfl,hbw⟩
   ·
    have hxe : x = n := by omega
    subst hxe;have HQ : Hid (decide (∃ p ∈ l,(p.1 : Int) = v) = false) := by
     refine decide_eq_false ?_;rintro ⟨p,hp,hpe⟩;obtain ⟨j,hj,hje⟩ := List.mem_iff_getElem.1 hp;have ej : l.getD j (0,0) = p := by rw [List.getD_eq_getElem?_getD,List.getElem?_eq_getElem hj,hje];rfl
     have := HLN.out;rcases HI.out.1 with i0 | i0
     · omega
     ·
      rcases Nat.lt_or_ge j (x - 1) with k2 | k2
      ·
       have := rise_at HFN.out k2 (by omega)
       rw [ej] at this;omega
      · rw [show x - 1 = j by omega,ej] at i0;omega
    go_wp2;go_ret2
    rw [HAH.out,HQ.out];exact ⟨rfl,hbw⟩
end Go.Proofs.YteefniagebcagaaGreatDoor
