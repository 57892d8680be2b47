/- Joined: LinC, LinG, LinD, Q1: words and contracts; no statement of the seat is proved here. -/
import Derived.Test.YteefniagebcagaaGreatDoorJoin14Reckons
import Derived.Lib.SliceRun
import Derived.Test.YteefniagebcagaaGreatDoorJoin13Reckons
namespace Go.Proofs.YteefniagebcagaaGreatDoor
open Go.RowKit
set_option linter.unusedVariables false
theorem Tryz.und_parts : Tryz.prog.underlying 28 = some (.slice 116) := by kernel_rfl
theorem Tryz.info_part : (Tryz.prog.info? 116).map (fun i => (i.zero,i.size,i.bytes)) = some (some (.agg #[.int .i64 0,.bool false,.slice none 0 0]),3,40) := by kernel_rfl
set_option maxRecDepth 20000 in
set_option maxHeartbeats 2000000 in
theorem clone_any (ao : Option Addr) (n cap : Nat) (ps : List (Nat × Int)) (w : World) (h : PArr w ao ps) (hl : ps.length = n) (h1 : n ≤ cap) (h2 : cap ≤ maxLen) (h3 : ao = none → cap = 0) (hm : n ≤ 10000) :
  Calls Tryz.prog 109 #[.slice ao n cap] w fun e w' => ∃ ao' n' cap',e = .returned (.slice ao' n' cap') ∧ PTS ps (.slice ao' n' cap') w' ∧ Below w.heap.size w w' := by
 have q28 : ∀ (w : World) (a : Option Addr) (n c n' c' : Nat),(binOp .eql 28 (.slice a n c) (.slice none n' c')).run Tryz.prog w = .ok (.bool a.isNone) w := fun w a n c n' c' => Lib.run_eql_slice_nil w _ _ a n c n' c' Tryz.und_parts
 cases ao with
 | none =>
  have h4 := h3 rfl;subst h4;have h5 : n = 0 := by omega
  subst h5;have h6 : ps = [] := List.eq_nil_of_length_eq_zero hl;subst h6;go_enter Tryz.func109,Tryz.ntmps109;go_wp2;go_ret
  exact ⟨none,0,0,rfl,⟨none,0,0,rfl,rfl,Nat.le_refl _,Nat.zero_le _,fun _ => rfl,PArr.nil _ _⟩,Below.refl _ _⟩
 | some ad =>
  have HL : Hid (ps.length = n) := hl;clear hl h3;unfold maxLen at h2;have hnil : LstG 3 116 w.heap.size (w.alloc (.cells #[] 116 (0,0))) (.slice (some ⟨w.heap.size,0,none⟩) 0 0) 0 [] :=
   ⟨rfl,Or.inr ⟨w.heap.size,0,#[],rfl,Nat.le_refl _,heap_alloc_new w _,Nat.le_refl _,Nat.zero_le _,rfl,rfl,fun u hu => by simp at hu⟩⟩
  have hbw := below_new w (.cells #[] 116 (0,0));rcases Nat.eq_zero_or_pos n with h0 | h0
  ·
   have hps : ps = [] := List.eq_nil_of_length_eq_zero (by rw [HL.out];exact h0)
   subst hps;subst h0;go_enter Tryz.func109,Tryz.ntmps109;obtain ⟨i,hi,hz0,hz1,hz2⟩ := info_parts Tryz.info_part;go_wp2_with (at_builtin;refine wpList_append_own _ rfl _ _ 28 rfl w.heap.size 116 i (.agg #[.int .i64 0,.bool false,.slice none 0 0]) 3 40 Tryz.und_parts hi hz0 hz1 hz2 rfl (by decide) _ 0 [] rfl hnil.owns ad 0 cap [] rfl rfl (by simp) (by simp) (by unfold maxLen;decide) (by decide) (by simp) ?_;intro v' w1 hown hgrow hn0)
   have hbl := hbw.grown hgrow (by simp) (fun k hk => (hnil.lt k hk).1)
   rcases hown.2 with ⟨rfl,_⟩ | ⟨gg,cap2,cur,rfl,_,_,k1,k2,_⟩
   ·
    go_wp2;go_ret
    exact ⟨none,0,0,rfl,⟨none,0,0,rfl,rfl,Nat.le_refl _,Nat.zero_le _,fun _ => rfl,PArr.nil _ _⟩,hbl⟩
   ·
    go_wp2;go_ret
    exact ⟨some ⟨gg,0,none⟩,0,cap2,rfl,⟨some ⟨gg,0,none⟩,0,cap2,rfl,rfl,Nat.zero_le _,k2,(fun h => by cases h),PArr.nil _ _⟩,hbl⟩
  ·
   obtain ⟨g,o,xs,had,hxl,hE,hcells,hone,hNU⟩ := (h.below hbw).cells (by rw [HL.out];exact h0)
   cases had
   have HXL : Hid (xs.length = ps.length * 3) := hxl;have HXC : Hid (∀ j u,xs[j]? = some u → (w.alloc (.cells #[] 116 (0,0))).cell? ((⟨g,o,none⟩ : Addr).add j) = some u) := hcells;clear hxl hcells;go_enter Tryz.func109,Tryz.ntmps109;go_wp2_with (at_builtin;refine wpList_append_g rfl _ _ 28 rfl 3 w.heap.size 116 (.agg #[.int .i64 0,.bool false,.slice none 0 0]) 40 Tryz.und_parts Tryz.info_part (by decide) rfl (by decide) (nuP _ _ _ _ _) (by decide) _ 0 [] rfl hnil ⟨g,o,none⟩ n cap xs rfl (by rw [HXL.out,HL.out]) HXC.out hone hNU (Or.inl h0) (by omega) (by simp) ?_)
   intro v' w1 hL hA _;obtain ⟨ao2,cap2,rfl,k1,k2,k3,k4⟩ := hL.parr (hE.keep hA.keep) HL.out;go_wp2;go_ret
   exact ⟨ao2,n,cap2,rfl,⟨ao2,n,cap2,rfl,HL.out,k1,k2,k3,k4⟩,hbw.trans (hA.bel)⟩
def sLen : Value → Nat
  | .slice _ n _ => n
  | _ => 0
theorem PTS.head {w : World} {v : Value} {p : Nat × Int} {r : List (Nat × Int)} (h : PTS (p :: r) v w) : ∃ g o n c s a m f,v = .slice (some ⟨g,o,none⟩) n c ∧ n = r.length + 1 ∧ n ≤ c ∧ c ≤ maxLen ∧ w.cell? ⟨g,o,none⟩ = some (.int .i64 (p.1 : Nat)) ∧ w.cell? ⟨g,o + 1,none⟩ = some (.bool s) ∧ w.cell? ⟨g,o + 2,none⟩ = some (.slice a m f) ∧ AInt w (.agg #[.bool s,.slice a m f]) p.2 ∧ PTS r (.slice (if c = 1 then some ⟨g,o,none⟩ else some ⟨g,o + 3,none⟩) (n - 1) (c - 1)) w := by
 obtain ⟨ao,n,c,rfl,h1,h2,h3,h4,h5⟩ := h;obtain ⟨g,o,s,a,m,f,rfl,k1,k2,k3,k4⟩ := h5.at 0 (by simp)
 rw [Nat.zero_mul,Nat.add_zero] at k1 k2 k3;have hd := h5.drop 1;rw [Nat.one_mul,List.drop_one,List.tail_cons] at hd;have h6 : n = r.length + 1 := by rw [← h1];rfl
 refine ⟨g,o,n,c,s,a,m,f,rfl,h6,h2,h3,k1,k2,k3,k4,_,_,_,rfl,by omega,by omega,by omega,?_,?_⟩
 · intro e;split at e <;> cases e
 ·
  split
  ·
   have hr : r = [] := List.eq_nil_of_length_eq_zero (by omega)
   rw [hr];exact PArr.nil _ _
  · exact hd
set_option maxRecDepth 20000 in
set_option maxHeartbeats 8000000 in
theorem merged_any (va vb : Value) (a b : List (Nat × Int)) (w : World) (ha : PTS a va w) (hb : PTS b vb w) (fa : Fine a) (fb : Fine b) :
  Calls Tryz.prog 56 #[va,vb] w fun e w' => ∃ v c,e = .returned (.tuple #[v,.int .i64 c]) ∧ ((addFits a b ∧ c = 0 ∧ PTS (addP a b) v w') ∨ (¬ addFits a b ∧ c = 11 ∧ v = .slice none 0 0)) ∧ Below w.heap.size w w' := by
 have HF : Hid (Fine a ∧ Fine b) := ⟨fa,fb⟩;have la := fa.len;have lb := fb.len;clear fa fb;obtain ⟨ao,n,cap,rfl,h1,h2,h3,h4,h5⟩ := ha;obtain ⟨bo,m,cap2,rfl,k1,k2,k3,k4,k5⟩ := hb;have HA0 : Hid (PTS a (.slice ao n cap) w) := ⟨ao,n,cap,rfl,h1,h2,h3,h4,h5⟩;have HB0 : Hid (PTS b (.slice bo m cap2) w) := ⟨bo,m,cap2,rfl,k1,k2,k3,k4,k5⟩;have hnm : n ≤ 4096 ∧ m ≤ 4096 := ⟨by omega,by omega⟩
 have HLN : Hid (a.length = n ∧ b.length = m) := ⟨h1,k1⟩;clear h1 h2 h3 h4 h5 k1 k2 k3 k4 k5 la lb;obtain ⟨hn,hm⟩ := hnm;go_enter Tryz.func56,Tryz.ntmps56;go_wp2_with (at_make;refine wpList_make_g _ rfl _ _ 28 rfl 3 116 (.agg #[.int .i64 0,.bool false,.slice none 0 0]) 40 Tryz.und_parts Tryz.info_part rfl (by decide) (nuP _ _ _ _ _) _ _ _ _ 0 (n + m) rfl rfl rfl (by simp) (by decide) (Nat.zero_le _) (by omega) ?_;intro w1 xs0 hL0 hB0 hS0;have hxs0 : xs0 = [] := List.eq_nil_of_length_eq_zero (by simpa using hL0.1);subst hxs0)
 go_loopw [0,1,6] (fun u v o wr => ∃ (us vs ps : List (Nat × Int)) (xs : List Value),Hid (PTS us u w ∧ PTS vs v w ∧ Fine us ∧ Fine vs) ∧ Hid (addP a b = ps ++ addP us vs ∧ (addFits a b ↔ addFits us vs) ∧ ps.length + (us.length + vs.length) ≤ 8192) ∧ LstG 3 116 w.heap.size wr o ps.length xs ∧ ElsP wr xs ps ∧ o ≠ .slice none 0 0 ∧ Below w.heap.size w wr) (fun u v _ _ => sLen u + sLen v)
 case atStart => exact ⟨a,b,[],[],⟨HA0.out,HB0.out,HF.out.1,HF.out.2⟩,⟨rfl,Iff.rfl,by have := HLN.out;simp;omega⟩,hL0,ElsP.nil _,(fun h => by cases h),hB0⟩
 case round =>
  clear hL0 hB0 hS0;obtain ⟨us,vs,ps,xs,HP,HI,hL,hE,hne,hbw⟩ := hrel;rcases us with _ | ⟨⟨pv,pz⟩,us⟩
  ·
   obtain ⟨ao1,n1,c1,rfl,h1,h2,h3,h4,h5⟩ := HP.out.1;obtain ⟨bo1,m1,d1,rfl,k1,k2,k3,k4,k5⟩ := HP.out.2.1;have HQ : Hid (PArr w ao1 [] ∧ PArr w bo1 vs ∧ (ao1 = none → c1 = 0) ∧ (bo1 = none → d1 = 0) ∧ [].length = n1 ∧ vs.length = m1) := ⟨h5,k5,h4,k4,h1,k1⟩;have HN : Hid (ps.length + ([].length + vs.length) ≤ 8192) := HI.out.2.2;clear h4 h5 k4 k5;unfold maxLen at h3 k3;have e0 : n1 = 0 := h1.symm;subst e0;clear h1 k1;go_wp2_with (first
    | (at_builtin;refine wpList_append_pts rfl (.tmp 90) (.tmp 91) 28 rfl w.heap.size 40 Tryz.und_parts Tryz.info_part (by decide) _ ps xs rfl hL hE [] _ _ _ rfl HQ.out.2.2.2.2.1 HQ.out.2.2.1 h2 (HQ.out.1.below hbw) (by have := HN.out;have := HQ.out.2.2.2.2;omega) hbw.size ?_;intro v1 w1 ys1 hL1 hE1 hA1 hnn1;have hbw1 := hbw.trans hA1.bel;replace hne := hnn1 hne;clear hL hE hnn1 hA1)
    | (at_builtin;refine wpList_append_pts rfl (.tmp 93) (.tmp 94) 28 rfl w.heap.size 40 Tryz.und_parts Tryz.info_part (by decide) _ (ps ++ []) ys1 rfl hL1 hE1 vs _ _ _ rfl HQ.out.2.2.2.2.2 HQ.out.2.2.2.1 k2 (HQ.out.2.1.below hbw1) (by have := HN.out;have := HQ.out.2.2.2.2;rw [List.length_append];omega) hbw1.size ?_;intro v2 w2 ys2 hL2 hE2 hA2 hnn2;have hbw2 := hbw1.trans hA2.bel;obtain ⟨ao3,c3,rfl,q1,q2,q3,q4⟩ := hL2.parr hE2 rfl;clear hL2 hE2 hA2 hnn2))
   go_ret2
   refine ⟨_,_,rfl,Or.inl ⟨?_,rfl,?_⟩,hbw2⟩
   · rw [HI.out.2.1];first | exact fits_nil_left HP.out.2.2.2 | exact fits_nil_right HP.out.2.2.1
   ·
    have e9 : addP a b = ps ++ [] ++ vs := by rw [HI.out.1];simp [addP_nil_left]
    rw [e9];exact ⟨_,_,_,rfl,by simp,by simpa using q1,q2,q3,q4⟩
  ·
   rcases vs with _ | ⟨⟨qv,qz⟩,vs⟩
   ·
    obtain ⟨ao1,n1,c1,rfl,h1,h2,h3,h4,h5⟩ := HP.out.1;obtain ⟨bo1,m1,d1,rfl,k1,k2,k3,k4,k5⟩ := HP.out.2.1;have HQ : Hid (PArr w ao1 ((pv,pz) :: us) ∧ PArr w bo1 [] ∧ (ao1 = none → c1 = 0) ∧ (bo1 = none → d1 = 0) ∧ ((pv,pz) :: us).length = n1 ∧ [].length = m1) := ⟨h5,k5,h4,k4,h1,k1⟩;have HN : Hid (ps.length + (((pv,pz) :: us).length + [].length) ≤ 8192) := HI.out.2.2;clear h4 h5 k4 k5;unfold maxLen at h3 k3;have e0 : m1 = 0 := k1.symm;subst e0;have e1 : 0 < n1 := by rw [← h1];simp
    clear h1 k1;go_wp2_with (first
     | (at_builtin;refine wpList_append_pts rfl (.tmp 90) (.tmp 91) 28 rfl w.heap.size 40 Tryz.und_parts Tryz.info_part (by decide) _ ps xs rfl hL hE ((pv,pz) :: us) _ _ _ rfl HQ.out.2.2.2.2.1 HQ.out.2.2.1 h2 (HQ.out.1.below hbw) (by have := HN.out;have := HQ.out.2.2.2.2;omega) hbw.size ?_;intro v1 w1 ys1 hL1 hE1 hA1 hnn1;have hbw1 := hbw.trans hA1.bel;replace hne := hnn1 hne;clear hL hE hnn1 hA1)
     | (at_builtin;refine wpList_append_pts rfl (.tmp 93) (.tmp 94) 28 rfl w.heap.size 40 Tryz.und_parts Tryz.info_part (by decide) _ (ps ++ ((pv,pz) :: us)) ys1 rfl hL1 hE1 [] _ _ _ rfl HQ.out.2.2.2.2.2 HQ.out.2.2.2.1 k2 (HQ.out.2.1.below hbw1) (by have := HN.out;have := HQ.out.2.2.2.2;rw [List.length_append];omega) hbw1.size ?_;intro v2 w2 ys2 hL2 hE2 hA2 hnn2;have hbw2 := hbw1.trans hA2.bel;obtain ⟨ao3,c3,rfl,q1,q2,q3,q4⟩ := hL2.parr hE2 rfl;clear hL2 hE2 hA2 hnn2))
    go_ret2
    refine ⟨_,_,rfl,Or.inl ⟨?_,rfl,?_⟩,hbw2⟩
    · rw [HI.out.2.1];first | exact fits_nil_left HP.out.2.2.2 | exact fits_nil_right HP.out.2.2.1
    ·
     have e9 : addP a b = ps ++ ((pv,pz) :: us) ++ [] := by rw [HI.out.1];simp [addP_nil_right]
     rw [e9];exact ⟨_,_,_,rfl,by simp,by simpa using q1,q2,q3,q4⟩
   ·
    obtain ⟨ga,oa,na,ca,sa,aa,ma,fa,rfl,ea,la1,la2,a0,a1,a2,hza,hta⟩ := HP.out.1.head;obtain ⟨gb,ob,nb,cb,sb,ab,mb,fb_,rfl,eb,lb1,lb2,b0,b1,b2,hzb,htb⟩ := HP.out.2.1.head;have HTA : Hid (PTS us (.slice (if ca = 1 then some ⟨ga,oa,none⟩ else some ⟨ga,oa + 3,none⟩) (na - 1) (ca - 1)) w) := hta
    have HTB : Hid (PTS vs (.slice (if cb = 1 then some ⟨gb,ob,none⟩ else some ⟨gb,ob + 3,none⟩) (nb - 1) (cb - 1)) w) := htb
    have HEA : Hid (na = us.length + 1 ∧ nb = vs.length + 1) := ⟨ea,eb⟩;have pa : 0 < na := by omega
    have pb : 0 < nb := by omega
    have pa1 : (1 : Int) ≤ na := by omega
    have pb1 : (1 : Int) ≤ nb := by omega
    clear ea eb hta htb;unfold maxLen at la2 lb2;have A0 := (hbw.cell (p := ⟨ga,oa,none⟩) (World.block_lt_of_cell? w _ a0)).trans a0;have B0 := (hbw.cell (p := ⟨gb,ob,none⟩) (World.block_lt_of_cell? w _ b0)).trans b0;by_cases hlt : pv < qv
    ·
     have HLT : Hid (pv < qv) := hlt;have hlt1 : (pv : Int) < qv := by omega
     go_wp2;go_region
     go_wp2;have HXL : Hid (xs.length = ps.length * 3) := hL.1;replace hL := hL.below (Below.refl _ _).drew;replace hE := hE.keep (KeepN.below (Below.refl _ _).drew);replace hbw := hbw.drew;clear A0 B0;generalize wr.drew = W at hL hE hbw ⊢;have hLb := hbw.size;have hLg := Nat.le_refl w.heap.size;have hbW := hbw;refine wp_region_M2 (by kernel_rfl) [0,6,64,65,66,67,68,69,70,71] [some 0,none,none,none,none,none,some 6,none,none,none,none,none,none,none,none,none,none,none,none,none,none,none,none,none,none,none,none,none,none,none,none,none,none,none,none,none,none,none,none,none,none,none,none,none,none,none,none,none,none,none,none,none,none,none,none,none,none,none,none,none,none,none,none,none,some 64,some 65,some 66,some 67,some 68,some 69,some 70,some 71] (fun U => by kernel_rfl) (fun L U wr => Below w.heap.size w wr ∧ KeepN W wr ∧ W.heap.size ≤ wr.heap.size ∧ (L 5 = false → LstG 3 116 w.heap.size wr u6 ps.length xs) ∧ (L 8 = false → U 6 = (u6)) ∧ (L 9 = false → U 0 = (.slice (some ⟨ga,oa,none⟩) na ca)) ∧ (L 0 = true → IS (u6) (U 64) wr) ∧ (L 1 = true → IS (.slice (some ⟨ga,oa,none⟩) na ca) (U 65) wr) ∧ (L 2 = true → IS (.pointer (some ⟨ga,oa,none⟩)) (U 66) wr) ∧ (L 3 = true → IS (.agg #[.int .i64 (pv : Nat),.bool sa,.slice aa ma fa]) (U 67) wr) ∧ (L 4 = true → L 5 = false → ONE 116 #[.int .i64 (pv : Nat),.bool sa,.slice aa ma fa] (U 68) wr) ∧ (L 5 = true → LstG 3 116 w.heap.size wr (U 69) (ps.length + 1) (xs ++ [.int .i64 (pv : Nat),.bool sa,.slice aa ma fa]) ∧ U 69 ≠ .slice none 0 0) ∧ (L 6 = true → IS (.slice (some ⟨ga,oa,none⟩) na ca) (U 70) wr) ∧ (L 7 = true → IS (.slice (if ca = 1 then some ⟨ga,oa,none⟩ else some ⟨ga,oa + 3,none⟩) (na - 1) (ca - 1)) (U 71) wr) ∧ (L 8 = true → L 5 = true ∧ U 6 = U 69) ∧ (L 9 = true → IS (.slice (if ca = 1 then some ⟨ga,oa,none⟩ else some ⟨ga,oa + 3,none⟩) (na - 1) (ca - 1)) (U 0) wr) ∧ (L 5 = true → L 0 = true) ∧ (L 5 = true → L 4 = true) ∧ (L 8 = true → L 0 = true) ∧ (L 9 = true → L 1 = true) ∧ (L 9 = true → L 6 = true)) (by kernel_rfl) ?_ ?_ ?_
     · exact ⟨hbw.drew,KeepN.below (Below.refl _ _).drew,Nat.le_refl _,(fun _ => hL.below (Below.refl _ _).drew),(fun _ => rfl),(fun _ => rfl),(fun h => by cases h),(fun h => by cases h),(fun h => by cases h),(fun h => by cases h),(fun h => by cases h),(fun h => by cases h),(fun h => by cases h),(fun h => by cases h),(fun h => by cases h),(fun h => by cases h),(fun h => by cases h),(fun h => by cases h),(fun h => by cases h),(fun h => by cases h),(fun h => by cases h)⟩
     ·
      refine StepsU.run rfl ?_ ?_
      ·
       intro L U wr hF hlk haf A K hA hK;have HA : Hid (A = putAll _ _ U) := hA;clear hA;simp [Aft,Region.binds] at haf;obtain ⟨fb,fk,fs,fl,v6,v0,f0,f1,f2,f3,f4,f5,f6,f7,f8,f9,p0,p4,z8_0,z9_1,z9_6⟩ := hF;have hw : L 8 = false := by cases h : L 8 with | false => rfl | true => rw [z8_0 h] at hlk;cases hlk
       have e6 := rd HA.out 6 (by kernel_rfl) (v6 hw)
       refine ⟨?_⟩;go_simp;refine hK (upd U 64 (u6)) _ _ ?_ ?_
       · rw [HA.out];kernel_rfl
       · exact ⟨fb,fk,fs,fl,v6,v0,(fun _ => rfl),f1,f2,f3,f4,f5,f6,f7,f8,f9,(fun _ => rfl),p4,(fun _ => rfl),z9_1,z9_6⟩
      refine StepsU.run rfl ?_ ?_
      ·
       intro L U wr hF hlk haf A K hA hK;have HA : Hid (A = putAll _ _ U) := hA;clear hA;simp [Aft,Region.binds] at haf;obtain ⟨fb,fk,fs,fl,v6,v0,f0,f1,f2,f3,f4,f5,f6,f7,f8,f9,p0,p4,z8_0,z9_1,z9_6⟩ := hF;have hw : L 9 = false := by cases h : L 9 with | false => rfl | true => rw [z9_1 h] at hlk;cases hlk
       have e0 := rd HA.out 0 (by kernel_rfl) (v0 hw)
       refine ⟨?_⟩;go_simp;refine hK (upd U 65 (.slice (some ⟨ga,oa,none⟩) na ca)) _ _ ?_ ?_
       · rw [HA.out];kernel_rfl
       · exact ⟨fb,fk,fs,fl,v6,v0,f0,(fun _ => rfl),f2,f3,f4,f5,f6,f7,f8,f9,p0,p4,z8_0,(fun _ => rfl),z9_6⟩
      refine StepsU.run rfl ?_ ?_
      ·
       intro L U wr hF hlk haf A K hA hK;have HA : Hid (A = putAll _ _ U) := hA;clear hA;simp [Aft,Region.binds] at haf;obtain ⟨fb,fk,fs,fl,v6,v0,f0,f1,f2,f3,f4,f5,f6,f7,f8,f9,p0,p4,z8_0,z9_1,z9_6⟩ := hF;have g1 := f1 (by simp [haf])
       have e65 := rd HA.out 65 (by kernel_rfl) g1
       refine ⟨?_⟩;go_simp;refine hK (upd U 66 (.pointer (some ⟨ga,oa,none⟩))) _ _ ?_ ?_
       · rw [HA.out];kernel_rfl
       · exact ⟨fb,fk,fs,fl,v6,v0,f0,f1,(fun _ => rfl),f3,f4,f5,f6,f7,f8,f9,p0,p4,z8_0,z9_1,z9_6⟩
      refine StepsU.run rfl ?_ ?_
      ·
       intro L U wr hF hlk haf A K hA hK;have HA : Hid (A = putAll _ _ U) := hA;clear hA;simp [Aft,Region.binds] at haf;obtain ⟨fb,fk,fs,fl,v6,v0,f0,f1,f2,f3,f4,f5,f6,f7,f8,f9,p0,p4,z8_0,z9_1,z9_6⟩ := hF;have g2 := f2 (by simp [haf])
       have ka0 := (fb.cell (p := ⟨ga,oa,none⟩) (World.block_lt_of_cell? w _ a0)).trans a0;have ka1 := (fb.cell (p := ⟨ga,oa + 1,none⟩) (World.block_lt_of_cell? w _ a1)).trans a1;have ka2 := (fb.cell (p := ⟨ga,oa + 2,none⟩) (World.block_lt_of_cell? w _ a2)).trans a2;have e66 := rd HA.out 66 (by kernel_rfl) g2
       refine ⟨?_⟩;go_simp;refine hK (upd U 67 (.agg #[.int .i64 (pv : Nat),.bool sa,.slice aa ma fa])) _ _ ?_ ?_
       · rw [HA.out];kernel_rfl
       · exact ⟨fb,fk,fs,fl,v6,v0,f0,f1,f2,(fun _ => rfl),f4,f5,f6,f7,f8,f9,p0,p4,z8_0,z9_1,z9_6⟩
      refine StepsU.run rfl ?_ ?_
      ·
       intro L U wr hF hlk haf A K hA hK;have HA : Hid (A = putAll _ _ U) := hA;clear hA;simp [Aft,Region.binds] at haf;obtain ⟨fb,fk,fs,fl,v6,v0,f0,f1,f2,f3,f4,f5,f6,f7,f8,f9,p0,p4,z8_0,z9_1,z9_6⟩ := hF;have g3 := f3 (by simp [haf])
       have e67 := rd HA.out 67 (by kernel_rfl) g3
       have hap : L 5 = false := by cases h : L 5 with | false => rfl | true => rw [p4 h] at hlk;cases hlk
       refine ⟨?_⟩;go_simp;have hb := below_new wr (.cells #[.int .i64 (pv : Nat),.bool sa,.slice aa ma fa] 116 (0,0));refine hK (upd U 68 (.slice (some ⟨wr.heap.size,0,none⟩) 1 1)) _ _ ?_ ?_
       · rw [HA.out];kernel_rfl
       · exact ⟨(fb.step hb (Nat.le_refl _)),(fk.trans (KeepN.below hb)),(Nat.le_trans fs hb.size),(fun h => (fl h).below hb),v6,v0,f0,f1,f2,f3,(fun _ _ => ⟨wr.heap.size,rfl,Blk.new wr 116 #[.int .i64 (pv : Nat),.bool sa,.slice aa ma fa]⟩),(fun h => ⟨(f5 h).1.below hb,(f5 h).2⟩),f6,f7,f8,f9,p0,(fun _ => rfl),z8_0,z9_1,z9_6⟩
      refine StepsU.run rfl ?_ ?_
      ·
       intro L U wr hF hlk haf A K hA hK;have HA : Hid (A = putAll _ _ U) := hA;clear hA;simp [Aft,Region.binds] at haf;obtain ⟨fb,fk,fs,fl,v6,v0,f0,f1,f2,f3,f4,f5,f6,f7,f8,f9,p0,p4,z8_0,z9_1,z9_6⟩ := hF;have g0 := f0 (by simp [haf])
       have g4 := f4 (by simp [haf]) hlk
       obtain ⟨gb,hgb,hBb⟩ := g4;have e64 := rd HA.out 64 (by kernel_rfl) g0
       have e68 := rd HA.out 68 (by kernel_rfl) hgb
       refine ⟨?_⟩;refine wp_append_g (.tmp 64) (.tmp 68) 28 rfl 3 w.heap.size 116 (.agg #[.int .i64 0,.bool false,.slice none 0 0]) 40 Tryz.und_parts Tryz.info_part (by decide) rfl (by decide) (nuP _ _ _ _ _) (by decide) u6 ps.length xs (by simp [Act.eval,e64]) (fl hlk) ⟨gb,0,none⟩ 1 1 [.int .i64 (pv : Nat),.bool sa,.slice aa ma fa] (by simp [Act.eval,e68]) rfl ?_ (by intro u hu;simp at hu;rcases hu with rfl | rfl | rfl <;> rfl) (nuP _ _ _ _ _) (Or.inl (by decide)) (by have := HI.out.2.2;omega) (Nat.le_trans hLb fs) ?_
       ·
        intro j u hj;match j,hj with
        | 0,hj => simp at hj;subst hj;exact hBb.cell 0
        | 1,hj => simp at hj;subst hj;exact hBb.cell 1
        | 2,hj => simp at hj;subst hj;exact hBb.cell 2
        | j + 3,hj => simp at hj
       ·
        intro v' w1 hL1 hA1 hnn1;refine hK (upd U 69 v') _ _ ?_ ?_
        · rw [HA.out];kernel_rfl
        · exact ⟨(fb.trans (hA1.bel.mono hLg)),(fk.trans hA1.keep),(Nat.le_trans fs hA1.size),(fun h => by cases h),v6,v0,f0,f1,f2,f3,(fun _ h => by cases h),(fun _ => ⟨hL1,hnn1⟩),f6,f7,(fun h => by have h1 := (f8 h).1;rw [hlk] at h1;cases h1),f9,(fun _ => by simp [haf]),(fun _ => by simp [haf]),z8_0,z9_1,z9_6⟩
      refine StepsU.run rfl ?_ ?_
      ·
       intro L U wr hF hlk haf A K hA hK;have HA : Hid (A = putAll _ _ U) := hA;clear hA;simp [Aft,Region.binds] at haf;obtain ⟨fb,fk,fs,fl,v6,v0,f0,f1,f2,f3,f4,f5,f6,f7,f8,f9,p0,p4,z8_0,z9_1,z9_6⟩ := hF;have hw : L 9 = false := by cases h : L 9 with | false => rfl | true => rw [z9_6 h] at hlk;cases hlk
       have e0 := rd HA.out 0 (by kernel_rfl) (v0 hw)
       refine ⟨?_⟩;go_simp;refine hK (upd U 70 (.slice (some ⟨ga,oa,none⟩) na ca)) _ _ ?_ ?_
       · rw [HA.out];kernel_rfl
       · exact ⟨fb,fk,fs,fl,v6,v0,f0,f1,f2,f3,f4,f5,(fun _ => rfl),f7,f8,f9,p0,p4,z8_0,z9_1,(fun _ => rfl)⟩
      refine StepsU.run rfl ?_ ?_
      ·
       intro L U wr hF hlk haf A K hA hK;have HA : Hid (A = putAll _ _ U) := hA;clear hA;simp [Aft,Region.binds] at haf;obtain ⟨fb,fk,fs,fl,v6,v0,f0,f1,f2,f3,f4,f5,f6,f7,f8,f9,p0,p4,z8_0,z9_1,z9_6⟩ := hF;have g6 := f6 (by simp [haf])
       have e70 := rd HA.out 70 (by kernel_rfl) g6
       refine ⟨?_⟩;go_simp;refine hK (upd U 71 (.slice (if ca = 1 then some ⟨ga,oa,none⟩ else some ⟨ga,oa + 3,none⟩) (na - 1) (ca - 1))) _ _ ?_ ?_
       · rw [HA.out];kernel_rfl
       · exact ⟨fb,fk,fs,fl,v6,v0,f0,f1,f2,f3,f4,f5,f6,(fun _ => rfl),f8,f9,p0,p4,z8_0,z9_1,z9_6⟩
      refine StepsU.run rfl ?_ ?_
      ·
       intro L U wr hF hlk haf A K hA hK;have HA : Hid (A = putAll _ _ U) := hA;clear hA;simp [Aft,Region.binds] at haf;obtain ⟨fb,fk,fs,fl,v6,v0,f0,f1,f2,f3,f4,f5,f6,f7,f8,f9,p0,p4,z8_0,z9_1,z9_6⟩ := hF;have e69 := rd HA.out 69 (by kernel_rfl) rfl
       refine ⟨?_⟩;go_simp;refine hK (upd U 6 (U 69)) _ _ ?_ ?_
       · rw [HA.out];kernel_rfl
       · exact ⟨fb,fk,fs,fl,(fun h => by cases h),v0,f0,f1,f2,f3,f4,f5,f6,f7,(fun _ => ⟨by simp [haf],rfl⟩),f9,p0,p4,(fun _ => by simp [haf]),z9_1,z9_6⟩
      refine StepsU.run rfl ?_ StepsU.nil
      ·
       intro L U wr hF hlk haf A K hA hK;have HA : Hid (A = putAll _ _ U) := hA;clear hA;simp [Aft,Region.binds] at haf;obtain ⟨fb,fk,fs,fl,v6,v0,f0,f1,f2,f3,f4,f5,f6,f7,f8,f9,p0,p4,z8_0,z9_1,z9_6⟩ := hF;have g7 := f7 (by simp [haf])
       have e71 := rd HA.out 71 (by kernel_rfl) rfl
       refine ⟨?_⟩;go_simp;refine hK (upd U 0 (U 71)) _ _ ?_ ?_
       · rw [HA.out];kernel_rfl
       · exact ⟨fb,fk,fs,fl,v6,(fun h => by cases h),f0,f1,f2,f3,f4,f5,f6,f7,f8,(fun _ => g7),p0,p4,z8_0,(fun _ => by simp [haf]),(fun _ => by simp [haf])⟩
     clear hbw hL;intro L U1 V hall hF;obtain ⟨hbw,fk,fs,fl,v6,v0,f0,f1,f2,f3,f4,f5,f6,f7,f8,f9,p0,p4,z8_0,z9_1,z9_6⟩ := hF;clear fl v6 v0 p0 p4 z8_0 z9_1 z9_6;have g0 := f0 (hall 0 (by decide))
     have g1 := f1 (hall 1 (by decide))
     have g2 := f2 (hall 2 (by decide))
     have g3 := f3 (hall 3 (by decide))
     have g5 := f5 (hall 5 (by decide))
     have g6 := f6 (hall 6 (by decide))
     have g7 := f7 (hall 7 (by decide))
     have g8 := f8 (hall 8 (by decide))
     have g9 := f9 (hall 9 (by decide))
     clear hall f0 f1 f2 f3 f4 f5 f6 f7 f8 f9;try clear g0
     try clear g1
     try clear g2
     try clear g3
     try clear g6
     try clear g7
     clear hbW;simp only [setM_some,setM_none,setM_nil];obtain ⟨hL2,hne2⟩ := g5;have e6 := g8.2;rw [← e6] at hL2 hne2;have HE6 : Hid (U1 6 = _) := e6;clear g8 e6;have hE2 := (hE.keep fk).app HXL.out (ElsP.one (v := (pv,pz).1) (z := (pv,pz).2) (hza.below hbw));go_wp2;go_roundw
     case rel =>
      refine ⟨us,(qv,qz) :: vs,ps ++ [(pv,pz)],xs ++ [.int .i64 (pv : Nat),.bool sa,.slice aa ma fa],⟨by rw [show U1 0 = _ from g9];exact HTA.out,HP.out.2.1,HP.out.2.2.1.tail,HP.out.2.2.2⟩,⟨?_,?_,?_⟩,?_,hE2,hne2,hbw⟩
      · rw [HI.out.1,addP_lt HLT.out,List.append_assoc];rfl
      · rw [HI.out.2.1,fits_lt HP.out.2.2.1 HP.out.2.2.2 HLT.out]
      · have := HI.out.2.2;simp only [List.length_cons,List.length_append,List.length_nil] at this ⊢;omega
      · rw [List.length_append];exact hL2
     case measure =>
      rw [show U1 0 = _ from g9];simp [sLen];omega
    ·
     by_cases hgt : qv < pv
     ·
      have HLT : Hid (qv < pv) := hgt;have hgt1 : (qv : Int) < pv := by omega
      have hlt1 : ¬ (pv : Int) < qv := by omega
      go_wp2;go_region
      go_wp2;go_region
      go_wp2;have HXL : Hid (xs.length = ps.length * 3) := hL.1;replace hL := hL.below (Below.refl _ _).drew.drew;replace hE := hE.keep (KeepN.below (Below.refl _ _).drew.drew);replace hbw := hbw.drew.drew;clear A0 B0;generalize wr.drew.drew = W at hL hE hbw ⊢;have hLb := hbw.size;have hLg := Nat.le_refl w.heap.size;have hbW := hbw;refine wp_region_M2 (by kernel_rfl) [1,6,82,83,84,85,86,87,88,89] [none,some 1,none,none,none,none,some 6,none,none,none,none,none,none,none,none,none,none,none,none,none,none,none,none,none,none,none,none,none,none,none,none,none,none,none,none,none,none,none,none,none,none,none,none,none,none,none,none,none,none,none,none,none,none,none,none,none,none,none,none,none,none,none,none,none,none,none,none,none,none,none,none,none,none,none,none,none,none,none,none,none,none,none,some 82,some 83,some 84,some 85,some 86,some 87,some 88,some 89] (fun U => by kernel_rfl) (fun L U wr => Below w.heap.size w wr ∧ KeepN W wr ∧ W.heap.size ≤ wr.heap.size ∧ (L 5 = false → LstG 3 116 w.heap.size wr u6 ps.length xs) ∧ (L 8 = false → U 6 = (u6)) ∧ (L 9 = false → U 1 = (.slice (some ⟨gb,ob,none⟩) nb cb)) ∧ (L 0 = true → IS (u6) (U 82) wr) ∧ (L 1 = true → IS (.slice (some ⟨gb,ob,none⟩) nb cb) (U 83) wr) ∧ (L 2 = true → IS (.pointer (some ⟨gb,ob,none⟩)) (U 84) wr) ∧ (L 3 = true → IS (.agg #[.int .i64 (qv : Nat),.bool sb,.slice ab mb fb_]) (U 85) wr) ∧ (L 4 = true → L 5 = false → ONE 116 #[.int .i64 (qv : Nat),.bool sb,.slice ab mb fb_] (U 86) wr) ∧ (L 5 = true → LstG 3 116 w.heap.size wr (U 87) (ps.length + 1) (xs ++ [.int .i64 (qv : Nat),.bool sb,.slice ab mb fb_]) ∧ U 87 ≠ .slice none 0 0) ∧ (L 6 = true → IS (.slice (some ⟨gb,ob,none⟩) nb cb) (U 88) wr) ∧ (L 7 = true → IS (.slice (if cb = 1 then some ⟨gb,ob,none⟩ else some ⟨gb,ob + 3,none⟩) (nb - 1) (cb - 1)) (U 89) wr) ∧ (L 8 = true → L 5 = true ∧ U 6 = U 87) ∧ (L 9 = true → IS (.slice (if cb = 1 then some ⟨gb,ob,none⟩ else some ⟨gb,ob + 3,none⟩) (nb - 1) (cb - 1)) (U 1) wr) ∧ (L 5 = true → L 0 = true) ∧ (L 5 = true → L 4 = true) ∧ (L 8 = true → L 0 = true) ∧ (L 9 = true → L 1 = true) ∧ (L 9 = true → L 6 = true)) (by kernel_rfl) ?_ ?_ ?_
      · exact ⟨hbw.drew,KeepN.below (Below.refl _ _).drew,Nat.le_refl _,(fun _ => hL.below (Below.refl _ _).drew),(fun _ => rfl),(fun _ => rfl),(fun h => by cases h),(fun h => by cases h),(fun h => by cases h),(fun h => by cases h),(fun h => by cases h),(fun h => by cases h),(fun h => by cases h),(fun h => by cases h),(fun h => by cases h),(fun h => by cases h),(fun h => by cases h),(fun h => by cases h),(fun h => by cases h),(fun h => by cases h),(fun h => by cases h)⟩
      ·
       refine StepsU.run rfl ?_ ?_
       ·
        intro L U wr hF hlk haf A K hA hK;have HA : Hid (A = putAll _ _ U) := hA;clear hA;simp [Aft,Region.binds] at haf;obtain ⟨fb,fk,fs,fl,v6,v1,f0,f1,f2,f3,f4,f5,f6,f7,f8,f9,p0,p4,z8_0,z9_1,z9_6⟩ := hF;have hw : L 8 = false := by cases h : L 8 with | false => rfl | true => rw [z8_0 h] at hlk;cases hlk
        have e6 := rd HA.out 6 (by kernel_rfl) (v6 hw)
        refine ⟨?_⟩;go_simp;refine hK (upd U 82 (u6)) _ _ ?_ ?_
        · rw [HA.out];kernel_rfl
        · exact ⟨fb,fk,fs,fl,v6,v1,(fun _ => rfl),f1,f2,f3,f4,f5,f6,f7,f8,f9,(fun _ => rfl),p4,(fun _ => rfl),z9_1,z9_6⟩
       refine StepsU.run rfl ?_ ?_
       ·
        intro L U wr hF hlk haf A K hA hK;have HA : Hid (A = putAll _ _ U) := hA;clear hA;simp [Aft,Region.binds] at haf;obtain ⟨fb,fk,fs,fl,v6,v1,f0,f1,f2,f3,f4,f5,f6,f7,f8,f9,p0,p4,z8_0,z9_1,z9_6⟩ := hF;have hw : L 9 = false := by cases h : L 9 with | false => rfl | true => rw [z9_1 h] at hlk;cases hlk
        have e1 := rd HA.out 1 (by kernel_rfl) (v1 hw)
        refine ⟨?_⟩;go_simp;refine hK (upd U 83 (.slice (some ⟨gb,ob,none⟩) nb cb)) _ _ ?_ ?_
        · rw [HA.out];kernel_rfl
        · exact ⟨fb,fk,fs,fl,v6,v1,f0,(fun _ => rfl),f2,f3,f4,f5,f6,f7,f8,f9,p0,p4,z8_0,(fun _ => rfl),z9_6⟩
       refine StepsU.run rfl ?_ ?_
       ·
        intro L U wr hF hlk haf A K hA hK;have HA : Hid (A = putAll _ _ U) := hA;clear hA;simp [Aft,Region.binds] at haf;obtain ⟨fb,fk,fs,fl,v6,v1,f0,f1,f2,f3,f4,f5,f6,f7,f8,f9,p0,p4,z8_0,z9_1,z9_6⟩ := hF;have g1 := f1 (by simp [haf])
        have e83 := rd HA.out 83 (by kernel_rfl) g1
        refine ⟨?_⟩;go_simp;refine hK (upd U 84 (.pointer (some ⟨gb,ob,none⟩))) _ _ ?_ ?_
        · rw [HA.out];kernel_rfl
        · exact ⟨fb,fk,fs,fl,v6,v1,f0,f1,(fun _ => rfl),f3,f4,f5,f6,f7,f8,f9,p0,p4,z8_0,z9_1,z9_6⟩
       refine StepsU.run rfl ?_ ?_
       ·
        intro L U wr hF hlk haf A K hA hK;have HA : Hid (A = putAll _ _ U) := hA;clear hA;simp [Aft,Region.binds] at haf;obtain ⟨fb,fk,fs,fl,v6,v1,f0,f1,f2,f3,f4,f5,f6,f7,f8,f9,p0,p4,z8_0,z9_1,z9_6⟩ := hF;have g2 := f2 (by simp [haf])
        have kb0 := (fb.cell (p := ⟨gb,ob,none⟩) (World.block_lt_of_cell? w _ b0)).trans b0;have kb1 := (fb.cell (p := ⟨gb,ob + 1,none⟩) (World.block_lt_of_cell? w _ b1)).trans b1;have kb2 := (fb.cell (p := ⟨gb,ob + 2,none⟩) (World.block_lt_of_cell? w _ b2)).trans b2;have e84 := rd HA.out 84 (by kernel_rfl) g2
        refine ⟨?_⟩;go_simp;refine hK (upd U 85 (.agg #[.int .i64 (qv : Nat),.bool sb,.slice ab mb fb_])) _ _ ?_ ?_
        · rw [HA.out];kernel_rfl
        · exact ⟨fb,fk,fs,fl,v6,v1,f0,f1,f2,(fun _ => rfl),f4,f5,f6,f7,f8,f9,p0,p4,z8_0,z9_1,z9_6⟩
       refine StepsU.run rfl ?_ ?_
       ·
        intro L U wr hF hlk haf A K hA hK;have HA : Hid (A = putAll _ _ U) := hA;clear hA;simp [Aft,Region.binds] at haf;obtain ⟨fb,fk,fs,fl,v6,v1,f0,f1,f2,f3,f4,f5,f6,f7,f8,f9,p0,p4,z8_0,z9_1,z9_6⟩ := hF;have g3 := f3 (by simp [haf])
        have e85 := rd HA.out 85 (by kernel_rfl) g3
        have hap : L 5 = false := by cases h : L 5 with | false => rfl | true => rw [p4 h] at hlk;cases hlk
        refine ⟨?_⟩;go_simp;have hb := below_new wr (.cells #[.int .i64 (qv : Nat),.bool sb,.slice ab mb fb_] 116 (0,0));refine hK (upd U 86 (.slice (some ⟨wr.heap.size,0,none⟩) 1 1)) _ _ ?_ ?_
        · rw [HA.out];kernel_rfl
        · exact ⟨(fb.step hb (Nat.le_refl _)),(fk.trans (KeepN.below hb)),(Nat.le_trans fs hb.size),(fun h => (fl h).below hb),v6,v1,f0,f1,f2,f3,(fun _ _ => ⟨wr.heap.size,rfl,Blk.new wr 116 #[.int .i64 (qv : Nat),.bool sb,.slice ab mb fb_]⟩),(fun h => ⟨(f5 h).1.below hb,(f5 h).2⟩),f6,f7,f8,f9,p0,(fun _ => rfl),z8_0,z9_1,z9_6⟩
       refine StepsU.run rfl ?_ ?_
       ·
        intro L U wr hF hlk haf A K hA hK;have HA : Hid (A = putAll _ _ U) := hA;clear hA;simp [Aft,Region.binds] at haf;obtain ⟨fb,fk,fs,fl,v6,v1,f0,f1,f2,f3,f4,f5,f6,f7,f8,f9,p0,p4,z8_0,z9_1,z9_6⟩ := hF;have g0 := f0 (by simp [haf])
        have g4 := f4 (by simp [haf]) hlk
        obtain ⟨gb,hgb,hBb⟩ := g4;have e82 := rd HA.out 82 (by kernel_rfl) g0
        have e86 := rd HA.out 86 (by kernel_rfl) hgb
        refine ⟨?_⟩;refine wp_append_g (.tmp 82) (.tmp 86) 28 rfl 3 w.heap.size 116 (.agg #[.int .i64 0,.bool false,.slice none 0 0]) 40 Tryz.und_parts Tryz.info_part (by decide) rfl (by decide) (nuP _ _ _ _ _) (by decide) u6 ps.length xs (by simp [Act.eval,e82]) (fl hlk) ⟨gb,0,none⟩ 1 1 [.int .i64 (qv : Nat),.bool sb,.slice ab mb fb_] (by simp [Act.eval,e86]) rfl ?_ (by intro u hu;simp at hu;rcases hu with rfl | rfl | rfl <;> rfl) (nuP _ _ _ _ _) (Or.inl (by decide)) (by have := HI.out.2.2;omega) (Nat.le_trans hLb fs) ?_
        ·
         intro j u hj;match j,hj with
         | 0,hj => simp at hj;subst hj;exact hBb.cell 0
         | 1,hj => simp at hj;subst hj;exact hBb.cell 1
         | 2,hj => simp at hj;subst hj;exact hBb.cell 2
         | j + 3,hj => simp at hj
        ·
         intro v' w1 hL1 hA1 hnn1;refine hK (upd U 87 v') _ _ ?_ ?_
         · rw [HA.out];kernel_rfl
         · exact ⟨(fb.trans (hA1.bel.mono hLg)),(fk.trans hA1.keep),(Nat.le_trans fs hA1.size),(fun h => by cases h),v6,v1,f0,f1,f2,f3,(fun _ h => by cases h),(fun _ => ⟨hL1,hnn1⟩),f6,f7,(fun h => by have h1 := (f8 h).1;rw [hlk] at h1;cases h1),f9,(fun _ => by simp [haf]),(fun _ => by simp [haf]),z8_0,z9_1,z9_6⟩
       refine StepsU.run rfl ?_ ?_
       ·
        intro L U wr hF hlk haf A K hA hK;have HA : Hid (A = putAll _ _ U) := hA;clear hA;simp [Aft,Region.binds] at haf;obtain ⟨fb,fk,fs,fl,v6,v1,f0,f1,f2,f3,f4,f5,f6,f7,f8,f9,p0,p4,z8_0,z9_1,z9_6⟩ := hF;have hw : L 9 = false := by cases h : L 9 with | false => rfl | true => rw [z9_6 h] at hlk;cases hlk
        have e1 := rd HA.out 1 (by kernel_rfl) (v1 hw)
        refine ⟨?_⟩;go_simp;refine hK (upd U 88 (.slice (some ⟨gb,ob,none⟩) nb cb)) _ _ ?_ ?_
        · rw [HA.out];kernel_rfl
        · exact ⟨fb,fk,fs,fl,v6,v1,f0,f1,f2,f3,f4,f5,(fun _ => rfl),f7,f8,f9,p0,p4,z8_0,z9_1,(fun _ => rfl)⟩
       refine StepsU.run rfl ?_ ?_
       ·
        intro L U wr hF hlk haf A K hA hK;have HA : Hid (A = putAll _ _ U) := hA;clear hA;simp [Aft,Region.binds] at haf;obtain ⟨fb,fk,fs,fl,v6,v1,f0,f1,f2,f3,f4,f5,f6,f7,f8,f9,p0,p4,z8_0,z9_1,z9_6⟩ := hF;have g6 := f6 (by simp [haf])
        have e88 := rd HA.out 88 (by kernel_rfl) g6
        refine ⟨?_⟩;go_simp;refine hK (upd U 89 (.slice (if cb = 1 then some ⟨gb,ob,none⟩ else some ⟨gb,ob + 3,none⟩) (nb - 1) (cb - 1))) _ _ ?_ ?_
        · rw [HA.out];kernel_rfl
        · exact ⟨fb,fk,fs,fl,v6,v1,f0,f1,f2,f3,f4,f5,f6,(fun _ => rfl),f8,f9,p0,p4,z8_0,z9_1,z9_6⟩
       refine StepsU.run rfl ?_ ?_
       ·
        intro L U wr hF hlk haf A K hA hK;have HA : Hid (A = putAll _ _ U) := hA;clear hA;simp [Aft,Region.binds] at haf;obtain ⟨fb,fk,fs,fl,v6,v1,f0,f1,f2,f3,f4,f5,f6,f7,f8,f9,p0,p4,z8_0,z9_1,z9_6⟩ := hF;have e87 := rd HA.out 87 (by kernel_rfl) rfl
        refine ⟨?_⟩;go_simp;refine hK (upd U 6 (U 87)) _ _ ?_ ?_
        · rw [HA.out];kernel_rfl
        · exact ⟨fb,fk,fs,fl,(fun h => by cases h),v1,f0,f1,f2,f3,f4,f5,f6,f7,(fun _ => ⟨by simp [haf],rfl⟩),f9,p0,p4,(fun _ => by simp [haf]),z9_1,z9_6⟩
       refine StepsU.run rfl ?_ StepsU.nil
       ·
        intro L U wr hF hlk haf A K hA hK;have HA : Hid (A = putAll _ _ U) := hA;clear hA;simp [Aft,Region.binds] at haf;obtain ⟨fb,fk,fs,fl,v6,v1,f0,f1,f2,f3,f4,f5,f6,f7,f8,f9,p0,p4,z8_0,z9_1,z9_6⟩ := hF;have g7 := f7 (by simp [haf])
        have e89 := rd HA.out 89 (by kernel_rfl) rfl
        refine ⟨?_⟩;go_simp;refine hK (upd U 1 (U 89)) _ _ ?_ ?_
        · rw [HA.out];kernel_rfl
        · exact ⟨fb,fk,fs,fl,v6,(fun h => by cases h),f0,f1,f2,f3,f4,f5,f6,f7,f8,(fun _ => g7),p0,p4,z8_0,(fun _ => by simp [haf]),(fun _ => by simp [haf])⟩
      clear hbw hL;intro L U1 V hall hF;obtain ⟨hbw,fk,fs,fl,v6,v1,f0,f1,f2,f3,f4,f5,f6,f7,f8,f9,p0,p4,z8_0,z9_1,z9_6⟩ := hF;clear fl v6 v1 p0 p4 z8_0 z9_1 z9_6;have g0 := f0 (hall 0 (by decide))
      have g1 := f1 (hall 1 (by decide))
      have g2 := f2 (hall 2 (by decide))
      have g3 := f3 (hall 3 (by decide))
      have g5 := f5 (hall 5 (by decide))
      have g6 := f6 (hall 6 (by decide))
      have g7 := f7 (hall 7 (by decide))
      have g8 := f8 (hall 8 (by decide))
      have g9 := f9 (hall 9 (by decide))
      clear hall f0 f1 f2 f3 f4 f5 f6 f7 f8 f9;try clear g0
      try clear g1
      try clear g2
      try clear g3
      try clear g6
      try clear g7
      clear hbW;simp only [setM_some,setM_none,setM_nil];obtain ⟨hL2,hne2⟩ := g5;have e6 := g8.2;rw [← e6] at hL2 hne2;have HE6 : Hid (U1 6 = _) := e6;clear g8 e6;have hE2 := (hE.keep fk).app HXL.out (ElsP.one (v := (qv,qz).1) (z := (qv,qz).2) (hzb.below hbw));go_wp2;go_roundw
      case rel =>
       refine ⟨(pv,pz) :: us,vs,ps ++ [(qv,qz)],xs ++ [.int .i64 (qv : Nat),.bool sb,.slice ab mb fb_],⟨HP.out.1,by rw [show U1 1 = _ from g9];exact HTB.out,HP.out.2.2.1,HP.out.2.2.2.tail⟩,⟨?_,?_,?_⟩,?_,hE2,hne2,hbw⟩
       · rw [HI.out.1,addP_gt HLT.out,List.append_assoc];rfl
       · rw [HI.out.2.1,fits_gt HP.out.2.2.1 HP.out.2.2.2 HLT.out]
       · have := HI.out.2.2;simp only [List.length_cons,List.length_append,List.length_nil] at this ⊢;omega
       · rw [List.length_append];exact hL2
      case measure =>
       rw [show U1 1 = _ from g9];simp [sLen];omega
     ·
      obtain rfl : pv = qv := by omega
      have hlt1 : ¬ (pv : Int) < pv := by omega
      clear hlt hgt;go_wp2;go_region
      go_wp2;go_region
      go_wp2;have HXL : Hid (xs.length = ps.length * 3) := hL.1;replace hL := hL.below (Below.refl _ _).drew.drew;replace hE := hE.keep (KeepN.below (Below.refl _ _).drew.drew);replace hbw := hbw.drew.drew;clear A0 B0;generalize wr.drew.drew = W at hL hE hbw ⊢;have hLb := hbw.size;have hLg := Nat.le_refl w.heap.size;have hbW := hbw;refine wp_region_M (by kernel_rfl) [7,8,23,24,25,26,27,28,29,30,31,32,33,34] [none,none,none,none,none,none,none,some 7,some 8,none,none,none,none,none,none,none,none,none,none,none,none,none,none,some 23,some 24,some 25,some 26,some 27,some 28,some 29,some 30,some 31,some 32,some 33,some 34] (fun U => by kernel_rfl) (fun L U wr => Below w.heap.size w wr ∧ KeepP W wr ∧ W.heap.size ≤ wr.heap.size ∧ (L 0 = true → IS (.slice (some ⟨ga,oa,none⟩) na ca) (U 24) wr) ∧ (L 1 = true → IS (.pointer (some ⟨ga,oa,none⟩)) (U 25) wr) ∧ (L 2 = true → IS (.pointer (some ⟨ga,oa + 1,none⟩)) (U 26) wr) ∧ (L 3 = true → IS (.agg #[.bool sa,.slice aa ma fa]) (U 27) wr) ∧ (L 4 = true → IS (.slice (some ⟨gb,ob,none⟩) nb cb) (U 28) wr) ∧ (L 5 = true → IS (.pointer (some ⟨gb,ob,none⟩)) (U 29) wr) ∧ (L 6 = true → IS (.pointer (some ⟨gb,ob + 1,none⟩)) (U 30) wr) ∧ (L 7 = true → IS (.agg #[.bool sb,.slice ab mb fb_]) (U 31) wr) ∧ (L 8 = true → T2 (INT (hz (pz + qz))) (IS (.int .i64 (ec (pz + qz)))) (U 32) wr) ∧ (L 9 = true → T2 (INT (hz (pz + qz))) (IS (.int .i64 (ec (pz + qz)))) (U 23) wr) ∧ (L 10 = true → INT (hz (pz + qz)) (U 33) wr) ∧ (L 11 = true → IS (.int .i64 (ec (pz + qz))) (U 34) wr) ∧ (L 12 = true → NEWU 31 W.heap.size wr (U 7) (bif L 13 then U 33 else .agg #[.bool false,.slice none 0 0])) ∧ (L 14 = true → IS (.int .i64 (ec (pz + qz))) (U 8) wr) ∧ (L 13 = true → L 10 = true) ∧ (L 13 = true → L 12 = true)) (by kernel_rfl) ?_ ?_ ?_
      · exact fun U => ⟨hbw.drew,KeepP.below (Below.refl _ _).drew,Nat.le_refl _,(fun h => by cases h),(fun h => by cases h),(fun h => by cases h),(fun h => by cases h),(fun h => by cases h),(fun h => by cases h),(fun h => by cases h),(fun h => by cases h),(fun h => by cases h),(fun h => by cases h),(fun h => by cases h),(fun h => by cases h),(fun h => by cases h),(fun h => by cases h),(fun h => by cases h),(fun h => by cases h)⟩
      ·
       refine StepsU.run rfl ?_ ?_
       ·
        intro L U wr hF hlk haf A K hA hK;have HA : Hid (A = putAll _ _ U) := hA;clear hA;simp [Aft,Region.binds] at haf;obtain ⟨fb,fk,fs,f0,f1,f2,f3,f4,f5,f6,f7,f8,f9,f10,f11,f12,f14,s13,m12⟩ := hF;have e0 : A.tmps[0]? = some (.slice (some ⟨ga,oa,none⟩) na ca) := by rw [HA.out];kernel_rfl
        refine ⟨?_⟩;go_simp;refine hK (upd U 24 (.slice (some ⟨ga,oa,none⟩) na ca)) _ _ ?_ ?_
        · rw [HA.out];kernel_rfl
        · exact ⟨fb,fk,fs,(fun _ => rfl),f1,f2,f3,f4,f5,f6,f7,f8,f9,f10,f11,f12,f14,s13,m12⟩
       refine StepsU.run rfl ?_ ?_
       ·
        intro L U wr hF hlk haf A K hA hK;have HA : Hid (A = putAll _ _ U) := hA;clear hA;simp [Aft,Region.binds] at haf;obtain ⟨fb,fk,fs,f0,f1,f2,f3,f4,f5,f6,f7,f8,f9,f10,f11,f12,f14,s13,m12⟩ := hF;have g0 := f0 (by simp [haf])
        have e24 := rd HA.out 24 (by kernel_rfl) g0
        refine ⟨?_⟩;go_simp;refine hK (upd U 25 (.pointer (some ⟨ga,oa,none⟩))) _ _ ?_ ?_
        · rw [HA.out];kernel_rfl
        · exact ⟨fb,fk,fs,f0,(fun _ => rfl),f2,f3,f4,f5,f6,f7,f8,f9,f10,f11,f12,f14,s13,m12⟩
       refine StepsU.run rfl ?_ ?_
       ·
        intro L U wr hF hlk haf A K hA hK;have HA : Hid (A = putAll _ _ U) := hA;clear hA;simp [Aft,Region.binds] at haf;obtain ⟨fb,fk,fs,f0,f1,f2,f3,f4,f5,f6,f7,f8,f9,f10,f11,f12,f14,s13,m12⟩ := hF;have g1 := f1 (by simp [haf])
        have e25 := rd HA.out 25 (by kernel_rfl) g1
        refine ⟨?_⟩;go_simp;refine hK (upd U 26 (.pointer (some ⟨ga,oa + 1,none⟩))) _ _ ?_ ?_
        · rw [HA.out];kernel_rfl
        · exact ⟨fb,fk,fs,f0,f1,(fun _ => rfl),f3,f4,f5,f6,f7,f8,f9,f10,f11,f12,f14,s13,m12⟩
       refine StepsU.run rfl ?_ ?_
       ·
        intro L U wr hF hlk haf A K hA hK;have HA : Hid (A = putAll _ _ U) := hA;clear hA;simp [Aft,Region.binds] at haf;obtain ⟨fb,fk,fs,f0,f1,f2,f3,f4,f5,f6,f7,f8,f9,f10,f11,f12,f14,s13,m12⟩ := hF;have g2 := f2 (by simp [haf])
        have ka0 := (fb.cell (p := ⟨ga,oa,none⟩) (World.block_lt_of_cell? w _ a0)).trans a0;have ka1 := (fb.cell (p := ⟨ga,oa + 1,none⟩) (World.block_lt_of_cell? w _ a1)).trans a1;have ka2 := (fb.cell (p := ⟨ga,oa + 2,none⟩) (World.block_lt_of_cell? w _ a2)).trans a2;have e26 := rd HA.out 26 (by kernel_rfl) g2
        refine ⟨?_⟩;go_simp;refine hK (upd U 27 (.agg #[.bool sa,.slice aa ma fa])) _ _ ?_ ?_
        · rw [HA.out];kernel_rfl
        · exact ⟨fb,fk,fs,f0,f1,f2,(fun _ => rfl),f4,f5,f6,f7,f8,f9,f10,f11,f12,f14,s13,m12⟩
       refine StepsU.run rfl ?_ ?_
       ·
        intro L U wr hF hlk haf A K hA hK;have HA : Hid (A = putAll _ _ U) := hA;clear hA;simp [Aft,Region.binds] at haf;obtain ⟨fb,fk,fs,f0,f1,f2,f3,f4,f5,f6,f7,f8,f9,f10,f11,f12,f14,s13,m12⟩ := hF;have e1 : A.tmps[1]? = some (.slice (some ⟨gb,ob,none⟩) nb cb) := by rw [HA.out];kernel_rfl
        refine ⟨?_⟩;go_simp;refine hK (upd U 28 (.slice (some ⟨gb,ob,none⟩) nb cb)) _ _ ?_ ?_
        · rw [HA.out];kernel_rfl
        · exact ⟨fb,fk,fs,f0,f1,f2,f3,(fun _ => rfl),f5,f6,f7,f8,f9,f10,f11,f12,f14,s13,m12⟩
       refine StepsU.run rfl ?_ ?_
       ·
        intro L U wr hF hlk haf A K hA hK;have HA : Hid (A = putAll _ _ U) := hA;clear hA;simp [Aft,Region.binds] at haf;obtain ⟨fb,fk,fs,f0,f1,f2,f3,f4,f5,f6,f7,f8,f9,f10,f11,f12,f14,s13,m12⟩ := hF;have g4 := f4 (by simp [haf])
        have e28 := rd HA.out 28 (by kernel_rfl) g4
        refine ⟨?_⟩;go_simp;refine hK (upd U 29 (.pointer (some ⟨gb,ob,none⟩))) _ _ ?_ ?_
        · rw [HA.out];kernel_rfl
        · exact ⟨fb,fk,fs,f0,f1,f2,f3,f4,(fun _ => rfl),f6,f7,f8,f9,f10,f11,f12,f14,s13,m12⟩
       refine StepsU.run rfl ?_ ?_
       ·
        intro L U wr hF hlk haf A K hA hK;have HA : Hid (A = putAll _ _ U) := hA;clear hA;simp [Aft,Region.binds] at haf;obtain ⟨fb,fk,fs,f0,f1,f2,f3,f4,f5,f6,f7,f8,f9,f10,f11,f12,f14,s13,m12⟩ := hF;have g5 := f5 (by simp [haf])
        have e29 := rd HA.out 29 (by kernel_rfl) g5
        refine ⟨?_⟩;go_simp;refine hK (upd U 30 (.pointer (some ⟨gb,ob + 1,none⟩))) _ _ ?_ ?_
        · rw [HA.out];kernel_rfl
        · exact ⟨fb,fk,fs,f0,f1,f2,f3,f4,f5,(fun _ => rfl),f7,f8,f9,f10,f11,f12,f14,s13,m12⟩
       refine StepsU.run rfl ?_ ?_
       ·
        intro L U wr hF hlk haf A K hA hK;have HA : Hid (A = putAll _ _ U) := hA;clear hA;simp [Aft,Region.binds] at haf;obtain ⟨fb,fk,fs,f0,f1,f2,f3,f4,f5,f6,f7,f8,f9,f10,f11,f12,f14,s13,m12⟩ := hF;have g6 := f6 (by simp [haf])
        have kb0 := (fb.cell (p := ⟨gb,ob,none⟩) (World.block_lt_of_cell? w _ b0)).trans b0;have kb1 := (fb.cell (p := ⟨gb,ob + 1,none⟩) (World.block_lt_of_cell? w _ b1)).trans b1;have kb2 := (fb.cell (p := ⟨gb,ob + 2,none⟩) (World.block_lt_of_cell? w _ b2)).trans b2;have e30 := rd HA.out 30 (by kernel_rfl) g6
        refine ⟨?_⟩;go_simp;refine hK (upd U 31 (.agg #[.bool sb,.slice ab mb fb_])) _ _ ?_ ?_
        · rw [HA.out];kernel_rfl
        · exact ⟨fb,fk,fs,f0,f1,f2,f3,f4,f5,f6,(fun _ => rfl),f8,f9,f10,f11,f12,f14,s13,m12⟩
       refine StepsU.run rfl ?_ ?_
       ·
        intro L U wr hF hlk haf A K hA hK;have HA : Hid (A = putAll _ _ U) := hA;clear hA;simp [Aft,Region.binds] at haf;obtain ⟨fb,fk,fs,f0,f1,f2,f3,f4,f5,f6,f7,f8,f9,f10,f11,f12,f14,s13,m12⟩ := hF;have g3 := f3 (by simp [haf])
        have e27 := rd HA.out 27 (by kernel_rfl) g3
        have g7 := f7 (by simp [haf])
        have e31 := rd HA.out 31 (by kernel_rfl) g7
        refine ⟨?_⟩;go_simp;refine (add_h _ _ pz qz _ (hza.below fb) (hzb.below fb)).mono ?_;rintro e w1 ⟨u1,u2,u3,u4,rfl,hr,hb⟩;go_simp;refine hK (upd U 32 (.tuple #[.agg #[.bool u1,.slice u2 u3 u4],.int .i64 (ec (pz + qz))])) _ _ ?_ ?_
        · rw [HA.out];kernel_rfl
        · exact ⟨(fb.step hb (Nat.le_refl _)),(fk.trans (KeepP.below hb)),(Nat.le_trans fs hb.size),f0,f1,f2,f3,f4,f5,f6,f7,(fun _ => ⟨_,_,rfl,hr,rfl⟩),(mvP (mp_t2 mp_int mp_is) (KeepP.below hb) f9),(mvP mp_int (KeepP.below hb) f10),f11,(fun h => (f12 h).below hb),f14,s13,m12⟩
       refine StepsU.run rfl ?_ ?_
       ·
        intro L U wr hF hlk haf A K hA hK;have HA : Hid (A = putAll _ _ U) := hA;clear hA;simp [Aft,Region.binds] at haf;obtain ⟨fb,fk,fs,f0,f1,f2,f3,f4,f5,f6,f7,f8,f9,f10,f11,f12,f14,s13,m12⟩ := hF;have g8 := f8 (by simp [haf])
        have e32 := rd HA.out 32 (by kernel_rfl) rfl
        refine ⟨?_⟩;go_simp;refine hK (upd U 23 (U 32)) _ _ ?_ ?_
        · rw [HA.out];kernel_rfl
        · exact ⟨fb,fk,fs,f0,f1,f2,f3,f4,f5,f6,f7,f8,(fun _ => g8),f10,f11,f12,f14,s13,m12⟩
       refine StepsU.run rfl ?_ ?_
       ·
        intro L U wr hF hlk haf A K hA hK;have HA : Hid (A = putAll _ _ U) := hA;clear hA;simp [Aft,Region.binds] at haf;obtain ⟨fb,fk,fs,f0,f1,f2,f3,f4,f5,f6,f7,f8,f9,f10,f11,f12,f14,s13,m12⟩ := hF;have g9 := f9 (by simp [haf])
        obtain ⟨t0,t1,hT,k0,k1⟩ := g9;have e23 := rd HA.out 23 (by kernel_rfl) hT
        refine ⟨?_⟩;go_simp;have hs13 : L 13 = false := by cases h : L 13 with | false => rfl | true => rw [s13 h] at hlk;cases hlk
        refine hK (upd U 33 t0) _ _ ?_ ?_
        · rw [HA.out];kernel_rfl
        · exact ⟨fb,fk,fs,f0,f1,f2,f3,f4,f5,f6,f7,f8,f9,(fun _ => k0),f11,(fun h => flip_v (P := fun v => NEWU _ _ _ _ v) hs13 (f12 h)),f14,(fun _ => rfl),m12⟩
       refine StepsU.run rfl ?_ ?_
       ·
        intro L U wr hF hlk haf A K hA hK;have HA : Hid (A = putAll _ _ U) := hA;clear hA;simp [Aft,Region.binds] at haf;obtain ⟨fb,fk,fs,f0,f1,f2,f3,f4,f5,f6,f7,f8,f9,f10,f11,f12,f14,s13,m12⟩ := hF;have g9 := f9 (by simp [haf])
        obtain ⟨t0,t1,hT,k0,k1⟩ := g9;have e23 := rd HA.out 23 (by kernel_rfl) hT
        refine ⟨?_⟩;go_simp;refine hK (upd U 34 t1) _ _ ?_ ?_
        · rw [HA.out];kernel_rfl
        · exact ⟨fb,fk,fs,f0,f1,f2,f3,f4,f5,f6,f7,f8,f9,f10,(fun _ => k1),f12,f14,s13,m12⟩
       refine StepsU.run rfl ?_ ?_
       ·
        intro L U wr hF hlk haf A K hA hK;have HA : Hid (A = putAll _ _ U) := hA;clear hA;simp [Aft,Region.binds] at haf;obtain ⟨fb,fk,fs,f0,f1,f2,f3,f4,f5,f6,f7,f8,f9,f10,f11,f12,f14,s13,m12⟩ := hF;have hst : L 13 = false := by cases h : L 13 with | false => rfl | true => rw [m12 h] at hlk;cases hlk
        refine ⟨?_⟩;go_simp;have hb := below_new wr (.cells #[.bool false,.slice none 0 0] 31 (0,0));refine hK (upd U 7 (.pointer (some ⟨wr.heap.size,0,none⟩))) _ _ ?_ ?_
        · rw [HA.out];kernel_rfl
        · exact ⟨(fb.step hb (Nat.le_refl _)),(fk.trans (KeepP.below hb)),(Nat.le_trans fs hb.size),f0,f1,f2,f3,f4,f5,f6,f7,(mvP (mp_t2 mp_int mp_is) (KeepP.below hb) f8),(mvP (mp_t2 mp_int mp_is) (KeepP.below hb) f9),(mvP mp_int (KeepP.below hb) f10),f11,(fun _ => newU_zero (by simp [hst]) (NEWU.mk fs (nuI _ _ _ _))),f14,s13,(fun _ => rfl)⟩
       refine StepsU.run rfl ?_ ?_
       ·
        intro L U wr hF hlk haf A K hA hK;have HA : Hid (A = putAll _ _ U) := hA;clear hA;simp [Aft,Region.binds] at haf;obtain ⟨fb,fk,fs,f0,f1,f2,f3,f4,f5,f6,f7,f8,f9,f10,f11,f12,f14,s13,m12⟩ := hF;have g10 := f10 (by simp [haf])
        obtain ⟨yx,ya,yn,yc,hsrc⟩ := AInt.shape g10;have e33 := rd HA.out 33 (by kernel_rfl) hsrc
        have g12 := f12 (by simp [haf])
        rw [hlk,cond_false] at g12;obtain ⟨b,cs,hp,hBb,hcs,hblk,hN⟩ := g12;injection hcs with hcs;subst hcs;have e7 := rd HA.out 7 (by kernel_rfl) hp
        have q0 := hblk.frozen 0;have q1 := hblk.frozen 1;have c0 := hblk.cell 0;have c1 := hblk.cell 1;simp at c0;simp at c1;have hlt := hblk.lt;refine ⟨?_⟩;go_simp;refine hK U _ _ ?_ ?_
        · exact HA.out
        · exact ⟨(below_stores (Nat.le_trans (by exact hbW.size) hBb) [.bool yx,.slice ya yn yc] 0 fb),(fk.trans (keepP_stores (by decide) (by decide) [.bool yx,.slice ya yn yc] 0 hblk (nuI _ _ _ _) (nuI _ _ _ _))),(by simp;exact fs),f0,f1,f2,f3,f4,f5,f6,f7,(mvP (mp_t2 mp_int mp_is) (keepP_stores (by decide) (by decide) [.bool yx,.slice ya yn yc] 0 hblk (nuI _ _ _ _) (nuI _ _ _ _)) f8),(mvP (mp_t2 mp_int mp_is) (keepP_stores (by decide) (by decide) [.bool yx,.slice ya yn yc] 0 hblk (nuI _ _ _ _) (nuI _ _ _ _)) f9),(mvP mp_int (keepP_stores (by decide) (by decide) [.bool yx,.slice ya yn yc] 0 hblk (nuI _ _ _ _) (nuI _ _ _ _)) f10),f11,(fun _ => by simp only [cond_true,Bool.true_or,beq_self_eq_true];exact storedU_new hp hsrc (NEWU.overS hBb hblk [.bool yx,.slice ya yn yc] rfl (nuI _ _ _ _))),f14,(fun _ => by simp [haf]),(fun _ => by simp [haf])⟩
       refine StepsU.run rfl ?_ StepsU.nil
       ·
        intro L U wr hF hlk haf A K hA hK;have HA : Hid (A = putAll _ _ U) := hA;clear hA;simp [Aft,Region.binds] at haf;obtain ⟨fb,fk,fs,f0,f1,f2,f3,f4,f5,f6,f7,f8,f9,f10,f11,f12,f14,s13,m12⟩ := hF;have g11 := f11 (by simp [haf])
        have e34 := rd HA.out 34 (by kernel_rfl) rfl
        refine ⟨?_⟩;go_simp;refine hK (upd U 8 (U 34)) _ _ ?_ ?_
        · rw [HA.out];kernel_rfl
        · exact ⟨fb,fk,fs,f0,f1,f2,f3,f4,f5,f6,f7,f8,f9,f10,f11,f12,(fun _ => g11),s13,m12⟩
      clear hbw;intro L U1 V hall hF;obtain ⟨hbw,fk,fs,f0,f1,f2,f3,f4,f5,f6,f7,f8,f9,f10,f11,f12,f14,s13,m12⟩ := hF;clear s13 m12;have g0 := f0 (hall 0 (by decide))
      have g1 := f1 (hall 1 (by decide))
      have g2 := f2 (hall 2 (by decide))
      have g3 := f3 (hall 3 (by decide))
      have g4 := f4 (hall 4 (by decide))
      have g5 := f5 (hall 5 (by decide))
      have g6 := f6 (hall 6 (by decide))
      have g7 := f7 (hall 7 (by decide))
      have g8 := f8 (hall 8 (by decide))
      have g9 := f9 (hall 9 (by decide))
      have g10 := f10 (hall 10 (by decide))
      have g11 := f11 (hall 11 (by decide))
      have g12 := f12 (hall 12 (by decide))
      rw [hall 13 (by decide),cond_true] at g12
      have g14 := f14 (hall 14 (by decide))
      clear hall f0 f1 f2 f3 f4 f5 f6 f7 f8 f9 f10 f11 f12 f14;obtain ⟨bS,csS,hpS,lbS,hcsS,oS,-⟩ := g12;obtain ⟨xS,aS,nS,cS,hvS⟩ := AInt.shape g10;have hS : AInt _ _ _ := g10;rw [hvS] at hS hcsS;injection hcsS with hcsS;subst hcsS;clear hvS;have ltS := oS.lt;have lwS : w.heap.size ≤ bS := Nat.le_trans hbW.size lbS;clear lbS;try clear g0
      try clear g1
      try clear g2
      try clear g3
      try clear g4
      try clear g5
      try clear g6
      try clear g7
      try clear g8
      try clear g9
      try clear g10
      try clear g11
      clear hbW;simp only [setM_some,setM_none,setM_nil];rw [hpS];clear hpS;replace hL := hL.keepP fk;replace hE := hE.keep fk.n;have e8 : U1 8 = _ := g14;rw [e8];clear fk fs g14 e8;have HFE : Hid (addFits a b ↔ (pz + qz).natAbs < lim ∧ addFits us vs) := by
       show _ ↔ _
       rw [HI.out.2.1,fits_eq HP.out.2.2.1 HP.out.2.2.2 rfl]
      by_cases hbig : (pz + qz).natAbs < lim
      ·
       have E0 : ec (pz + qz) = 0 := if_pos hbig;have HBG : Hid ((pz + qz).natAbs < lim) := hbig;rw [hz_of hbig] at hS;obtain ⟨s0,s1,s2,s3⟩ := oS.two;clear hbig;go_wp2_with fail
       refine (sign_h _ (pz + qz) _ hS).mono ?_;rintro e w2 ⟨rfl,hb2⟩;replace hbw := hbw.step hb2 (Nat.le_refl _);replace hL := hL.below hb2;replace hE := hE.keep (KeepN.below hb2);replace hS := hS.below hb2;replace oS := oS.stay hb2;clear s0 s1 s2 s3 ltS;have ltS := oS.lt;have naS := hL.blk oS (by decide)
       by_cases h0 : pz + qz = 0
       ·
        have hs0 : ((pz + qz).sign != 0) = false := by rw [h0];rfl
        have HZ : Hid (pz + qz = 0) := h0;clear h0 naS;go_wp2;go_region
        go_wp2;go_roundw
        case rel =>
         refine ⟨us,vs,ps,xs,⟨HTA.out,HTB.out,HP.out.2.2.1.tail,HP.out.2.2.2.tail⟩,⟨?_,?_,?_⟩,hL.below (Below.refl _ _).drew,hE.keep (KeepN.below (Below.refl _ _).drew),hne,hbw.drew⟩
         · rw [HI.out.1,addP_zero (p := (pv,pz)) (q := (pv,qz)) rfl HZ.out]
         · rw [HFE.out];exact ⟨fun h => h.2,fun h => ⟨HBG.out,h⟩⟩
         · have := HI.out.2.2;simp only [List.length_cons] at this;omega
        case measure => simp [sLen];omega
       ·
        have hs0 : ((pz + qz).sign != 0) = true := by rw [bne_iff_ne];exact fun h => h0 (Int.sign_eq_zero_iff_zero.1 h)
        have HZ : Hid (pz + qz ≠ 0) := h0;clear h0;go_wp2;have hLb := hbw.size;have hbW := hbw;refine wp_region_M2 (by kernel_rfl) [6,41,42,43,44,45,46,47,48,49] [none,none,none,none,none,none,some 6,none,none,none,none,none,none,none,none,none,none,none,none,none,none,none,none,none,none,none,none,none,none,none,none,none,none,none,none,none,none,none,none,none,none,some 41,some 42,some 43,some 44,some 45,some 46,some 47,some 48,some 49] (fun U => by kernel_rfl) (fun L U wr => Below w.heap.size w wr ∧ KeepN w2 wr ∧ w2.heap.size ≤ wr.heap.size ∧ Blk 31 wr (bS) #[.bool xS,.slice aS nS cS] ∧ (L 8 = false → LstG 3 116 w.heap.size wr u6 ps.length xs) ∧ (L 9 = false → U 6 = (u6)) ∧ (L 0 = true → IS (u6) (U 41) wr) ∧ (L 1 = true → IS (.slice (some ⟨ga,oa,none⟩) na ca) (U 42) wr) ∧ (L 2 = true → IS (.pointer (some ⟨ga,oa,none⟩)) (U 43) wr) ∧ (L 3 = true → IS (.pointer (some ⟨ga,oa,none⟩)) (U 44) wr) ∧ (L 4 = true → IS (.int .i64 (pv : Nat)) (U 45) wr) ∧ (L 5 = true → IS (.agg #[.bool xS,.slice aS nS cS]) (U 46) wr) ∧ (L 6 = true → IS (.agg #[.int .i64 (pv : Nat),.bool xS,.slice aS nS cS]) (U 47) wr) ∧ (L 7 = true → L 8 = false → ONE 116 #[.int .i64 (pv : Nat),.bool xS,.slice aS nS cS] (U 48) wr) ∧ (L 8 = true → LstG 3 116 w.heap.size wr (U 49) (ps.length + 1) (xs ++ [.int .i64 (pv : Nat),.bool xS,.slice aS nS cS]) ∧ U 49 ≠ .slice none 0 0) ∧ (L 9 = true → L 8 = true ∧ U 6 = U 49) ∧ (L 8 = true → L 0 = true) ∧ (L 8 = true → L 7 = true) ∧ (L 9 = true → L 0 = true)) (by kernel_rfl) ?_ ?_ ?_
        · exact ⟨hbw.drew,KeepN.below (Below.refl _ _).drew,Nat.le_refl _,oS.drew,(fun _ => hL.below (Below.refl _ _).drew),(fun _ => rfl),(fun h => by cases h),(fun h => by cases h),(fun h => by cases h),(fun h => by cases h),(fun h => by cases h),(fun h => by cases h),(fun h => by cases h),(fun h => by cases h),(fun h => by cases h),(fun h => by cases h),(fun h => by cases h),(fun h => by cases h),(fun h => by cases h)⟩
        ·
         refine StepsU.run rfl ?_ ?_
         ·
          intro L U wr hF hlk haf A K hA hK;have HA : Hid (A = putAll _ _ U) := hA;clear hA;simp [Aft,Region.binds] at haf;obtain ⟨fb,fk,fs,oS,fl,v6,f0,f1,f2,f3,f4,f5,f6,f7,f8,f9,p0,p7,z9_0⟩ := hF;have hw : L 9 = false := by cases h : L 9 with | false => rfl | true => rw [z9_0 h] at hlk;cases hlk
          have e6 := rd HA.out 6 (by kernel_rfl) (v6 hw)
          refine ⟨?_⟩;go_simp;refine hK (upd U 41 (u6)) _ _ ?_ ?_
          · rw [HA.out];kernel_rfl
          · exact ⟨fb,fk,fs,oS,fl,v6,(fun _ => rfl),f1,f2,f3,f4,f5,f6,f7,f8,f9,(fun _ => rfl),p7,(fun _ => rfl)⟩
         refine StepsU.run rfl ?_ ?_
         ·
          intro L U wr hF hlk haf A K hA hK;have HA : Hid (A = putAll _ _ U) := hA;clear hA;simp [Aft,Region.binds] at haf;obtain ⟨fb,fk,fs,oS,fl,v6,f0,f1,f2,f3,f4,f5,f6,f7,f8,f9,p0,p7,z9_0⟩ := hF;have e0 : A.tmps[0]? = some (.slice (some ⟨ga,oa,none⟩) na ca) := by rw [HA.out];kernel_rfl
          refine ⟨?_⟩;go_simp;refine hK (upd U 42 (.slice (some ⟨ga,oa,none⟩) na ca)) _ _ ?_ ?_
          · rw [HA.out];kernel_rfl
          · exact ⟨fb,fk,fs,oS,fl,v6,f0,(fun _ => rfl),f2,f3,f4,f5,f6,f7,f8,f9,p0,p7,z9_0⟩
         refine StepsU.run rfl ?_ ?_
         ·
          intro L U wr hF hlk haf A K hA hK;have HA : Hid (A = putAll _ _ U) := hA;clear hA;simp [Aft,Region.binds] at haf;obtain ⟨fb,fk,fs,oS,fl,v6,f0,f1,f2,f3,f4,f5,f6,f7,f8,f9,p0,p7,z9_0⟩ := hF;have g1 := f1 (by simp [haf])
          have e42 := rd HA.out 42 (by kernel_rfl) g1
          refine ⟨?_⟩;go_simp;refine hK (upd U 43 (.pointer (some ⟨ga,oa,none⟩))) _ _ ?_ ?_
          · rw [HA.out];kernel_rfl
          · exact ⟨fb,fk,fs,oS,fl,v6,f0,f1,(fun _ => rfl),f3,f4,f5,f6,f7,f8,f9,p0,p7,z9_0⟩
         refine StepsU.run rfl ?_ ?_
         ·
          intro L U wr hF hlk haf A K hA hK;have HA : Hid (A = putAll _ _ U) := hA;clear hA;simp [Aft,Region.binds] at haf;obtain ⟨fb,fk,fs,oS,fl,v6,f0,f1,f2,f3,f4,f5,f6,f7,f8,f9,p0,p7,z9_0⟩ := hF;have g2 := f2 (by simp [haf])
          have e43 := rd HA.out 43 (by kernel_rfl) g2
          refine ⟨?_⟩;go_simp;refine hK (upd U 44 (.pointer (some ⟨ga,oa,none⟩))) _ _ ?_ ?_
          · rw [HA.out];kernel_rfl
          · exact ⟨fb,fk,fs,oS,fl,v6,f0,f1,f2,(fun _ => rfl),f4,f5,f6,f7,f8,f9,p0,p7,z9_0⟩
         refine StepsU.run rfl ?_ ?_
         ·
          intro L U wr hF hlk haf A K hA hK;have HA : Hid (A = putAll _ _ U) := hA;clear hA;simp [Aft,Region.binds] at haf;obtain ⟨fb,fk,fs,oS,fl,v6,f0,f1,f2,f3,f4,f5,f6,f7,f8,f9,p0,p7,z9_0⟩ := hF;have g3 := f3 (by simp [haf])
          have ka0 := (fb.cell (p := ⟨ga,oa,none⟩) (World.block_lt_of_cell? w _ a0)).trans a0;have ka1 := (fb.cell (p := ⟨ga,oa + 1,none⟩) (World.block_lt_of_cell? w _ a1)).trans a1;have ka2 := (fb.cell (p := ⟨ga,oa + 2,none⟩) (World.block_lt_of_cell? w _ a2)).trans a2;have e44 := rd HA.out 44 (by kernel_rfl) g3
          refine ⟨?_⟩;go_simp;refine hK (upd U 45 (.int .i64 (pv : Nat))) _ _ ?_ ?_
          · rw [HA.out];kernel_rfl
          · exact ⟨fb,fk,fs,oS,fl,v6,f0,f1,f2,f3,(fun _ => rfl),f5,f6,f7,f8,f9,p0,p7,z9_0⟩
         refine StepsU.run rfl ?_ ?_
         ·
          intro L U wr hF hlk haf A K hA hK;have HA : Hid (A = putAll _ _ U) := hA;clear hA;simp [Aft,Region.binds] at haf;obtain ⟨fb,fk,fs,oS,fl,v6,f0,f1,f2,f3,f4,f5,f6,f7,f8,f9,p0,p7,z9_0⟩ := hF;have e7 : A.tmps[7]? = some (.pointer (some ⟨bS,0,none⟩)) := by rw [HA.out];kernel_rfl
          have c0 := oS.cell 0;have c1 := oS.cell 1;simp at c0;simp at c1;refine ⟨?_⟩;go_simp;refine hK (upd U 46 (.agg #[.bool xS,.slice aS nS cS])) _ _ ?_ ?_
          · rw [HA.out];kernel_rfl
          · exact ⟨fb,fk,fs,oS,fl,v6,f0,f1,f2,f3,f4,(fun _ => rfl),f6,f7,f8,f9,p0,p7,z9_0⟩
         refine StepsU.run rfl ?_ ?_
         ·
          intro L U wr hF hlk haf A K hA hK;have HA : Hid (A = putAll _ _ U) := hA;clear hA;simp [Aft,Region.binds] at haf;obtain ⟨fb,fk,fs,oS,fl,v6,f0,f1,f2,f3,f4,f5,f6,f7,f8,f9,p0,p7,z9_0⟩ := hF;have g4 := f4 (by simp [haf])
          have g5 := f5 (by simp [haf])
          have e45 := rd HA.out 45 (by kernel_rfl) g4
          have e46 := rd HA.out 46 (by kernel_rfl) g5
          refine ⟨?_⟩;go_simp;refine hK (upd U 47 (.agg #[.int .i64 (pv : Nat),.bool xS,.slice aS nS cS])) _ _ ?_ ?_
          · rw [HA.out];kernel_rfl
          · exact ⟨fb,fk,fs,oS,fl,v6,f0,f1,f2,f3,f4,f5,(fun _ => rfl),f7,f8,f9,p0,p7,z9_0⟩
         refine StepsU.run rfl ?_ ?_
         ·
          intro L U wr hF hlk haf A K hA hK;have HA : Hid (A = putAll _ _ U) := hA;clear hA;simp [Aft,Region.binds] at haf;obtain ⟨fb,fk,fs,oS,fl,v6,f0,f1,f2,f3,f4,f5,f6,f7,f8,f9,p0,p7,z9_0⟩ := hF;have g6 := f6 (by simp [haf])
          have e47 := rd HA.out 47 (by kernel_rfl) g6
          have hap : L 8 = false := by cases h : L 8 with | false => rfl | true => rw [p7 h] at hlk;cases hlk
          refine ⟨?_⟩;go_simp;have hb := below_new wr (.cells #[.int .i64 (pv : Nat),.bool xS,.slice aS nS cS] 116 (0,0));refine hK (upd U 48 (.slice (some ⟨wr.heap.size,0,none⟩) 1 1)) _ _ ?_ ?_
          · rw [HA.out];kernel_rfl
          · exact ⟨(fb.step hb (Nat.le_refl _)),(fk.trans (KeepN.below hb)),(Nat.le_trans fs hb.size),(oS.stay hb),(fun h => (fl h).below hb),v6,f0,f1,f2,f3,f4,f5,f6,(fun _ _ => ⟨wr.heap.size,rfl,Blk.new wr 116 #[.int .i64 (pv : Nat),.bool xS,.slice aS nS cS]⟩),(fun h => ⟨(f8 h).1.below hb,(f8 h).2⟩),f9,p0,(fun _ => rfl),z9_0⟩
         refine StepsU.run rfl ?_ ?_
         ·
          intro L U wr hF hlk haf A K hA hK;have HA : Hid (A = putAll _ _ U) := hA;clear hA;simp [Aft,Region.binds] at haf;obtain ⟨fb,fk,fs,oS,fl,v6,f0,f1,f2,f3,f4,f5,f6,f7,f8,f9,p0,p7,z9_0⟩ := hF;have g0 := f0 (by simp [haf])
          have g7 := f7 (by simp [haf]) hlk
          obtain ⟨gb,hgb,hBb⟩ := g7;have e41 := rd HA.out 41 (by kernel_rfl) g0
          have e48 := rd HA.out 48 (by kernel_rfl) hgb
          refine ⟨?_⟩;refine wp_append_g (.tmp 41) (.tmp 48) 28 rfl 3 w.heap.size 116 (.agg #[.int .i64 0,.bool false,.slice none 0 0]) 40 Tryz.und_parts Tryz.info_part (by decide) rfl (by decide) (nuP _ _ _ _ _) (by decide) u6 ps.length xs (by simp [Act.eval,e41]) (fl hlk) ⟨gb,0,none⟩ 1 1 [.int .i64 (pv : Nat),.bool xS,.slice aS nS cS] (by simp [Act.eval,e48]) rfl ?_ (by intro u hu;simp at hu;rcases hu with rfl | rfl | rfl <;> rfl) (nuP _ _ _ _ _) (Or.inl (by decide)) (by have := HI.out.2.2;omega) (Nat.le_trans hLb fs) ?_
          ·
           intro j u hj;match j,hj with
           | 0,hj => simp at hj;subst hj;exact hBb.cell 0
           | 1,hj => simp at hj;subst hj;exact hBb.cell 1
           | 2,hj => simp at hj;subst hj;exact hBb.cell 2
           | j + 3,hj => simp at hj
          ·
           intro v' w1 hL1 hA1 hnn1;refine hK (upd U 49 v') _ _ ?_ ?_
           · rw [HA.out];kernel_rfl
           · exact ⟨(fb.trans (hA1.bel.mono hLg)),(fk.trans hA1.keep),(Nat.le_trans fs hA1.size),((hA1.other _ oS.lt naS).trans oS),(fun h => by cases h),v6,f0,f1,f2,f3,f4,f5,f6,(fun _ h => by cases h),(fun _ => ⟨hL1,hnn1⟩),(fun h => by have h1 := (f9 h).1;rw [hlk] at h1;cases h1),(fun _ => by simp [haf]),(fun _ => by simp [haf]),z9_0⟩
         refine StepsU.run rfl ?_ StepsU.nil
         ·
          intro L U wr hF hlk haf A K hA hK;have HA : Hid (A = putAll _ _ U) := hA;clear hA;simp [Aft,Region.binds] at haf;obtain ⟨fb,fk,fs,oS,fl,v6,f0,f1,f2,f3,f4,f5,f6,f7,f8,f9,p0,p7,z9_0⟩ := hF;have e49 := rd HA.out 49 (by kernel_rfl) rfl
          refine ⟨?_⟩;go_simp;refine hK (upd U 6 (U 49)) _ _ ?_ ?_
          · rw [HA.out];kernel_rfl
          · exact ⟨fb,fk,fs,oS,fl,(fun h => by cases h),f0,f1,f2,f3,f4,f5,f6,f7,f8,(fun _ => ⟨by simp [haf],rfl⟩),p0,p7,(fun _ => by simp [haf])⟩
        clear hbw oS hL;intro L U2 V2 hall hF;obtain ⟨hbw,fk,fs,oS,fl,v6,f0,f1,f2,f3,f4,f5,f6,f7,f8,f9,p0,p7,z9_0⟩ := hF;clear fl v6 p0 p7 z9_0;have g0 := f0 (hall 0 (by decide))
        have g1 := f1 (hall 1 (by decide))
        have g2 := f2 (hall 2 (by decide))
        have g3 := f3 (hall 3 (by decide))
        have g4 := f4 (hall 4 (by decide))
        have g5 := f5 (hall 5 (by decide))
        have g6 := f6 (hall 6 (by decide))
        have g8 := f8 (hall 8 (by decide))
        have g9 := f9 (hall 9 (by decide))
        clear hall f0 f1 f2 f3 f4 f5 f6 f7 f8 f9;replace ltS := oS.lt;try clear g0
        try clear g1
        try clear g2
        try clear g3
        try clear g4
        try clear g5
        try clear g6
        clear hbW;simp only [setM_some,setM_none,setM_nil];obtain ⟨hL2,hne2⟩ := g8;have e6 := g9.2;rw [← e6] at hL2 hne2;have HE6 : Hid (U2 6 = _) := e6;clear g9 e6;have hE2 := (hE.keep fk).app HXL.out (ElsP.one (v := pv) (z := pz + qz) (hS.keepN fk));clear fk fs oS ltS;go_wp2;go_region
        go_wp2;go_roundw
        case rel =>
         refine ⟨us,vs,ps ++ [(pv,pz + qz)],xs ++ [.int .i64 (pv : Nat),.bool xS,.slice aS nS cS],⟨HTA.out,HTB.out,HP.out.2.2.1.tail,HP.out.2.2.2.tail⟩,⟨?_,?_,?_⟩,?_,hE2.keep (KeepN.below (Below.refl _ _).drew),hne2,hbw.drew⟩
         · rw [HI.out.1,addP_sum (p := (pv,pz)) (q := (pv,qz)) rfl HZ.out,List.append_assoc];rfl
         · rw [HFE.out];exact ⟨fun h => h.2,fun h => ⟨HBG.out,h⟩⟩
         · have := HI.out.2.2;simp only [List.length_cons,List.length_append,List.length_nil] at this ⊢;omega
         · rw [List.length_append];exact hL2.below (Below.refl _ _).drew
        case measure => simp [sLen];omega
      ·
       have E0 : ec (pz + qz) = 11 := if_neg hbig;have HBG : Hid (¬ (pz + qz).natAbs < lim) := hbig;clear hbig;go_wp2;go_ret2
       exact ⟨_,_,rfl,Or.inr ⟨fun h => HBG.out (HFE.out.1 h).1,E0,rfl⟩,hbw⟩
def TRes (ok : Prop) (ps : List (Nat × Int)) (r : Int) (v : Value) (c : Int) (w : World) : Prop := (ok ∧ c = 0 ∧ TermR w v ps r) ∨ (¬ ok ∧ c = 11 ∧ TermR w v [] 0)
def tAddOk (a b : List (Nat × Int)) (r s : Int) : Prop := (r + s).natAbs < lim ∧ addFits a b
theorem TP.pts {w : World} {ao : Option Addr} {n cap : Nat} {x : Bool} {a : Option Addr} {m c : Nat} {ps : List (Nat × Int)} {r : Int} (h : TP w ao n cap x a m c ps r) : PTS ps (.slice ao n cap) w := ⟨ao, n, cap, rfl, h.len, h.cap1, h.cap2, h.none, h.arr⟩
theorem PTS.tp {w : World} {v : Value} {ps : List (Nat × Int)} (h : PTS ps v w) {x : Bool} {a : Option Addr} {m c : Nat} {r : Int} (hr : AInt w (.agg #[.bool x,.slice a m c]) r) (hf : Fine ps) : ∃ ao n cap,v = .slice ao n cap ∧ TP w ao n cap x a m c ps r := by
 obtain ⟨ao,n,cap,rfl,h1,h2,h3,h4,h5⟩ := h;exact ⟨ao,n,cap,rfl,⟨h1,h2,h3,h4,h5,hr,hf⟩⟩
set_option maxRecDepth 20000 in
set_option maxHeartbeats 8000000 in
theorem ladd_any (vX vY : Value) (a b : List (Nat × Int)) (r s : Int) (w : World) (hX : TermR w vX a r) (hY : TermR w vY b s) :
  Calls Tryz.prog 13 #[vX,vY] w fun e w' => ∃ v c,e = .returned (.tuple #[v,.int .i64 c]) ∧ TRes (tAddOk a b r s) (addP a b) (r + s) v c w' ∧ Below w.heap.size w w' := by
 obtain ⟨pX,qX,rX,xX,aX,nX,cX,rfl,hX⟩ := hX;obtain ⟨pY,qY,rY,xY,aY,nY,cY,rfl,hY⟩ := hY;have oX := (((Blk.new w 33 #[.slice pX qX rX,.bool xX,.slice aX nX cX]).alloc (.cells #[.slice pY qY rY,.bool xY,.slice aY nY cY] 33 (0,0))).alloc (.cells #[.slice none 0 0,.bool false,.slice none 0 0] 33 (0,0)));have oY := ((Blk.new (w.alloc (.cells #[.slice pX qX rX,.bool xX,.slice aX nX cX] 33 (0,0))) 33 #[.slice pY qY rY,.bool xY,.slice aY nY cY]).alloc (.cells #[.slice none 0 0,.bool false,.slice none 0 0] 33 (0,0)));have oR := (Blk.new ((w.alloc (.cells #[.slice pX qX rX,.bool xX,.slice aX nX cX] 33 (0,0))).alloc (.cells #[.slice pY qY rY,.bool xY,.slice aY nY cY] 33 (0,0))) 33 #[.slice none 0 0,.bool false,.slice none 0 0]);simp only [World.size_alloc] at oY oR;have hbw : Below w.heap.size w (((w.alloc (.cells #[.slice pX qX rX,.bool xX,.slice aX nX cX] 33 (0,0))).alloc (.cells #[.slice pY qY rY,.bool xY,.slice aY nY cY] 33 (0,0))).alloc (.cells #[.slice none 0 0,.bool false,.slice none 0 0] 33 (0,0))) := by go_grown
 replace hX := hX.below hbw;replace hY := hY.below hbw;have ltX := oX.lt;have lwX : w.heap.size ≤ w.heap.size := by omega
 have ltY := oY.lt;have lwY : w.heap.size ≤ w.heap.size + 1 := by omega
 have ltR := oR.lt;have lwR : w.heap.size ≤ w.heap.size + 1 + 1 := by omega
 go_enter Tryz.func13,Tryz.ntmps13;by_cases hr : (r + s).natAbs < lim
 ·
  have E0 : ec (r + s) = 0 := if_pos hr;have HR : Hid ((r + s).natAbs < lim) := hr;clear hr;obtain ⟨Xc0,Xc1,Xc2⟩ := oX.three;obtain ⟨Xk0,Xk1,Xk2⟩ := oX.frozen3;obtain ⟨Yc0,Yc1,Yc2⟩ := oY.three;obtain ⟨Yk0,Yk1,Yk2⟩ := oY.frozen3;go_wp2_with fail
  refine (add_h _ _ r s _ hX.rest hY.rest).mono ?_;rintro e w1 ⟨xS,aS,nS,cS,rfl,hS,hb⟩;clear Xc0 Xc1 Xc2 Xk0 Xk1 Xk2;clear Yc0 Yc1 Yc2 Yk0 Yk1 Yk2;replace oX := oX.stay hb;replace ltX := oX.lt;replace oY := oY.stay hb;replace ltY := oY.lt;replace oR := oR.stay hb;replace ltR := oR.lt;replace hX := hX.below hb;replace hY := hY.below hb;replace hbw := hbw.step hb (Nat.le_refl _);clear hb;rw [hz_of HR.out] at hS;have hn := below_new w1 (.cells #[.bool xS,.slice aS nS cS] 31 (0,0));have oS := Blk.new w1 31 #[.bool xS,.slice aS nS cS];have neXS : w.heap.size ≠ w1.heap.size := by have := ltX;(try simp at this);omega
  have neYS : w.heap.size + 1 ≠ w1.heap.size := by have := ltY;(try simp at this);omega
  have neRS : w.heap.size + 1 + 1 ≠ w1.heap.size := by have := ltR;(try simp at this);omega
  have lwS : w.heap.size ≤ w1.heap.size := by have := hbw.size;(try simp at this);omega
  replace oX := oX.stay hn;replace ltX := oX.lt;replace oY := oY.stay hn;replace ltY := oY.lt;replace oR := oR.stay hn;replace ltR := oR.lt;replace hX := hX.below hn;replace hY := hY.below hn;replace hS := hS.below hn;replace hbw := hbw.step hn (Nat.le_refl _);clear hn;have ltS := oS.lt;obtain ⟨Xc0,Xc1,Xc2⟩ := oX.three;obtain ⟨Xk0,Xk1,Xk2⟩ := oX.frozen3;obtain ⟨Yc0,Yc1,Yc2⟩ := oY.three;obtain ⟨Yk0,Yk1,Yk2⟩ := oY.frozen3;go_wp2_with fail
  refine (merged_any _ _ a b _ hX.pts hY.pts hX.fine hY.fine).mono ?_;rintro e w2 ⟨v,c,rfl,hM,hb⟩;clear Xc0 Xc1 Xc2 Xk0 Xk1 Xk2;clear Yc0 Yc1 Yc2 Yk0 Yk1 Yk2;replace oX := oX.stay hb;replace ltX := oX.lt;replace oY := oY.stay hb;replace ltY := oY.lt;replace oR := oR.stay hb;replace ltR := oR.lt;replace oS := oS.stay hb;replace ltS := oS.lt;replace hX := hX.below hb;replace hY := hY.below hb;replace hS := hS.below hb;replace hbw := hbw.step hb (Nat.le_refl _);clear hb;rcases hM with ⟨hf,rfl,hM⟩ | ⟨hf,rfl,rfl⟩
  ·
   obtain ⟨ao,n,cap,rfl,hT⟩ := hM.tp hS (addP_fine hX.fine hY.fine hf);obtain ⟨Rc0,Rc1,Rc2⟩ := oR.three;obtain ⟨Rk0,Rk1,Rk2⟩ := oR.frozen3;obtain ⟨Sc0,Sc1,Sk0,Sk1⟩ := oS.two;try simp only []
   try go_at_K
   repeat (first | go_values | go_skip | go_guarded | go_step | go_upon)
   refine bodyPost_ret (v := .tuple #[.agg #[.slice ao n cap,.bool xS,.slice aS nS cS],.int .i64 0]) (by simp [results,Tryz.results13,go_sem,Rc0,Rc1,Rc2]) rfl ?_
   obtain ⟨K1,B1,_⟩ := resT (by decide) (by decide) oR hbw lwR ao n cap xS aS nS cS
   exact ⟨_,_,rfl,Or.inl ⟨⟨HR.out,hf⟩,rfl,(hT.keepP K1).val⟩,B1⟩
  ·
   obtain ⟨Rc0,Rc1,Rc2⟩ := oR.three;obtain ⟨Rk0,Rk1,Rk2⟩ := oR.frozen3;try simp only []
   try go_at_K
   repeat (first | go_values | go_skip | go_guarded | go_step | go_upon)
   refine bodyPost_ret (v := .tuple #[.agg #[.slice none 0 0,.bool false,.slice none 0 0],.int .i64 11]) (by simp [results,Tryz.results13,go_sem,Rc0,Rc1,Rc2]) rfl ?_
   obtain ⟨K1,B1,_⟩ := resT (by decide) (by decide) oR hbw lwR none 0 0 false none 0 0
   exact ⟨_,_,rfl,Or.inr ⟨fun h => hf h.2,rfl,(TP.zero _).val⟩,B1⟩
 ·
  have E0 : ec (r + s) = 11 := if_neg hr;have HR : Hid (¬ (r + s).natAbs < lim) := hr;clear hr;obtain ⟨Xc0,Xc1,Xc2⟩ := oX.three;obtain ⟨Xk0,Xk1,Xk2⟩ := oX.frozen3;obtain ⟨Yc0,Yc1,Yc2⟩ := oY.three;obtain ⟨Yk0,Yk1,Yk2⟩ := oY.frozen3;go_wp2_with fail
  refine (add_h _ _ r s _ hX.rest hY.rest).mono ?_;rintro e w1 ⟨xS,aS,nS,cS,rfl,hS,hb⟩;clear Xc0 Xc1 Xc2 Xk0 Xk1 Xk2;clear Yc0 Yc1 Yc2 Yk0 Yk1 Yk2;replace oX := oX.stay hb;replace ltX := oX.lt;replace oY := oY.stay hb;replace ltY := oY.lt;replace oR := oR.stay hb;replace ltR := oR.lt;replace hX := hX.below hb;replace hY := hY.below hb;replace hbw := hbw.step hb (Nat.le_refl _);clear hb;obtain ⟨Rc0,Rc1,Rc2⟩ := oR.three;obtain ⟨Rk0,Rk1,Rk2⟩ := oR.frozen3;try simp only []
  try go_at_K
  repeat (first | go_values | go_skip | go_guarded | go_step | go_upon)
  refine bodyPost_ret (v := .tuple #[.agg #[.slice none 0 0,.bool false,.slice none 0 0],.int .i64 11]) (by simp [results,Tryz.results13,go_sem,Rc0,Rc1,Rc2,E0,ltR]) rfl ?_
  obtain ⟨K1,B1,_⟩ := resT (by decide) (by decide) oR hbw lwR none 0 0 false none 0 0
  exact ⟨_,_,rfl,Or.inr ⟨fun h => HR.out h.1,rfl,(TP.zero _).val⟩,B1.step (below_new _ _) (Nat.le_refl _)⟩
end Go.Proofs.YteefniagebcagaaGreatDoor
