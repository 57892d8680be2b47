/- The classes of a graph, as lists; no statement of the seat is proved here. -/
import Derived.Test.YtmnpefiaelpkfacEufLlJClasses
import Derived.Test.YtmnpefiaelpkfacEufFdJClasses
import Derived.Test.YtmnpefiaelpkfacJoin10Classes
import Derived.Test.YtmnpefiaelpkfacReg6JClasses
import Derived.Deep.DeepCutAuto
namespace Go.Proofs.Ytmnpefiaelpkfac
open Go.RowKit
set_option linter.unusedVariables false
namespace Euf
theorem uIL : Try.prog.underlying 33 = some (.slice 31) := by kernel_rfl
theorem iIL : (Try.prog.info? 31).map (fun i => (i.zero, i.size, i.bytes)) = some (some (.slice none 0 0), 1, 24) := by kernel_rfl
/-- What the loop of classes holds. -/
structure KS (w3 wr : World) (bP nn : Nat) (c : Nat → Nat) (n : Nat) (vO : Value) (vi : Nat → Value) (pl : Nat → Nat) : Prop where
  ll : LL wr vO (rpsL c n).length vi (clsL c n)
  pls : OL 1 3 wr (.slice (some ⟨bP, 0, none⟩) nn nn) nn (fun i => [.int .i64 (pl i : Nat)])
  at_ : ∀ r, r < n → c r = r → pl r = (rpsL c r).length
  bl : ∀ b, FL vO (rpsL c n).length vi b → w3.heap.size ≤ b ∧ b ≠ bP
  bp : w3.heap.size ≤ bP
  bel : Below w3.heap.size w3 wr
theorem KS.below {w3 wr w' : World} {bP nn : Nat} {c : Nat → Nat} {n : Nat} {vO : Value} {vi : Nat → Value} {pl : Nat → Nat} (h : KS w3 wr bP nn c n vO vi pl) (hb : Below wr.heap.size wr w') : KS w3 w' bP nn c n vO vi pl :=
  { h with ll := h.ll.below hb, pls := h.pls.stay (fun b hb' => hb.block b (h.pls.lt hb')), bel := h.bel.trans (hb.mono h.bel.size) }
/-- What holds when the list at a place is the one that grows: m lists, at place k the list lk. -/
structure KM (w3 wr : World) (bP nn m : Nat) (vO : Value) (vi : Nat → Value) (li : Nat → List Nat) (pl : Nat → Nat) : Prop where
  ll : LL wr vO m vi li
  pls : OL 1 3 wr (.slice (some ⟨bP, 0, none⟩) nn nn) nn (fun i => [.int .i64 (pl i : Nat)])
  bl : ∀ b, FL vO m vi b → w3.heap.size ≤ b ∧ b ≠ bP
  bp : w3.heap.size ≤ bP
  bel : Below w3.heap.size w3 wr
theorem KM.grow {w3 wr w1 : World} {bP nn m bO cO : Nat} {vi : Nat → Value} {li : Nat → List Nat} {pl : Nat → Nat} {v' : Value} (h : KM w3 wr bP nn m (.slice (some ⟨bO, 0, none⟩) m cO) vi li pl) {k : Nat} (hk : k < m) (hap : App (vi k) v' wr w1) {l : List Nat} (hol : OL 1 3 w1 v' l.length (natC l)) :
    KM w3 (w1.setCell ⟨bO, k, none⟩ v') bP nn m (.slice (some ⟨bO, 0, none⟩) m cO) (upd vi k v') (upd li k l) pl := by
  have hsz := h.bel.size
  have hbO : w3.heap.size ≤ bO ∧ bO ≠ bP := h.bl bO (Or.inl rfl)
  have old : ∀ b, v'.ownBlock = some b → (vi k).ownBlock = some b ∨ wr.heap.size ≤ b := fun b hb => by
    rcases hap.at_ with e | ⟨b', e3, e4⟩
    · exact Or.inl (e ▸ hb)
    · rw [e3] at hb; injection hb with hb; exact Or.inr (by omega)
  refine { ll := h.ll.grow hk hap hol, pls := ?_, bl := ?_, bp := h.bp, bel := ?_ }
  · refine h.pls.stay (fun b hb => ?_)
    injection hb with hb
    have hb2 : bP = b := hb
    subst hb2
    rw [heap_setCell_other w1 ⟨bO, k, none⟩ bP v' (fun e => hbO.2 e.symm)]
    exact hap.other bP (h.pls.lt rfl) (fun e => (h.bl bP (Or.inr ⟨k, hk, e⟩)).2 rfl)
  · rintro b (hb | ⟨j, hj, hb⟩)
    · exact h.bl b (Or.inl hb)
    · by_cases e : j = k
      · subst e; rw [upd_same] at hb
        rcases old b hb with h9 | h9
        · exact h.bl b (Or.inr ⟨j, hj, h9⟩)
        · exact ⟨by omega, fun e2 => by have := h.pls.lt (b := bP) rfl; omega⟩
      · rw [upd_other _ _ e] at hb; exact h.bl b (Or.inr ⟨j, hj, hb⟩)
  · exact (h.bel.trans (hap.toBelow hsz (fun b hb => (h.bl b (Or.inr ⟨k, hk, hb⟩)).1))).setCell (p := ⟨bO, k, none⟩) hbO.1 v'
theorem KM.pushNil {w3 wr w1 : World} {bP nn m : Nat} {vO v' : Value} {vi : Nat → Value} {li : Nat → List Nat} {pl : Nat → Nat} (h : KM w3 wr bP nn m vO vi li pl) (hap : App vO v' wr w1) (hol : OL 1 31 w1 v' (m + 1) (fun k => [upd vi m (.slice none 0 0) k])) :
    KM w3 w1 bP nn (m + 1) v' (upd vi m (.slice none 0 0)) (upd li m []) pl := by
  have hsz := h.bel.size
  refine { ll := h.ll.push hap (OL.nil _ _ _ _) (fun b k e => by cases e) hol, pls := ?_, bl := ?_, bp := h.bp, bel := h.bel.trans (hap.toBelow hsz (fun b hb => (h.bl b (Or.inl hb)).1)) }
  · exact h.pls.stay (fun b hb => hap.other b (h.pls.lt hb) (fun e => h.ll.out.ne h.pls (by decide) e hb))
  · rintro b (hb | ⟨j, hj, hb⟩)
    · rcases hap.at_ with e | ⟨b', e3, e4⟩
      · exact h.bl b (Or.inl (e ▸ hb))
      · rw [e3] at hb; injection hb with hb
        exact ⟨by omega, fun e2 => by have := h.pls.lt (b := bP) rfl; omega⟩
    · by_cases e : j = m
      · subst e; rw [upd_same] at hb; cases hb
      · rw [upd_other _ _ e] at hb; exact h.bl b (Or.inr ⟨j, by omega, hb⟩)
theorem least_c {nn : Nat} {N : Nat → ByteArray × List Nat} {E : Nat → Nat → Prop} {c : Nat → Nat} (h : ∀ i, i < nn → Least nn N E i (c i)) : (∀ i, i < nn → c i ≤ i) ∧ ∀ i, i < nn → c (c i) = c i := by
  refine ⟨fun i hi => (h i hi).le hi, fun i hi => ?_⟩
  have hlt := (h i hi).1
  exact ((h (c i) hlt).same (h i hi)).2 (h i hi).2.1

set_option maxRecDepth 20000 in
set_option maxHeartbeats 32000000 in
theorem classes_any (g : Nat) (d : Gd) (w : World) (h : GW w g d) (hk : GSem d) (hnn : d.t.nn ≤ 60) (hne : d.f.ne ≤ 60) :
    Calls Try.prog 17 #[.pointer (some ⟨g, 0, none⟩)] w fun e w' => ∃ (c : Nat → Nat) (vO : Value), e = .returned vO ∧ (∀ i, i < d.t.nn → Least d.t.nn d.t.N (EqOf d.f) i (c i)) ∧ ∃ vi : Nat → Value, LL w' vO (rpsL c d.t.nn).length vi (clsL c d.t.nn) ∧ (∀ b, FL vO (rpsL c d.t.nn).length vi b → w.heap.size ≤ b) ∧ Mv (Fg g d) w w' := by
  have HGW : Hid (GW w g d) := h
  have HK : Hid (GSem d) := hk
  clear h hk
  go_enter Try.func17, Try.ntmps17
  go_wp2_with fail
  refine (settle_any g d.x d.f d.m d.y d.s w HGW.out.cw HK.out.ok.f HK.out.ok.cl HK.out.ok.inv HK.out.ok.m (by omega)).mono ?_
  rintro e w3 ⟨rfl, y', s', hR, hns, hC, hM, hF⟩
  obtain ⟨k1, k2, k3⟩ := HGW.out.ran hC hM hF
  have HSM : Hid (GSem (dR d d.f.ne y' s')) := dR_sem HK.out hR
  have HMV : Hid (Mv (Fg g d) w w3) := k2
  have HG3 : Hid (GW w3 g (dR d d.f.ne y' s')) := k1
  obtain ⟨c, HCC⟩ : ∃ c : Nat → Nat, Hid (∀ i, i < d.t.nn → (s'.S (s'.S (d.f.W i)).cls).least = (c i : Int) ∧ Least d.t.nn d.t.N (EqOf d.f) i (c i)) := by
    have key : ∀ i, ∃ r : Nat, i < d.t.nn → (s'.S (s'.S (d.f.W i)).cls).least = (r : Int) ∧ Least d.t.nn d.t.N (EqOf d.f) i r := fun i => by
      by_cases hi : i < d.t.nn
      · obtain ⟨r, h1, h2⟩ := find_least (f := d.f) (t := d.t) (s := s') HSM.out.ok.t HSM.out.ok.f HSM.out.sem HSM.out.ok.inv hns hi
        exact ⟨r, fun _ => ⟨h1, h2⟩⟩
      · exact ⟨0, fun h => absurd h hi⟩
    obtain ⟨f, hf⟩ := Classical.skolem.1 key
    exact ⟨f, hf⟩
  have HLC : Hid ((∀ i, i < d.t.nn → c i ≤ i) ∧ ∀ i, i < d.t.nn → c (c i) = c i) := least_c (fun i hi => (HCC.out i hi).2)
  have HNS : Hid (s'.ns = d.f.np) := hns
  obtain ⟨c0, -, -, -, -, -, -, -, -, -⟩ := k1.cw.cells
  obtain ⟨an, cn, hvn, -, -, -, -⟩ := k1.nodes.shape
  rw [hvn] at c0
  have hnx : (dR d d.f.ne y' s').t.nn = d.t.nn := rfl
  rw [hnx] at c0
  have hgl3 := k1.cw.lt
  have hnI : (d.t.nn : Int) ≤ 60 := by omega
  clear hR hns hC hM hF k1 k2 k3 hvn hnx
  go_wp2_with (at_make; refine wpList_make_nums _ rfl _ _ 31 rfl 3 .i64 8 uInts iInt _ _ _ _ d.t.nn rfl rfl rfl rfl (by decide) (by omega) ?_; intro w4 hr4 hb4 hz4; replace c0 := (hb4.cell (p := ⟨g, 0, none⟩) hgl3).trans c0; have hgl4 : g < w4.heap.size := by omega)
  have HKS : Hid (KS w3 w4 w3.heap.size d.t.nn c 0 (.slice none 0 0) (fun _ => .slice none 0 0) (fun _ => 0)) := by
    refine { ll := LL.nil _ _ _, pls := ?_, at_ := fun r hr => absurd hr (Nat.not_lt_zero _), bl := ?_, bp := Nat.le_refl _, bel := hb4 }
    · refine (row_ol hr4 (by simp) (by omega)).congr fun i hi => ?_
      unfold natC
      rw [List.getD_eq_getElem?_getD, List.getElem?_replicate, if_pos hi]
      rfl
    · rintro b (hb | ⟨k, hk, _⟩)
      · cases hb
      · exact absurd hk (Nat.not_lt_zero _)
  obtain ⟨bP, hbP⟩ : ∃ bP, bP = w3.heap.size := ⟨_, rfl⟩
  rw [← hbP] at HKS
  rw [← hbP]
  clear hr4 hb4 hz4 c0 hgl4 hbP
  go_loopw [3, 20] (fun v3 v20 wr => ∃ (n : Nat) (vi : Nat → Value) (pl : Nat → Nat), v20 = .int .i64 (n : Nat) ∧ n ≤ d.t.nn ∧ Hid (KS w3 wr bP d.t.nn c n v3 vi pl)) (fun _ v _ => d.t.nn - (intOf v).toNat)
  case atStart => exact ⟨0, _, _, rfl, Nat.zero_le _, HKS.out⟩
  case round =>
    rename World => wl
    clear HKS
    obtain ⟨n, vi, pl, rfl, hn, HS⟩ := hrel
    obtain ⟨aO, cO, hvO, -, -, -, -⟩ := HS.out.ll.out.shape
    subst hvO
    by_cases hlt : n < d.t.nn
    · have hltI : (n : Int) < (d.t.nn : Int) := by omega
      obtain ⟨r, hr⟩ : ∃ r, r = c n := ⟨_, rfl⟩
      have HR : Hid (r = c n) := hr
      have hrn : r ≤ n := by rw [hr]; exact HLC.out.1 n hlt
      have hwl : d.f.W n < s'.ns := by rw [HNS.out]; exact (HK.out.ok.t.whole n hlt).1
      have hcl : (s'.S (d.f.W n)).cls < s'.ns := HSM.out.ok.inv.lt _ hwl
      have hC : CW wl g d.x d.f d.f.ne y' s' := (HG3.out.below HS.out.bel).cw
      obtain ⟨gs, cap, hv, hc1, hc2⟩ := hC.spotsAt hcl
      obtain ⟨-, -, -, -, -, -, -, c7, -, -⟩ := hC.cells
      rw [hv] at c7
      obtain ⟨-, -, -, -, -, f5, -⟩ := hC.spot hv hcl
      rw [(HCC.out n hlt).1, ← hr] at f5
      have hgl := hC.lt
      have hgs := hC.ltS hv
      obtain ⟨cl, hcle⟩ : ∃ cl, cl = (s'.S (d.f.W n)).cls := ⟨_, rfl⟩
      have HCL : Hid (cl = (s'.S (d.f.W n)).cls) := hcle
      rw [← hcle] at f5 hcl
      have hclI : (cl : Int) < (s'.ns : Int) := by omega
      have HC3 : Hid (CW wl g d.x d.f d.f.ne y' s') := hC
      have HWL : Hid (d.f.W n < s'.ns) := hwl
      have HQ : Hid (∀ w9, Below wl.heap.size wl w9 → Calls Try.prog 22 #[.pointer (some ⟨g, 0, none⟩), .int .i64 (n : Nat)] w9 fun e w' => e = .returned (.int .i64 (cl : Nat)) ∧ Below w9.heap.size w9 w') := by
        intro w9 h9
        rw [HCL.out]
        exact classOf_any g d.x d.f d.f.ne y' s' n w9 (HC3.out.below h9) (by rw [HK.out.ok.t.nw]; exact hlt) HWL.out
      have HMEM : Hid (∀ w9, Below wl.heap.size wl w9 → w9.cell? ⟨g, 7, none⟩ = some (.slice (some ⟨gs, 0, none⟩) s'.ns cap) ∧ w9.cell? ⟨gs, cl * 7 + 5, none⟩ = some (.int .i64 (r : Nat))) := fun w9 h9 => ⟨(h9.cell (p := ⟨g, 7, none⟩) hgl).trans c7, (h9.cell (p := ⟨gs, cl * 7 + 5, none⟩) hgs).trans f5⟩
      clear hC hv hcle hwl hr c7 f5 hgl hgs
      go_wp2
      refine wp_region_E (by kernel_rfl) [some 23, some 24, some 25, some 26, some 27, some 28, some 29, some 30, some 31, some 32, some 6] [none, none, none, none, none, none, some 6, none, none, none, none, none, none, none, none, none, none, none, none, none, none, none, none, some 23, some 24, some 25, some 26, some 27, some 28, some 29, some 30, some 31, some 32] (fun U => by kernel_rfl) [fun u => u = (.pointer (some ⟨g, 0, none⟩)), fun u => u = (.pointer (some ⟨g, 0, none⟩)), fun u => u = (.pointer (some ⟨g, 7, none⟩)), fun u => u = (.slice (some ⟨gs, 0, none⟩) s'.ns cap), fun u => u = (.pointer (some ⟨g, 0, none⟩)), fun u => u = (.int .i64 (n : Nat)), fun u => u = (.int .i64 (cl : Nat)), fun u => u = (.pointer (some ⟨gs, cl * 7, none⟩)), fun u => u = (.pointer (some ⟨gs, cl * 7 + 5, none⟩)), fun u => u = (.int .i64 (r : Nat)), fun u => u = (.int .i64 (r : Nat))] (fun L U wr => Below wl.heap.size wl wr) (by kernel_rfl) (by decide) (by kernel_rfl) (by kernel_rfl) ?_ ?_ ?_
      · exact fun U => (Below.refl _ _).drew
      · refine StepsE.run rfl ?_ ?_
        · intro L U wr hC hP hlk hcl haf A K hFm hK
          simp [Aft, Region.binds] at haf
          have e0 : A.tmps[0]? = some (.pointer (some ⟨g, 0, none⟩)) := (hFm.old 0 (by decide)).trans (by kernel_rfl)
          have HC : Hid _ := hC
          clear hC
          refine ⟨?_⟩
          go_simp
          exact hK _ _ rfl HC.out
        refine StepsE.run rfl ?_ ?_
        · intro L U wr hC hP hlk hcl haf A K hFm hK
          simp [Aft, Region.binds] at haf
          have g0 : U 23 = (.pointer (some ⟨g, 0, none⟩)) := hP 0 23 (by simp [haf]) rfl
          have e23 : A.tmps[23]? = some (.pointer (some ⟨g, 0, none⟩)) := hFm.is 0 23 rfl g0
          have HC : Hid _ := hC
          clear hC
          refine ⟨?_⟩
          go_simp
          exact hK _ _ rfl HC.out
        refine StepsE.run rfl ?_ ?_
        · intro L U wr hC hP hlk hcl haf A K hFm hK
          simp [Aft, Region.binds] at haf
          have g1 : U 24 = (.pointer (some ⟨g, 0, none⟩)) := hP 1 24 (by simp [haf]) rfl
          have e24 : A.tmps[24]? = some (.pointer (some ⟨g, 0, none⟩)) := hFm.is 1 24 rfl g1
          have HC : Hid _ := hC
          clear hC
          refine ⟨?_⟩
          go_simp
          exact hK _ _ rfl HC.out
        refine StepsE.run rfl ?_ ?_
        · intro L U wr hC hP hlk hcl haf A K hFm hK
          simp [Aft, Region.binds] at haf
          have g2 : U 25 = (.pointer (some ⟨g, 7, none⟩)) := hP 2 25 (by simp [haf]) rfl
          have e25 : A.tmps[25]? = some (.pointer (some ⟨g, 7, none⟩)) := hFm.is 2 25 rfl g2
          obtain ⟨m1, m2⟩ := HMEM.out wr hC
          have HC : Hid _ := hC
          clear hC
          refine ⟨?_⟩
          go_simp
          exact hK _ _ rfl HC.out
        refine StepsE.run rfl ?_ ?_
        · intro L U wr hC hP hlk hcl haf A K hFm hK
          simp [Aft, Region.binds] at haf
          have e0 : A.tmps[0]? = some (.pointer (some ⟨g, 0, none⟩)) := (hFm.old 0 (by decide)).trans (by kernel_rfl)
          have HC : Hid _ := hC
          clear hC
          refine ⟨?_⟩
          go_simp
          exact hK _ _ rfl HC.out
        refine StepsE.run rfl ?_ ?_
        · intro L U wr hC hP hlk hcl haf A K hFm hK
          simp [Aft, Region.binds] at haf
          have e5 : A.tmps[5]? = some (.int .i64 (n : Nat)) := (hFm.old 5 (by decide)).trans (by kernel_rfl)
          have HC : Hid _ := hC
          clear hC
          refine ⟨?_⟩
          go_simp
          exact hK _ _ rfl HC.out
        refine StepsE.run rfl ?_ ?_
        · intro L U wr hC hP hlk hcl haf A K hFm hK
          simp [Aft, Region.binds] at haf
          have g4 : U 27 = (.pointer (some ⟨g, 0, none⟩)) := hP 4 27 (by simp [haf]) rfl
          have e27 : A.tmps[27]? = some (.pointer (some ⟨g, 0, none⟩)) := hFm.is 4 27 rfl g4
          have g5 : U 28 = (.int .i64 (n : Nat)) := hP 5 28 (by simp [haf]) rfl
          have e28 : A.tmps[28]? = some (.int .i64 (n : Nat)) := hFm.is 5 28 rfl g5
          refine ⟨?_⟩
          have HB9 : Hid _ := hC
          clear hC
          go_simp
          refine (HQ.out wr HB9.out).mono ?_
          rintro e w1 ⟨rfl, hb9⟩
          go_simp
          exact hK _ _ (rfl) (HB9.out.trans (hb9.mono HB9.out.size))
        refine StepsE.run rfl ?_ ?_
        · intro L U wr hC hP hlk hcl haf A K hFm hK
          simp [Aft, Region.binds] at haf
          have g3 : U 26 = (.slice (some ⟨gs, 0, none⟩) s'.ns cap) := hP 3 26 (by simp [haf]) rfl
          have e26 : A.tmps[26]? = some (.slice (some ⟨gs, 0, none⟩) s'.ns cap) := hFm.is 3 26 rfl g3
          have g6 : U 29 = (.int .i64 (cl : Nat)) := hP 6 29 (by simp [haf]) rfl
          have e29 : A.tmps[29]? = some (.int .i64 (cl : Nat)) := hFm.is 6 29 rfl g6
          have HC : Hid _ := hC
          clear hC
          refine ⟨?_⟩
          go_simp
          exact hK _ _ rfl HC.out
        refine StepsE.run rfl ?_ ?_
        · intro L U wr hC hP hlk hcl haf A K hFm hK
          simp [Aft, Region.binds] at haf
          have g7 : U 30 = (.pointer (some ⟨gs, cl * 7, none⟩)) := hP 7 30 (by simp [haf]) rfl
          have e30 : A.tmps[30]? = some (.pointer (some ⟨gs, cl * 7, none⟩)) := hFm.is 7 30 rfl g7
          have HC : Hid _ := hC
          clear hC
          refine ⟨?_⟩
          go_simp
          exact hK _ _ rfl HC.out
        refine StepsE.run rfl ?_ ?_
        · intro L U wr hC hP hlk hcl haf A K hFm hK
          simp [Aft, Region.binds] at haf
          have g8 : U 31 = (.pointer (some ⟨gs, cl * 7 + 5, none⟩)) := hP 8 31 (by simp [haf]) rfl
          have e31 : A.tmps[31]? = some (.pointer (some ⟨gs, cl * 7 + 5, none⟩)) := hFm.is 8 31 rfl g8
          obtain ⟨m1, m2⟩ := HMEM.out wr hC
          have HC : Hid _ := hC
          clear hC
          refine ⟨?_⟩
          go_simp
          exact hK _ _ rfl HC.out
        refine StepsE.run rfl ?_ StepsE.nil
        · intro L U wr hC hP hlk hcl haf A K hFm hK
          simp [Aft, Region.binds] at haf
          have g9 : U 32 = (.int .i64 (r : Nat)) := hP 9 32 (by simp [haf]) rfl
          have e32 : A.tmps[32]? = some (.int .i64 (r : Nat)) := hFm.is 9 32 rfl g9
          have HC : Hid _ := hC
          clear hC
          refine ⟨?_⟩
          go_simp
          exact hK _ _ rfl HC.out
      intro L U7 V7 hall hC hP
      have e6 : U7 6 = .int .i64 (r : Nat) := hP 10 6 rfl
      simp only [setM_some, setM_none, setM_nil]
      rw [e6]
      have HS7 : Hid (KS w3 V7 bP d.t.nn c n (.slice aO (rpsL c n).length cO) vi pl) := HS.out.below hC
      clear hC hP hall e6 HQ HMEM HC3 HS HCL HWL hcl hclI hc1 hc2
      by_cases hrr : r = n
      · have HRN : Hid (c n = n) := by show _ = _; rw [← HR.out]; exact hrr
        subst hrr
        have p0 := HS7.out.pls.cell (i := r) hlt (j := 0) (by omega)
        simp only [Nat.add_zero, Nat.mul_one, List.getElem?_cons_zero] at p0
        have pf := HS7.out.pls.frozen r
        have hpl := HS7.out.pls.lt (b := bP) rfl
        have hm6 : (rpsL c r).length ≤ 60 := by have := rpsL_len c r; omega
        obtain ⟨V8, hV8⟩ : ∃ V8, V8 = V7.setCell ⟨bP, r, none⟩ (.int .i64 ((rpsL c r).length : Nat)) := ⟨_, rfl⟩
        have HK8 : Hid (KM w3 V8 bP d.t.nn (rpsL c r).length (.slice aO (rpsL c r).length cO) vi (clsL c r) (upd pl r (rpsL c r).length)) := by
          have h7 := HS7.out
          have oth : ∀ b, b ≠ bP → V8.heap[b]? = V7.heap[b]? := fun b hb => by rw [hV8]; exact heap_setCell_other V7 ⟨bP, r, none⟩ b _ hb
          refine { ll := h7.ll.keep (fun b hb => oth b (h7.bl b hb).2), pls := ?_, bl := h7.bl, bp := h7.bp, bel := ?_ }
          · have := h7.pls.set (i := r) (j := 0) hlt (by omega) (.int .i64 ((rpsL c r).length : Nat)) (f' := fun i => [.int .i64 (upd pl r (rpsL c r).length i : Nat)]) (fun _ _ => rfl) (by rw [upd_same]; rfl) (fun q _ hq => by rw [upd_other _ _ hq])
            rw [hV8]
            simpa using this
          · rw [hV8]; exact h7.bel.setCell (p := ⟨bP, r, none⟩) h7.bp _
        have HAT : Hid (∀ q, q < r → c q = q → pl q = (rpsL c q).length) := HS7.out.at_
        clear HS7
        go_wp2_with (at_builtin; refine Stop.of ?_)
        rw [← hV8]
        have hs8 : V7.heap.size = V8.heap.size := by rw [hV8]; simp
        rw [hs8]
        show wpList _ _ _ _ _ _
        have hol8 : OL 1 31 (V8.alloc (.cells #[.slice none 0 0] 31 (0, 0))) (.slice aO (rpsL c r).length cO) (rpsL c r).length (fun k => [vi k]) := HK8.out.ll.out.stay fun b hb => Below.heap_alloc V8 _ b (HK8.out.ll.out.lt hb)
        refine wpList_push rfl (.tmp 41) (.tmp 42) 33 rfl 1 31 _ 24 uIL iIL (by decide) rfl (by decide) (.slice aO (rpsL c r).length cO) (rpsL c r).length (fun k => [vi k]) rfl [.slice none 0 0] 31 hol8 (fun _ _ => rfl) 1 rfl rfl (by intro u hu; simp at hu; subst hu; rfl) (by omega) (fun k => [upd vi (rpsL c r).length (.slice none 0 0) k]) (fun k hk => by rw [upd_other _ _ (by omega)]) (by rw [upd_same]) ?_
        intro v9 wq hol9 hap9 hne9
        replace hap9 := hap9.of_alloc (fun b hb => HK8.out.ll.out.lt hb)
        obtain ⟨bO, cO', hv9, -, -⟩ := hol9.open 0 (by omega)
        subst hv9
        have hk9 := HK8.out.pushNil hap9 hol9
        obtain ⟨k, hkk⟩ : ∃ k, k = (rpsL c r).length := ⟨_, rfl⟩
        obtain ⟨m, hmm⟩ : ∃ m, m = (rpsL c r).length + 1 := ⟨_, rfl⟩
        obtain ⟨vi2, hvi2⟩ : ∃ vi2, vi2 = upd vi (rpsL c r).length (.slice none 0 0) := ⟨_, rfl⟩
        obtain ⟨li, hli⟩ : ∃ li, li = upd (clsL c r) (rpsL c r).length [] := ⟨_, rfl⟩
        obtain ⟨pl2, hpl2⟩ : ∃ pl2, pl2 = upd pl r (rpsL c r).length := ⟨_, rfl⟩
        have HKM : Hid (KM w3 wq bP d.t.nn m (.slice (some ⟨bO, 0, none⟩) m cO') vi2 li pl2 ∧ m = (rpsL c (r + 1)).length ∧ (∀ j, j < m → clsL c (r + 1) j = if j = k then li k ++ [r] else li j) ∧ (∀ q, q < r + 1 → c q = q → pl2 q = (rpsL c q).length) ∧ pl2 r = k ∧ (li k).length ≤ 60) := by
          have hlen : (rpsL c (r + 1)).length = (rpsL c r).length + 1 := by rw [rpsL_yes HRN.out]; simp
          refine ⟨by rw [hmm, hvi2, hli, hpl2]; exact hk9, by rw [hmm, hlen], fun j hj => ?_, fun q hq hcq => ?_, by rw [hpl2, hkk, upd_same], by rw [hli, hkk, upd_same]; simp⟩
          · rw [clsL_new (fun i hi => HLC.out.1 i (by omega)) HRN.out j (by omega), hli, hkk, upd_same]
            by_cases e : j = (rpsL c r).length
            · rw [if_pos e, if_pos e]; rfl
            · rw [if_neg e, if_neg e, upd_other _ _ e]
          · rw [hpl2]
            by_cases e : q = r
            · rw [e, upd_same]
            · rw [upd_other _ _ e]; exact HAT.out q (by omega) hcq
        have hk : k < m := by omega
        have hm61 : m ≤ 61 := by omega
        rw [← hmm]
        clear hs8 hol8 hol9 hap9 hne9 hk9 HK8 HAT hkk hvi2 hli hpl2 p0 pf hpl hm6 HRN hV8 HR hmm
        have hrn2 : r ≤ r := Nat.le_refl _
        obtain ⟨lk, hlk⟩ : ∃ lk, lk = li k := ⟨_, rfl⟩
        obtain ⟨vik, hvik⟩ : ∃ vik, vik = vi2 k := ⟨_, rfl⟩
        have HLK : Hid (lk = li k ∧ vik = vi2 k) := ⟨hlk, hvik⟩
        have hlk60 : lk.length ≤ 60 := by rw [hlk]; exact HKM.out.2.2.2.2.2
        have hol0 := HKM.out.1.ll.inn k hk
        rw [← hlk, ← hvik] at hol0
        have q0 := HKM.out.1.ll.out.cell (i := k) hk (j := 0) (by omega)
        have q1 := HKM.out.1.pls.cell (i := r) (by omega) (j := 0) (by omega)
        simp only [Nat.add_zero, Nat.mul_one, List.getElem?_cons_zero] at q0 q1
        rw [← hvik] at q0
        rw [HKM.out.2.2.2.2.1] at q1
        have hlO : bO < wq.heap.size := HKM.out.1.ll.out.lt rfl
        have hlP : bP < wq.heap.size := HKM.out.1.pls.lt rfl
        have hvO : vik.ownBlock ≠ some bO := fun e => hol0.ne HKM.out.1.ll.out (by decide) e rfl
        have hvP : vik.ownBlock ≠ some bP := fun e => (HKM.out.1.bl bP (Or.inr ⟨k, hk, by rw [← hvik]; exact e⟩)).2 rfl
        have hxO : wq.heap[bO]? = wq.heap[bO]? := rfl
        obtain ⟨curO, hcurO⟩ := HKM.out.1.ll.out.elem (b := bO) rfl
        have hkI : (k : Int) < (m : Int) := by omega
        have hrnn : (r : Int) < (d.t.nn : Int) := by omega
        obtain ⟨E5, hE5⟩ : ∃ E5 : World → Prop, E5 = fun wr => ∃ v', KM w3 wr bP d.t.nn m (.slice (some ⟨bO, 0, none⟩) m cO') (upd vi2 k v') (upd li k (lk ++ [r])) pl2 := ⟨_, rfl⟩
        obtain ⟨M5, hM5⟩ : ∃ M5 : World → Prop, M5 = fun wr => wr.cell? ⟨bP, r, none⟩ = some (.int .i64 (k : Nat)) ∧ wr.cell? ⟨bO, k, none⟩ = some vik ∧ bP < wr.heap.size ∧ bO < wr.heap.size := ⟨_, rfl⟩
        have HM0 : Hid (∀ wr, Below wq.heap.size wq wr → M5 wr) := by
          intro wr h1; rw [hM5]
          have := h1.size
          exact ⟨(h1.cell (p := ⟨bP, r, none⟩) hlP).trans q1, (h1.cell (p := ⟨bO, k, none⟩) hlO).trans q0, by omega, by omega⟩
        have HM1 : Hid (∀ wr v9, App vik v9 wq wr → M5 wr) := by
          intro wr v9 h1; rw [hM5]
          have := h1.size
          exact ⟨(World.cell?_of_block (a := ⟨bP, r, none⟩) (h1.other _ hlP hvP)).trans q1, (World.cell?_of_block (a := ⟨bO, k, none⟩) (h1.other _ hlO hvO)).trans q0, by omega, by omega⟩
        have HFZ : Hid (∀ wr v9, App vik v9 wq wr → wr.cell? ⟨bO, k, none⟩ = some vik ∧ wr.frozen? ⟨bO, k, none⟩ = false) := by
          intro wr v9 h1
          have h2 := HM1.out wr v9 h1
          rw [hM5] at h2
          exact ⟨h2.2.1, frozen_of_row wr bO k _ 31 ((h1.other bO hlO hvO).trans hcurO)⟩
        have HOWN : Hid (∀ wr, Below wq.heap.size wq wr → OL 1 3 wr vik lk.length (natC lk)) := fun wr h1 => hol0.stay (fun b hb => h1.block b (hol0.lt hb))
        have HNB : Hid (lk.length + 1 ≤ 1000000000) := by show _ ≤ _; omega
        have HSET : Hid (∀ wr v9, OL 1 3 wr v9 (lk.length + 1) (natC (lk ++ [r])) → App vik v9 wq wr → v9 ≠ .slice none 0 0 → E5 (wr.setCell ⟨bO, k, none⟩ v9)) := by
          intro wr v9 h1 h2 h3
          rw [hE5]
          rw [hvik] at h2
          exact ⟨v9, HKM.out.1.grow hk h2 (by rw [List.length_append]; exact h1)⟩
        clear q0 q1 hol0 hvO hvP hlO hlP hxO hcurO hlk hvik
        go_wp2
        refine wp_region_E (by kernel_rfl) [some 44, some 45, some 46, some 47, some 48, some 49, some 50, some 51, some 52, some 53, some 54, some 55, some 56, some 57, some 58, some 59, none] [none, none, none, none, none, none, none, none, none, none, none, none, none, none, none, none, none, none, none, none, none, none, none, none, none, none, none, none, none, none, none, none, none, none, none, none, none, none, none, none, none, none, none, none, some 44, some 45, some 46, some 47, some 48, some 49, some 50, some 51, some 52, some 53, some 54, some 55, some 56, some 57, some 58, some 59] (fun U => by kernel_rfl) [fun u => u = (.slice (some ⟨bO, 0, none⟩) m cO'), fun u => u = (.slice (some ⟨bP, 0, none⟩) d.t.nn d.t.nn), fun u => u = (.int .i64 (r : Nat)), fun u => u = (.pointer (some ⟨bP, r, none⟩)), fun u => u = (.int .i64 (k : Nat)), fun u => u = (.slice (some ⟨bO, 0, none⟩) m cO'), fun u => u = (.slice (some ⟨bP, 0, none⟩) d.t.nn d.t.nn), fun u => u = (.int .i64 (r : Nat)), fun u => u = (.pointer (some ⟨bP, r, none⟩)), fun u => u = (.int .i64 (k : Nat)), fun u => u = (.pointer (some ⟨bO, k, none⟩)), fun u => u = (vik), fun u => u = (.int .i64 (r : Nat)), fun _ => True, fun _ => True, fun u => u = (.pointer (some ⟨bO, k, none⟩)), fun _ => True] (fun L U wr => (L 14 = false → Below wq.heap.size wq wr) ∧ (L 13 = true → L 14 = false → ONE5 3 [.int .i64 (r : Nat)] (U 57) wr) ∧ (L 14 = true → L 16 = false → OL 1 3 wr (U 58) (lk.length + 1) (natC (lk ++ [r])) ∧ App (vik) (U 58) wq wr ∧ U 58 ≠ .slice none 0 0) ∧ (L 16 = true → (L 0 = true ∧ L 1 = true ∧ L 2 = true ∧ L 3 = true ∧ L 4 = true ∧ L 5 = true ∧ L 6 = true ∧ L 7 = true ∧ L 8 = true ∧ L 9 = true ∧ L 10 = true ∧ L 11 = true ∧ L 12 = true ∧ L 13 = true ∧ L 14 = true ∧ L 15 = true) ∧ E5 wr)) (by kernel_rfl) (by decide) (by kernel_rfl) (by kernel_rfl) ?_ ?_ ?_
        · exact fun U => ⟨fun _ => (Below.refl _ _).drew, (fun h => by cases h), (fun h => by cases h), (fun h => by cases h)⟩
        · refine StepsE.run rfl ?_ ?_
          · intro L U wr hC hP hlk hcl haf A K hFm hK
            simp [Aft, Region.binds] at haf
            have e3 : A.tmps[3]? = some (.slice (some ⟨bO, 0, none⟩) m cO') := (hFm.old 3 (by decide)).trans (by kernel_rfl)
            have HC : Hid _ := hC
            clear hC
            refine ⟨?_⟩
            go_simp
            refine hK _ _ rfl ?_
            obtain ⟨c0, cB, c1, cS⟩ := HC.out
            refine ⟨fun h => c0 (by simpa using h), (fun h1 h2 => by have h9 := cB (by simpa using h1) (by simpa using h2); simpa [updO, Go.Proofs.Ytmnpefiaelpkfac.upd] using h9), (fun h1 h2 => by have h9 := c1 (by simpa using h1) (by simpa using h2); simpa [updO, Go.Proofs.Ytmnpefiaelpkfac.upd] using h9), fun h => ?_⟩
            have h9 := cS (by simpa using h)
            exact ⟨by simp [h9.1], h9.2⟩
          refine StepsE.run rfl ?_ ?_
          · intro L U wr hC hP hlk hcl haf A K hFm hK
            simp [Aft, Region.binds] at haf
            have e4 : A.tmps[4]? = some (.slice (some ⟨bP, 0, none⟩) d.t.nn d.t.nn) := (hFm.old 4 (by decide)).trans (by kernel_rfl)
            have HC : Hid _ := hC
            clear hC
            refine ⟨?_⟩
            go_simp
            refine hK _ _ rfl ?_
            obtain ⟨c0, cB, c1, cS⟩ := HC.out
            refine ⟨fun h => c0 (by simpa using h), (fun h1 h2 => by have h9 := cB (by simpa using h1) (by simpa using h2); simpa [updO, Go.Proofs.Ytmnpefiaelpkfac.upd] using h9), (fun h1 h2 => by have h9 := c1 (by simpa using h1) (by simpa using h2); simpa [updO, Go.Proofs.Ytmnpefiaelpkfac.upd] using h9), fun h => ?_⟩
            have h9 := cS (by simpa using h)
            exact ⟨by simp [h9.1], h9.2⟩
          refine StepsE.run rfl ?_ ?_
          · intro L U wr hC hP hlk hcl haf A K hFm hK
            simp [Aft, Region.binds] at haf
            have e6 : A.tmps[6]? = some (.int .i64 (r : Nat)) := (hFm.old 6 (by decide)).trans (by kernel_rfl)
            have HC : Hid _ := hC
            clear hC
            refine ⟨?_⟩
            go_simp
            refine hK _ _ rfl ?_
            obtain ⟨c0, cB, c1, cS⟩ := HC.out
            refine ⟨fun h => c0 (by simpa using h), (fun h1 h2 => by have h9 := cB (by simpa using h1) (by simpa using h2); simpa [updO, Go.Proofs.Ytmnpefiaelpkfac.upd] using h9), (fun h1 h2 => by have h9 := c1 (by simpa using h1) (by simpa using h2); simpa [updO, Go.Proofs.Ytmnpefiaelpkfac.upd] using h9), fun h => ?_⟩
            have h9 := cS (by simpa using h)
            exact ⟨by simp [h9.1], h9.2⟩
          refine StepsE.run rfl ?_ ?_
          · intro L U wr hC hP hlk hcl haf A K hFm hK
            simp [Aft, Region.binds] at haf
            have g1 : U 45 = (.slice (some ⟨bP, 0, none⟩) d.t.nn d.t.nn) := hP 1 45 (by simp [haf]) rfl
            have e45 : A.tmps[45]? = some (.slice (some ⟨bP, 0, none⟩) d.t.nn d.t.nn) := hFm.is 1 45 rfl g1
            have g2 : U 46 = (.int .i64 (r : Nat)) := hP 2 46 (by simp [haf]) rfl
            have e46 : A.tmps[46]? = some (.int .i64 (r : Nat)) := hFm.is 2 46 rfl g2
            have HC : Hid _ := hC
            clear hC
            refine ⟨?_⟩
            go_simp
            refine hK _ _ rfl ?_
            obtain ⟨c0, cB, c1, cS⟩ := HC.out
            refine ⟨fun h => c0 (by simpa using h), (fun h1 h2 => by have h9 := cB (by simpa using h1) (by simpa using h2); simpa [updO, Go.Proofs.Ytmnpefiaelpkfac.upd] using h9), (fun h1 h2 => by have h9 := c1 (by simpa using h1) (by simpa using h2); simpa [updO, Go.Proofs.Ytmnpefiaelpkfac.upd] using h9), fun h => ?_⟩
            have h9 := cS (by simpa using h)
            exact ⟨by simp [h9.1], h9.2⟩
          refine StepsE.run rfl ?_ ?_
          · intro L U wr hC hP hlk hcl haf A K hFm hK
            simp [Aft, Region.binds] at haf
            have g3 : U 47 = (.pointer (some ⟨bP, r, none⟩)) := hP 3 47 (by simp [haf]) rfl
            have e47 : A.tmps[47]? = some (.pointer (some ⟨bP, r, none⟩)) := hFm.is 3 47 rfl g3
            have hM8 : M5 wr := by
              obtain ⟨c0, cB, c1, cS⟩ := hC
              have hs : L 16 = false := by cases h : L 16 with | false => rfl | true => exact absurd (cS h).1 (by simp [hlk])
              cases h14 : L 14 with
              | false => exact HM0.out wr (c0 h14)
              | true => exact HM1.out wr (U 58) (c1 h14 hs).2.1
            rw [hM5] at hM8
            obtain ⟨m7, m8, hl7, hl8⟩ := hM8
            have HC : Hid _ := hC
            clear hC
            refine ⟨?_⟩
            go_simp
            refine hK _ _ rfl ?_
            obtain ⟨c0, cB, c1, cS⟩ := HC.out
            refine ⟨fun h => c0 (by simpa using h), (fun h1 h2 => by have h9 := cB (by simpa using h1) (by simpa using h2); simpa [updO, Go.Proofs.Ytmnpefiaelpkfac.upd] using h9), (fun h1 h2 => by have h9 := c1 (by simpa using h1) (by simpa using h2); simpa [updO, Go.Proofs.Ytmnpefiaelpkfac.upd] using h9), fun h => ?_⟩
            have h9 := cS (by simpa using h)
            exact ⟨by simp [h9.1], h9.2⟩
          refine StepsE.run rfl ?_ ?_
          · intro L U wr hC hP hlk hcl haf A K hFm hK
            simp [Aft, Region.binds] at haf
            have e3 : A.tmps[3]? = some (.slice (some ⟨bO, 0, none⟩) m cO') := (hFm.old 3 (by decide)).trans (by kernel_rfl)
            have HC : Hid _ := hC
            clear hC
            refine ⟨?_⟩
            go_simp
            refine hK _ _ rfl ?_
            obtain ⟨c0, cB, c1, cS⟩ := HC.out
            refine ⟨fun h => c0 (by simpa using h), (fun h1 h2 => by have h9 := cB (by simpa using h1) (by simpa using h2); simpa [updO, Go.Proofs.Ytmnpefiaelpkfac.upd] using h9), (fun h1 h2 => by have h9 := c1 (by simpa using h1) (by simpa using h2); simpa [updO, Go.Proofs.Ytmnpefiaelpkfac.upd] using h9), fun h => ?_⟩
            have h9 := cS (by simpa using h)
            exact ⟨by simp [h9.1], h9.2⟩
          refine StepsE.run rfl ?_ ?_
          · intro L U wr hC hP hlk hcl haf A K hFm hK
            simp [Aft, Region.binds] at haf
            have e4 : A.tmps[4]? = some (.slice (some ⟨bP, 0, none⟩) d.t.nn d.t.nn) := (hFm.old 4 (by decide)).trans (by kernel_rfl)
            have HC : Hid _ := hC
            clear hC
            refine ⟨?_⟩
            go_simp
            refine hK _ _ rfl ?_
            obtain ⟨c0, cB, c1, cS⟩ := HC.out
            refine ⟨fun h => c0 (by simpa using h), (fun h1 h2 => by have h9 := cB (by simpa using h1) (by simpa using h2); simpa [updO, Go.Proofs.Ytmnpefiaelpkfac.upd] using h9), (fun h1 h2 => by have h9 := c1 (by simpa using h1) (by simpa using h2); simpa [updO, Go.Proofs.Ytmnpefiaelpkfac.upd] using h9), fun h => ?_⟩
            have h9 := cS (by simpa using h)
            exact ⟨by simp [h9.1], h9.2⟩
          refine StepsE.run rfl ?_ ?_
          · intro L U wr hC hP hlk hcl haf A K hFm hK
            simp [Aft, Region.binds] at haf
            have e6 : A.tmps[6]? = some (.int .i64 (r : Nat)) := (hFm.old 6 (by decide)).trans (by kernel_rfl)
            have HC : Hid _ := hC
            clear hC
            refine ⟨?_⟩
            go_simp
            refine hK _ _ rfl ?_
            obtain ⟨c0, cB, c1, cS⟩ := HC.out
            refine ⟨fun h => c0 (by simpa using h), (fun h1 h2 => by have h9 := cB (by simpa using h1) (by simpa using h2); simpa [updO, Go.Proofs.Ytmnpefiaelpkfac.upd] using h9), (fun h1 h2 => by have h9 := c1 (by simpa using h1) (by simpa using h2); simpa [updO, Go.Proofs.Ytmnpefiaelpkfac.upd] using h9), fun h => ?_⟩
            have h9 := cS (by simpa using h)
            exact ⟨by simp [h9.1], h9.2⟩
          refine StepsE.run rfl ?_ ?_
          · intro L U wr hC hP hlk hcl haf A K hFm hK
            simp [Aft, Region.binds] at haf
            have g6 : U 50 = (.slice (some ⟨bP, 0, none⟩) d.t.nn d.t.nn) := hP 6 50 (by simp [haf]) rfl
            have e50 : A.tmps[50]? = some (.slice (some ⟨bP, 0, none⟩) d.t.nn d.t.nn) := hFm.is 6 50 rfl g6
            have g7 : U 51 = (.int .i64 (r : Nat)) := hP 7 51 (by simp [haf]) rfl
            have e51 : A.tmps[51]? = some (.int .i64 (r : Nat)) := hFm.is 7 51 rfl g7
            have HC : Hid _ := hC
            clear hC
            refine ⟨?_⟩
            go_simp
            refine hK _ _ rfl ?_
            obtain ⟨c0, cB, c1, cS⟩ := HC.out
            refine ⟨fun h => c0 (by simpa using h), (fun h1 h2 => by have h9 := cB (by simpa using h1) (by simpa using h2); simpa [updO, Go.Proofs.Ytmnpefiaelpkfac.upd] using h9), (fun h1 h2 => by have h9 := c1 (by simpa using h1) (by simpa using h2); simpa [updO, Go.Proofs.Ytmnpefiaelpkfac.upd] using h9), fun h => ?_⟩
            have h9 := cS (by simpa using h)
            exact ⟨by simp [h9.1], h9.2⟩
          refine StepsE.run rfl ?_ ?_
          · intro L U wr hC hP hlk hcl haf A K hFm hK
            simp [Aft, Region.binds] at haf
            have g8 : U 52 = (.pointer (some ⟨bP, r, none⟩)) := hP 8 52 (by simp [haf]) rfl
            have e52 : A.tmps[52]? = some (.pointer (some ⟨bP, r, none⟩)) := hFm.is 8 52 rfl g8
            have hM8 : M5 wr := by
              obtain ⟨c0, cB, c1, cS⟩ := hC
              have hs : L 16 = false := by cases h : L 16 with | false => rfl | true => exact absurd (cS h).1 (by simp [hlk])
              cases h14 : L 14 with
              | false => exact HM0.out wr (c0 h14)
              | true => exact HM1.out wr (U 58) (c1 h14 hs).2.1
            rw [hM5] at hM8
            obtain ⟨m7, m8, hl7, hl8⟩ := hM8
            have HC : Hid _ := hC
            clear hC
            refine ⟨?_⟩
            go_simp
            refine hK _ _ rfl ?_
            obtain ⟨c0, cB, c1, cS⟩ := HC.out
            refine ⟨fun h => c0 (by simpa using h), (fun h1 h2 => by have h9 := cB (by simpa using h1) (by simpa using h2); simpa [updO, Go.Proofs.Ytmnpefiaelpkfac.upd] using h9), (fun h1 h2 => by have h9 := c1 (by simpa using h1) (by simpa using h2); simpa [updO, Go.Proofs.Ytmnpefiaelpkfac.upd] using h9), fun h => ?_⟩
            have h9 := cS (by simpa using h)
            exact ⟨by simp [h9.1], h9.2⟩
          refine StepsE.run rfl ?_ ?_
          · intro L U wr hC hP hlk hcl haf A K hFm hK
            simp [Aft, Region.binds] at haf
            have g5 : U 49 = (.slice (some ⟨bO, 0, none⟩) m cO') := hP 5 49 (by simp [haf]) rfl
            have e49 : A.tmps[49]? = some (.slice (some ⟨bO, 0, none⟩) m cO') := hFm.is 5 49 rfl g5
            have g9 : U 53 = (.int .i64 (k : Nat)) := hP 9 53 (by simp [haf]) rfl
            have e53 : A.tmps[53]? = some (.int .i64 (k : Nat)) := hFm.is 9 53 rfl g9
            have HC : Hid _ := hC
            clear hC
            refine ⟨?_⟩
            go_simp
            refine hK _ _ rfl ?_
            obtain ⟨c0, cB, c1, cS⟩ := HC.out
            refine ⟨fun h => c0 (by simpa using h), (fun h1 h2 => by have h9 := cB (by simpa using h1) (by simpa using h2); simpa [updO, Go.Proofs.Ytmnpefiaelpkfac.upd] using h9), (fun h1 h2 => by have h9 := c1 (by simpa using h1) (by simpa using h2); simpa [updO, Go.Proofs.Ytmnpefiaelpkfac.upd] using h9), fun h => ?_⟩
            have h9 := cS (by simpa using h)
            exact ⟨by simp [h9.1], h9.2⟩
          refine StepsE.run rfl ?_ ?_
          · intro L U wr hC hP hlk hcl haf A K hFm hK
            simp [Aft, Region.binds] at haf
            have g10 : U 54 = (.pointer (some ⟨bO, k, none⟩)) := hP 10 54 (by simp [haf]) rfl
            have e54 : A.tmps[54]? = some (.pointer (some ⟨bO, k, none⟩)) := hFm.is 10 54 rfl g10
            have hM8 : M5 wr := by
              obtain ⟨c0, cB, c1, cS⟩ := hC
              have hs : L 16 = false := by cases h : L 16 with | false => rfl | true => exact absurd (cS h).1 (by simp [hlk])
              cases h14 : L 14 with
              | false => exact HM0.out wr (c0 h14)
              | true => exact HM1.out wr (U 58) (c1 h14 hs).2.1
            rw [hM5] at hM8
            obtain ⟨m7, m8, hl7, hl8⟩ := hM8
            have HC : Hid _ := hC
            clear hC
            refine ⟨?_⟩
            go_simp
            refine hK _ _ rfl ?_
            obtain ⟨c0, cB, c1, cS⟩ := HC.out
            refine ⟨fun h => c0 (by simpa using h), (fun h1 h2 => by have h9 := cB (by simpa using h1) (by simpa using h2); simpa [updO, Go.Proofs.Ytmnpefiaelpkfac.upd] using h9), (fun h1 h2 => by have h9 := c1 (by simpa using h1) (by simpa using h2); simpa [updO, Go.Proofs.Ytmnpefiaelpkfac.upd] using h9), fun h => ?_⟩
            have h9 := cS (by simpa using h)
            exact ⟨by simp [h9.1], h9.2⟩
          refine StepsE.run rfl ?_ ?_
          · intro L U wr hC hP hlk hcl haf A K hFm hK
            simp [Aft, Region.binds] at haf
            have e5 : A.tmps[5]? = some (.int .i64 (r : Nat)) := (hFm.old 5 (by decide)).trans (by kernel_rfl)
            have HC : Hid _ := hC
            clear hC
            refine ⟨?_⟩
            go_simp
            refine hK _ _ rfl ?_
            obtain ⟨c0, cB, c1, cS⟩ := HC.out
            refine ⟨fun h => c0 (by simpa using h), (fun h1 h2 => by have h9 := cB (by simpa using h1) (by simpa using h2); simpa [updO, Go.Proofs.Ytmnpefiaelpkfac.upd] using h9), (fun h1 h2 => by have h9 := c1 (by simpa using h1) (by simpa using h2); simpa [updO, Go.Proofs.Ytmnpefiaelpkfac.upd] using h9), fun h => ?_⟩
            have h9 := cS (by simpa using h)
            exact ⟨by simp [h9.1], h9.2⟩
          refine StepsE.run rfl ?_ ?_
          · intro L U wr hC hP hlk hcl haf A K hFm hK
            simp [Aft, Region.binds] at haf
            have g12 : U 56 = (.int .i64 (r : Nat)) := hP 12 56 (by simp [haf]) rfl
            have e56 : A.tmps[56]? = some (.int .i64 (r : Nat)) := hFm.is 12 56 rfl g12
            have hA9 : L 14 = false := by cases h : L 14 with | false => rfl | true => have h9 := hcl 14 _ rfl h; simp [Aft, Region.binds, hlk] at h9
            refine ⟨?_⟩
            go_simp
            refine hK _ _ trivial ⟨fun h => ?_, fun _ _ => ?_, fun h1 h2 => ?_, fun h => ?_⟩
            · exact ((hC.1 hA9).alloc (hC.1 hA9).size _)
            · exact ⟨wr.heap.size, rfl, heap_alloc_new wr _⟩
            · simp [hA9] at h1
            · have h9 := (hC.2.2.2 (by simpa using h)).1
              simp [hlk] at h9
          refine StepsE.run rfl ?_ ?_
          · intro L U wr hC hP hlk hcl haf A K hFm hK
            simp [Aft, Region.binds] at haf
            have g11 : U 55 = (vik) := hP 11 55 (by simp [haf]) rfl
            have e55 : A.tmps[55]? = some (vik) := hFm.is 11 55 rfl g11
            have e57 : A.tmps[57]? = some (U 57) := hFm.got 13 57 rfl
            have l13 : L 13 = true := by simp [haf]
            refine ⟨?_⟩
            refine wp_push1 (.tmp 55) (.tmp 57) 31 rfl 1 3 _ 8 uIntsE iIntE (by decide) rfl (by decide) (vik) (lk.length) (natC lk) (by simp [Act.eval, e55]) (HOWN.out wr (hC.1 hlk)) (fun _ _ => rfl) [.int .i64 (r : Nat)] 3 (U 57) (hC.2.1 l13 hlk) (by simp [Act.eval, e57]) rfl (by intro u hu; simp at hu; subst hu; rfl) HNB.out (natC (lk ++ [r])) (fun q hq => by simp [natC, List.getElem?_append_left hq]) (by simp [natC]) ?_
            intro v9 w9 hol9 hap9 hne9
            refine hK _ _ trivial ⟨fun h => ?_, fun _ h => ?_, fun _ _ => ?_, fun h => ?_⟩
            · simp at h
            · simp at h
            · simp only [updO, Go.Proofs.Ytmnpefiaelpkfac.upd, beq_self_eq_true, cond_true]; exact ⟨hol9, hap9.ofBelow (hC.1 hlk), hne9⟩
            · have h9 := (hC.2.2.2 (by simpa using h)).1
              simp [hlk] at h9
          refine StepsE.run rfl ?_ ?_
          · intro L U wr hC hP hlk hcl haf A K hFm hK
            simp [Aft, Region.binds] at haf
            have g0 : U 44 = (.slice (some ⟨bO, 0, none⟩) m cO') := hP 0 44 (by simp [haf]) rfl
            have e44 : A.tmps[44]? = some (.slice (some ⟨bO, 0, none⟩) m cO') := hFm.is 0 44 rfl g0
            have g4 : U 48 = (.int .i64 (k : Nat)) := hP 4 48 (by simp [haf]) rfl
            have e48 : A.tmps[48]? = some (.int .i64 (k : Nat)) := hFm.is 4 48 rfl g4
            have HC : Hid _ := hC
            clear hC
            refine ⟨?_⟩
            go_simp
            refine hK _ _ rfl ?_
            obtain ⟨c0, cB, c1, cS⟩ := HC.out
            refine ⟨fun h => c0 (by simpa using h), (fun h1 h2 => by have h9 := cB (by simpa using h1) (by simpa using h2); simpa [updO, Go.Proofs.Ytmnpefiaelpkfac.upd] using h9), (fun h1 h2 => by have h9 := c1 (by simpa using h1) (by simpa using h2); simpa [updO, Go.Proofs.Ytmnpefiaelpkfac.upd] using h9), fun h => ?_⟩
            have h9 := cS (by simpa using h)
            exact ⟨by simp [h9.1], h9.2⟩
          refine StepsE.run rfl ?_ StepsE.nil
          · intro L U wr hC hP hlk hcl haf A K hFm hK
            simp [Aft, Region.binds] at haf
            have g15 : U 59 = (.pointer (some ⟨bO, k, none⟩)) := hP 15 59 (by simp [haf]) rfl
            have e59 : A.tmps[59]? = some (.pointer (some ⟨bO, k, none⟩)) := hFm.is 15 59 rfl g15
            have e58 : A.tmps[58]? = some (U 58) := hFm.got 14 58 rfl
            have l15 : L 15 = true := by simp [haf]
            have l14 : L 14 = true := by simp [haf]
            have a15 := hcl 15 _ rfl l15
            simp [Aft, Region.binds] at a15
            have l0 : L 0 = true := by simp [a15]
            have l4 : L 4 = true := by simp [a15]
            have a14 := hcl 14 _ rfl l14
            simp [Aft, Region.binds] at a14
            have l11 : L 11 = true := by simp [a14]
            have l13 : L 13 = true := by simp [a14]
            have a4 := hcl 4 _ rfl l4
            simp [Aft, Region.binds] at a4
            have l3 : L 3 = true := by simp [a4]
            have a11 := hcl 11 _ rfl l11
            simp [Aft, Region.binds] at a11
            have l10 : L 10 = true := by simp [a11]
            have a13 := hcl 13 _ rfl l13
            simp [Aft, Region.binds] at a13
            have l12 : L 12 = true := by simp [a13]
            have a3 := hcl 3 _ rfl l3
            simp [Aft, Region.binds] at a3
            have l1 : L 1 = true := by simp [a3]
            have l2 : L 2 = true := by simp [a3]
            have a10 := hcl 10 _ rfl l10
            simp [Aft, Region.binds] at a10
            have l5 : L 5 = true := by simp [a10]
            have l9 : L 9 = true := by simp [a10]
            have a9 := hcl 9 _ rfl l9
            simp [Aft, Region.binds] at a9
            have l8 : L 8 = true := by simp [a9]
            have a8 := hcl 8 _ rfl l8
            simp [Aft, Region.binds] at a8
            have l6 : L 6 = true := by simp [a8]
            have l7 : L 7 = true := by simp [a8]
            refine ⟨?_⟩
            obtain ⟨hol9, hap9, hne9⟩ := hC.2.2.1 l14 hlk
            have HKK : Hid _ := HSET.out wr (U 58) hol9 hap9 hne9
            obtain ⟨k4, k5⟩ := HFZ.out wr (U 58) hap9
            obtain ⟨ao9, cc9, hv9, -, -, -, -⟩ := hol9.shape
            obtain ⟨nl, hnl⟩ : ∃ nl, nl = lk.length + 1 := ⟨_, rfl⟩
            rw [← hnl] at hv9
            clear hnl
            have e58 : A.tmps[58]? = some (.slice ao9 nl cc9) := hFm.is 14 58 rfl hv9
            rw [hv9] at HKK
            clear hol9 hap9 hne9 hC
            go_simp
            refine hK (.tuple #[]) _ trivial ⟨fun h => ?_, fun h1 h2 => ?_, fun h1 h2 => ?_, fun _ => ⟨?_, HKK.out⟩⟩
            · simp [l14] at h
            · simp [l14] at h2
            · simp at h2
            · simp [l0, l1, l2, l3, l4, l5, l6, l7, l8, l9, l10, l11, l12, l13, l14, l15]
        intro L U9 V9 hall hC hP
        have hE := (hC.2.2.2 (hall 16 (by decide))).2
        rw [hE5] at hE
        clear hC hP hall hE5 hM5 HM0 HM1 HFZ HOWN HSET HNB
        obtain ⟨v9, hE9⟩ := hE
        have HN : Hid (KS w3 V9 bP d.t.nn c (r + 1) (.slice (some ⟨bO, 0, none⟩) m cO') (upd vi2 k v9) pl2) := by
          obtain ⟨k1, k2, k3, k4, k5, k6⟩ := HKM.out
          refine { ll := ?_, pls := hE9.pls, at_ := k4, bl := by rw [← k2]; exact hE9.bl, bp := hE9.bp, bel := hE9.bel }
          rw [← k2]
          refine hE9.ll.congr (fun j hj => ?_)
          rw [k3 j hj]
          by_cases e : j = k
          · rw [if_pos e, e, upd_same, HLK.out.1]
          · rw [if_neg e, upd_other _ _ e]
        clear hE9 HKM HLK
        simp only [setM_some, setM_none, setM_nil]
        go_wp2
        go_roundw
        case rel => exact ⟨r + 1, _, _, by go_num, by omega, HN.out⟩
        case measure => simp [intOf] <;> omega
      · have hrI : ¬ ((r : Int) = (n : Int)) := by omega
        have hrB : ((r : Int) == (n : Int)) = false := by simp; omega
        have hrl : r < n := by omega
        have HRN : Hid (c n ≠ n ∧ c (c n) = c n ∧ c n < n ∧ r = c n) := ⟨by rw [← HR.out]; exact hrr, HLC.out.2 n hlt, by rw [← HR.out]; exact hrl, HR.out⟩
        have HCR : Hid (c r = r) := by show _ = _; rw [HR.out]; exact HLC.out.2 n hlt
        obtain ⟨k, hkk⟩ : ∃ k, k = (rpsL c r).length := ⟨_, rfl⟩
        obtain ⟨m, hmm⟩ : ∃ m, m = (rpsL c n).length := ⟨_, rfl⟩
        have hk : k < m := by rw [hkk, hmm]; exact (rpsL_at HCR.out hrl).1
        have hm61 : m ≤ 61 := by rw [hmm]; have := rpsL_len c n; omega
        have h7 := HS7.out
        rw [← hmm] at h7
        obtain ⟨bO, cO', hv9, -, -⟩ := h7.ll.out.open 0 (by omega)
        injection hv9 with hv9 e2 e3
        clear e2
        subst hv9 e3
        obtain ⟨li, hli⟩ : ∃ li, li = clsL c n := ⟨_, rfl⟩
        obtain ⟨vi2, hvi2⟩ : ∃ vi2, vi2 = vi := ⟨_, rfl⟩
        obtain ⟨pl2, hpl2⟩ : ∃ pl2, pl2 = pl := ⟨_, rfl⟩
        obtain ⟨wq, hwq⟩ : ∃ wq, wq = V7 := ⟨_, rfl⟩
        have HKM : Hid (KM w3 wq bP d.t.nn m (.slice (some ⟨bO, 0, none⟩) m cO) vi2 li pl2 ∧ m = (rpsL c (n + 1)).length ∧ (∀ j, j < m → clsL c (n + 1) j = if j = k then li k ++ [n] else li j) ∧ (∀ q, q < n + 1 → c q = q → pl2 q = (rpsL c q).length) ∧ pl2 r = k ∧ (li k).length ≤ 60) := by
          have hlen : (rpsL c (n + 1)).length = m := by rw [rpsL_no HRN.out.1, hmm]
          refine ⟨by rw [hwq, hvi2, hli, hpl2]; exact ⟨by have := h7.ll; rwa [← hmm] at this, h7.pls, by have := h7.bl; rwa [← hmm] at this, h7.bp, h7.bel⟩, hlen.symm, fun j hj => ?_, fun q hq hcq => ?_, by rw [hpl2, hkk]; exact h7.at_ r hrl HCR.out, by rw [hli]; have := memb_len c n ((rpsL c n).getD k 0); unfold clsL; omega⟩
          · rw [clsL_old HRN.out.1 HRN.out.2.1 HRN.out.2.2.1 j (by omega), hli, hkk, HRN.out.2.2.2]
            by_cases e : j = (rpsL c (c n)).length
            · rw [if_pos e, if_pos e, e]
            · rw [if_neg e, if_neg e]
          · rw [hpl2]
            have e : q ≠ n := fun e => HRN.out.1 (by rw [← e]; exact hcq)
            exact h7.at_ q (by omega) hcq
        rw [← hmm, ← hwq]
        clear h7 HS7 hkk hli hvi2 hpl2 hwq hmm HCR HR HRN
        go_wp2
        obtain ⟨lk, hlk⟩ : ∃ lk, lk = li k := ⟨_, rfl⟩
        obtain ⟨vik, hvik⟩ : ∃ vik, vik = vi2 k := ⟨_, rfl⟩
        have HLK : Hid (lk = li k ∧ vik = vi2 k) := ⟨hlk, hvik⟩
        have hlk60 : lk.length ≤ 60 := by rw [hlk]; exact HKM.out.2.2.2.2.2
        have hol0 := HKM.out.1.ll.inn k hk
        rw [← hlk, ← hvik] at hol0
        have q0 := HKM.out.1.ll.out.cell (i := k) hk (j := 0) (by omega)
        have q1 := HKM.out.1.pls.cell (i := r) (by omega) (j := 0) (by omega)
        simp only [Nat.add_zero, Nat.mul_one, List.getElem?_cons_zero] at q0 q1
        rw [← hvik] at q0
        rw [HKM.out.2.2.2.2.1] at q1
        have hlO : bO < wq.heap.size := HKM.out.1.ll.out.lt rfl
        have hlP : bP < wq.heap.size := HKM.out.1.pls.lt rfl
        have hvO : vik.ownBlock ≠ some bO := fun e => hol0.ne HKM.out.1.ll.out (by decide) e rfl
        have hvP : vik.ownBlock ≠ some bP := fun e => (HKM.out.1.bl bP (Or.inr ⟨k, hk, by rw [← hvik]; exact e⟩)).2 rfl
        have hxO : wq.heap[bO]? = wq.heap[bO]? := rfl
        obtain ⟨curO, hcurO⟩ := HKM.out.1.ll.out.elem (b := bO) rfl
        have hkI : (k : Int) < (m : Int) := by omega
        have hrnn : (r : Int) < (d.t.nn : Int) := by omega
        obtain ⟨E5, hE5⟩ : ∃ E5 : World → Prop, E5 = fun wr => ∃ v', KM w3 wr bP d.t.nn m (.slice (some ⟨bO, 0, none⟩) m cO) (upd vi2 k v') (upd li k (lk ++ [n])) pl2 := ⟨_, rfl⟩
        obtain ⟨M5, hM5⟩ : ∃ M5 : World → Prop, M5 = fun wr => wr.cell? ⟨bP, r, none⟩ = some (.int .i64 (k : Nat)) ∧ wr.cell? ⟨bO, k, none⟩ = some vik ∧ bP < wr.heap.size ∧ bO < wr.heap.size := ⟨_, rfl⟩
        have HM0 : Hid (∀ wr, Below wq.heap.size wq wr → M5 wr) := by
          intro wr h1; rw [hM5]
          have := h1.size
          exact ⟨(h1.cell (p := ⟨bP, r, none⟩) hlP).trans q1, (h1.cell (p := ⟨bO, k, none⟩) hlO).trans q0, by omega, by omega⟩
        have HM1 : Hid (∀ wr v9, App vik v9 wq wr → M5 wr) := by
          intro wr v9 h1; rw [hM5]
          have := h1.size
          exact ⟨(World.cell?_of_block (a := ⟨bP, r, none⟩) (h1.other _ hlP hvP)).trans q1, (World.cell?_of_block (a := ⟨bO, k, none⟩) (h1.other _ hlO hvO)).trans q0, by omega, by omega⟩
        have HFZ : Hid (∀ wr v9, App vik v9 wq wr → wr.cell? ⟨bO, k, none⟩ = some vik ∧ wr.frozen? ⟨bO, k, none⟩ = false) := by
          intro wr v9 h1
          have h2 := HM1.out wr v9 h1
          rw [hM5] at h2
          exact ⟨h2.2.1, frozen_of_row wr bO k _ 31 ((h1.other bO hlO hvO).trans hcurO)⟩
        have HOWN : Hid (∀ wr, Below wq.heap.size wq wr → OL 1 3 wr vik lk.length (natC lk)) := fun wr h1 => hol0.stay (fun b hb => h1.block b (hol0.lt hb))
        have HNB : Hid (lk.length + 1 ≤ 1000000000) := by show _ ≤ _; omega
        have HSET : Hid (∀ wr v9, OL 1 3 wr v9 (lk.length + 1) (natC (lk ++ [n])) → App vik v9 wq wr → v9 ≠ .slice none 0 0 → E5 (wr.setCell ⟨bO, k, none⟩ v9)) := by
          intro wr v9 h1 h2 h3
          rw [hE5]
          rw [hvik] at h2
          exact ⟨v9, HKM.out.1.grow hk h2 (by rw [List.length_append]; exact h1)⟩
        clear q0 q1 hol0 hvO hvP hlO hlP hxO hcurO hlk hvik
        skip
        refine wp_region_E (by kernel_rfl) [some 44, some 45, some 46, some 47, some 48, some 49, some 50, some 51, some 52, some 53, some 54, some 55, some 56, some 57, some 58, some 59, none] [none, none, none, none, none, none, none, none, none, none, none, none, none, none, none, none, none, none, none, none, none, none, none, none, none, none, none, none, none, none, none, none, none, none, none, none, none, none, none, none, none, none, none, none, some 44, some 45, some 46, some 47, some 48, some 49, some 50, some 51, some 52, some 53, some 54, some 55, some 56, some 57, some 58, some 59] (fun U => by kernel_rfl) [fun u => u = (.slice (some ⟨bO, 0, none⟩) m cO), fun u => u = (.slice (some ⟨bP, 0, none⟩) d.t.nn d.t.nn), fun u => u = (.int .i64 (r : Nat)), fun u => u = (.pointer (some ⟨bP, r, none⟩)), fun u => u = (.int .i64 (k : Nat)), fun u => u = (.slice (some ⟨bO, 0, none⟩) m cO), fun u => u = (.slice (some ⟨bP, 0, none⟩) d.t.nn d.t.nn), fun u => u = (.int .i64 (r : Nat)), fun u => u = (.pointer (some ⟨bP, r, none⟩)), fun u => u = (.int .i64 (k : Nat)), fun u => u = (.pointer (some ⟨bO, k, none⟩)), fun u => u = (vik), fun u => u = (.int .i64 (n : Nat)), fun _ => True, fun _ => True, fun u => u = (.pointer (some ⟨bO, k, none⟩)), fun _ => True] (fun L U wr => (L 14 = false → Below wq.heap.size wq wr) ∧ (L 13 = true → L 14 = false → ONE5 3 [.int .i64 (n : Nat)] (U 57) wr) ∧ (L 14 = true → L 16 = false → OL 1 3 wr (U 58) (lk.length + 1) (natC (lk ++ [n])) ∧ App (vik) (U 58) wq wr ∧ U 58 ≠ .slice none 0 0) ∧ (L 16 = true → (L 0 = true ∧ L 1 = true ∧ L 2 = true ∧ L 3 = true ∧ L 4 = true ∧ L 5 = true ∧ L 6 = true ∧ L 7 = true ∧ L 8 = true ∧ L 9 = true ∧ L 10 = true ∧ L 11 = true ∧ L 12 = true ∧ L 13 = true ∧ L 14 = true ∧ L 15 = true) ∧ E5 wr)) (by kernel_rfl) (by decide) (by kernel_rfl) (by kernel_rfl) ?_ ?_ ?_
        · exact fun U => ⟨fun _ => (Below.refl _ _).drew, (fun h => by cases h), (fun h => by cases h), (fun h => by cases h)⟩
        · refine StepsE.run rfl ?_ ?_
          · intro L U wr hC hP hlk hcl haf A K hFm hK
            simp [Aft, Region.binds] at haf
            have e3 : A.tmps[3]? = some (.slice (some ⟨bO, 0, none⟩) m cO) := (hFm.old 3 (by decide)).trans (by kernel_rfl)
            have HC : Hid _ := hC
            clear hC
            refine ⟨?_⟩
            go_simp
            refine hK _ _ rfl ?_
            obtain ⟨c0, cB, c1, cS⟩ := HC.out
            refine ⟨fun h => c0 (by simpa using h), (fun h1 h2 => by have h9 := cB (by simpa using h1) (by simpa using h2); simpa [updO, Go.Proofs.Ytmnpefiaelpkfac.upd] using h9), (fun h1 h2 => by have h9 := c1 (by simpa using h1) (by simpa using h2); simpa [updO, Go.Proofs.Ytmnpefiaelpkfac.upd] using h9), fun h => ?_⟩
            have h9 := cS (by simpa using h)
            exact ⟨by simp [h9.1], h9.2⟩
          refine StepsE.run rfl ?_ ?_
          · intro L U wr hC hP hlk hcl haf A K hFm hK
            simp [Aft, Region.binds] at haf
            have e4 : A.tmps[4]? = some (.slice (some ⟨bP, 0, none⟩) d.t.nn d.t.nn) := (hFm.old 4 (by decide)).trans (by kernel_rfl)
            have HC : Hid _ := hC
            clear hC
            refine ⟨?_⟩
            go_simp
            refine hK _ _ rfl ?_
            obtain ⟨c0, cB, c1, cS⟩ := HC.out
            refine ⟨fun h => c0 (by simpa using h), (fun h1 h2 => by have h9 := cB (by simpa using h1) (by simpa using h2); simpa [updO, Go.Proofs.Ytmnpefiaelpkfac.upd] using h9), (fun h1 h2 => by have h9 := c1 (by simpa using h1) (by simpa using h2); simpa [updO, Go.Proofs.Ytmnpefiaelpkfac.upd] using h9), fun h => ?_⟩
            have h9 := cS (by simpa using h)
            exact ⟨by simp [h9.1], h9.2⟩
          refine StepsE.run rfl ?_ ?_
          · intro L U wr hC hP hlk hcl haf A K hFm hK
            simp [Aft, Region.binds] at haf
            have e6 : A.tmps[6]? = some (.int .i64 (r : Nat)) := (hFm.old 6 (by decide)).trans (by kernel_rfl)
            have HC : Hid _ := hC
            clear hC
            refine ⟨?_⟩
            go_simp
            refine hK _ _ rfl ?_
            obtain ⟨c0, cB, c1, cS⟩ := HC.out
            refine ⟨fun h => c0 (by simpa using h), (fun h1 h2 => by have h9 := cB (by simpa using h1) (by simpa using h2); simpa [updO, Go.Proofs.Ytmnpefiaelpkfac.upd] using h9), (fun h1 h2 => by have h9 := c1 (by simpa using h1) (by simpa using h2); simpa [updO, Go.Proofs.Ytmnpefiaelpkfac.upd] using h9), fun h => ?_⟩
            have h9 := cS (by simpa using h)
            exact ⟨by simp [h9.1], h9.2⟩
          refine StepsE.run rfl ?_ ?_
          · intro L U wr hC hP hlk hcl haf A K hFm hK
            simp [Aft, Region.binds] at haf
            have g1 : U 45 = (.slice (some ⟨bP, 0, none⟩) d.t.nn d.t.nn) := hP 1 45 (by simp [haf]) rfl
            have e45 : A.tmps[45]? = some (.slice (some ⟨bP, 0, none⟩) d.t.nn d.t.nn) := hFm.is 1 45 rfl g1
            have g2 : U 46 = (.int .i64 (r : Nat)) := hP 2 46 (by simp [haf]) rfl
            have e46 : A.tmps[46]? = some (.int .i64 (r : Nat)) := hFm.is 2 46 rfl g2
            have HC : Hid _ := hC
            clear hC
            refine ⟨?_⟩
            go_simp
            refine hK _ _ rfl ?_
            obtain ⟨c0, cB, c1, cS⟩ := HC.out
            refine ⟨fun h => c0 (by simpa using h), (fun h1 h2 => by have h9 := cB (by simpa using h1) (by simpa using h2); simpa [updO, Go.Proofs.Ytmnpefiaelpkfac.upd] using h9), (fun h1 h2 => by have h9 := c1 (by simpa using h1) (by simpa using h2); simpa [updO, Go.Proofs.Ytmnpefiaelpkfac.upd] using h9), fun h => ?_⟩
            have h9 := cS (by simpa using h)
            exact ⟨by simp [h9.1], h9.2⟩
          refine StepsE.run rfl ?_ ?_
          · intro L U wr hC hP hlk hcl haf A K hFm hK
            simp [Aft, Region.binds] at haf
            have g3 : U 47 = (.pointer (some ⟨bP, r, none⟩)) := hP 3 47 (by simp [haf]) rfl
            have e47 : A.tmps[47]? = some (.pointer (some ⟨bP, r, none⟩)) := hFm.is 3 47 rfl g3
            have hM8 : M5 wr := by
              obtain ⟨c0, cB, c1, cS⟩ := hC
              have hs : L 16 = false := by cases h : L 16 with | false => rfl | true => exact absurd (cS h).1 (by simp [hlk])
              cases h14 : L 14 with
              | false => exact HM0.out wr (c0 h14)
              | true => exact HM1.out wr (U 58) (c1 h14 hs).2.1
            rw [hM5] at hM8
            obtain ⟨m7, m8, hl7, hl8⟩ := hM8
            have HC : Hid _ := hC
            clear hC
            refine ⟨?_⟩
            go_simp
            refine hK _ _ rfl ?_
            obtain ⟨c0, cB, c1, cS⟩ := HC.out
            refine ⟨fun h => c0 (by simpa using h), (fun h1 h2 => by have h9 := cB (by simpa using h1) (by simpa using h2); simpa [updO, Go.Proofs.Ytmnpefiaelpkfac.upd] using h9), (fun h1 h2 => by have h9 := c1 (by simpa using h1) (by simpa using h2); simpa [updO, Go.Proofs.Ytmnpefiaelpkfac.upd] using h9), fun h => ?_⟩
            have h9 := cS (by simpa using h)
            exact ⟨by simp [h9.1], h9.2⟩
          refine StepsE.run rfl ?_ ?_
          · intro L U wr hC hP hlk hcl haf A K hFm hK
            simp [Aft, Region.binds] at haf
            have e3 : A.tmps[3]? = some (.slice (some ⟨bO, 0, none⟩) m cO) := (hFm.old 3 (by decide)).trans (by kernel_rfl)
            have HC : Hid _ := hC
            clear hC
            refine ⟨?_⟩
            go_simp
            refine hK _ _ rfl ?_
            obtain ⟨c0, cB, c1, cS⟩ := HC.out
            refine ⟨fun h => c0 (by simpa using h), (fun h1 h2 => by have h9 := cB (by simpa using h1) (by simpa using h2); simpa [updO, Go.Proofs.Ytmnpefiaelpkfac.upd] using h9), (fun h1 h2 => by have h9 := c1 (by simpa using h1) (by simpa using h2); simpa [updO, Go.Proofs.Ytmnpefiaelpkfac.upd] using h9), fun h => ?_⟩
            have h9 := cS (by simpa using h)
            exact ⟨by simp [h9.1], h9.2⟩
          refine StepsE.run rfl ?_ ?_
          · intro L U wr hC hP hlk hcl haf A K hFm hK
            simp [Aft, Region.binds] at haf
            have e4 : A.tmps[4]? = some (.slice (some ⟨bP, 0, none⟩) d.t.nn d.t.nn) := (hFm.old 4 (by decide)).trans (by kernel_rfl)
            have HC : Hid _ := hC
            clear hC
            refine ⟨?_⟩
            go_simp
            refine hK _ _ rfl ?_
            obtain ⟨c0, cB, c1, cS⟩ := HC.out
            refine ⟨fun h => c0 (by simpa using h), (fun h1 h2 => by have h9 := cB (by simpa using h1) (by simpa using h2); simpa [updO, Go.Proofs.Ytmnpefiaelpkfac.upd] using h9), (fun h1 h2 => by have h9 := c1 (by simpa using h1) (by simpa using h2); simpa [updO, Go.Proofs.Ytmnpefiaelpkfac.upd] using h9), fun h => ?_⟩
            have h9 := cS (by simpa using h)
            exact ⟨by simp [h9.1], h9.2⟩
          refine StepsE.run rfl ?_ ?_
          · intro L U wr hC hP hlk hcl haf A K hFm hK
            simp [Aft, Region.binds] at haf
            have e6 : A.tmps[6]? = some (.int .i64 (r : Nat)) := (hFm.old 6 (by decide)).trans (by kernel_rfl)
            have HC : Hid _ := hC
            clear hC
            refine ⟨?_⟩
            go_simp
            refine hK _ _ rfl ?_
            obtain ⟨c0, cB, c1, cS⟩ := HC.out
            refine ⟨fun h => c0 (by simpa using h), (fun h1 h2 => by have h9 := cB (by simpa using h1) (by simpa using h2); simpa [updO, Go.Proofs.Ytmnpefiaelpkfac.upd] using h9), (fun h1 h2 => by have h9 := c1 (by simpa using h1) (by simpa using h2); simpa [updO, Go.Proofs.Ytmnpefiaelpkfac.upd] using h9), fun h => ?_⟩
            have h9 := cS (by simpa using h)
            exact ⟨by simp [h9.1], h9.2⟩
          refine StepsE.run rfl ?_ ?_
          · intro L U wr hC hP hlk hcl haf A K hFm hK
            simp [Aft, Region.binds] at haf
            have g6 : U 50 = (.slice (some ⟨bP, 0, none⟩) d.t.nn d.t.nn) := hP 6 50 (by simp [haf]) rfl
            have e50 : A.tmps[50]? = some (.slice (some ⟨bP, 0, none⟩) d.t.nn d.t.nn) := hFm.is 6 50 rfl g6
            have g7 : U 51 = (.int .i64 (r : Nat)) := hP 7 51 (by simp [haf]) rfl
            have e51 : A.tmps[51]? = some (.int .i64 (r : Nat)) := hFm.is 7 51 rfl g7
            have HC : Hid _ := hC
            clear hC
            refine ⟨?_⟩
            go_simp
            refine hK _ _ rfl ?_
            obtain ⟨c0, cB, c1, cS⟩ := HC.out
            refine ⟨fun h => c0 (by simpa using h), (fun h1 h2 => by have h9 := cB (by simpa using h1) (by simpa using h2); simpa [updO, Go.Proofs.Ytmnpefiaelpkfac.upd] using h9), (fun h1 h2 => by have h9 := c1 (by simpa using h1) (by simpa using h2); simpa [updO, Go.Proofs.Ytmnpefiaelpkfac.upd] using h9), fun h => ?_⟩
            have h9 := cS (by simpa using h)
            exact ⟨by simp [h9.1], h9.2⟩
          refine StepsE.run rfl ?_ ?_
          · intro L U wr hC hP hlk hcl haf A K hFm hK
            simp [Aft, Region.binds] at haf
            have g8 : U 52 = (.pointer (some ⟨bP, r, none⟩)) := hP 8 52 (by simp [haf]) rfl
            have e52 : A.tmps[52]? = some (.pointer (some ⟨bP, r, none⟩)) := hFm.is 8 52 rfl g8
            have hM8 : M5 wr := by
              obtain ⟨c0, cB, c1, cS⟩ := hC
              have hs : L 16 = false := by cases h : L 16 with | false => rfl | true => exact absurd (cS h).1 (by simp [hlk])
              cases h14 : L 14 with
              | false => exact HM0.out wr (c0 h14)
              | true => exact HM1.out wr (U 58) (c1 h14 hs).2.1
            rw [hM5] at hM8
            obtain ⟨m7, m8, hl7, hl8⟩ := hM8
            have HC : Hid _ := hC
            clear hC
            refine ⟨?_⟩
            go_simp
            refine hK _ _ rfl ?_
            obtain ⟨c0, cB, c1, cS⟩ := HC.out
            refine ⟨fun h => c0 (by simpa using h), (fun h1 h2 => by have h9 := cB (by simpa using h1) (by simpa using h2); simpa [updO, Go.Proofs.Ytmnpefiaelpkfac.upd] using h9), (fun h1 h2 => by have h9 := c1 (by simpa using h1) (by simpa using h2); simpa [updO, Go.Proofs.Ytmnpefiaelpkfac.upd] using h9), fun h => ?_⟩
            have h9 := cS (by simpa using h)
            exact ⟨by simp [h9.1], h9.2⟩
          refine StepsE.run rfl ?_ ?_
          · intro L U wr hC hP hlk hcl haf A K hFm hK
            simp [Aft, Region.binds] at haf
            have g5 : U 49 = (.slice (some ⟨bO, 0, none⟩) m cO) := hP 5 49 (by simp [haf]) rfl
            have e49 : A.tmps[49]? = some (.slice (some ⟨bO, 0, none⟩) m cO) := hFm.is 5 49 rfl g5
            have g9 : U 53 = (.int .i64 (k : Nat)) := hP 9 53 (by simp [haf]) rfl
            have e53 : A.tmps[53]? = some (.int .i64 (k : Nat)) := hFm.is 9 53 rfl g9
            have HC : Hid _ := hC
            clear hC
            refine ⟨?_⟩
            go_simp
            refine hK _ _ rfl ?_
            obtain ⟨c0, cB, c1, cS⟩ := HC.out
            refine ⟨fun h => c0 (by simpa using h), (fun h1 h2 => by have h9 := cB (by simpa using h1) (by simpa using h2); simpa [updO, Go.Proofs.Ytmnpefiaelpkfac.upd] using h9), (fun h1 h2 => by have h9 := c1 (by simpa using h1) (by simpa using h2); simpa [updO, Go.Proofs.Ytmnpefiaelpkfac.upd] using h9), fun h => ?_⟩
            have h9 := cS (by simpa using h)
            exact ⟨by simp [h9.1], h9.2⟩
          refine StepsE.run rfl ?_ ?_
          · intro L U wr hC hP hlk hcl haf A K hFm hK
            simp [Aft, Region.binds] at haf
            have g10 : U 54 = (.pointer (some ⟨bO, k, none⟩)) := hP 10 54 (by simp [haf]) rfl
            have e54 : A.tmps[54]? = some (.pointer (some ⟨bO, k, none⟩)) := hFm.is 10 54 rfl g10
            have hM8 : M5 wr := by
              obtain ⟨c0, cB, c1, cS⟩ := hC
              have hs : L 16 = false := by cases h : L 16 with | false => rfl | true => exact absurd (cS h).1 (by simp [hlk])
              cases h14 : L 14 with
              | false => exact HM0.out wr (c0 h14)
              | true => exact HM1.out wr (U 58) (c1 h14 hs).2.1
            rw [hM5] at hM8
            obtain ⟨m7, m8, hl7, hl8⟩ := hM8
            have HC : Hid _ := hC
            clear hC
            refine ⟨?_⟩
            go_simp
            refine hK _ _ rfl ?_
            obtain ⟨c0, cB, c1, cS⟩ := HC.out
            refine ⟨fun h => c0 (by simpa using h), (fun h1 h2 => by have h9 := cB (by simpa using h1) (by simpa using h2); simpa [updO, Go.Proofs.Ytmnpefiaelpkfac.upd] using h9), (fun h1 h2 => by have h9 := c1 (by simpa using h1) (by simpa using h2); simpa [updO, Go.Proofs.Ytmnpefiaelpkfac.upd] using h9), fun h => ?_⟩
            have h9 := cS (by simpa using h)
            exact ⟨by simp [h9.1], h9.2⟩
          refine StepsE.run rfl ?_ ?_
          · intro L U wr hC hP hlk hcl haf A K hFm hK
            simp [Aft, Region.binds] at haf
            have e5 : A.tmps[5]? = some (.int .i64 (n : Nat)) := (hFm.old 5 (by decide)).trans (by kernel_rfl)
            have HC : Hid _ := hC
            clear hC
            refine ⟨?_⟩
            go_simp
            refine hK _ _ rfl ?_
            obtain ⟨c0, cB, c1, cS⟩ := HC.out
            refine ⟨fun h => c0 (by simpa using h), (fun h1 h2 => by have h9 := cB (by simpa using h1) (by simpa using h2); simpa [updO, Go.Proofs.Ytmnpefiaelpkfac.upd] using h9), (fun h1 h2 => by have h9 := c1 (by simpa using h1) (by simpa using h2); simpa [updO, Go.Proofs.Ytmnpefiaelpkfac.upd] using h9), fun h => ?_⟩
            have h9 := cS (by simpa using h)
            exact ⟨by simp [h9.1], h9.2⟩
          refine StepsE.run rfl ?_ ?_
          · intro L U wr hC hP hlk hcl haf A K hFm hK
            simp [Aft, Region.binds] at haf
            have g12 : U 56 = (.int .i64 (n : Nat)) := hP 12 56 (by simp [haf]) rfl
            have e56 : A.tmps[56]? = some (.int .i64 (n : Nat)) := hFm.is 12 56 rfl g12
            have hA9 : L 14 = false := by cases h : L 14 with | false => rfl | true => have h9 := hcl 14 _ rfl h; simp [Aft, Region.binds, hlk] at h9
            refine ⟨?_⟩
            go_simp
            refine hK _ _ trivial ⟨fun h => ?_, fun _ _ => ?_, fun h1 h2 => ?_, fun h => ?_⟩
            · exact ((hC.1 hA9).alloc (hC.1 hA9).size _)
            · exact ⟨wr.heap.size, rfl, heap_alloc_new wr _⟩
            · simp [hA9] at h1
            · have h9 := (hC.2.2.2 (by simpa using h)).1
              simp [hlk] at h9
          refine StepsE.run rfl ?_ ?_
          · intro L U wr hC hP hlk hcl haf A K hFm hK
            simp [Aft, Region.binds] at haf
            have g11 : U 55 = (vik) := hP 11 55 (by simp [haf]) rfl
            have e55 : A.tmps[55]? = some (vik) := hFm.is 11 55 rfl g11
            have e57 : A.tmps[57]? = some (U 57) := hFm.got 13 57 rfl
            have l13 : L 13 = true := by simp [haf]
            refine ⟨?_⟩
            refine wp_push1 (.tmp 55) (.tmp 57) 31 rfl 1 3 _ 8 uIntsE iIntE (by decide) rfl (by decide) (vik) (lk.length) (natC lk) (by simp [Act.eval, e55]) (HOWN.out wr (hC.1 hlk)) (fun _ _ => rfl) [.int .i64 (n : Nat)] 3 (U 57) (hC.2.1 l13 hlk) (by simp [Act.eval, e57]) rfl (by intro u hu; simp at hu; subst hu; rfl) HNB.out (natC (lk ++ [n])) (fun q hq => by simp [natC, List.getElem?_append_left hq]) (by simp [natC]) ?_
            intro v9 w9 hol9 hap9 hne9
            refine hK _ _ trivial ⟨fun h => ?_, fun _ h => ?_, fun _ _ => ?_, fun h => ?_⟩
            · simp at h
            · simp at h
            · simp only [updO, Go.Proofs.Ytmnpefiaelpkfac.upd, beq_self_eq_true, cond_true]; exact ⟨hol9, hap9.ofBelow (hC.1 hlk), hne9⟩
            · have h9 := (hC.2.2.2 (by simpa using h)).1
              simp [hlk] at h9
          refine StepsE.run rfl ?_ ?_
          · intro L U wr hC hP hlk hcl haf A K hFm hK
            simp [Aft, Region.binds] at haf
            have g0 : U 44 = (.slice (some ⟨bO, 0, none⟩) m cO) := hP 0 44 (by simp [haf]) rfl
            have e44 : A.tmps[44]? = some (.slice (some ⟨bO, 0, none⟩) m cO) := hFm.is 0 44 rfl g0
            have g4 : U 48 = (.int .i64 (k : Nat)) := hP 4 48 (by simp [haf]) rfl
            have e48 : A.tmps[48]? = some (.int .i64 (k : Nat)) := hFm.is 4 48 rfl g4
            have HC : Hid _ := hC
            clear hC
            refine ⟨?_⟩
            go_simp
            refine hK _ _ rfl ?_
            obtain ⟨c0, cB, c1, cS⟩ := HC.out
            refine ⟨fun h => c0 (by simpa using h), (fun h1 h2 => by have h9 := cB (by simpa using h1) (by simpa using h2); simpa [updO, Go.Proofs.Ytmnpefiaelpkfac.upd] using h9), (fun h1 h2 => by have h9 := c1 (by simpa using h1) (by simpa using h2); simpa [updO, Go.Proofs.Ytmnpefiaelpkfac.upd] using h9), fun h => ?_⟩
            have h9 := cS (by simpa using h)
            exact ⟨by simp [h9.1], h9.2⟩
          refine StepsE.run rfl ?_ StepsE.nil
          · intro L U wr hC hP hlk hcl haf A K hFm hK
            simp [Aft, Region.binds] at haf
            have g15 : U 59 = (.pointer (some ⟨bO, k, none⟩)) := hP 15 59 (by simp [haf]) rfl
            have e59 : A.tmps[59]? = some (.pointer (some ⟨bO, k, none⟩)) := hFm.is 15 59 rfl g15
            have e58 : A.tmps[58]? = some (U 58) := hFm.got 14 58 rfl
            have l15 : L 15 = true := by simp [haf]
            have l14 : L 14 = true := by simp [haf]
            have a15 := hcl 15 _ rfl l15
            simp [Aft, Region.binds] at a15
            have l0 : L 0 = true := by simp [a15]
            have l4 : L 4 = true := by simp [a15]
            have a14 := hcl 14 _ rfl l14
            simp [Aft, Region.binds] at a14
            have l11 : L 11 = true := by simp [a14]
            have l13 : L 13 = true := by simp [a14]
            have a4 := hcl 4 _ rfl l4
            simp [Aft, Region.binds] at a4
            have l3 : L 3 = true := by simp [a4]
            have a11 := hcl 11 _ rfl l11
            simp [Aft, Region.binds] at a11
            have l10 : L 10 = true := by simp [a11]
            have a13 := hcl 13 _ rfl l13
            simp [Aft, Region.binds] at a13
            have l12 : L 12 = true := by simp [a13]
            have a3 := hcl 3 _ rfl l3
            simp [Aft, Region.binds] at a3
            have l1 : L 1 = true := by simp [a3]
            have l2 : L 2 = true := by simp [a3]
            have a10 := hcl 10 _ rfl l10
            simp [Aft, Region.binds] at a10
            have l5 : L 5 = true := by simp [a10]
            have l9 : L 9 = true := by simp [a10]
            have a9 := hcl 9 _ rfl l9
            simp [Aft, Region.binds] at a9
            have l8 : L 8 = true := by simp [a9]
            have a8 := hcl 8 _ rfl l8
            simp [Aft, Region.binds] at a8
            have l6 : L 6 = true := by simp [a8]
            have l7 : L 7 = true := by simp [a8]
            refine ⟨?_⟩
            obtain ⟨hol9, hap9, hne9⟩ := hC.2.2.1 l14 hlk
            have HKK : Hid _ := HSET.out wr (U 58) hol9 hap9 hne9
            obtain ⟨k4, k5⟩ := HFZ.out wr (U 58) hap9
            obtain ⟨ao9, cc9, hv9, -, -, -, -⟩ := hol9.shape
            obtain ⟨nl, hnl⟩ : ∃ nl, nl = lk.length + 1 := ⟨_, rfl⟩
            rw [← hnl] at hv9
            clear hnl
            have e58 : A.tmps[58]? = some (.slice ao9 nl cc9) := hFm.is 14 58 rfl hv9
            rw [hv9] at HKK
            clear hol9 hap9 hne9 hC
            go_simp
            refine hK (.tuple #[]) _ trivial ⟨fun h => ?_, fun h1 h2 => ?_, fun h1 h2 => ?_, fun _ => ⟨?_, HKK.out⟩⟩
            · simp [l14] at h
            · simp [l14] at h2
            · simp at h2
            · simp [l0, l1, l2, l3, l4, l5, l6, l7, l8, l9, l10, l11, l12, l13, l14, l15]
        intro L U9 V9 hall hC hP
        have hE := (hC.2.2.2 (hall 16 (by decide))).2
        rw [hE5] at hE
        clear hC hP hall hE5 hM5 HM0 HM1 HFZ HOWN HSET HNB
        obtain ⟨v9, hE9⟩ := hE
        have HN : Hid (KS w3 V9 bP d.t.nn c (n + 1) (.slice (some ⟨bO, 0, none⟩) m cO) (upd vi2 k v9) pl2) := by
          obtain ⟨k1, k2, k3, k4, k5, k6⟩ := HKM.out
          refine { ll := ?_, pls := hE9.pls, at_ := k4, bl := by rw [← k2]; exact hE9.bl, bp := hE9.bp, bel := hE9.bel }
          rw [← k2]
          refine hE9.ll.congr (fun j hj => ?_)
          rw [k3 j hj]
          by_cases e : j = k
          · rw [if_pos e, e, upd_same, HLK.out.1]
          · rw [if_neg e, upd_other _ _ e]
        clear hE9 HKM HLK
        simp only [setM_some, setM_none, setM_nil]
        go_wp2
        go_roundw
        case rel => exact ⟨n + 1, _, _, by go_num, by omega, HN.out⟩
        case measure => simp [intOf] <;> omega
    · have hltI : ¬ ((n : Int) < (d.t.nn : Int)) := by omega
      obtain rfl : n = d.t.nn := by omega
      have HE : Hid (LL wl (.slice aO (rpsL c d.t.nn).length cO) (rpsL c d.t.nn).length vi (clsL c d.t.nn) ∧ (∀ b, FL (.slice aO (rpsL c d.t.nn).length cO) (rpsL c d.t.nn).length vi b → w.heap.size ≤ b) ∧ Mv (Fg g d) w wl) := by
        refine ⟨HS.out.ll, fun b hb => Nat.le_trans HMV.out.size (HS.out.bl b hb).1, ?_⟩
        exact HMV.out.trans (Mv.below (F := fun _ => False) HS.out.bel) (fun b hb => hb.elim)
      clear HS
      go_wp2
      go_ret
      exact ⟨c, _, rfl, fun i hi => (HCC.out i hi).2, vi, HE.out⟩
end Euf
end Go.Proofs.Ytmnpefiaelpkfac
