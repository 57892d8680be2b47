/- The contract of Node; it proves no statement of the seat. -/
import Derived.Test.YtlonnhnfmcndfadJoin5Grows
namespace Go.Proofs.Ytlonnhnfmcndfad
open Go.RowKit
set_option linter.unusedVariables false
namespace Euf
theorem ai_of_seg {w : World} {ao : Option Addr} {l : List Nat} {cap : Nat} (h : Seg .i64 w ao l) (hl : l.length ≤ 10000) : AI w (.slice ao l.length cap) (l.map Int.ofNat) := by
  refine ⟨ao, cap, by rw [List.length_map], by rw [List.length_map]; omega, ?_⟩
  by_cases e : l = []
  · left; rw [e]; rfl
  · right
    have hp : 0 < l.length := List.length_pos_iff.2 e
    obtain ⟨b, off, h1, h2⟩ := h.open 0 hp
    refine ⟨b, off, h1, World.block_lt_of_cell? w ⟨b, off + 0, none⟩ (h2 0 hp), fun i hi => ?_⟩
    rw [List.length_map] at hi
    rw [h2 i hi, List.getD_eq_getElem?_getD, List.getD_eq_getElem?_getD, List.getElem?_map, List.getElem?_eq_getElem hi]
    rfl
theorem _root_.Go.Proofs.Ytlonnhnfmcndfad.Seg.mv {k : IntKind} {F : Nat → Prop} {w w' : World} {ao : Option Addr} {xs : List Nat} (h : Seg k w ao xs) (hM : Mv F w w') (hn : ∀ b off, ao = some ⟨b, off, none⟩ → ¬ F b) : Seg k w' ao xs := by
  rcases h with h | ⟨b, off, rfl, hc⟩
  · exact Or.inl h
  · refine Or.inr ⟨b, off, rfl, fun i hi => ?_⟩
    have h1 := hc i hi
    have h2 : b < w.heap.size := World.block_lt_of_cell? w ⟨b, off + i, none⟩ h1
    exact (World.cell?_of_block (a := ⟨b, off + i, none⟩) (hM.other b h2 (hn b off rfl))).trans h1
theorem allOk {l : List Nat} {n : Nat} (h : ∀ b ∈ l, b < n) : (l.map Int.ofNat).all (okIn n) = true := by
  rw [List.all_eq_true]
  intro z hz
  obtain ⟨b, hb, rfl⟩ := List.mem_map.1 hz
  have := h b hb
  simp [okIn]; omega
/-- What 'Node' leaves. -/
def NodeEnd (g : Nat) (d : Gd) (s : ByteArray) (l : List Nat) (w w' : World) (r : Nat) : Prop :=
  (r < d.t.nn ∧ d.t.N r = (s, l) ∧ Below w.heap.size w w') ∨ (r = d.t.nn ∧ (∀ a, a < d.t.nn → d.t.N a ≠ (s, l)) ∧ ∃ d', Grown d s l d' ∧ GW w' g d' ∧ Mv (Fn g d) w w' ∧ (∀ b, Fn g d' b → Fn g d b ∨ w.heap.size ≤ b) ∧ ∃ u b, d'.ag = upd d.ag d.t.nn u ∧ u.ownBlock = some b ∧ w.heap.size ≤ b)

set_option maxRecDepth 20000 in
set_option maxHeartbeats 8000000 in
theorem Node_all (g : Nat) (d : Gd) (s : ByteArray) (l : List Nat) (ao : Option Addr) (cap : Nat) (w : World) (h : GW w g d) (ht : TOk d.f d.t none) (hs : s.size ≤ maxLen) (hl : l.length ≤ 10000) (hv : Seg .i64 w ao l) (hap : 0 < l.length → ∀ b off, ao = some ⟨b, off, none⟩ → ¬ Fn g d b) (hin : ∀ b ∈ l, b < d.t.nn) (hnp : d.f.np + l.length + 1 ≤ 10000) (hnn : d.t.nn ≤ 10000) :
    Calls Try.prog 10 #[.pointer (some ⟨g, 0, none⟩), .string s, .slice ao l.length cap] w fun e w' => ∃ r : Nat, e = .returned (.tuple #[.int .i64 (r : Nat), .int .i64 0]) ∧ NodeEnd g d s l w w' r := by
  have HGW : Hid (GW w g d) := h
  have HT : Hid (TOk d.f d.t none) := ht
  have HS : Hid (s.size ≤ maxLen) := hs
  have HL : Hid (l.length ≤ 10000) := hl
  have HV : Hid (Seg .i64 w ao l) := hv
  have HAP : Hid (0 < l.length → ∀ b off, ao = some ⟨b, off, none⟩ → ¬ Fn g d b) := hap
  have HIN : Hid (∀ b ∈ l, b < d.t.nn) := hin
  have HNP : Hid (d.f.np + l.length + 1 ≤ 10000) := hnp
  have HNN : Hid (d.t.nn ≤ 10000) := hnn
  clear h ht hs hl hv hap hin hnp hnn
  obtain ⟨c0, -, -, -, -, -, -, -, -, -⟩ := HGW.out.cw.cells
  obtain ⟨an, cn, hvn, -, -, -, -⟩ := HGW.out.nodes.shape
  rw [hvn] at c0
  have HVN : Hid (d.x.c0 = .slice an d.t.nn cn) := hvn
  clear hvn
  have hnn := HNN.out
  have HAI : Hid (AI w (.slice ao l.length cap) (l.map Int.ofNat) ∧ (l.map Int.ofNat).all (okIn d.t.nn) = true) := ⟨ai_of_seg HV.out HL.out, allOk HIN.out⟩
  have hgl := HGW.out.cw.lt
  go_enter Try.func10, Try.ntmps10
  go_wp2_with fail
  refine (isNode_any g an d.t.nn cn _ _ true w c0 (by omega) HAI.out.1 HAI.out.2).mono ?_
  rintro e w1 ⟨rfl, hb1⟩
  have HB1 : Hid (Below w.heap.size w w1) := hb1
  have hgl1 : g < w1.heap.size := Nat.lt_of_lt_of_le hgl hb1.size
  clear hb1 c0 hgl
  go_wp2_with fail
  refine (find_any g d s l ao cap w1 (HGW.out.below HB1.out) HT.out HS.out HL.out (HV.out.below HB1.out) HIN.out).mono ?_
  rintro e w2 ⟨⟨r, ok, rfl, hf⟩, hb2⟩
  replace hb2 : Below w.heap.size w w2 := HB1.out.trans (hb2.mono HB1.out.size)
  have HB2 : Hid (Below w.heap.size w w2) := hb2
  clear HB1 HAI
  rcases hf with ⟨rfl, hr1, hr2⟩ | ⟨rfl, hr0, hno⟩
  · have HR : Hid (r < d.t.nn ∧ d.t.N r = (s, l)) := ⟨hr1, hr2⟩
    clear hr1 hr2 hb2 hgl1
    go_wp2
    refine bodyPost_ret (v := .tuple #[.int .i64 (r : Nat), .int .i64 0]) (by simp [results, Try.results10, go_sem]) rfl ?_
    exact ⟨r, rfl, Or.inl ⟨HR.out.1, HR.out.2, HB2.out⟩⟩
  · have HNO : Hid (∀ a, a < d.t.nn → d.t.N a ≠ (s, l)) := hno
    clear hno hgl1 hr0
    have hG2 := HGW.out.below hb2
    obtain ⟨c0, -, -, -, -, -, -, -, -, -⟩ := hG2.cw.cells
    rw [HVN.out] at c0
    have h17 : decide ((16384 : Int) ≤ (d.t.nn : Int)) = false := by simp; omega
    have HG2 : Hid (GW w2 g d) := hG2
    clear hb2 hG2
    go_upto_if 30 with fail
    clear h17
    go_wp2
    clear c0
    have hG2 := HG2.out
    have HSEG : Hid (Seg .i64 w2 ao l) := HV.out.below HB2.out
    have hgl := hG2.cw.lt
    have hng : d.x.c0.ownBlock ≠ some g := hG2.nodes.neB hG2.cw.blk (by decide)
    have m0 : w2.cell? ⟨g, 0, none⟩ = some d.x.c0 := hG2.cw.cells.1
    have hblk := hG2.cw.blk
    obtain ⟨M5, hM5⟩ : ∃ M5 : World → Prop, M5 = fun wr => wr.cell? ⟨g, 0, none⟩ = some d.x.c0 := ⟨_, rfl⟩
    have HM0 : Hid (∀ wr, Below w2.heap.size w2 wr → M5 wr) := by
      intro wr h1; rw [hM5]
      exact (h1.cell (p := ⟨g, 0, none⟩) hgl).trans m0
    have HM1 : Hid (∀ wr v9, App d.x.c0 v9 w2 wr → M5 wr) := by
      intro wr v9 h1; rw [hM5]
      exact (World.cell?_of_block (a := ⟨g, 0, none⟩) (h1.other g hgl hng)).trans m0
    have HFZ : Hid (∀ wr v9, App d.x.c0 v9 w2 wr → wr.cell? ⟨g, 0, none⟩ = some d.x.c0 ∧ wr.frozen? ⟨g, 0, none⟩ = false) := by
      intro wr v9 h1
      have h2 := HM1.out wr v9 h1
      rw [hM5] at h2
      exact ⟨h2, frozen_of_row wr g 0 _ 72 ((h1.other g hgl hng).trans hblk)⟩
    have HOWN : Hid (∀ wr, Below w2.heap.size w2 wr → OL 2 37 wr d.x.c0 d.t.nn (fun i => [.string (d.t.N i).1, d.ag i])) := fun wr h1 => (HG2.out.below h1).nodes
    have HNB : Hid (d.t.nn + 1 ≤ 1000000000) := by show _ ≤ _; omega
    have HONE : Hid (∀ (u : Value) (wr : World), CP l w2 u wr → ∀ z ∈ [Value.string s, u], z.oneCell' = true) := by
      intro u wr hcp z hz
      obtain ⟨a9, c9, hv9, -, -, -, -⟩ := hcp.1.shape
      subst hv9
      simp at hz
      rcases hz with rfl | rfl <;> rfl
    have HSET : Hid (∀ wr v9 u, OL 2 37 wr v9 (d.t.nn + 1) (fun i => [.string (upd d.t.N d.t.nn (s, l) i).1, upd d.ag d.t.nn u i]) → App d.x.c0 v9 w2 wr → CP l w2 u wr → MidN g d s l w2 (wr.setCell ⟨g, 0, none⟩ v9)) := fun wr v9 u h1 h2 h3 => HG2.out.mid h2 h1 h3
    clear hG2 hblk m0 hng
    refine wp_region_E (by kernel_rfl) [some 31, some 32, some 33, some 34, some 35, some 36, some 37, some 38, some 39, some 40, some 41, some 42, some 43, none] [none, none, none, none, none, none, none, none, none, none, none, none, none, none, none, none, none, none, none, none, none, none, none, none, none, none, none, none, none, none, none, some 31, some 32, some 33, some 34, some 35, some 36, some 37, some 38, some 39, some 40, some 41, some 42, some 43] (fun U => by kernel_rfl) [fun u => u = (.pointer (some ⟨g, 0, none⟩)), fun u => u = (.pointer (some ⟨g, 0, none⟩)), fun u => u = (.pointer (some ⟨g, 0, none⟩)), fun u => u = (.pointer (some ⟨g, 0, none⟩)), fun u => u = (d.x.c0), fun u => u = (.string s), fun u => u = (.slice ao l.length cap), fun _ => True, fun _ => True, fun _ => True, fun _ => True, fun u => u = (.pointer (some ⟨g, 0, none⟩)), fun u => u = (.pointer (some ⟨g, 0, none⟩)), fun _ => True] (fun L U wr => (L 10 = false → Below w2.heap.size w2 wr) ∧ (L 9 = true → L 10 = false → ONE5 37 [.string s, U 38] (U 40) wr) ∧ (L 10 = true → L 13 = false → OL 2 37 wr (U 41) (d.t.nn + 1) (fun i => [.string (upd d.t.N d.t.nn (s, l) i).1, upd d.ag d.t.nn (U 38) i]) ∧ App d.x.c0 (U 41) w2 wr ∧ U 41 ≠ .slice none 0 0) ∧ (L 7 = true → L 13 = false → CP l w2 (U 38) wr) ∧ (L 8 = true → U 39 = .agg #[.string s, U 38]) ∧ (L 13 = true → (L 0 = true ∧ L 1 = true ∧ L 2 = true ∧ L 3 = true ∧ L 4 = true ∧ L 5 = true ∧ L 6 = true ∧ L 7 = true ∧ L 8 = true ∧ L 9 = true ∧ L 10 = true ∧ L 11 = true ∧ L 12 = true) ∧ MidN g d s l w2 wr)) (by kernel_rfl) (by decide) (by kernel_rfl) (by kernel_rfl) ?_ ?_ ?_
    · exact fun U => ⟨fun _ => (Below.refl _ _).drew, (fun h => by cases h), (fun h => by cases h), (fun h => by cases h), (fun h => by cases h), (fun h => by cases h)⟩
    · refine StepsE.run rfl ?_ ?_
      · intro L U wr hC hP hlk hcl haf A K hFm hK
        simp [Aft, Region.binds] at haf
        have e0 : A.tmps[0]? = some (.pointer (some ⟨g, 0, none⟩)) := (hFm.old 0 (by decide)).trans (by kernel_rfl)
        have HC : Hid _ := hC
        clear hC
        refine ⟨?_⟩
        go_simp
        refine hK _ _ rfl ?_
        obtain ⟨c0, cB, c1, cX, cY, cS⟩ := HC.out
        refine ⟨fun h => c0 (by simpa using h), (fun h1 h2 => by have h9 := cB (by simpa using h1) (by simpa using h2); simpa [updO, Go.Proofs.Ytlonnhnfmcndfad.upd] using h9), (fun h1 h2 => by have h9 := c1 (by simpa using h1) (by simpa using h2); simpa [updO, Go.Proofs.Ytlonnhnfmcndfad.upd] using h9), (fun h1 h2 => by have h9 := cX (by simpa using h1) (by simpa using h2); simpa [updO, Go.Proofs.Ytlonnhnfmcndfad.upd] using h9), (fun h1 => by have h9 := cY (by simpa using h1); simpa [updO, Go.Proofs.Ytlonnhnfmcndfad.upd] using h9), fun h => ?_⟩
        have h9 := cS (by simpa using h)
        exact ⟨by simp [h9.1], h9.2⟩
      refine StepsE.run rfl ?_ ?_
      · intro L U wr hC hP hlk hcl haf A K hFm hK
        simp [Aft, Region.binds] at haf
        have e0 : A.tmps[0]? = some (.pointer (some ⟨g, 0, none⟩)) := (hFm.old 0 (by decide)).trans (by kernel_rfl)
        have HC : Hid _ := hC
        clear hC
        refine ⟨?_⟩
        go_simp
        refine hK _ _ rfl ?_
        obtain ⟨c0, cB, c1, cX, cY, cS⟩ := HC.out
        refine ⟨fun h => c0 (by simpa using h), (fun h1 h2 => by have h9 := cB (by simpa using h1) (by simpa using h2); simpa [updO, Go.Proofs.Ytlonnhnfmcndfad.upd] using h9), (fun h1 h2 => by have h9 := c1 (by simpa using h1) (by simpa using h2); simpa [updO, Go.Proofs.Ytlonnhnfmcndfad.upd] using h9), (fun h1 h2 => by have h9 := cX (by simpa using h1) (by simpa using h2); simpa [updO, Go.Proofs.Ytlonnhnfmcndfad.upd] using h9), (fun h1 => by have h9 := cY (by simpa using h1); simpa [updO, Go.Proofs.Ytlonnhnfmcndfad.upd] using h9), fun h => ?_⟩
        have h9 := cS (by simpa using h)
        exact ⟨by simp [h9.1], h9.2⟩
      refine StepsE.run rfl ?_ ?_
      · intro L U wr hC hP hlk hcl haf A K hFm hK
        simp [Aft, Region.binds] at haf
        have g1 : U 32 = (.pointer (some ⟨g, 0, none⟩)) := hP 1 32 (by simp [haf]) rfl
        have e32 : A.tmps[32]? = some (.pointer (some ⟨g, 0, none⟩)) := hFm.is 1 32 rfl g1
        have HC : Hid _ := hC
        clear hC
        refine ⟨?_⟩
        go_simp
        refine hK _ _ rfl ?_
        obtain ⟨c0, cB, c1, cX, cY, cS⟩ := HC.out
        refine ⟨fun h => c0 (by simpa using h), (fun h1 h2 => by have h9 := cB (by simpa using h1) (by simpa using h2); simpa [updO, Go.Proofs.Ytlonnhnfmcndfad.upd] using h9), (fun h1 h2 => by have h9 := c1 (by simpa using h1) (by simpa using h2); simpa [updO, Go.Proofs.Ytlonnhnfmcndfad.upd] using h9), (fun h1 h2 => by have h9 := cX (by simpa using h1) (by simpa using h2); simpa [updO, Go.Proofs.Ytlonnhnfmcndfad.upd] using h9), (fun h1 => by have h9 := cY (by simpa using h1); simpa [updO, Go.Proofs.Ytlonnhnfmcndfad.upd] using h9), fun h => ?_⟩
        have h9 := cS (by simpa using h)
        exact ⟨by simp [h9.1], h9.2⟩
      refine StepsE.run rfl ?_ ?_
      · intro L U wr hC hP hlk hcl haf A K hFm hK
        simp [Aft, Region.binds] at haf
        have g2 : U 33 = (.pointer (some ⟨g, 0, none⟩)) := hP 2 33 (by simp [haf]) rfl
        have e33 : A.tmps[33]? = some (.pointer (some ⟨g, 0, none⟩)) := hFm.is 2 33 rfl g2
        have HC : Hid _ := hC
        clear hC
        refine ⟨?_⟩
        go_simp
        refine hK _ _ rfl ?_
        obtain ⟨c0, cB, c1, cX, cY, cS⟩ := HC.out
        refine ⟨fun h => c0 (by simpa using h), (fun h1 h2 => by have h9 := cB (by simpa using h1) (by simpa using h2); simpa [updO, Go.Proofs.Ytlonnhnfmcndfad.upd] using h9), (fun h1 h2 => by have h9 := c1 (by simpa using h1) (by simpa using h2); simpa [updO, Go.Proofs.Ytlonnhnfmcndfad.upd] using h9), (fun h1 h2 => by have h9 := cX (by simpa using h1) (by simpa using h2); simpa [updO, Go.Proofs.Ytlonnhnfmcndfad.upd] using h9), (fun h1 => by have h9 := cY (by simpa using h1); simpa [updO, Go.Proofs.Ytlonnhnfmcndfad.upd] using h9), fun h => ?_⟩
        have h9 := cS (by simpa using h)
        exact ⟨by simp [h9.1], h9.2⟩
      refine StepsE.run rfl ?_ ?_
      · intro L U wr hC hP hlk hcl haf A K hFm hK
        simp [Aft, Region.binds] at haf
        have g3 : U 34 = (.pointer (some ⟨g, 0, none⟩)) := hP 3 34 (by simp [haf]) rfl
        have e34 : A.tmps[34]? = some (.pointer (some ⟨g, 0, none⟩)) := hFm.is 3 34 rfl g3
        have hM8 : M5 wr := by
          obtain ⟨c0, cB, c1, cX, cY, cS⟩ := hC
          have hs : L 13 = false := by cases h : L 13 with | false => rfl | true => exact absurd (cS h).1 (by simp [hlk])
          cases h14 : L 10 with
          | false => exact HM0.out wr (c0 h14)
          | true => exact HM1.out wr (U 41) (c1 h14 hs).2.1
        rw [hM5] at hM8
        have m7 := hM8
        have HC : Hid _ := hC
        clear hC
        refine ⟨?_⟩
        go_simp
        refine hK _ _ rfl ?_
        obtain ⟨c0, cB, c1, cX, cY, cS⟩ := HC.out
        refine ⟨fun h => c0 (by simpa using h), (fun h1 h2 => by have h9 := cB (by simpa using h1) (by simpa using h2); simpa [updO, Go.Proofs.Ytlonnhnfmcndfad.upd] using h9), (fun h1 h2 => by have h9 := c1 (by simpa using h1) (by simpa using h2); simpa [updO, Go.Proofs.Ytlonnhnfmcndfad.upd] using h9), (fun h1 h2 => by have h9 := cX (by simpa using h1) (by simpa using h2); simpa [updO, Go.Proofs.Ytlonnhnfmcndfad.upd] using h9), (fun h1 => by have h9 := cY (by simpa using h1); simpa [updO, Go.Proofs.Ytlonnhnfmcndfad.upd] using h9), fun h => ?_⟩
        have h9 := cS (by simpa using h)
        exact ⟨by simp [h9.1], h9.2⟩
      refine StepsE.run rfl ?_ ?_
      · intro L U wr hC hP hlk hcl haf A K hFm hK
        simp [Aft, Region.binds] at haf
        have e1 : A.tmps[1]? = some (.string s) := (hFm.old 1 (by decide)).trans (by kernel_rfl)
        have HC : Hid _ := hC
        clear hC
        refine ⟨?_⟩
        go_simp
        refine hK _ _ rfl ?_
        obtain ⟨c0, cB, c1, cX, cY, cS⟩ := HC.out
        refine ⟨fun h => c0 (by simpa using h), (fun h1 h2 => by have h9 := cB (by simpa using h1) (by simpa using h2); simpa [updO, Go.Proofs.Ytlonnhnfmcndfad.upd] using h9), (fun h1 h2 => by have h9 := c1 (by simpa using h1) (by simpa using h2); simpa [updO, Go.Proofs.Ytlonnhnfmcndfad.upd] using h9), (fun h1 h2 => by have h9 := cX (by simpa using h1) (by simpa using h2); simpa [updO, Go.Proofs.Ytlonnhnfmcndfad.upd] using h9), (fun h1 => by have h9 := cY (by simpa using h1); simpa [updO, Go.Proofs.Ytlonnhnfmcndfad.upd] using h9), fun h => ?_⟩
        have h9 := cS (by simpa using h)
        exact ⟨by simp [h9.1], h9.2⟩
      refine StepsE.run rfl ?_ ?_
      · intro L U wr hC hP hlk hcl haf A K hFm hK
        simp [Aft, Region.binds] at haf
        have e2 : A.tmps[2]? = some (.slice ao l.length cap) := (hFm.old 2 (by decide)).trans (by kernel_rfl)
        have HC : Hid _ := hC
        clear hC
        refine ⟨?_⟩
        go_simp
        refine hK _ _ rfl ?_
        obtain ⟨c0, cB, c1, cX, cY, cS⟩ := HC.out
        refine ⟨fun h => c0 (by simpa using h), (fun h1 h2 => by have h9 := cB (by simpa using h1) (by simpa using h2); simpa [updO, Go.Proofs.Ytlonnhnfmcndfad.upd] using h9), (fun h1 h2 => by have h9 := c1 (by simpa using h1) (by simpa using h2); simpa [updO, Go.Proofs.Ytlonnhnfmcndfad.upd] using h9), (fun h1 h2 => by have h9 := cX (by simpa using h1) (by simpa using h2); simpa [updO, Go.Proofs.Ytlonnhnfmcndfad.upd] using h9), (fun h1 => by have h9 := cY (by simpa using h1); simpa [updO, Go.Proofs.Ytlonnhnfmcndfad.upd] using h9), fun h => ?_⟩
        have h9 := cS (by simpa using h)
        exact ⟨by simp [h9.1], h9.2⟩
      refine StepsE.run rfl ?_ ?_
      · intro L U wr hC hP hlk hcl haf A K hFm hK
        simp [Aft, Region.binds] at haf
        have g6 : U 37 = (.slice ao l.length cap) := hP 6 37 (by simp [haf]) rfl
        have e37 : A.tmps[37]? = some (.slice ao l.length cap) := hFm.is 6 37 rfl g6
        have hs13 : L 13 = false := by cases h : L 13 with | false => rfl | true => exact absurd (hC.2.2.2.2.2 h).1 (by simp [hlk])
        have n8 : L 8 = false := by cases h : L 8 with | false => rfl | true => have h9 := hcl 8 _ rfl h; simp [Aft, Region.binds, hlk] at h9
        have n9 : L 9 = false := by cases h : L 9 with | false => rfl | true => have h9 := hcl 9 _ rfl h; simp [Aft, Region.binds, n8] at h9
        have n10 : L 10 = false := by cases h : L 10 with | false => rfl | true => have h9 := hcl 10 _ rfl h; simp [Aft, Region.binds, n9] at h9
        refine ⟨?_⟩
        obtain ⟨c0, cB, c1, cX, cY, cS⟩ := hC
        have hbw9 := c0 n10
        have hseg9 := HSEG.out.below hbw9
        clear c0 cX
        have HSEG9 : Hid _ := And.intro hseg9 (And.intro hbw9 (And.intro cB (And.intro c1 (And.intro cY cS))))
        clear hseg9 hbw9 cB c1 cY cS
        go_simp
        refine (copied_e ao l.length cap l wr rfl HL.out HSEG9.out.1).mono ?_
        rintro e w1 ⟨rfl, hol9, hb9⟩
        go_simp
        have hb8 := HSEG9.out.2.1
        refine hK _ _ trivial ⟨fun _ => ?_, fun h1 _ => ?_, fun h1 _ => ?_, fun _ _ => ?_, fun h => ?_, fun h => ?_⟩
        · exact hb8.trans (hb9.mono hb8.size)
        · simp [n9] at h1
        · simp [n10] at h1
        · exact ⟨by simpa [updO, Go.Proofs.Ytlonnhnfmcndfad.upd] using hol9, wr.heap.size, by simp [updO, Go.Proofs.Ytlonnhnfmcndfad.upd, Value.ownBlock], hb8.size⟩
        · simp [n8] at h
        · simp [hs13] at h
      refine StepsE.run rfl ?_ ?_
      · intro L U wr hC hP hlk hcl haf A K hFm hK
        simp [Aft, Region.binds] at haf
        have g5 : U 36 = (.string s) := hP 5 36 (by simp [haf]) rfl
        have e36 : A.tmps[36]? = some (.string s) := hFm.is 5 36 rfl g5
        have e38 : A.tmps[38]? = some (U 38) := hFm.got 7 38 rfl
        have hs13 : L 13 = false := by cases h : L 13 with | false => rfl | true => exact absurd (hC.2.2.2.2.2 h).1 (by simp [hlk])
        have l7 : L 7 = true := by simp [haf]
        have n9 : L 9 = false := by cases h : L 9 with | false => rfl | true => have h9 := hcl 9 _ rfl h; simp [Aft, Region.binds, hlk] at h9
        have n10 : L 10 = false := by cases h : L 10 with | false => rfl | true => have h9 := hcl 10 _ rfl h; simp [Aft, Region.binds, n9] at h9
        refine ⟨?_⟩
        obtain ⟨c0, cB, c1, cX, cY, cS⟩ := hC
        obtain ⟨a9, c9, hv38, -, -, -, -⟩ := (cX l7 hs13).1.shape
        have HV38 : Hid _ := hv38
        replace e38 := e38.trans (congrArg some hv38)
        clear hv38
        have HC : Hid _ := And.intro c0 (And.intro cX cS)
        clear c0 cB c1 cX cY cS
        go_simp
        refine hK _ _ trivial ⟨fun _ => HC.out.1 n10, fun h1 _ => ?_, fun h1 _ => ?_, fun h1 h2 => ?_, fun _ => ?_, fun h => ?_⟩
        · simp [n9] at h1
        · simp [n10] at h1
        · have h9 := HC.out.2.1 (by simpa using h1) hs13
          simpa [updO, Go.Proofs.Ytlonnhnfmcndfad.upd] using h9
        · simp [updO, Go.Proofs.Ytlonnhnfmcndfad.upd, HV38.out]
        · simp [hs13] at h
      refine StepsE.run rfl ?_ ?_
      · intro L U wr hC hP hlk hcl haf A K hFm hK
        simp [Aft, Region.binds] at haf
        have e39 : A.tmps[39]? = some (U 39) := hFm.got 8 39 rfl
        have hs13 : L 13 = false := by cases h : L 13 with | false => rfl | true => exact absurd (hC.2.2.2.2.2 h).1 (by simp [hlk])
        have l8 : L 8 = true := by simp [haf]
        have hA9 : L 10 = false := by cases h : L 10 with | false => rfl | true => have h9 := hcl 10 _ rfl h; simp [Aft, Region.binds, hlk] at h9
        refine ⟨?_⟩
        obtain ⟨c0, cB, c1, cX, cY, cS⟩ := hC
        have g39 := cY l8
        have e39b : A.tmps[39]? = some (.agg #[.string s, U 38]) := e39.trans (congrArg some g39)
        have HC : Hid _ := And.intro c0 (And.intro cX (And.intro cY cS))
        clear c0 cB c1 cX cY cS g39 e39
        go_simp
        refine hK _ _ trivial ⟨fun _ => ?_, fun _ _ => ?_, fun h1 _ => ?_, fun h1 h2 => ?_, fun h => ?_, fun h => ?_⟩
        · exact ((HC.out.1 hA9).alloc (HC.out.1 hA9).size _)
        · exact ⟨wr.heap.size, by simp [updO, Go.Proofs.Ytlonnhnfmcndfad.upd], by simp only [updO, Go.Proofs.Ytlonnhnfmcndfad.upd]; exact heap_alloc_new wr _⟩
        · simp [hA9] at h1
        · have h9 := HC.out.2.1 (by simpa using h1) hs13
          have h8 := h9.stay (wr' := wr.alloc (.cells #[.string s, U 38] 37 (0, 0))) (fun b hb => Below.heap_alloc wr _ b (h9.1.lt hb))
          simpa [updO, Go.Proofs.Ytlonnhnfmcndfad.upd] using h8
        · have h9 := HC.out.2.2.1 (by simpa using h)
          simpa [updO, Go.Proofs.Ytlonnhnfmcndfad.upd] using h9
        · simp [hs13] at h
      refine StepsE.run rfl ?_ ?_
      · intro L U wr hC hP hlk hcl haf A K hFm hK
        simp [Aft, Region.binds] at haf
        have g4 : U 35 = (d.x.c0) := hP 4 35 (by simp [haf]) rfl
        have e35 : A.tmps[35]? = some (d.x.c0) := hFm.is 4 35 rfl g4
        have e40 : A.tmps[40]? = some (U 40) := hFm.got 9 40 rfl
        have hs13 : L 13 = false := by cases h : L 13 with | false => rfl | true => exact absurd (hC.2.2.2.2.2 h).1 (by simp [hlk])
        have l9 : L 9 = true := by simp [haf]
        have a9 := hcl 9 _ rfl l9
        simp [Aft, Region.binds] at a9
        have l8 : L 8 = true := by simp [a9]
        have a8 := hcl 8 _ rfl l8
        simp [Aft, Region.binds] at a8
        have l7 : L 7 = true := by simp [a8]
        refine ⟨?_⟩
        obtain ⟨c0, cB, c1, cX, cY, cS⟩ := hC
        have hcp := cX l7 hs13
        refine wp_push1 (.tmp 35) (.tmp 40) 25 rfl 2 37 _ 40 uNodes iNode (by decide) rfl (by decide) d.x.c0 d.t.nn (fun i => [.string (d.t.N i).1, d.ag i]) (by simp [Act.eval, e35]) (HOWN.out wr (c0 hlk)) (fun _ _ => rfl) [.string s, U 38] 37 (U 40) (cB l9 hlk) (by simp [Act.eval, e40]) rfl (HONE.out _ _ hcp) HNB.out (fun i => [.string (upd d.t.N d.t.nn (s, l) i).1, upd d.ag d.t.nn (U 38) i]) (fun k hk => by simp [upd, Nat.ne_of_lt hk]) (by simp [upd]) ?_
        intro v9 w9 hol9 hap9 hne9
        refine hK _ _ trivial ⟨fun h => ?_, fun _ h => ?_, fun _ _ => ?_, fun _ _ => ?_, fun h => ?_, fun h => ?_⟩
        · simp at h
        · simp at h
        · simp only [updO, Go.Proofs.Ytlonnhnfmcndfad.upd, beq_self_eq_true, cond_true]; exact ⟨hol9, hap9.ofBelow (c0 hlk), hne9⟩
        · have h8 := hcp.stay (wr' := w9) (fun b hb => hap9.other b (hcp.1.lt hb) (fun hc => hcp.1.ne (HOWN.out wr (c0 hlk)) (by decide) hb hc))
          simpa [updO, Go.Proofs.Ytlonnhnfmcndfad.upd] using h8
        · have h9 := cY (by simpa using h)
          simpa [updO, Go.Proofs.Ytlonnhnfmcndfad.upd] using h9
        · simp [hs13] at h
      refine StepsE.run rfl ?_ ?_
      · intro L U wr hC hP hlk hcl haf A K hFm hK
        simp [Aft, Region.binds] at haf
        have g0 : U 31 = (.pointer (some ⟨g, 0, none⟩)) := hP 0 31 (by simp [haf]) rfl
        have e31 : A.tmps[31]? = some (.pointer (some ⟨g, 0, none⟩)) := hFm.is 0 31 rfl g0
        have HC : Hid _ := hC
        clear hC
        refine ⟨?_⟩
        go_simp
        refine hK _ _ rfl ?_
        obtain ⟨c0, cB, c1, cX, cY, cS⟩ := HC.out
        refine ⟨fun h => c0 (by simpa using h), (fun h1 h2 => by have h9 := cB (by simpa using h1) (by simpa using h2); simpa [updO, Go.Proofs.Ytlonnhnfmcndfad.upd] using h9), (fun h1 h2 => by have h9 := c1 (by simpa using h1) (by simpa using h2); simpa [updO, Go.Proofs.Ytlonnhnfmcndfad.upd] using h9), (fun h1 h2 => by have h9 := cX (by simpa using h1) (by simpa using h2); simpa [updO, Go.Proofs.Ytlonnhnfmcndfad.upd] using h9), (fun h1 => by have h9 := cY (by simpa using h1); simpa [updO, Go.Proofs.Ytlonnhnfmcndfad.upd] using h9), fun h => ?_⟩
        have h9 := cS (by simpa using h)
        exact ⟨by simp [h9.1], h9.2⟩
      refine StepsE.run rfl ?_ ?_
      · intro L U wr hC hP hlk hcl haf A K hFm hK
        simp [Aft, Region.binds] at haf
        have g11 : U 42 = (.pointer (some ⟨g, 0, none⟩)) := hP 11 42 (by simp [haf]) rfl
        have e42 : A.tmps[42]? = some (.pointer (some ⟨g, 0, none⟩)) := hFm.is 11 42 rfl g11
        have HC : Hid _ := hC
        clear hC
        refine ⟨?_⟩
        go_simp
        refine hK _ _ rfl ?_
        obtain ⟨c0, cB, c1, cX, cY, cS⟩ := HC.out
        refine ⟨fun h => c0 (by simpa using h), (fun h1 h2 => by have h9 := cB (by simpa using h1) (by simpa using h2); simpa [updO, Go.Proofs.Ytlonnhnfmcndfad.upd] using h9), (fun h1 h2 => by have h9 := c1 (by simpa using h1) (by simpa using h2); simpa [updO, Go.Proofs.Ytlonnhnfmcndfad.upd] using h9), (fun h1 h2 => by have h9 := cX (by simpa using h1) (by simpa using h2); simpa [updO, Go.Proofs.Ytlonnhnfmcndfad.upd] using h9), (fun h1 => by have h9 := cY (by simpa using h1); simpa [updO, Go.Proofs.Ytlonnhnfmcndfad.upd] using h9), fun h => ?_⟩
        have h9 := cS (by simpa using h)
        exact ⟨by simp [h9.1], h9.2⟩
      refine StepsE.run rfl ?_ StepsE.nil
      · intro L U wr hC hP hlk hcl haf A K hFm hK
        simp [Aft, Region.binds] at haf
        have g12 : U 43 = (.pointer (some ⟨g, 0, none⟩)) := hP 12 43 (by simp [haf]) rfl
        have e43 : A.tmps[43]? = some (.pointer (some ⟨g, 0, none⟩)) := hFm.is 12 43 rfl g12
        have e41 : A.tmps[41]? = some (U 41) := hFm.got 10 41 rfl
        have HCY : Hid _ := hC.2.2.2.2.1
        have l12 : L 12 = true := by simp [haf]
        have l10 : L 10 = true := by simp [haf]
        have a12 := hcl 12 _ rfl l12
        simp [Aft, Region.binds] at a12
        have l11 : L 11 = true := by simp [a12]
        have a10 := hcl 10 _ rfl l10
        simp [Aft, Region.binds] at a10
        have l4 : L 4 = true := by simp [a10]
        have l9 : L 9 = true := by simp [a10]
        have a11 := hcl 11 _ rfl l11
        simp [Aft, Region.binds] at a11
        have l0 : L 0 = true := by simp [a11]
        have a4 := hcl 4 _ rfl l4
        simp [Aft, Region.binds] at a4
        have l3 : L 3 = true := by simp [a4]
        have a9 := hcl 9 _ rfl l9
        simp [Aft, Region.binds] at a9
        have l8 : L 8 = true := by simp [a9]
        have a3 := hcl 3 _ rfl l3
        simp [Aft, Region.binds] at a3
        have l2 : L 2 = true := by simp [a3]
        have a8 := hcl 8 _ rfl l8
        simp [Aft, Region.binds] at a8
        have l5 : L 5 = true := by simp [a8]
        have l7 : L 7 = true := by simp [a8]
        have a2 := hcl 2 _ rfl l2
        simp [Aft, Region.binds] at a2
        have l1 : L 1 = true := by simp [a2]
        have a7 := hcl 7 _ rfl l7
        simp [Aft, Region.binds] at a7
        have l6 : L 6 = true := by simp [a7]
        refine ⟨?_⟩
        obtain ⟨c0, cB, c1, cX, cY, cS⟩ := hC
        obtain ⟨hol9, hap9, hne9⟩ := c1 l10 hlk
        have HKK : Hid _ := HSET.out wr (U 41) (U 38) hol9 hap9 (cX l7 hlk)
        obtain ⟨k4, k5⟩ := HFZ.out wr (U 41) hap9
        obtain ⟨ao9, cc9, hv9, -, -, -, -⟩ := hol9.shape
        obtain ⟨nl, hnl⟩ : ∃ nl, nl = d.t.nn + 1 := ⟨_, rfl⟩
        rw [← hnl] at hv9
        clear hnl
        have e41 : A.tmps[41]? = some (.slice ao9 nl cc9) := hFm.is 10 41 rfl hv9
        rw [hv9] at HKK
        clear hol9 hap9 hne9 c0 cB c1 cX cY cS
        go_simp
        refine hK (.tuple #[]) _ trivial ⟨fun h => ?_, fun _ h => ?_, fun _ h => ?_, fun _ h => ?_, fun h => ?_, fun _ => ⟨?_, HKK.out⟩⟩
        · simp [l10] at h
        · simp [l10] at h
        · simp at h
        · simp at h
        · have h9 := HCY.out (by simpa using h)
          simpa [updO, Go.Proofs.Ytlonnhnfmcndfad.upd] using h9
        · simp [l0, l1, l2, l3, l4, l5, l6, l7, l8, l9, l10, l11, l12]
    intro L U5 V5 hall hC hP
    have hE := (hC.2.2.2.2.2 (hall 13 (by decide))).2
    clear hC hP hall hM5 HM0 HM1 HFZ HOWN HSET HONE HSEG
    obtain ⟨v, u, k1, k2, k3, k4, k5, k6⟩ := hE
    simp only [setM_some, setM_none, setM_nil]
    have HK : Hid _ := And.intro k1 (And.intro k2 (And.intro k3 (And.intro k4 (And.intro k5 k6))))
    have hgl5 := k1.cw.lt
    have HAP5 : Hid (0 < l.length → ∀ b off, ao = some ⟨b, off, none⟩ → ¬ Fa g { d with x := { d.x with c0 := v } } b) := fun h0 b off e h9 => HAP.out h0 b off e (Or.inr h9)
    have HSEG5 : Hid (Seg .i64 V5 ao l) := by
      show Seg _ _ _ _
      by_cases h0 : 0 < l.length
      · exact (HV.out.below HB2.out).mv k5 (fun b off e h9 => HAP.out h0 b off e (h9.elim (fun h => Or.inr (Or.inl h)) Or.inl))
      · exact Or.inl (List.length_eq_zero_iff.1 (by omega))
    clear k1 k2 k3 k4 k5 k6
    go_wp2_with fail
    refine (add_any g { d with x := { d.x with c0 := v } } s l ao cap V5 HK.out.1 HT.out HS.out HL.out HSEG5.out HAP5.out HIN.out HNO.out HNP.out (by show d.t.nn ≤ _; omega)).mono ?_
    rintro e w6 ⟨rfl, hA⟩
    have HA : Hid (AddEnd g { d with x := { d.x with c0 := v } } s l V5 w6) := hA
    clear hA hgl5
    go_wp2
    refine bodyPost_ret (v := .tuple #[.int .i64 (d.t.nn : Nat), .int .i64 0]) (by simp [results, Try.results10, go_sem]) rfl ?_
    refine ⟨d.t.nn, rfl, Or.inr ⟨rfl, HNO.out, ?_⟩⟩
    obtain ⟨k1, k2, k3, k4, k5, k6⟩ := HK.out
    obtain ⟨d', q1, q2, q3, q4, q5, q6, u7, b7, q7, q8, q9⟩ := MidN.done (w := w) HG2.out k2 k3 k4 k1 k5.size HA.out
    have hsz : w.heap.size ≤ V5.heap.size := Nat.le_trans HB2.out.size k5.size
    refine ⟨d', q1, q2, ?_, fun b hb => ?_, u7, b7, q7, q8, Nat.le_trans HB2.out.size q9⟩
    · have j1 : Mv (Fn g d) w V5 := (Mv.below (F := Fn g d) HB2.out).trans k5 (fun b hb => Or.inl (hb.elim (fun h9 => Or.inr (Or.inl h9)) Or.inl))
      exact j1.trans q4 (fun b hb => Or.inl (Or.inr hb))
    · rcases hb with hb | hb | hb | hb | hb | hb
      · rw [q3] at hb
        rcases k6 with h9 | ⟨b', h9, h10⟩
        · exact Or.inl (Or.inl (h9.symm.trans hb))
        · right
          have := h9.symm.trans hb
          injection this with this
          have := HB2.out.size
          omega
      · exact Or.inl (Or.inr (Or.inl hb))
      · rcases q5 with h9 | ⟨b', h9, h10⟩
        · exact Or.inl (Or.inr (Or.inr (Or.inl (h9.symm.trans hb))))
        · right
          have := h9.symm.trans hb
          injection this with this
          omega
      · rcases q6 with h9 | ⟨b', h9, h10⟩
        · exact Or.inl (Or.inr (Or.inr (Or.inr (Or.inl (h9.symm.trans hb)))))
        · right
          have := h9.symm.trans hb
          injection this with this
          omega
      · exact Or.inl (Or.inr (Or.inr (Or.inr (Or.inr (Or.inl (hb.trans q1.r.2.2.2.1))))))
      · exact Or.inl (Or.inr (Or.inr (Or.inr (Or.inr (Or.inr (hb.trans q1.r.2.2.2.2.1))))))
theorem Node_any (g : Nat) (d : Gd) (s : ByteArray) (l : List Nat) (ao : Option Addr) (cap : Nat) (w : World) (h : GW w g d) (ht : TOk d.f d.t none) (hs : s.size ≤ maxLen) (hl : l.length ≤ 10000) (hv : Seg .i64 w ao l) (hap : ∀ b off, ao = some ⟨b, off, none⟩ → ¬ Fn g d b) (hin : ∀ b ∈ l, b < d.t.nn) (hnp : d.f.np + l.length + 1 ≤ 10000) (hnn : d.t.nn ≤ 10000) :
    Calls Try.prog 10 #[.pointer (some ⟨g, 0, none⟩), .string s, .slice ao l.length cap] w fun e w' => ∃ r : Nat, e = .returned (.tuple #[.int .i64 (r : Nat), .int .i64 0]) ∧ NodeEnd g d s l w w' r :=
  Node_all g d s l ao cap w h ht hs hl hv (fun _ => hap) hin hnp hnn
end Euf
end Go.Proofs.Ytlonnhnfmcndfad
