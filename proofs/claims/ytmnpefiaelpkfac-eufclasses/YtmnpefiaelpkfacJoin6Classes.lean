/- Joined: EufQ, EufU, EufV, EufX: words and contracts; no statement of the seat is proved here. -/
import Derived.Test.YtmnpefiaelpkfacJoin5Classes
/- The contract of Node; it proves no statement of the seat. -/
namespace Go.Proofs.Ytmnpefiaelpkfac
open Go.RowKit
set_option linter.unusedVariables false
namespace Euf
theorem ai_of_seg {w : World} {ao : Option Addr} {l : List Nat} {cap : Nat} (h : Seg .i64 w ao l) (hl : l.length ≤ 10000) : AI w (.slice ao l.length cap) (l.map Int.ofNat) := by
  refine ⟨ao, cap, by rw [List.length_map], by rw [List.length_map]; omega, ?_⟩
  by_cases e : l = []
  · left; rw [e]; rfl
  · right
    have hp : 0 < l.length := List.length_pos_iff.2 e
    obtain ⟨b, off, h1, h2⟩ := h.open 0 hp
    refine ⟨b, off, h1, World.block_lt_of_cell? w ⟨b, off + 0, none⟩ (h2 0 hp), fun i hi => ?_⟩
    rw [List.length_map] at hi
    rw [h2 i hi, List.getD_eq_getElem?_getD, List.getD_eq_getElem?_getD, List.getElem?_map, List.getElem?_eq_getElem hi]
    rfl
theorem _root_.Go.Proofs.Ytmnpefiaelpkfac.Seg.mv {k : IntKind} {F : Nat → Prop} {w w' : World} {ao : Option Addr} {xs : List Nat} (h : Seg k w ao xs) (hM : Mv F w w') (hn : ∀ b off, ao = some ⟨b, off, none⟩ → ¬ F b) : Seg k w' ao xs := by
  rcases h with h | ⟨b, off, rfl, hc⟩
  · exact Or.inl h
  · refine Or.inr ⟨b, off, rfl, fun i hi => ?_⟩
    have h1 := hc i hi
    have h2 : b < w.heap.size := World.block_lt_of_cell? w ⟨b, off + i, none⟩ h1
    exact (World.cell?_of_block (a := ⟨b, off + i, none⟩) (hM.other b h2 (hn b off rfl))).trans h1
theorem allOk {l : List Nat} {n : Nat} (h : ∀ b ∈ l, b < n) : (l.map Int.ofNat).all (okIn n) = true := by
  rw [List.all_eq_true]
  intro z hz
  obtain ⟨b, hb, rfl⟩ := List.mem_map.1 hz
  have := h b hb
  simp [okIn]; omega
/-- What 'Node' leaves. -/
def NodeEnd (g : Nat) (d : Gd) (s : ByteArray) (l : List Nat) (w w' : World) (r : Nat) : Prop :=
  (r < d.t.nn ∧ d.t.N r = (s, l) ∧ Below w.heap.size w w') ∨ (r = d.t.nn ∧ (∀ a, a < d.t.nn → d.t.N a ≠ (s, l)) ∧ ∃ d', Grown d s l d' ∧ GW w' g d' ∧ Mv (Fn g d) w w' ∧ (∀ b, Fn g d' b → Fn g d b ∨ w.heap.size ≤ b) ∧ ∃ u b, d'.ag = upd d.ag d.t.nn u ∧ u.ownBlock = some b ∧ w.heap.size ≤ b)

set_option maxRecDepth 20000 in
set_option maxHeartbeats 8000000 in
theorem Node_all (g : Nat) (d : Gd) (s : ByteArray) (l : List Nat) (ao : Option Addr) (cap : Nat) (w : World) (h : GW w g d) (ht : TOk d.f d.t none) (hs : s.size ≤ maxLen) (hl : l.length ≤ 10000) (hv : Seg .i64 w ao l) (hap : 0 < l.length → ∀ b off, ao = some ⟨b, off, none⟩ → ¬ Fn g d b) (hin : ∀ b ∈ l, b < d.t.nn) (hnp : d.f.np + l.length + 1 ≤ 10000) (hnn : d.t.nn ≤ 10000) :
    Calls Try.prog 28 #[.pointer (some ⟨g, 0, none⟩), .string s, .slice ao l.length cap] w fun e w' => ∃ r : Nat, e = .returned (.tuple #[.int .i64 (r : Nat), .int .i64 0]) ∧ NodeEnd g d s l w w' r := by
  have HGW : Hid (GW w g d) := h
  have HT : Hid (TOk d.f d.t none) := ht
  have HS : Hid (s.size ≤ maxLen) := hs
  have HL : Hid (l.length ≤ 10000) := hl
  have HV : Hid (Seg .i64 w ao l) := hv
  have HAP : Hid (0 < l.length → ∀ b off, ao = some ⟨b, off, none⟩ → ¬ Fn g d b) := hap
  have HIN : Hid (∀ b ∈ l, b < d.t.nn) := hin
  have HNP : Hid (d.f.np + l.length + 1 ≤ 10000) := hnp
  have HNN : Hid (d.t.nn ≤ 10000) := hnn
  clear h ht hs hl hv hap hin hnp hnn
  obtain ⟨c0, -, -, -, -, -, -, -, -, -⟩ := HGW.out.cw.cells
  obtain ⟨an, cn, hvn, -, -, -, -⟩ := HGW.out.nodes.shape
  rw [hvn] at c0
  have HVN : Hid (d.x.c0 = .slice an d.t.nn cn) := hvn
  clear hvn
  have hnn := HNN.out
  have HAI : Hid (AI w (.slice ao l.length cap) (l.map Int.ofNat) ∧ (l.map Int.ofNat).all (okIn d.t.nn) = true) := ⟨ai_of_seg HV.out HL.out, allOk HIN.out⟩
  have hgl := HGW.out.cw.lt
  go_enter Try.func28, Try.ntmps28
  go_wp2_with fail
  refine (isNode_any g an d.t.nn cn _ _ true w c0 (by omega) HAI.out.1 HAI.out.2).mono ?_
  rintro e w1 ⟨rfl, hb1⟩
  have HB1 : Hid (Below w.heap.size w w1) := hb1
  have hgl1 : g < w1.heap.size := Nat.lt_of_lt_of_le hgl hb1.size
  clear hb1 c0 hgl
  go_wp2_with fail
  refine (find_any g d s l ao cap w1 (HGW.out.below HB1.out) HT.out HS.out HL.out (HV.out.below HB1.out) HIN.out).mono ?_
  rintro e w2 ⟨⟨r, ok, rfl, hf⟩, hb2⟩
  replace hb2 : Below w.heap.size w w2 := HB1.out.trans (hb2.mono HB1.out.size)
  have HB2 : Hid (Below w.heap.size w w2) := hb2
  clear HB1 HAI
  rcases hf with ⟨rfl, hr1, hr2⟩ | ⟨rfl, hr0, hno⟩
  · have HR : Hid (r < d.t.nn ∧ d.t.N r = (s, l)) := ⟨hr1, hr2⟩
    clear hr1 hr2 hb2 hgl1
    go_wp2
    refine bodyPost_ret (v := .tuple #[.int .i64 (r : Nat), .int .i64 0]) (by simp [results, Try.results28, go_sem]) rfl ?_
    exact ⟨r, rfl, Or.inl ⟨HR.out.1, HR.out.2, HB2.out⟩⟩
  · have HNO : Hid (∀ a, a < d.t.nn → d.t.N a ≠ (s, l)) := hno
    clear hno hgl1 hr0
    have hG2 := HGW.out.below hb2
    obtain ⟨c0, -, -, -, -, -, -, -, -, -⟩ := hG2.cw.cells
    rw [HVN.out] at c0
    have h17 : decide ((16384 : Int) ≤ (d.t.nn : Int)) = false := by simp; omega
    have HG2 : Hid (GW w2 g d) := hG2
    clear hb2 hG2
    go_upto_if 30 with fail
    clear h17
    go_wp2
    clear c0
    have hG2 := HG2.out
    have HSEG : Hid (Seg .i64 w2 ao l) := HV.out.below HB2.out
    have hgl := hG2.cw.lt
    have hng : d.x.c0.ownBlock ≠ some g := hG2.nodes.neB hG2.cw.blk (by decide)
    have m0 : w2.cell? ⟨g, 0, none⟩ = some d.x.c0 := hG2.cw.cells.1
    have hblk := hG2.cw.blk
    obtain ⟨M5, hM5⟩ : ∃ M5 : World → Prop, M5 = fun wr => wr.cell? ⟨g, 0, none⟩ = some d.x.c0 := ⟨_, rfl⟩
    have HM0 : Hid (∀ wr, Below w2.heap.size w2 wr → M5 wr) := by
      intro wr h1; rw [hM5]
      exact (h1.cell (p := ⟨g, 0, none⟩) hgl).trans m0
    have HM1 : Hid (∀ wr v9, App d.x.c0 v9 w2 wr → M5 wr) := by
      intro wr v9 h1; rw [hM5]
      exact (World.cell?_of_block (a := ⟨g, 0, none⟩) (h1.other g hgl hng)).trans m0
    have HFZ : Hid (∀ wr v9, App d.x.c0 v9 w2 wr → wr.cell? ⟨g, 0, none⟩ = some d.x.c0 ∧ wr.frozen? ⟨g, 0, none⟩ = false) := by
      intro wr v9 h1
      have h2 := HM1.out wr v9 h1
      rw [hM5] at h2
      exact ⟨h2, frozen_of_row wr g 0 _ 73 ((h1.other g hgl hng).trans hblk)⟩
    have HOWN : Hid (∀ wr, Below w2.heap.size w2 wr → OL 2 84 wr d.x.c0 d.t.nn (fun i => [.string (d.t.N i).1, d.ag i])) := fun wr h1 => (HG2.out.below h1).nodes
    have HNB : Hid (d.t.nn + 1 ≤ 1000000000) := by show _ ≤ _; omega
    have HONE : Hid (∀ (u : Value) (wr : World), CP l w2 u wr → ∀ z ∈ [Value.string s, u], z.oneCell' = true) := by
      intro u wr hcp z hz
      obtain ⟨a9, c9, hv9, -, -, -, -⟩ := hcp.1.shape
      subst hv9
      simp at hz
      rcases hz with rfl | rfl <;> rfl
    have HSET : Hid (∀ wr v9 u, OL 2 84 wr v9 (d.t.nn + 1) (fun i => [.string (upd d.t.N d.t.nn (s, l) i).1, upd d.ag d.t.nn u i]) → App d.x.c0 v9 w2 wr → CP l w2 u wr → MidN g d s l w2 (wr.setCell ⟨g, 0, none⟩ v9)) := fun wr v9 u h1 h2 h3 => HG2.out.mid h2 h1 h3
    clear hG2 hblk m0 hng
    refine wp_region_E (by kernel_rfl) [some 31, some 32, some 33, some 34, some 35, some 36, some 37, some 38, some 39, some 40, some 41, some 42, some 43, none] [none, none, none, none, none, none, none, none, none, none, none, none, none, none, none, none, none, none, none, none, none, none, none, none, none, none, none, none, none, none, none, some 31, some 32, some 33, some 34, some 35, some 36, some 37, some 38, some 39, some 40, some 41, some 42, some 43] (fun U => by kernel_rfl) [fun u => u = (.pointer (some ⟨g, 0, none⟩)), fun u => u = (.pointer (some ⟨g, 0, none⟩)), fun u => u = (.pointer (some ⟨g, 0, none⟩)), fun u => u = (.pointer (some ⟨g, 0, none⟩)), fun u => u = (d.x.c0), fun u => u = (.string s), fun u => u = (.slice ao l.length cap), fun _ => True, fun _ => True, fun _ => True, fun _ => True, fun u => u = (.pointer (some ⟨g, 0, none⟩)), fun u => u = (.pointer (some ⟨g, 0, none⟩)), fun _ => True] (fun L U wr => (L 10 = false → Below w2.heap.size w2 wr) ∧ (L 9 = true → L 10 = false → ONE5 84 [.string s, U 38] (U 40) wr) ∧ (L 10 = true → L 13 = false → OL 2 84 wr (U 41) (d.t.nn + 1) (fun i => [.string (upd d.t.N d.t.nn (s, l) i).1, upd d.ag d.t.nn (U 38) i]) ∧ App d.x.c0 (U 41) w2 wr ∧ U 41 ≠ .slice none 0 0) ∧ (L 7 = true → L 13 = false → CP l w2 (U 38) wr) ∧ (L 8 = true → U 39 = .agg #[.string s, U 38]) ∧ (L 13 = true → (L 0 = true ∧ L 1 = true ∧ L 2 = true ∧ L 3 = true ∧ L 4 = true ∧ L 5 = true ∧ L 6 = true ∧ L 7 = true ∧ L 8 = true ∧ L 9 = true ∧ L 10 = true ∧ L 11 = true ∧ L 12 = true) ∧ MidN g d s l w2 wr)) (by kernel_rfl) (by decide) (by kernel_rfl) (by kernel_rfl) ?_ ?_ ?_
    · exact fun U => ⟨fun _ => (Below.refl _ _).drew, (fun h => by cases h), (fun h => by cases h), (fun h => by cases h), (fun h => by cases h), (fun h => by cases h)⟩
    · refine StepsE.run rfl ?_ ?_
      · intro L U wr hC hP hlk hcl haf A K hFm hK
        simp [Aft, Region.binds] at haf
        have e0 : A.tmps[0]? = some (.pointer (some ⟨g, 0, none⟩)) := (hFm.old 0 (by decide)).trans (by kernel_rfl)
        have HC : Hid _ := hC
        clear hC
        refine ⟨?_⟩
        go_simp
        refine hK _ _ rfl ?_
        obtain ⟨c0, cB, c1, cX, cY, cS⟩ := HC.out
        refine ⟨fun h => c0 (by simpa using h), (fun h1 h2 => by have h9 := cB (by simpa using h1) (by simpa using h2); simpa [updO, Go.Proofs.Ytmnpefiaelpkfac.upd] using h9), (fun h1 h2 => by have h9 := c1 (by simpa using h1) (by simpa using h2); simpa [updO, Go.Proofs.Ytmnpefiaelpkfac.upd] using h9), (fun h1 h2 => by have h9 := cX (by simpa using h1) (by simpa using h2); simpa [updO, Go.Proofs.Ytmnpefiaelpkfac.upd] using h9), (fun h1 => by have h9 := cY (by simpa using h1); simpa [updO, Go.Proofs.Ytmnpefiaelpkfac.upd] using h9), fun h => ?_⟩
        have h9 := cS (by simpa using h)
        exact ⟨by simp [h9.1], h9.2⟩
      refine StepsE.run rfl ?_ ?_
      · intro L U wr hC hP hlk hcl haf A K hFm hK
        simp [Aft, Region.binds] at haf
        have e0 : A.tmps[0]? = some (.pointer (some ⟨g, 0, none⟩)) := (hFm.old 0 (by decide)).trans (by kernel_rfl)
        have HC : Hid _ := hC
        clear hC
        refine ⟨?_⟩
        go_simp
        refine hK _ _ rfl ?_
        obtain ⟨c0, cB, c1, cX, cY, cS⟩ := HC.out
        refine ⟨fun h => c0 (by simpa using h), (fun h1 h2 => by have h9 := cB (by simpa using h1) (by simpa using h2); simpa [updO, Go.Proofs.Ytmnpefiaelpkfac.upd] using h9), (fun h1 h2 => by have h9 := c1 (by simpa using h1) (by simpa using h2); simpa [updO, Go.Proofs.Ytmnpefiaelpkfac.upd] using h9), (fun h1 h2 => by have h9 := cX (by simpa using h1) (by simpa using h2); simpa [updO, Go.Proofs.Ytmnpefiaelpkfac.upd] using h9), (fun h1 => by have h9 := cY (by simpa using h1); simpa [updO, Go.Proofs.Ytmnpefiaelpkfac.upd] using h9), fun h => ?_⟩
        have h9 := cS (by simpa using h)
        exact ⟨by simp [h9.1], h9.2⟩
      refine StepsE.run rfl ?_ ?_
      · intro L U wr hC hP hlk hcl haf A K hFm hK
        simp [Aft, Region.binds] at haf
        have g1 : U 32 = (.pointer (some ⟨g, 0, none⟩)) := hP 1 32 (by simp [haf]) rfl
        have e32 : A.tmps[32]? = some (.pointer (some ⟨g, 0, none⟩)) := hFm.is 1 32 rfl g1
        have HC : Hid _ := hC
        clear hC
        refine ⟨?_⟩
        go_simp
        refine hK _ _ rfl ?_
        obtain ⟨c0, cB, c1, cX, cY, cS⟩ := HC.out
        refine ⟨fun h => c0 (by simpa using h), (fun h1 h2 => by have h9 := cB (by simpa using h1) (by simpa using h2); simpa [updO, Go.Proofs.Ytmnpefiaelpkfac.upd] using h9), (fun h1 h2 => by have h9 := c1 (by simpa using h1) (by simpa using h2); simpa [updO, Go.Proofs.Ytmnpefiaelpkfac.upd] using h9), (fun h1 h2 => by have h9 := cX (by simpa using h1) (by simpa using h2); simpa [updO, Go.Proofs.Ytmnpefiaelpkfac.upd] using h9), (fun h1 => by have h9 := cY (by simpa using h1); simpa [updO, Go.Proofs.Ytmnpefiaelpkfac.upd] using h9), fun h => ?_⟩
        have h9 := cS (by simpa using h)
        exact ⟨by simp [h9.1], h9.2⟩
      refine StepsE.run rfl ?_ ?_
      · intro L U wr hC hP hlk hcl haf A K hFm hK
        simp [Aft, Region.binds] at haf
        have g2 : U 33 = (.pointer (some ⟨g, 0, none⟩)) := hP 2 33 (by simp [haf]) rfl
        have e33 : A.tmps[33]? = some (.pointer (some ⟨g, 0, none⟩)) := hFm.is 2 33 rfl g2
        have HC : Hid _ := hC
        clear hC
        refine ⟨?_⟩
        go_simp
        refine hK _ _ rfl ?_
        obtain ⟨c0, cB, c1, cX, cY, cS⟩ := HC.out
        refine ⟨fun h => c0 (by simpa using h), (fun h1 h2 => by have h9 := cB (by simpa using h1) (by simpa using h2); simpa [updO, Go.Proofs.Ytmnpefiaelpkfac.upd] using h9), (fun h1 h2 => by have h9 := c1 (by simpa using h1) (by simpa using h2); simpa [updO, Go.Proofs.Ytmnpefiaelpkfac.upd] using h9), (fun h1 h2 => by have h9 := cX (by simpa using h1) (by simpa using h2); simpa [updO, Go.Proofs.Ytmnpefiaelpkfac.upd] using h9), (fun h1 => by have h9 := cY (by simpa using h1); simpa [updO, Go.Proofs.Ytmnpefiaelpkfac.upd] using h9), fun h => ?_⟩
        have h9 := cS (by simpa using h)
        exact ⟨by simp [h9.1], h9.2⟩
      refine StepsE.run rfl ?_ ?_
      · intro L U wr hC hP hlk hcl haf A K hFm hK
        simp [Aft, Region.binds] at haf
        have g3 : U 34 = (.pointer (some ⟨g, 0, none⟩)) := hP 3 34 (by simp [haf]) rfl
        have e34 : A.tmps[34]? = some (.pointer (some ⟨g, 0, none⟩)) := hFm.is 3 34 rfl g3
        have hM8 : M5 wr := by
          obtain ⟨c0, cB, c1, cX, cY, cS⟩ := hC
          have hs : L 13 = false := by cases h : L 13 with | false => rfl | true => exact absurd (cS h).1 (by simp [hlk])
          cases h14 : L 10 with
          | false => exact HM0.out wr (c0 h14)
          | true => exact HM1.out wr (U 41) (c1 h14 hs).2.1
        rw [hM5] at hM8
        have m7 := hM8
        have HC : Hid _ := hC
        clear hC
        refine ⟨?_⟩
        go_simp
        refine hK _ _ rfl ?_
        obtain ⟨c0, cB, c1, cX, cY, cS⟩ := HC.out
        refine ⟨fun h => c0 (by simpa using h), (fun h1 h2 => by have h9 := cB (by simpa using h1) (by simpa using h2); simpa [updO, Go.Proofs.Ytmnpefiaelpkfac.upd] using h9), (fun h1 h2 => by have h9 := c1 (by simpa using h1) (by simpa using h2); simpa [updO, Go.Proofs.Ytmnpefiaelpkfac.upd] using h9), (fun h1 h2 => by have h9 := cX (by simpa using h1) (by simpa using h2); simpa [updO, Go.Proofs.Ytmnpefiaelpkfac.upd] using h9), (fun h1 => by have h9 := cY (by simpa using h1); simpa [updO, Go.Proofs.Ytmnpefiaelpkfac.upd] using h9), fun h => ?_⟩
        have h9 := cS (by simpa using h)
        exact ⟨by simp [h9.1], h9.2⟩
      refine StepsE.run rfl ?_ ?_
      · intro L U wr hC hP hlk hcl haf A K hFm hK
        simp [Aft, Region.binds] at haf
        have e1 : A.tmps[1]? = some (.string s) := (hFm.old 1 (by decide)).trans (by kernel_rfl)
        have HC : Hid _ := hC
        clear hC
        refine ⟨?_⟩
        go_simp
        refine hK _ _ rfl ?_
        obtain ⟨c0, cB, c1, cX, cY, cS⟩ := HC.out
        refine ⟨fun h => c0 (by simpa using h), (fun h1 h2 => by have h9 := cB (by simpa using h1) (by simpa using h2); simpa [updO, Go.Proofs.Ytmnpefiaelpkfac.upd] using h9), (fun h1 h2 => by have h9 := c1 (by simpa using h1) (by simpa using h2); simpa [updO, Go.Proofs.Ytmnpefiaelpkfac.upd] using h9), (fun h1 h2 => by have h9 := cX (by simpa using h1) (by simpa using h2); simpa [updO, Go.Proofs.Ytmnpefiaelpkfac.upd] using h9), (fun h1 => by have h9 := cY (by simpa using h1); simpa [updO, Go.Proofs.Ytmnpefiaelpkfac.upd] using h9), fun h => ?_⟩
        have h9 := cS (by simpa using h)
        exact ⟨by simp [h9.1], h9.2⟩
      refine StepsE.run rfl ?_ ?_
      · intro L U wr hC hP hlk hcl haf A K hFm hK
        simp [Aft, Region.binds] at haf
        have e2 : A.tmps[2]? = some (.slice ao l.length cap) := (hFm.old 2 (by decide)).trans (by kernel_rfl)
        have HC : Hid _ := hC
        clear hC
        refine ⟨?_⟩
        go_simp
        refine hK _ _ rfl ?_
        obtain ⟨c0, cB, c1, cX, cY, cS⟩ := HC.out
        refine ⟨fun h => c0 (by simpa using h), (fun h1 h2 => by have h9 := cB (by simpa using h1) (by simpa using h2); simpa [updO, Go.Proofs.Ytmnpefiaelpkfac.upd] using h9), (fun h1 h2 => by have h9 := c1 (by simpa using h1) (by simpa using h2); simpa [updO, Go.Proofs.Ytmnpefiaelpkfac.upd] using h9), (fun h1 h2 => by have h9 := cX (by simpa using h1) (by simpa using h2); simpa [updO, Go.Proofs.Ytmnpefiaelpkfac.upd] using h9), (fun h1 => by have h9 := cY (by simpa using h1); simpa [updO, Go.Proofs.Ytmnpefiaelpkfac.upd] using h9), fun h => ?_⟩
        have h9 := cS (by simpa using h)
        exact ⟨by simp [h9.1], h9.2⟩
      refine StepsE.run rfl ?_ ?_
      · intro L U wr hC hP hlk hcl haf A K hFm hK
        simp [Aft, Region.binds] at haf
        have g6 : U 37 = (.slice ao l.length cap) := hP 6 37 (by simp [haf]) rfl
        have e37 : A.tmps[37]? = some (.slice ao l.length cap) := hFm.is 6 37 rfl g6
        have hs13 : L 13 = false := by cases h : L 13 with | false => rfl | true => exact absurd (hC.2.2.2.2.2 h).1 (by simp [hlk])
        have n8 : L 8 = false := by cases h : L 8 with | false => rfl | true => have h9 := hcl 8 _ rfl h; simp [Aft, Region.binds, hlk] at h9
        have n9 : L 9 = false := by cases h : L 9 with | false => rfl | true => have h9 := hcl 9 _ rfl h; simp [Aft, Region.binds, n8] at h9
        have n10 : L 10 = false := by cases h : L 10 with | false => rfl | true => have h9 := hcl 10 _ rfl h; simp [Aft, Region.binds, n9] at h9
        refine ⟨?_⟩
        obtain ⟨c0, cB, c1, cX, cY, cS⟩ := hC
        have hbw9 := c0 n10
        have hseg9 := HSEG.out.below hbw9
        clear c0 cX
        have HSEG9 : Hid _ := And.intro hseg9 (And.intro hbw9 (And.intro cB (And.intro c1 (And.intro cY cS))))
        clear hseg9 hbw9 cB c1 cY cS
        go_simp
        refine (copied_e ao l.length cap l wr rfl HL.out HSEG9.out.1).mono ?_
        rintro e w1 ⟨rfl, hol9, hb9⟩
        go_simp
        have hb8 := HSEG9.out.2.1
        refine hK _ _ trivial ⟨fun _ => ?_, fun h1 _ => ?_, fun h1 _ => ?_, fun _ _ => ?_, fun h => ?_, fun h => ?_⟩
        · exact hb8.trans (hb9.mono hb8.size)
        · simp [n9] at h1
        · simp [n10] at h1
        · exact ⟨by simpa [updO, Go.Proofs.Ytmnpefiaelpkfac.upd] using hol9, wr.heap.size, by simp [updO, Go.Proofs.Ytmnpefiaelpkfac.upd, Value.ownBlock], hb8.size⟩
        · simp [n8] at h
        · simp [hs13] at h
      refine StepsE.run rfl ?_ ?_
      · intro L U wr hC hP hlk hcl haf A K hFm hK
        simp [Aft, Region.binds] at haf
        have g5 : U 36 = (.string s) := hP 5 36 (by simp [haf]) rfl
        have e36 : A.tmps[36]? = some (.string s) := hFm.is 5 36 rfl g5
        have e38 : A.tmps[38]? = some (U 38) := hFm.got 7 38 rfl
        have hs13 : L 13 = false := by cases h : L 13 with | false => rfl | true => exact absurd (hC.2.2.2.2.2 h).1 (by simp [hlk])
        have l7 : L 7 = true := by simp [haf]
        have n9 : L 9 = false := by cases h : L 9 with | false => rfl | true => have h9 := hcl 9 _ rfl h; simp [Aft, Region.binds, hlk] at h9
        have n10 : L 10 = false := by cases h : L 10 with | false => rfl | true => have h9 := hcl 10 _ rfl h; simp [Aft, Region.binds, n9] at h9
        refine ⟨?_⟩
        obtain ⟨c0, cB, c1, cX, cY, cS⟩ := hC
        obtain ⟨a9, c9, hv38, -, -, -, -⟩ := (cX l7 hs13).1.shape
        have HV38 : Hid _ := hv38
        replace e38 := e38.trans (congrArg some hv38)
        clear hv38
        have HC : Hid _ := And.intro c0 (And.intro cX cS)
        clear c0 cB c1 cX cY cS
        go_simp
        refine hK _ _ trivial ⟨fun _ => HC.out.1 n10, fun h1 _ => ?_, fun h1 _ => ?_, fun h1 h2 => ?_, fun _ => ?_, fun h => ?_⟩
        · simp [n9] at h1
        · simp [n10] at h1
        · have h9 := HC.out.2.1 (by simpa using h1) hs13
          simpa [updO, Go.Proofs.Ytmnpefiaelpkfac.upd] using h9
        · simp [updO, Go.Proofs.Ytmnpefiaelpkfac.upd, HV38.out]
        · simp [hs13] at h
      refine StepsE.run rfl ?_ ?_
      · intro L U wr hC hP hlk hcl haf A K hFm hK
        simp [Aft, Region.binds] at haf
        have e39 : A.tmps[39]? = some (U 39) := hFm.got 8 39 rfl
        have hs13 : L 13 = false := by cases h : L 13 with | false => rfl | true => exact absurd (hC.2.2.2.2.2 h).1 (by simp [hlk])
        have l8 : L 8 = true := by simp [haf]
        have hA9 : L 10 = false := by cases h : L 10 with | false => rfl | true => have h9 := hcl 10 _ rfl h; simp [Aft, Region.binds, hlk] at h9
        refine ⟨?_⟩
        obtain ⟨c0, cB, c1, cX, cY, cS⟩ := hC
        have g39 := cY l8
        have e39b : A.tmps[39]? = some (.agg #[.string s, U 38]) := e39.trans (congrArg some g39)
        have HC : Hid _ := And.intro c0 (And.intro cX (And.intro cY cS))
        clear c0 cB c1 cX cY cS g39 e39
        go_simp
        refine hK _ _ trivial ⟨fun _ => ?_, fun _ _ => ?_, fun h1 _ => ?_, fun h1 h2 => ?_, fun h => ?_, fun h => ?_⟩
        · exact ((HC.out.1 hA9).alloc (HC.out.1 hA9).size _)
        · exact ⟨wr.heap.size, by simp [updO, Go.Proofs.Ytmnpefiaelpkfac.upd], by simp only [updO, Go.Proofs.Ytmnpefiaelpkfac.upd]; exact heap_alloc_new wr _⟩
        · simp [hA9] at h1
        · have h9 := HC.out.2.1 (by simpa using h1) hs13
          have h8 := h9.stay (wr' := wr.alloc (.cells #[.string s, U 38] 84 (0, 0))) (fun b hb => Below.heap_alloc wr _ b (h9.1.lt hb))
          simpa [updO, Go.Proofs.Ytmnpefiaelpkfac.upd] using h8
        · have h9 := HC.out.2.2.1 (by simpa using h)
          simpa [updO, Go.Proofs.Ytmnpefiaelpkfac.upd] using h9
        · simp [hs13] at h
      refine StepsE.run rfl ?_ ?_
      · intro L U wr hC hP hlk hcl haf A K hFm hK
        simp [Aft, Region.binds] at haf
        have g4 : U 35 = (d.x.c0) := hP 4 35 (by simp [haf]) rfl
        have e35 : A.tmps[35]? = some (d.x.c0) := hFm.is 4 35 rfl g4
        have e40 : A.tmps[40]? = some (U 40) := hFm.got 9 40 rfl
        have hs13 : L 13 = false := by cases h : L 13 with | false => rfl | true => exact absurd (hC.2.2.2.2.2 h).1 (by simp [hlk])
        have l9 : L 9 = true := by simp [haf]
        have a9 := hcl 9 _ rfl l9
        simp [Aft, Region.binds] at a9
        have l8 : L 8 = true := by simp [a9]
        have a8 := hcl 8 _ rfl l8
        simp [Aft, Region.binds] at a8
        have l7 : L 7 = true := by simp [a8]
        refine ⟨?_⟩
        obtain ⟨c0, cB, c1, cX, cY, cS⟩ := hC
        have hcp := cX l7 hs13
        refine wp_push1 (.tmp 35) (.tmp 40) 25 rfl 2 84 _ 40 uNodes iNode (by decide) rfl (by decide) d.x.c0 d.t.nn (fun i => [.string (d.t.N i).1, d.ag i]) (by simp [Act.eval, e35]) (HOWN.out wr (c0 hlk)) (fun _ _ => rfl) [.string s, U 38] 84 (U 40) (cB l9 hlk) (by simp [Act.eval, e40]) rfl (HONE.out _ _ hcp) HNB.out (fun i => [.string (upd d.t.N d.t.nn (s, l) i).1, upd d.ag d.t.nn (U 38) i]) (fun k hk => by simp [upd, Nat.ne_of_lt hk]) (by simp [upd]) ?_
        intro v9 w9 hol9 hap9 hne9
        refine hK _ _ trivial ⟨fun h => ?_, fun _ h => ?_, fun _ _ => ?_, fun _ _ => ?_, fun h => ?_, fun h => ?_⟩
        · simp at h
        · simp at h
        · simp only [updO, Go.Proofs.Ytmnpefiaelpkfac.upd, beq_self_eq_true, cond_true]; exact ⟨hol9, hap9.ofBelow (c0 hlk), hne9⟩
        · have h8 := hcp.stay (wr' := w9) (fun b hb => hap9.other b (hcp.1.lt hb) (fun hc => hcp.1.ne (HOWN.out wr (c0 hlk)) (by decide) hb hc))
          simpa [updO, Go.Proofs.Ytmnpefiaelpkfac.upd] using h8
        · have h9 := cY (by simpa using h)
          simpa [updO, Go.Proofs.Ytmnpefiaelpkfac.upd] using h9
        · simp [hs13] at h
      refine StepsE.run rfl ?_ ?_
      · intro L U wr hC hP hlk hcl haf A K hFm hK
        simp [Aft, Region.binds] at haf
        have g0 : U 31 = (.pointer (some ⟨g, 0, none⟩)) := hP 0 31 (by simp [haf]) rfl
        have e31 : A.tmps[31]? = some (.pointer (some ⟨g, 0, none⟩)) := hFm.is 0 31 rfl g0
        have HC : Hid _ := hC
        clear hC
        refine ⟨?_⟩
        go_simp
        refine hK _ _ rfl ?_
        obtain ⟨c0, cB, c1, cX, cY, cS⟩ := HC.out
        refine ⟨fun h => c0 (by simpa using h), (fun h1 h2 => by have h9 := cB (by simpa using h1) (by simpa using h2); simpa [updO, Go.Proofs.Ytmnpefiaelpkfac.upd] using h9), (fun h1 h2 => by have h9 := c1 (by simpa using h1) (by simpa using h2); simpa [updO, Go.Proofs.Ytmnpefiaelpkfac.upd] using h9), (fun h1 h2 => by have h9 := cX (by simpa using h1) (by simpa using h2); simpa [updO, Go.Proofs.Ytmnpefiaelpkfac.upd] using h9), (fun h1 => by have h9 := cY (by simpa using h1); simpa [updO, Go.Proofs.Ytmnpefiaelpkfac.upd] using h9), fun h => ?_⟩
        have h9 := cS (by simpa using h)
        exact ⟨by simp [h9.1], h9.2⟩
      refine StepsE.run rfl ?_ ?_
      · intro L U wr hC hP hlk hcl haf A K hFm hK
        simp [Aft, Region.binds] at haf
        have g11 : U 42 = (.pointer (some ⟨g, 0, none⟩)) := hP 11 42 (by simp [haf]) rfl
        have e42 : A.tmps[42]? = some (.pointer (some ⟨g, 0, none⟩)) := hFm.is 11 42 rfl g11
        have HC : Hid _ := hC
        clear hC
        refine ⟨?_⟩
        go_simp
        refine hK _ _ rfl ?_
        obtain ⟨c0, cB, c1, cX, cY, cS⟩ := HC.out
        refine ⟨fun h => c0 (by simpa using h), (fun h1 h2 => by have h9 := cB (by simpa using h1) (by simpa using h2); simpa [updO, Go.Proofs.Ytmnpefiaelpkfac.upd] using h9), (fun h1 h2 => by have h9 := c1 (by simpa using h1) (by simpa using h2); simpa [updO, Go.Proofs.Ytmnpefiaelpkfac.upd] using h9), (fun h1 h2 => by have h9 := cX (by simpa using h1) (by simpa using h2); simpa [updO, Go.Proofs.Ytmnpefiaelpkfac.upd] using h9), (fun h1 => by have h9 := cY (by simpa using h1); simpa [updO, Go.Proofs.Ytmnpefiaelpkfac.upd] using h9), fun h => ?_⟩
        have h9 := cS (by simpa using h)
        exact ⟨by simp [h9.1], h9.2⟩
      refine StepsE.run rfl ?_ StepsE.nil
      · intro L U wr hC hP hlk hcl haf A K hFm hK
        simp [Aft, Region.binds] at haf
        have g12 : U 43 = (.pointer (some ⟨g, 0, none⟩)) := hP 12 43 (by simp [haf]) rfl
        have e43 : A.tmps[43]? = some (.pointer (some ⟨g, 0, none⟩)) := hFm.is 12 43 rfl g12
        have e41 : A.tmps[41]? = some (U 41) := hFm.got 10 41 rfl
        have HCY : Hid _ := hC.2.2.2.2.1
        have l12 : L 12 = true := by simp [haf]
        have l10 : L 10 = true := by simp [haf]
        have a12 := hcl 12 _ rfl l12
        simp [Aft, Region.binds] at a12
        have l11 : L 11 = true := by simp [a12]
        have a10 := hcl 10 _ rfl l10
        simp [Aft, Region.binds] at a10
        have l4 : L 4 = true := by simp [a10]
        have l9 : L 9 = true := by simp [a10]
        have a11 := hcl 11 _ rfl l11
        simp [Aft, Region.binds] at a11
        have l0 : L 0 = true := by simp [a11]
        have a4 := hcl 4 _ rfl l4
        simp [Aft, Region.binds] at a4
        have l3 : L 3 = true := by simp [a4]
        have a9 := hcl 9 _ rfl l9
        simp [Aft, Region.binds] at a9
        have l8 : L 8 = true := by simp [a9]
        have a3 := hcl 3 _ rfl l3
        simp [Aft, Region.binds] at a3
        have l2 : L 2 = true := by simp [a3]
        have a8 := hcl 8 _ rfl l8
        simp [Aft, Region.binds] at a8
        have l5 : L 5 = true := by simp [a8]
        have l7 : L 7 = true := by simp [a8]
        have a2 := hcl 2 _ rfl l2
        simp [Aft, Region.binds] at a2
        have l1 : L 1 = true := by simp [a2]
        have a7 := hcl 7 _ rfl l7
        simp [Aft, Region.binds] at a7
        have l6 : L 6 = true := by simp [a7]
        refine ⟨?_⟩
        obtain ⟨c0, cB, c1, cX, cY, cS⟩ := hC
        obtain ⟨hol9, hap9, hne9⟩ := c1 l10 hlk
        have HKK : Hid _ := HSET.out wr (U 41) (U 38) hol9 hap9 (cX l7 hlk)
        obtain ⟨k4, k5⟩ := HFZ.out wr (U 41) hap9
        obtain ⟨ao9, cc9, hv9, -, -, -, -⟩ := hol9.shape
        obtain ⟨nl, hnl⟩ : ∃ nl, nl = d.t.nn + 1 := ⟨_, rfl⟩
        rw [← hnl] at hv9
        clear hnl
        have e41 : A.tmps[41]? = some (.slice ao9 nl cc9) := hFm.is 10 41 rfl hv9
        rw [hv9] at HKK
        clear hol9 hap9 hne9 c0 cB c1 cX cY cS
        go_simp
        refine hK (.tuple #[]) _ trivial ⟨fun h => ?_, fun _ h => ?_, fun _ h => ?_, fun _ h => ?_, fun h => ?_, fun _ => ⟨?_, HKK.out⟩⟩
        · simp [l10] at h
        · simp [l10] at h
        · simp at h
        · simp at h
        · have h9 := HCY.out (by simpa using h)
          simpa [updO, Go.Proofs.Ytmnpefiaelpkfac.upd] using h9
        · simp [l0, l1, l2, l3, l4, l5, l6, l7, l8, l9, l10, l11, l12]
    intro L U5 V5 hall hC hP
    have hE := (hC.2.2.2.2.2 (hall 13 (by decide))).2
    clear hC hP hall hM5 HM0 HM1 HFZ HOWN HSET HONE HSEG
    obtain ⟨v, u, k1, k2, k3, k4, k5, k6⟩ := hE
    simp only [setM_some, setM_none, setM_nil]
    have HK : Hid _ := And.intro k1 (And.intro k2 (And.intro k3 (And.intro k4 (And.intro k5 k6))))
    have hgl5 := k1.cw.lt
    have HAP5 : Hid (0 < l.length → ∀ b off, ao = some ⟨b, off, none⟩ → ¬ Fa g { d with x := { d.x with c0 := v } } b) := fun h0 b off e h9 => HAP.out h0 b off e (Or.inr h9)
    have HSEG5 : Hid (Seg .i64 V5 ao l) := by
      show Seg _ _ _ _
      by_cases h0 : 0 < l.length
      · exact (HV.out.below HB2.out).mv k5 (fun b off e h9 => HAP.out h0 b off e (h9.elim (fun h => Or.inr (Or.inl h)) Or.inl))
      · exact Or.inl (List.length_eq_zero_iff.1 (by omega))
    clear k1 k2 k3 k4 k5 k6
    go_wp2_with fail
    refine (add_any g { d with x := { d.x with c0 := v } } s l ao cap V5 HK.out.1 HT.out HS.out HL.out HSEG5.out HAP5.out HIN.out HNO.out HNP.out (by show d.t.nn ≤ _; omega)).mono ?_
    rintro e w6 ⟨rfl, hA⟩
    have HA : Hid (AddEnd g { d with x := { d.x with c0 := v } } s l V5 w6) := hA
    clear hA hgl5
    go_wp2
    refine bodyPost_ret (v := .tuple #[.int .i64 (d.t.nn : Nat), .int .i64 0]) (by simp [results, Try.results28, go_sem]) rfl ?_
    refine ⟨d.t.nn, rfl, Or.inr ⟨rfl, HNO.out, ?_⟩⟩
    obtain ⟨k1, k2, k3, k4, k5, k6⟩ := HK.out
    obtain ⟨d', q1, q2, q3, q4, q5, q6, u7, b7, q7, q8, q9⟩ := MidN.done (w := w) HG2.out k2 k3 k4 k1 k5.size HA.out
    have hsz : w.heap.size ≤ V5.heap.size := Nat.le_trans HB2.out.size k5.size
    refine ⟨d', q1, q2, ?_, fun b hb => ?_, u7, b7, q7, q8, Nat.le_trans HB2.out.size q9⟩
    · have j1 : Mv (Fn g d) w V5 := (Mv.below (F := Fn g d) HB2.out).trans k5 (fun b hb => Or.inl (hb.elim (fun h9 => Or.inr (Or.inl h9)) Or.inl))
      exact j1.trans q4 (fun b hb => Or.inl (Or.inr hb))
    · rcases hb with hb | hb | hb | hb | hb | hb
      · rw [q3] at hb
        rcases k6 with h9 | ⟨b', h9, h10⟩
        · exact Or.inl (Or.inl (h9.symm.trans hb))
        · right
          have := h9.symm.trans hb
          injection this with this
          have := HB2.out.size
          omega
      · exact Or.inl (Or.inr (Or.inl hb))
      · rcases q5 with h9 | ⟨b', h9, h10⟩
        · exact Or.inl (Or.inr (Or.inr (Or.inl (h9.symm.trans hb))))
        · right
          have := h9.symm.trans hb
          injection this with this
          omega
      · rcases q6 with h9 | ⟨b', h9, h10⟩
        · exact Or.inl (Or.inr (Or.inr (Or.inr (Or.inl (h9.symm.trans hb)))))
        · right
          have := h9.symm.trans hb
          injection this with this
          omega
      · exact Or.inl (Or.inr (Or.inr (Or.inr (Or.inr (Or.inl (hb.trans q1.r.2.2.2.1))))))
      · exact Or.inl (Or.inr (Or.inr (Or.inr (Or.inr (Or.inr (hb.trans q1.r.2.2.2.2.1))))))
end Euf
end Go.Proofs.Ytmnpefiaelpkfac
/- For the contracts of New, Equal and Same; it proves no statement of the seat. -/
namespace Go.Proofs.Ytmnpefiaelpkfac
open Go.RowKit
set_option linter.unusedVariables false
namespace Euf
theorem uEqs : Try.prog.underlying 69 = some (.slice 88) := by kernel_rfl
theorem iEq : (Try.prog.info? 88).map (fun i => (i.zero, i.size, i.bytes)) = some (some (.agg #[.int .i64 0, .int .i64 0, .int .i64 0]), 3, 24) := by kernel_rfl
def eqC (E : Nat → Nat × Nat × Nat) (i : Nat) : List Value := [.int .i64 ((E i).1 : Nat), .int .i64 ((E i).2.1 : Nat), .int .i64 ((E i).2.2 : Nat)]
/-- All the blocks that belong to the graph. -/
def Fg (g : Nat) (d : Gd) (b : Nat) : Prop := Fn g d b ∨ d.x.c1.ownBlock = some b ∨ Ft g d.x d.y d.s.ns b
/-- With one equation more. -/
def dE (d : Gd) (v : Value) (e : Nat × Nat × Nat) : Gd := { d with x := { d.x with c1 := v }, f := { d.f with ne := d.f.ne + 1, E := upd d.f.E d.f.ne e } }
theorem GW.pushEq {w w1 : World} {g : Nat} {d : Gd} (h : GW w g d) (e : Nat × Nat × Nat) {v : Value} (hap : App d.x.c1 v w w1) (hol : OL 3 88 w1 v (d.f.ne + 1) (eqC (upd d.f.E d.f.ne e))) :
    GW (w1.setCell ⟨g, 1, none⟩ v) g (dE d v e) ∧ Mv (Fg g d) w (w1.setCell ⟨g, 1, none⟩ v) ∧ (∀ b, Fg g (dE d v e) b → Fg g d b ∨ w.heap.size ≤ b) := by
  have ho := h.cw.eqs
  have keep : ∀ b, b < w.heap.size → d.x.c1.ownBlock ≠ some b → b ≠ g → (w1.setCell ⟨g, 1, none⟩ v).heap[b]? = w.heap[b]? := fun b hb h1 h2 => (heap_setCell_other w1 ⟨g, 1, none⟩ b v h2).trans (hap.other b hb h1)
  have hg : w1.heap[g]? = _ := (hap.other g h.cw.lt (ho.neB h.cw.blk (by decide))).trans h.cw.blk
  have other : ∀ {sz : Nat} {e : TypeId} {v' : Value} {n : Nat} {f' : Nat → List Value}, OL sz e w v' n f' → e ≠ 88 → e ≠ 73 → OL sz e (w1.setCell ⟨g, 1, none⟩ v) v' n f' := by
    intro sz e v' n f' hv h1 h2
    refine hv.stay fun b hb => keep b (hv.lt hb) (fun hc => hv.ne ho h1 hb hc) (fun e' => hv.neB h.cw.blk h2 (by rw [hb, e']))
  have mp : ∀ {K E : TypeId} {b k : Nat} {m : Value → Option Int}, MapF Try.prog K E w b k m → MapF Try.prog K E (w1.setCell ⟨g, 1, none⟩ v) b k m := by
    intro K E b k m hm
    refine hm.stay (keep _ hm.lt (fun hc => ho.neM hm hc) (fun e' => ?_))
    obtain ⟨es, cl, he⟩ := hm.isMap
    rw [e', h.cw.blk] at he
    cases he
  refine ⟨{ cw := { blk := ?_, parts := other h.cw.parts (by decide) (by decide), whole := other h.cw.whole (by decide) (by decide), eqs := ?_, spots := other h.cw.spots (by decide) (by decide), uses := fun i hi => other (h.cw.uses i hi) (by decide) (by decide), claims := other h.cw.claims (by decide) (by decide), sig := mp h.cw.sig, apart := h.cw.apart, apartW := h.cw.apartW, small := h.cw.small }, c2 := h.c2, c3 := h.c3, nodes := other h.nodes (by decide) (by decide), args := fun i hi => other (h.args i hi) (by decide) (by decide), heads := mp h.heads, pairs := mp h.pairs, mne := h.mne, ap1 := h.ap1, ap2 := h.ap2 }, ?_, ?_⟩
  · exact (heap_setCell_same w1 g 1 _ 73 v hg).trans rfl
  · exact hol.stay fun b hb => heap_setCell_other w1 ⟨g, 1, none⟩ b v (fun e' => hol.neB hg (by decide) (by rw [hb, e']))
  · exact ⟨hap.os, hap.tape, hap.output, by simp; exact hap.size, fun b hb hn => keep b hb (fun hc => hn (Or.inr (Or.inl hc))) (fun e' => hn (Or.inl (Or.inr (Or.inl e'))))⟩
  · rintro b (h1 | h1 | h1)
    · exact Or.inl (Or.inl h1)
    · rcases hap.at_ with h2 | ⟨b', h2, h3⟩
      · exact Or.inl (Or.inr (Or.inl (h2.symm.trans h1)))
      · right
        have := h2.symm.trans h1
        injection this with this
        omega
    · exact Or.inl (Or.inr (Or.inr h1))
/-- After the classes were made. -/
def dR (d : Gd) (m : Nat) (y : Ly) (s : Sx) : Gd := { d with m := m, y := y, s := s }
theorem GW.ran {w w' : World} {g : Nat} {d : Gd} (h : GW w g d) {m : Nat} {y : Ly} {s : Sx} (hC : CW w' g d.x d.f m y s) (hM : Mv (Ft g d.x d.y d.s.ns) w w') (hF : ∀ b, Ft g d.x y s.ns b → Ft g d.x d.y d.s.ns b ∨ w.heap.size ≤ b) :
    GW w' g (dR d m y s) ∧ Mv (Fg g d) w w' ∧ (∀ b, Fg g (dR d m y s) b → Fg g d b ∨ w.heap.size ≤ b) := by
  have nargs : ∀ i, i < d.t.nn → ∀ b, (d.ag i).ownBlock = some b → ¬ Ft g d.x d.y d.s.ns b := by
    intro i hi b hb
    have ha := h.args i hi
    rintro (e | e | e | e | ⟨j, hj, e⟩)
    · exact ha.neB h.cw.blk (by decide) (by rw [hb, e])
    · exact ha.neM h.cw.sig (by rw [hb, e])
    · exact ha.ne h.cw.spots (by decide) hb e
    · exact ha.ne h.cw.claims (by decide) hb e
    · exact h.ap2 i hi j hj b hb e
  have mp : ∀ {K E : TypeId} {b k : Nat} {m : Value → Option Int}, MapF Try.prog K E w b k m → b ≠ d.x.bG → MapF Try.prog K E w' b k m := by
    intro K E b k m hm hne
    refine hm.stay (hM.other _ hm.lt ?_)
    rintro (e | e | e | e | ⟨j, hj, e⟩)
    · obtain ⟨es, cl, he⟩ := hm.isMap
      rw [e, h.cw.blk] at he
      cases he
    · exact hne e
    · exact h.cw.spots.neM hm e
    · exact h.cw.claims.neM hm e
    · exact (h.cw.uses j hj).neM hm e
  refine ⟨{ cw := hC, c2 := h.c2, c3 := h.c3, nodes := ?_, args := fun i hi => (h.args i hi).stay fun b hb => hM.other b ((h.args i hi).lt hb) (nargs i hi b hb), heads := mp h.heads h.mne.2.1, pairs := mp h.pairs h.mne.2.2, mne := h.mne, ap1 := h.ap1, ap2 := ?_ }, ?_, ?_⟩
  · have ha := h.nodes
    refine ha.stay fun b hb => hM.other b (ha.lt hb) ?_
    rintro (e | e | e | e | ⟨j, hj, e⟩)
    · exact ha.neB h.cw.blk (by decide) (by rw [hb, e])
    · exact ha.neM h.cw.sig (by rw [hb, e])
    · exact ha.ne h.cw.spots (by decide) hb e
    · exact ha.ne h.cw.claims (by decide) hb e
    · exact ha.ne (h.cw.uses j hj) (by decide) hb e
  · intro i hi j hj b hb hc
    rcases hF b (Or.inr (Or.inr (Or.inr (Or.inr ⟨j, hj, hc⟩)))) with h9 | h9
    · exact nargs i hi b hb h9
    · have := (h.args i hi).lt hb; omega
  · exact ⟨hM.os, hM.tape, hM.output, hM.size, fun b hb hn => hM.other b hb (fun h9 => hn (Or.inr (Or.inr h9)))⟩
  · rintro b (h1 | h1 | h1)
    · exact Or.inl (Or.inl h1)
    · exact Or.inl (Or.inr (Or.inl h1))
    · rcases hF b h1 with h9 | h9
      · exact Or.inl (Or.inr (Or.inr h9))
      · exact Or.inr h9
theorem GW.lt {w : World} {g : Nat} {d : Gd} (h : GW w g d) {b : Nat} (hb : Fg g d b) : b < w.heap.size := by
  rcases hb with (hb | hb | hb | hb | hb | hb) | hb | hb
  · exact h.nodes.lt hb
  · rw [hb]; exact h.cw.lt
  · exact h.cw.parts.lt hb
  · exact h.cw.whole.lt hb
  · rw [hb]; exact h.heads.lt
  · rw [hb]; exact h.pairs.lt
  · exact h.cw.eqs.lt hb
  · exact h.cw.ftLt hb
/-- Two ints that lie by themselves. -/
theorem ai_two {w : World} {b : Nat} {x y : Int} (h : w.heap[b]? = some (.cells #[.int .i64 x, .int .i64 y] 3 (0, 0))) (cap : Nat) : AI w (.slice (some ⟨b, 0, none⟩) 2 cap) [x, y] := by
  refine ⟨_, cap, rfl, by simp, Or.inr ⟨b, 0, rfl, (Array.getElem?_eq_some_iff.1 h).1, fun i hi => ?_⟩⟩
  simp only [List.length_cons, List.length_nil] at hi
  rw [Nat.zero_add]
  match i with
  | 0 => exact cell_of_row _ b 0 _ 3 (0, 0) h
  | 1 => exact cell_of_row _ b 1 _ 3 (0, 0) h
  | k + 2 => omega
end Euf
end Go.Proofs.Ytmnpefiaelpkfac
/- Contracts of New, Equal and Same; they prove no statement of the seat. -/
namespace Go.Proofs.Ytmnpefiaelpkfac
open Go.RowKit
set_option linter.unusedVariables false
namespace Euf
/-- The graph without nodes. -/
def dNew (n : Nat) : Gd :=
  { x := { c0 := .slice none 0 0, c1 := .slice none 0 0, c2 := .map (some n), c3 := .map (some (n + 1)), vP := .slice none 0 0, vW := .slice none 0 0, bG := n + 2 }
    f := { np := 0, P := fun _ => ⟨0, 0, 0⟩, nw := 0, W := fun _ => 0, ne := 0, E := fun _ => (0, 0, 0) }, m := 0
    y := { vS := .slice none 0 0, vC := .slice none 0 0, au := fun _ => .slice none 0 0 }, s := { ns := 0, S := fun _ => ⟨0, 0, 0, 0, 0, 0, []⟩, sg := fun _ => none, cl := [] }
    t := { nn := 0, N := fun _ => (ByteArray.empty, []), lab := fun _ => (ByteArray.empty, 0, []), hd := fun _ => none, pr := fun _ => none }, bH := n, bR := n + 1, ag := fun _ => .slice none 0 0 }
theorem dNew_ok (n : Nat) : TOk (dNew n).f (dNew n).t none := by
  refine { nw := rfl, inj := fun i j hi => absurd hi (Nat.not_lt_zero _), hd1 := fun s n p h => (by cases h), hd2 := fun s n p hp => absurd hp (Nat.not_lt_zero _), pr1 := fun p q r h => (by cases h), pr2 := fun r s n l a p hr => absurd hr (Nat.not_lt_zero _), pre := fun r s n l a hr => absurd hr (Nat.not_lt_zero _), root := fun r s n hr => absurd hr (Nat.not_lt_zero _), whole := fun a ha => absurd ha (Nat.not_lt_zero _), node := fun r s n l hr => absurd hr (Nat.not_lt_zero _), args := fun a ha => absurd ha (Nat.not_lt_zero _) }
theorem mapF_none {w : World} {K E : TypeId} {b : Nat} (h : w.heap[b]? = some (.map #[] 0)) {m : Value → Option Int} (hm : ∀ v, m v = none) : MapF Try.prog K E w b 0 m := by
  have h1 := MapF.made default Try.prog K E
  have h2 : MapF Try.prog K E w b 0 (fun _ => none) := by
    obtain ⟨D, ⟨es, cl, h3, h4⟩, h5⟩ := h1
    rw [heap_alloc_new] at h3
    cases h3
    exact ⟨D, ⟨_, _, h, h4⟩, h5⟩
  have : m = fun _ => none := funext hm
  rw [this]; exact h2
theorem sgF_none (v : Value) : sgF (fun _ => none) v = none := by
  cases h : sgF (fun _ => none) v with
  | none => rfl
  | some z => obtain ⟨a, b, q, _, h1, _⟩ := sgF_some h; cases h1
theorem hdF_none (v : Value) : hdF (fun _ => none) v = none := by
  cases h : hdF (fun _ => none) v with
  | none => rfl
  | some z => obtain ⟨a, b, q, _, h1, _⟩ := hdF_some h; cases h1
theorem dNew_gw {w : World} {n : Nat} (h0 : w.heap[n]? = some (.map #[] 0)) (h1 : w.heap[n + 1]? = some (.map #[] 0)) (h2 : w.heap[n + 2]? = some (.map #[] 0))
    (h3 : w.heap[n + 3]? = some (.cells #[.slice none 0 0, .slice none 0 0, .map (some n), .map (some (n + 1)), .slice none 0 0, .slice none 0 0, .int .i64 0, .slice none 0 0, .map (some (n + 2)), .slice none 0 0] 73 (0, 0))) : GW w (n + 3) (dNew n) := by
  refine { cw := { blk := h3, parts := OL.nil _ _ _ _, whole := OL.nil _ _ _ _, eqs := OL.nil _ _ _ _, spots := OL.nil _ _ _ _, uses := fun i hi => absurd hi (Nat.not_lt_zero _), claims := OL.nil _ _ _ _, sig := mapF_none h2 sgF_none, apart := fun i j hi => absurd hi (Nat.not_lt_zero _), apartW := fun i hi => absurd hi (Nat.not_lt_zero _), small := ⟨Nat.zero_le _, Nat.le_refl _⟩ }, c2 := rfl, c3 := rfl, nodes := OL.nil _ _ _ _, args := fun i hi => absurd hi (Nat.not_lt_zero _), heads := mapF_none h0 hdF_none, pairs := mapF_none h1 sgF_none, mne := ?_, ap1 := fun i hi => absurd hi (Nat.not_lt_zero _), ap2 := fun i hi => absurd hi (Nat.not_lt_zero _) }
  show n ≠ n + 1 ∧ n ≠ n + 2 ∧ n + 1 ≠ n + 2
  omega
theorem dNew_fg {n b : Nat} (h : Fg (n + 3) (dNew n) b) : n ≤ b := by
  rcases h with (h | h | h | h | h | h) | h | h | h | h | h | ⟨i, hi, _⟩
  · cases h
  · omega
  · cases h
  · cases h
  · have : b = n := h; omega
  · have : b = n + 1 := h; omega
  · cases h
  · omega
  · have : b = n + 2 := h; omega
  · cases h
  · cases h
  · exact absurd hi (Nat.not_lt_zero _)

set_option maxRecDepth 20000 in
set_option maxHeartbeats 4000000 in
theorem New_any (w : World) : Calls Try.prog 11 #[] w fun e w' => e = .returned (.pointer (some ⟨w.heap.size + 3, 0, none⟩)) ∧ GW w' (w.heap.size + 3) (dNew w.heap.size) ∧ Below w.heap.size w w' := by
  have hmm := @run_makeMap Try.prog
  go_enter Try.func11, Try.ntmps11
  go_wp2
  go_ret
  have hb : ∀ o, Below w.heap.size w ((((w.alloc (.map #[] 0)).alloc (.map #[] 0)).alloc (.map #[] 0)).alloc o) := fun o => by go_grown
  refine ⟨rfl, ?_, hb _⟩
  have s1 : (w.alloc (.map #[] 0)).heap.size = w.heap.size + 1 := by simp
  have s2 : ((w.alloc (.map #[] 0)).alloc (.map #[] 0)).heap.size = w.heap.size + 2 := by simp
  have s3 : (((w.alloc (.map #[] 0)).alloc (.map #[] 0)).alloc (.map #[] 0)).heap.size = w.heap.size + 3 := by simp
  have n0 := heap_alloc_new w (.map #[] 0)
  have n1 := heap_alloc_new (w.alloc (.map #[] 0)) (.map #[] 0)
  have n2 := heap_alloc_new ((w.alloc (.map #[] 0)).alloc (.map #[] 0)) (.map #[] 0)
  have k := fun (w : World) (o : Obj) (b : Nat) (h : b < w.heap.size) => Below.heap_alloc w o b h
  rw [s1] at n1
  rw [s2] at n2
  refine dNew_gw ?_ ?_ ?_ ?_
  · rw [k _ _ _ (by omega), k _ _ _ (by omega), k _ _ _ (by omega)]; exact n0
  · rw [k _ _ _ (by omega), k _ _ _ (by omega)]; exact n1
  · rw [k _ _ _ (by omega)]; exact n2
  · have n3 := heap_alloc_new (((w.alloc (.map #[] 0)).alloc (.map #[] 0)).alloc (.map #[] 0)) (.cells #[.slice none 0 0, .slice none 0 0, .map (some w.heap.size), .map (some (w.heap.size + 1)), .slice none 0 0, .slice none 0 0, .int .i64 0, .slice none 0 0, .map (some (w.heap.size + 2)), .slice none 0 0] 73 (0, 0))
    rw [s3] at n3
    exact n3

set_option maxRecDepth 20000 in
set_option maxHeartbeats 8000000 in
theorem Equal_any (g : Nat) (d : Gd) (a b : Nat) (w : World) (h : GW w g d) (ha : a < d.t.nn) (hb : b < d.t.nn) (hnn : d.t.nn ≤ 10000) (hne : d.f.ne ≤ 10000) :
    Calls Try.prog 30 #[.pointer (some ⟨g, 0, none⟩), .int .i64 (a : Nat), .int .i64 (b : Nat)] w fun e w' => e = .returned (.tuple #[.int .i64 (d.f.ne : Nat), .int .i64 0]) ∧ ∃ v, GW w' g (dE d v (a, b, d.f.np)) ∧ Mv (Fg g d) w w' ∧ (∀ c, Fg g (dE d v (a, b, d.f.np)) c → Fg g d c ∨ w.heap.size ≤ c) := by
  have HGW : Hid (GW w g d) := h
  have HAB : Hid (([(a : Int), (b : Int)]).all (okIn d.t.nn) = true) := by show _ = _; simp [okIn]; omega
  obtain ⟨c0, c1, -, -, c4, -, -, -, -, -⟩ := h.cw.cells
  obtain ⟨an, cn, hvn, -, -, -, -⟩ := h.nodes.shape
  rw [hvn] at c0
  obtain ⟨ae, ce, hve, -, -, -, -⟩ := h.cw.eqs.shape
  rw [hve] at c1
  have HVE : Hid (d.x.c1 = .slice ae d.f.ne ce) := hve
  obtain ⟨ap, cp, hvp, -, -, -, -⟩ := h.cw.parts.shape
  have HVP : Hid (d.x.vP = .slice ap d.f.np cp) := hvp
  have hgl := h.cw.lt
  have hsm := h.cw.small
  have kb : (w.alloc (.cells #[.int .i64 (a : Nat), .int .i64 (b : Nat)] 3 (0, 0))).heap[w.heap.size]? = _ := heap_alloc_new w _
  have hb0 : Below w.heap.size w (w.alloc (.cells #[.int .i64 (a : Nat), .int .i64 (b : Nat)] 3 (0, 0))) := (Below.refl _ _).alloc (Nat.le_refl _) _
  have hai := ai_two kb 2
  have c0' := (hb0.cell (p := ⟨g, 0, none⟩) hgl).trans c0
  clear h hvn hve hvp c0 c4 kb ha hb
  go_enter Try.func30, Try.ntmps30
  go_wp2_with fail
  refine (isNode_any g an d.t.nn cn _ _ true _ c0' (by omega) hai HAB.out).mono ?_
  rintro e w2 ⟨rfl, hb1⟩
  replace hb1 : Below w.heap.size w w2 := hb0.trans (hb1.mono hb0.size)
  have HB1 : Hid (Below w.heap.size w w2) := hb1
  have HG2 : Hid (GW w2 g d) := HGW.out.below hb1
  have c12 := (hb1.cell (p := ⟨g, 1, none⟩) hgl).trans c1
  clear hb1 hb0 hai c0' c1 HAB
  have hgl2 := HG2.out.cw.lt
  have h17 : decide ((16384 : Int) ≤ (d.f.ne : Int)) = false := by simp; omega
  clear hgl
  go_upto_if 19 with fail
  clear h17
  go_wp2
  clear c12
  have hng : d.x.c1.ownBlock ≠ some g := HG2.out.cw.eqs.neB HG2.out.cw.blk (by decide)
  have m0 : w2.cell? ⟨g, 1, none⟩ = some d.x.c1 := HG2.out.cw.cells.2.1
  have m4 : w2.cell? ⟨g, 4, none⟩ = some (.slice ap d.f.np cp) := by rw [← HVP.out]; exact HG2.out.cw.cells.2.2.2.2.1
  have hblk := HG2.out.cw.blk
  obtain ⟨E5, hE5⟩ : ∃ E5 : World → Prop, E5 = fun wr => ∃ v, v ≠ Value.slice none 0 0 ∧ GW wr g (dE d v (a, b, d.f.np)) ∧ Mv (Fg g d) w2 wr ∧ (∀ c, Fg g (dE d v (a, b, d.f.np)) c → Fg g d c ∨ w2.heap.size ≤ c) := ⟨_, rfl⟩
  obtain ⟨M5, hM5⟩ : ∃ M5 : World → Prop, M5 = fun wr => wr.cell? ⟨g, 1, none⟩ = some d.x.c1 ∧ wr.cell? ⟨g, 4, none⟩ = some (.slice ap d.f.np cp) := ⟨_, rfl⟩
  have HM0 : Hid (∀ wr, Below w2.heap.size w2 wr → M5 wr) := by
    intro wr h1; rw [hM5]
    exact ⟨(h1.cell (p := ⟨g, 1, none⟩) hgl2).trans m0, (h1.cell (p := ⟨g, 4, none⟩) hgl2).trans m4⟩
  have HM1 : Hid (∀ wr v9, App d.x.c1 v9 w2 wr → M5 wr) := by
    intro wr v9 h1; rw [hM5]
    exact ⟨(World.cell?_of_block (a := ⟨g, 1, none⟩) (h1.other g hgl2 hng)).trans m0, (World.cell?_of_block (a := ⟨g, 4, none⟩) (h1.other g hgl2 hng)).trans m4⟩
  have HFZ : Hid (∀ wr v9, App d.x.c1 v9 w2 wr → wr.cell? ⟨g, 1, none⟩ = some d.x.c1 ∧ wr.frozen? ⟨g, 1, none⟩ = false) := by
    intro wr v9 h1
    have h2 := HM1.out wr v9 h1
    rw [hM5] at h2
    exact ⟨h2.1, frozen_of_row wr g 1 _ 73 ((h1.other g hgl2 hng).trans hblk)⟩
  have HOWN : Hid (∀ wr, Below w2.heap.size w2 wr → OL 3 88 wr d.x.c1 d.f.ne (eqC d.f.E)) := fun wr h1 => (HG2.out.below h1).cw.eqs
  have HNB : Hid (d.f.ne + 1 ≤ 1000000000) := by show _ ≤ _; omega
  have HSET : Hid (∀ wr v9, OL 3 88 wr v9 (d.f.ne + 1) (eqC (upd d.f.E d.f.ne (a, b, d.f.np))) → App d.x.c1 v9 w2 wr → v9 ≠ .slice none 0 0 → E5 (wr.setCell ⟨g, 1, none⟩ v9)) := by
    intro wr v9 h1 h2 h3
    rw [hE5]
    obtain ⟨k1, k2, k3⟩ := HG2.out.pushEq (a, b, d.f.np) h2 h1
    exact ⟨v9, h3, k1, k2, k3⟩
  clear m0 m4 hng hblk
  refine wp_region_E (by kernel_rfl) [some 20, some 21, some 22, some 23, some 24, some 25, some 26, some 27, some 28, some 29, some 30, some 31, some 32, some 33, some 34, some 35, some 36, some 37, none] [none, none, none, none, none, none, none, none, none, none, none, none, none, none, none, none, none, none, none, none, some 20, some 21, some 22, some 23, some 24, some 25, some 26, some 27, some 28, some 29, some 30, some 31, some 32, some 33, some 34, some 35, some 36, some 37] (fun U => by kernel_rfl) [fun u => u = (.pointer (some ⟨g, 0, none⟩)), fun u => u = (.pointer (some ⟨g, 0, none⟩)), fun u => u = (.pointer (some ⟨g, 0, none⟩)), fun u => u = (.pointer (some ⟨g, 1, none⟩)), fun u => u = (d.x.c1), fun u => u = (.int .i64 (a : Nat)), fun u => u = (.int .i64 (b : Nat)), fun u => u = (.pointer (some ⟨g, 0, none⟩)), fun u => u = (.pointer (some ⟨g, 0, none⟩)), fun u => u = (.pointer (some ⟨g, 2, none⟩)), fun u => u = (.pointer (some ⟨g, 4, none⟩)), fun u => u = (.slice ap d.f.np cp), fun u => u = (.int .i64 (d.f.np : Nat)), fun u => u = (.agg #[.int .i64 (a : Nat), .int .i64 (b : Nat), .int .i64 (d.f.np : Nat)]), fun _ => True, fun _ => True, fun u => u = (.pointer (some ⟨g, 0, none⟩)), fun u => u = (.pointer (some ⟨g, 1, none⟩)), fun _ => True] (fun L U wr => (L 15 = false → Below w2.heap.size w2 wr) ∧ (L 14 = true → L 15 = false → ONE5 88 [.int .i64 (a : Nat), .int .i64 (b : Nat), .int .i64 (d.f.np : Nat)] (U 34) wr) ∧ (L 15 = true → L 18 = false → OL 3 88 wr (U 35) (d.f.ne + 1) (eqC (upd d.f.E d.f.ne (a, b, d.f.np))) ∧ App (d.x.c1) (U 35) w2 wr ∧ U 35 ≠ .slice none 0 0) ∧ (L 18 = true → (L 0 = true ∧ L 1 = true ∧ L 2 = true ∧ L 3 = true ∧ L 4 = true ∧ L 5 = true ∧ L 6 = true ∧ L 7 = true ∧ L 8 = true ∧ L 9 = true ∧ L 10 = true ∧ L 11 = true ∧ L 12 = true ∧ L 13 = true ∧ L 14 = true ∧ L 15 = true ∧ L 16 = true ∧ L 17 = true) ∧ E5 wr)) (by kernel_rfl) (by decide) (by kernel_rfl) (by kernel_rfl) ?_ ?_ ?_
  · exact fun U => ⟨fun _ => (Below.refl _ _).drew, (fun h => by cases h), (fun h => by cases h), (fun h => by cases h)⟩
  · refine StepsE.run rfl ?_ ?_
    · intro L U wr hC hP hlk hcl haf A K hFm hK
      simp [Aft, Region.binds] at haf
      have e0 : A.tmps[0]? = some (.pointer (some ⟨g, 0, none⟩)) := (hFm.old 0 (by decide)).trans (by kernel_rfl)
      have HC : Hid _ := hC
      clear hC
      refine ⟨?_⟩
      go_simp
      refine hK _ _ rfl ?_
      obtain ⟨c0, cB, c1, cS⟩ := HC.out
      refine ⟨fun h => c0 (by simpa using h), (fun h1 h2 => by have h9 := cB (by simpa using h1) (by simpa using h2); simpa [updO, Go.Proofs.Ytmnpefiaelpkfac.upd] using h9), (fun h1 h2 => by have h9 := c1 (by simpa using h1) (by simpa using h2); simpa [updO, Go.Proofs.Ytmnpefiaelpkfac.upd] using h9), fun h => ?_⟩
      have h9 := cS (by simpa using h)
      exact ⟨by simp [h9.1], h9.2⟩
    refine StepsE.run rfl ?_ ?_
    · intro L U wr hC hP hlk hcl haf A K hFm hK
      simp [Aft, Region.binds] at haf
      have e0 : A.tmps[0]? = some (.pointer (some ⟨g, 0, none⟩)) := (hFm.old 0 (by decide)).trans (by kernel_rfl)
      have HC : Hid _ := hC
      clear hC
      refine ⟨?_⟩
      go_simp
      refine hK _ _ rfl ?_
      obtain ⟨c0, cB, c1, cS⟩ := HC.out
      refine ⟨fun h => c0 (by simpa using h), (fun h1 h2 => by have h9 := cB (by simpa using h1) (by simpa using h2); simpa [updO, Go.Proofs.Ytmnpefiaelpkfac.upd] using h9), (fun h1 h2 => by have h9 := c1 (by simpa using h1) (by simpa using h2); simpa [updO, Go.Proofs.Ytmnpefiaelpkfac.upd] using h9), fun h => ?_⟩
      have h9 := cS (by simpa using h)
      exact ⟨by simp [h9.1], h9.2⟩
    refine StepsE.run rfl ?_ ?_
    · intro L U wr hC hP hlk hcl haf A K hFm hK
      simp [Aft, Region.binds] at haf
      have g1 : U 21 = (.pointer (some ⟨g, 0, none⟩)) := hP 1 21 (by simp [haf]) rfl
      have e21 : A.tmps[21]? = some (.pointer (some ⟨g, 0, none⟩)) := hFm.is 1 21 rfl g1
      have HC : Hid _ := hC
      clear hC
      refine ⟨?_⟩
      go_simp
      refine hK _ _ rfl ?_
      obtain ⟨c0, cB, c1, cS⟩ := HC.out
      refine ⟨fun h => c0 (by simpa using h), (fun h1 h2 => by have h9 := cB (by simpa using h1) (by simpa using h2); simpa [updO, Go.Proofs.Ytmnpefiaelpkfac.upd] using h9), (fun h1 h2 => by have h9 := c1 (by simpa using h1) (by simpa using h2); simpa [updO, Go.Proofs.Ytmnpefiaelpkfac.upd] using h9), fun h => ?_⟩
      have h9 := cS (by simpa using h)
      exact ⟨by simp [h9.1], h9.2⟩
    refine StepsE.run rfl ?_ ?_
    · intro L U wr hC hP hlk hcl haf A K hFm hK
      simp [Aft, Region.binds] at haf
      have g2 : U 22 = (.pointer (some ⟨g, 0, none⟩)) := hP 2 22 (by simp [haf]) rfl
      have e22 : A.tmps[22]? = some (.pointer (some ⟨g, 0, none⟩)) := hFm.is 2 22 rfl g2
      have HC : Hid _ := hC
      clear hC
      refine ⟨?_⟩
      go_simp
      refine hK _ _ rfl ?_
      obtain ⟨c0, cB, c1, cS⟩ := HC.out
      refine ⟨fun h => c0 (by simpa using h), (fun h1 h2 => by have h9 := cB (by simpa using h1) (by simpa using h2); simpa [updO, Go.Proofs.Ytmnpefiaelpkfac.upd] using h9), (fun h1 h2 => by have h9 := c1 (by simpa using h1) (by simpa using h2); simpa [updO, Go.Proofs.Ytmnpefiaelpkfac.upd] using h9), fun h => ?_⟩
      have h9 := cS (by simpa using h)
      exact ⟨by simp [h9.1], h9.2⟩
    refine StepsE.run rfl ?_ ?_
    · intro L U wr hC hP hlk hcl haf A K hFm hK
      simp [Aft, Region.binds] at haf
      have g3 : U 23 = (.pointer (some ⟨g, 1, none⟩)) := hP 3 23 (by simp [haf]) rfl
      have e23 : A.tmps[23]? = some (.pointer (some ⟨g, 1, none⟩)) := hFm.is 3 23 rfl g3
      have hM8 : M5 wr := by
        obtain ⟨c0, cB, c1, cS⟩ := hC
        have hs : L 18 = false := by cases h : L 18 with | false => rfl | true => exact absurd (cS h).1 (by simp [hlk])
        cases h14 : L 15 with
        | false => exact HM0.out wr (c0 h14)
        | true => exact HM1.out wr (U 35) (c1 h14 hs).2.1
      rw [hM5] at hM8
      obtain ⟨m7, m4⟩ := hM8
      have HC : Hid _ := hC
      clear hC
      refine ⟨?_⟩
      go_simp
      refine hK _ _ rfl ?_
      obtain ⟨c0, cB, c1, cS⟩ := HC.out
      refine ⟨fun h => c0 (by simpa using h), (fun h1 h2 => by have h9 := cB (by simpa using h1) (by simpa using h2); simpa [updO, Go.Proofs.Ytmnpefiaelpkfac.upd] using h9), (fun h1 h2 => by have h9 := c1 (by simpa using h1) (by simpa using h2); simpa [updO, Go.Proofs.Ytmnpefiaelpkfac.upd] using h9), fun h => ?_⟩
      have h9 := cS (by simpa using h)
      exact ⟨by simp [h9.1], h9.2⟩
    refine StepsE.run rfl ?_ ?_
    · intro L U wr hC hP hlk hcl haf A K hFm hK
      simp [Aft, Region.binds] at haf
      have e1 : A.tmps[1]? = some (.int .i64 (a : Nat)) := (hFm.old 1 (by decide)).trans (by kernel_rfl)
      have HC : Hid _ := hC
      clear hC
      refine ⟨?_⟩
      go_simp
      refine hK _ _ rfl ?_
      obtain ⟨c0, cB, c1, cS⟩ := HC.out
      refine ⟨fun h => c0 (by simpa using h), (fun h1 h2 => by have h9 := cB (by simpa using h1) (by simpa using h2); simpa [updO, Go.Proofs.Ytmnpefiaelpkfac.upd] using h9), (fun h1 h2 => by have h9 := c1 (by simpa using h1) (by simpa using h2); simpa [updO, Go.Proofs.Ytmnpefiaelpkfac.upd] using h9), fun h => ?_⟩
      have h9 := cS (by simpa using h)
      exact ⟨by simp [h9.1], h9.2⟩
    refine StepsE.run rfl ?_ ?_
    · intro L U wr hC hP hlk hcl haf A K hFm hK
      simp [Aft, Region.binds] at haf
      have e2 : A.tmps[2]? = some (.int .i64 (b : Nat)) := (hFm.old 2 (by decide)).trans (by kernel_rfl)
      have HC : Hid _ := hC
      clear hC
      refine ⟨?_⟩
      go_simp
      refine hK _ _ rfl ?_
      obtain ⟨c0, cB, c1, cS⟩ := HC.out
      refine ⟨fun h => c0 (by simpa using h), (fun h1 h2 => by have h9 := cB (by simpa using h1) (by simpa using h2); simpa [updO, Go.Proofs.Ytmnpefiaelpkfac.upd] using h9), (fun h1 h2 => by have h9 := c1 (by simpa using h1) (by simpa using h2); simpa [updO, Go.Proofs.Ytmnpefiaelpkfac.upd] using h9), fun h => ?_⟩
      have h9 := cS (by simpa using h)
      exact ⟨by simp [h9.1], h9.2⟩
    refine StepsE.run rfl ?_ ?_
    · intro L U wr hC hP hlk hcl haf A K hFm hK
      simp [Aft, Region.binds] at haf
      have e0 : A.tmps[0]? = some (.pointer (some ⟨g, 0, none⟩)) := (hFm.old 0 (by decide)).trans (by kernel_rfl)
      have HC : Hid _ := hC
      clear hC
      refine ⟨?_⟩
      go_simp
      refine hK _ _ rfl ?_
      obtain ⟨c0, cB, c1, cS⟩ := HC.out
      refine ⟨fun h => c0 (by simpa using h), (fun h1 h2 => by have h9 := cB (by simpa using h1) (by simpa using h2); simpa [updO, Go.Proofs.Ytmnpefiaelpkfac.upd] using h9), (fun h1 h2 => by have h9 := c1 (by simpa using h1) (by simpa using h2); simpa [updO, Go.Proofs.Ytmnpefiaelpkfac.upd] using h9), fun h => ?_⟩
      have h9 := cS (by simpa using h)
      exact ⟨by simp [h9.1], h9.2⟩
    refine StepsE.run rfl ?_ ?_
    · intro L U wr hC hP hlk hcl haf A K hFm hK
      simp [Aft, Region.binds] at haf
      have g7 : U 27 = (.pointer (some ⟨g, 0, none⟩)) := hP 7 27 (by simp [haf]) rfl
      have e27 : A.tmps[27]? = some (.pointer (some ⟨g, 0, none⟩)) := hFm.is 7 27 rfl g7
      have HC : Hid _ := hC
      clear hC
      refine ⟨?_⟩
      go_simp
      refine hK _ _ rfl ?_
      obtain ⟨c0, cB, c1, cS⟩ := HC.out
      refine ⟨fun h => c0 (by simpa using h), (fun h1 h2 => by have h9 := cB (by simpa using h1) (by simpa using h2); simpa [updO, Go.Proofs.Ytmnpefiaelpkfac.upd] using h9), (fun h1 h2 => by have h9 := c1 (by simpa using h1) (by simpa using h2); simpa [updO, Go.Proofs.Ytmnpefiaelpkfac.upd] using h9), fun h => ?_⟩
      have h9 := cS (by simpa using h)
      exact ⟨by simp [h9.1], h9.2⟩
    refine StepsE.run rfl ?_ ?_
    · intro L U wr hC hP hlk hcl haf A K hFm hK
      simp [Aft, Region.binds] at haf
      have g8 : U 28 = (.pointer (some ⟨g, 0, none⟩)) := hP 8 28 (by simp [haf]) rfl
      have e28 : A.tmps[28]? = some (.pointer (some ⟨g, 0, none⟩)) := hFm.is 8 28 rfl g8
      have HC : Hid _ := hC
      clear hC
      refine ⟨?_⟩
      go_simp
      refine hK _ _ rfl ?_
      obtain ⟨c0, cB, c1, cS⟩ := HC.out
      refine ⟨fun h => c0 (by simpa using h), (fun h1 h2 => by have h9 := cB (by simpa using h1) (by simpa using h2); simpa [updO, Go.Proofs.Ytmnpefiaelpkfac.upd] using h9), (fun h1 h2 => by have h9 := c1 (by simpa using h1) (by simpa using h2); simpa [updO, Go.Proofs.Ytmnpefiaelpkfac.upd] using h9), fun h => ?_⟩
      have h9 := cS (by simpa using h)
      exact ⟨by simp [h9.1], h9.2⟩
    refine StepsE.run rfl ?_ ?_
    · intro L U wr hC hP hlk hcl haf A K hFm hK
      simp [Aft, Region.binds] at haf
      have g9 : U 29 = (.pointer (some ⟨g, 2, none⟩)) := hP 9 29 (by simp [haf]) rfl
      have e29 : A.tmps[29]? = some (.pointer (some ⟨g, 2, none⟩)) := hFm.is 9 29 rfl g9
      have HC : Hid _ := hC
      clear hC
      refine ⟨?_⟩
      go_simp
      refine hK _ _ rfl ?_
      obtain ⟨c0, cB, c1, cS⟩ := HC.out
      refine ⟨fun h => c0 (by simpa using h), (fun h1 h2 => by have h9 := cB (by simpa using h1) (by simpa using h2); simpa [updO, Go.Proofs.Ytmnpefiaelpkfac.upd] using h9), (fun h1 h2 => by have h9 := c1 (by simpa using h1) (by simpa using h2); simpa [updO, Go.Proofs.Ytmnpefiaelpkfac.upd] using h9), fun h => ?_⟩
      have h9 := cS (by simpa using h)
      exact ⟨by simp [h9.1], h9.2⟩
    refine StepsE.run rfl ?_ ?_
    · intro L U wr hC hP hlk hcl haf A K hFm hK
      simp [Aft, Region.binds] at haf
      have g10 : U 30 = (.pointer (some ⟨g, 4, none⟩)) := hP 10 30 (by simp [haf]) rfl
      have e30 : A.tmps[30]? = some (.pointer (some ⟨g, 4, none⟩)) := hFm.is 10 30 rfl g10
      have hM8 : M5 wr := by
        obtain ⟨c0, cB, c1, cS⟩ := hC
        have hs : L 18 = false := by cases h : L 18 with | false => rfl | true => exact absurd (cS h).1 (by simp [hlk])
        cases h14 : L 15 with
        | false => exact HM0.out wr (c0 h14)
        | true => exact HM1.out wr (U 35) (c1 h14 hs).2.1
      rw [hM5] at hM8
      obtain ⟨m7, m4⟩ := hM8
      have HC : Hid _ := hC
      clear hC
      refine ⟨?_⟩
      go_simp
      refine hK _ _ rfl ?_
      obtain ⟨c0, cB, c1, cS⟩ := HC.out
      refine ⟨fun h => c0 (by simpa using h), (fun h1 h2 => by have h9 := cB (by simpa using h1) (by simpa using h2); simpa [updO, Go.Proofs.Ytmnpefiaelpkfac.upd] using h9), (fun h1 h2 => by have h9 := c1 (by simpa using h1) (by simpa using h2); simpa [updO, Go.Proofs.Ytmnpefiaelpkfac.upd] using h9), fun h => ?_⟩
      have h9 := cS (by simpa using h)
      exact ⟨by simp [h9.1], h9.2⟩
    refine StepsE.run rfl ?_ ?_
    · intro L U wr hC hP hlk hcl haf A K hFm hK
      simp [Aft, Region.binds] at haf
      have g11 : U 31 = (.slice ap d.f.np cp) := hP 11 31 (by simp [haf]) rfl
      have e31 : A.tmps[31]? = some (.slice ap d.f.np cp) := hFm.is 11 31 rfl g11
      have HC : Hid _ := hC
      clear hC
      refine ⟨?_⟩
      go_simp
      refine hK _ _ rfl ?_
      obtain ⟨c0, cB, c1, cS⟩ := HC.out
      refine ⟨fun h => c0 (by simpa using h), (fun h1 h2 => by have h9 := cB (by simpa using h1) (by simpa using h2); simpa [updO, Go.Proofs.Ytmnpefiaelpkfac.upd] using h9), (fun h1 h2 => by have h9 := c1 (by simpa using h1) (by simpa using h2); simpa [updO, Go.Proofs.Ytmnpefiaelpkfac.upd] using h9), fun h => ?_⟩
      have h9 := cS (by simpa using h)
      exact ⟨by simp [h9.1], h9.2⟩
    refine StepsE.run rfl ?_ ?_
    · intro L U wr hC hP hlk hcl haf A K hFm hK
      simp [Aft, Region.binds] at haf
      have g5 : U 25 = (.int .i64 (a : Nat)) := hP 5 25 (by simp [haf]) rfl
      have e25 : A.tmps[25]? = some (.int .i64 (a : Nat)) := hFm.is 5 25 rfl g5
      have g6 : U 26 = (.int .i64 (b : Nat)) := hP 6 26 (by simp [haf]) rfl
      have e26 : A.tmps[26]? = some (.int .i64 (b : Nat)) := hFm.is 6 26 rfl g6
      have g12 : U 32 = (.int .i64 (d.f.np : Nat)) := hP 12 32 (by simp [haf]) rfl
      have e32 : A.tmps[32]? = some (.int .i64 (d.f.np : Nat)) := hFm.is 12 32 rfl g12
      have HC : Hid _ := hC
      clear hC
      refine ⟨?_⟩
      go_simp
      refine hK _ _ rfl ?_
      obtain ⟨c0, cB, c1, cS⟩ := HC.out
      refine ⟨fun h => c0 (by simpa using h), (fun h1 h2 => by have h9 := cB (by simpa using h1) (by simpa using h2); simpa [updO, Go.Proofs.Ytmnpefiaelpkfac.upd] using h9), (fun h1 h2 => by have h9 := c1 (by simpa using h1) (by simpa using h2); simpa [updO, Go.Proofs.Ytmnpefiaelpkfac.upd] using h9), fun h => ?_⟩
      have h9 := cS (by simpa using h)
      exact ⟨by simp [h9.1], h9.2⟩
    refine StepsE.run rfl ?_ ?_
    · intro L U wr hC hP hlk hcl haf A K hFm hK
      simp [Aft, Region.binds] at haf
      have g13 : U 33 = (.agg #[.int .i64 (a : Nat), .int .i64 (b : Nat), .int .i64 (d.f.np : Nat)]) := hP 13 33 (by simp [haf]) rfl
      have e33 : A.tmps[33]? = some (.agg #[.int .i64 (a : Nat), .int .i64 (b : Nat), .int .i64 (d.f.np : Nat)]) := hFm.is 13 33 rfl g13
      have hA9 : L 15 = false := by cases h : L 15 with | false => rfl | true => have h9 := hcl 15 _ rfl h; simp [Aft, Region.binds, hlk] at h9
      refine ⟨?_⟩
      go_simp
      refine hK _ _ trivial ⟨fun h => ?_, fun _ _ => ?_, fun h1 h2 => ?_, fun h => ?_⟩
      · exact ((hC.1 hA9).alloc (hC.1 hA9).size _)
      · exact ⟨wr.heap.size, rfl, heap_alloc_new wr _⟩
      · simp [hA9] at h1
      · have h9 := (hC.2.2.2 (by simpa using h)).1
        simp [hlk] at h9
    refine StepsE.run rfl ?_ ?_
    · intro L U wr hC hP hlk hcl haf A K hFm hK
      simp [Aft, Region.binds] at haf
      have g4 : U 24 = (d.x.c1) := hP 4 24 (by simp [haf]) rfl
      have e24 : A.tmps[24]? = some (d.x.c1) := hFm.is 4 24 rfl g4
      have e34 : A.tmps[34]? = some (U 34) := hFm.got 14 34 rfl
      have l14 : L 14 = true := by simp [haf]
      refine ⟨?_⟩
      refine wp_push1 (.tmp 24) (.tmp 34) 69 rfl 3 88 _ 24 uEqs iEq (by decide) rfl (by decide) (d.x.c1) (d.f.ne) (eqC d.f.E) (by simp [Act.eval, e24]) (HOWN.out wr (hC.1 hlk)) (fun _ _ => rfl) [.int .i64 (a : Nat), .int .i64 (b : Nat), .int .i64 (d.f.np : Nat)] 88 (U 34) (hC.2.1 l14 hlk) (by simp [Act.eval, e34]) rfl (by intro u hu; simp at hu; rcases hu with rfl | rfl | rfl <;> rfl) HNB.out (eqC (upd d.f.E d.f.ne (a, b, d.f.np))) (fun k hk => by simp [eqC, upd, Nat.ne_of_lt hk]) (by simp [eqC, upd]) ?_
      intro v9 w9 hol9 hap9 hne9
      refine hK _ _ trivial ⟨fun h => ?_, fun _ h => ?_, fun _ _ => ?_, fun h => ?_⟩
      · simp at h
      · simp at h
      · simp only [updO, Go.Proofs.Ytmnpefiaelpkfac.upd, beq_self_eq_true, cond_true]; exact ⟨hol9, hap9.ofBelow (hC.1 hlk), hne9⟩
      · have h9 := (hC.2.2.2 (by simpa using h)).1
        simp [hlk] at h9
    refine StepsE.run rfl ?_ ?_
    · intro L U wr hC hP hlk hcl haf A K hFm hK
      simp [Aft, Region.binds] at haf
      have g0 : U 20 = (.pointer (some ⟨g, 0, none⟩)) := hP 0 20 (by simp [haf]) rfl
      have e20 : A.tmps[20]? = some (.pointer (some ⟨g, 0, none⟩)) := hFm.is 0 20 rfl g0
      have HC : Hid _ := hC
      clear hC
      refine ⟨?_⟩
      go_simp
      refine hK _ _ rfl ?_
      obtain ⟨c0, cB, c1, cS⟩ := HC.out
      refine ⟨fun h => c0 (by simpa using h), (fun h1 h2 => by have h9 := cB (by simpa using h1) (by simpa using h2); simpa [updO, Go.Proofs.Ytmnpefiaelpkfac.upd] using h9), (fun h1 h2 => by have h9 := c1 (by simpa using h1) (by simpa using h2); simpa [updO, Go.Proofs.Ytmnpefiaelpkfac.upd] using h9), fun h => ?_⟩
      have h9 := cS (by simpa using h)
      exact ⟨by simp [h9.1], h9.2⟩
    refine StepsE.run rfl ?_ ?_
    · intro L U wr hC hP hlk hcl haf A K hFm hK
      simp [Aft, Region.binds] at haf
      have g16 : U 36 = (.pointer (some ⟨g, 0, none⟩)) := hP 16 36 (by simp [haf]) rfl
      have e36 : A.tmps[36]? = some (.pointer (some ⟨g, 0, none⟩)) := hFm.is 16 36 rfl g16
      have HC : Hid _ := hC
      clear hC
      refine ⟨?_⟩
      go_simp
      refine hK _ _ rfl ?_
      obtain ⟨c0, cB, c1, cS⟩ := HC.out
      refine ⟨fun h => c0 (by simpa using h), (fun h1 h2 => by have h9 := cB (by simpa using h1) (by simpa using h2); simpa [updO, Go.Proofs.Ytmnpefiaelpkfac.upd] using h9), (fun h1 h2 => by have h9 := c1 (by simpa using h1) (by simpa using h2); simpa [updO, Go.Proofs.Ytmnpefiaelpkfac.upd] using h9), fun h => ?_⟩
      have h9 := cS (by simpa using h)
      exact ⟨by simp [h9.1], h9.2⟩
    refine StepsE.run rfl ?_ StepsE.nil
    · intro L U wr hC hP hlk hcl haf A K hFm hK
      simp [Aft, Region.binds] at haf
      have g17 : U 37 = (.pointer (some ⟨g, 1, none⟩)) := hP 17 37 (by simp [haf]) rfl
      have e37 : A.tmps[37]? = some (.pointer (some ⟨g, 1, none⟩)) := hFm.is 17 37 rfl g17
      have e35 : A.tmps[35]? = some (U 35) := hFm.got 15 35 rfl
      have l17 : L 17 = true := by simp [haf]
      have l15 : L 15 = true := by simp [haf]
      have a17 := hcl 17 _ rfl l17
      simp [Aft, Region.binds] at a17
      have l16 : L 16 = true := by simp [a17]
      have a15 := hcl 15 _ rfl l15
      simp [Aft, Region.binds] at a15
      have l4 : L 4 = true := by simp [a15]
      have l14 : L 14 = true := by simp [a15]
      have a16 := hcl 16 _ rfl l16
      simp [Aft, Region.binds] at a16
      have l0 : L 0 = true := by simp [a16]
      have a4 := hcl 4 _ rfl l4
      simp [Aft, Region.binds] at a4
      have l3 : L 3 = true := by simp [a4]
      have a14 := hcl 14 _ rfl l14
      simp [Aft, Region.binds] at a14
      have l13 : L 13 = true := by simp [a14]
      have a3 := hcl 3 _ rfl l3
      simp [Aft, Region.binds] at a3
      have l2 : L 2 = true := by simp [a3]
      have a13 := hcl 13 _ rfl l13
      simp [Aft, Region.binds] at a13
      have l5 : L 5 = true := by simp [a13]
      have l6 : L 6 = true := by simp [a13]
      have l12 : L 12 = true := by simp [a13]
      have a2 := hcl 2 _ rfl l2
      simp [Aft, Region.binds] at a2
      have l1 : L 1 = true := by simp [a2]
      have a12 := hcl 12 _ rfl l12
      simp [Aft, Region.binds] at a12
      have l11 : L 11 = true := by simp [a12]
      have a11 := hcl 11 _ rfl l11
      simp [Aft, Region.binds] at a11
      have l10 : L 10 = true := by simp [a11]
      have a10 := hcl 10 _ rfl l10
      simp [Aft, Region.binds] at a10
      have l9 : L 9 = true := by simp [a10]
      have a9 := hcl 9 _ rfl l9
      simp [Aft, Region.binds] at a9
      have l8 : L 8 = true := by simp [a9]
      have a8 := hcl 8 _ rfl l8
      simp [Aft, Region.binds] at a8
      have l7 : L 7 = true := by simp [a8]
      refine ⟨?_⟩
      obtain ⟨hol9, hap9, hne9⟩ := hC.2.2.1 l15 hlk
      have HKK : Hid _ := HSET.out wr (U 35) hol9 hap9 hne9
      obtain ⟨k4, k5⟩ := HFZ.out wr (U 35) hap9
      obtain ⟨ao9, cc9, hv9, -, -, -, -⟩ := hol9.shape
      obtain ⟨nl, hnl⟩ : ∃ nl, nl = d.f.ne + 1 := ⟨_, rfl⟩
      rw [← hnl] at hv9
      clear hnl
      have e35 : A.tmps[35]? = some (.slice ao9 nl cc9) := hFm.is 15 35 rfl hv9
      rw [hv9] at HKK
      clear hol9 hap9 hne9 hC
      go_simp
      refine hK (.tuple #[]) _ trivial ⟨fun h => ?_, fun h1 h2 => ?_, fun h1 h2 => ?_, fun _ => ⟨?_, HKK.out⟩⟩
      · simp [l15] at h
      · simp [l15] at h2
      · simp at h2
      · simp [l0, l1, l2, l3, l4, l5, l6, l7, l8, l9, l10, l11, l12, l13, l14, l15, l16, l17]
  intro L U5 V5 hall hC hP
  have hE := (hC.2.2.2 (hall 18 (by decide))).2
  rw [hE5] at hE
  obtain ⟨v9, hne9, hC9, hM9, hF9⟩ := hE
  clear hC hP hall hE5 hM5 HM0 HM1 HFZ HOWN HSET
  simp only [setM_some, setM_none, setM_nil]
  have HE : Hid _ := And.intro hC9 (And.intro hM9 hF9)
  obtain ⟨-, c1, -, -, -, -, -, -, -, -⟩ := hC9.cw.cells
  obtain ⟨a9, c9, hv9, -, -, -, -⟩ := hC9.cw.eqs.shape
  replace hv9 : v9 = .slice a9 (d.f.ne + 1) c9 := hv9
  replace c1 : V5.cell? ⟨g, 1, none⟩ = some (.slice a9 (d.f.ne + 1) c9) := by rw [← hv9]; exact c1
  have hgl5 := hC9.cw.lt
  clear hC9 hM9 hF9 hne9 hv9 hgl2
  go_wp2
  refine bodyPost_ret (v := .tuple #[.int .i64 (d.f.ne : Nat), .int .i64 0]) (by simp [results, Try.results30, go_sem]) rfl ?_
  refine ⟨rfl, v9, HE.out.1, ?_, fun c hc => ?_⟩
  · exact (Mv.below (F := Fg g d) HB1.out).trans HE.out.2.1 (fun b hb => Or.inl hb)
  · rcases HE.out.2.2 c hc with h9 | h9
    · exact Or.inl h9
    · exact Or.inr (Nat.le_trans HB1.out.size h9)
end Euf
end Go.Proofs.Ytmnpefiaelpkfac
/- The contract of Same, what holds of the graph; it proves no statement of the seat. -/
namespace Go.Proofs.Ytmnpefiaelpkfac
open Go.RowKit
set_option linter.unusedVariables false
namespace Euf
theorem natEq (a b : Nat) : ((a : Int) == (b : Int)) = decide (a = b) := by
  rw [Bool.eq_iff_iff]; simp; omega
/-- What holds of the graph between calls. -/
structure GOk (d : Gd) : Prop where
  t : TOk d.f d.t none
  f : FOk d.f
  cl : d.s.cl = []
  inv : Inv d.f.np d.f.P d.s.ns d.s.S d.s.sg [] []
  m : d.m ≤ d.f.ne

set_option maxRecDepth 20000 in
set_option maxHeartbeats 8000000 in
theorem Same_any (g : Nat) (d : Gd) (a b : Nat) (w : World) (h : GW w g d) (hk : GOk d) (ha : a < d.t.nn) (hb : b < d.t.nn) (hnn : d.t.nn ≤ 10000) (hne : d.f.ne ≤ 10000) :
    Calls Try.prog 9 #[.pointer (some ⟨g, 0, none⟩), .int .i64 (a : Nat), .int .i64 (b : Nat)] w fun e w' => ∃ (y' : Ly) (s' : Sx), e = .returned (.tuple #[.bool (decide ((s'.S (d.f.W a)).cls = (s'.S (d.f.W b)).cls)), .int .i64 0]) ∧ Run d.f d.m d.s d.f.ne s' ∧ s'.ns = d.f.np ∧ GW w' g (dR d d.f.ne y' s') ∧ Mv (Fg g d) w w' ∧ (∀ c, Fg g (dR d d.f.ne y' s') c → Fg g d c ∨ w.heap.size ≤ c) := by
  have HGW : Hid (GW w g d) := h
  have HK : Hid (GOk d) := hk
  have HAB : Hid (([(a : Int), (b : Int)]).all (okIn d.t.nn) = true) := by show _ = _; simp [okIn]; omega
  have HWAB : Hid (a < d.f.nw ∧ b < d.f.nw ∧ d.f.W a < d.f.np ∧ d.f.W b < d.f.np) := ⟨by rw [hk.t.nw]; exact ha, by rw [hk.t.nw]; exact hb, (hk.t.whole a ha).1, (hk.t.whole b hb).1⟩
  obtain ⟨c0, -, -, -, -, -, -, -, -, -⟩ := h.cw.cells
  obtain ⟨an, cn, hvn, -, -, -, -⟩ := h.nodes.shape
  rw [hvn] at c0
  have hgl := h.cw.lt
  have kb : (w.alloc (.cells #[.int .i64 (a : Nat), .int .i64 (b : Nat)] 3 (0, 0))).heap[w.heap.size]? = _ := heap_alloc_new w _
  have hb0 : Below w.heap.size w (w.alloc (.cells #[.int .i64 (a : Nat), .int .i64 (b : Nat)] 3 (0, 0))) := (Below.refl _ _).alloc (Nat.le_refl _) _
  have hai := ai_two kb 2
  have c0' := (hb0.cell (p := ⟨g, 0, none⟩) hgl).trans c0
  clear h hvn c0 kb ha hb hk
  go_enter Try.func9, Try.ntmps9
  go_wp2_with fail
  refine (isNode_any g an d.t.nn cn _ _ true _ c0' (by omega) hai HAB.out).mono ?_
  rintro e w2 ⟨rfl, hb1⟩
  replace hb1 : Below w.heap.size w w2 := hb0.trans (hb1.mono hb0.size)
  have HB1 : Hid (Below w.heap.size w w2) := hb1
  have HG2 : Hid (GW w2 g d) := HGW.out.below hb1
  clear hb1 hb0 hai c0' HAB hgl
  go_wp2_with fail
  refine (settle_any g d.x d.f d.m d.y d.s w2 HG2.out.cw HK.out.f HK.out.cl HK.out.inv HK.out.m (by omega)).mono ?_
  rintro e w3 ⟨rfl, y', s', hR, hns, hC, hM, hF⟩
  obtain ⟨k1, k2, k3⟩ := HG2.out.ran hC hM hF
  have HR : Hid _ := And.intro hR (And.intro hns (And.intro k1 (And.intro k2 k3)))
  clear hR hM hF k1 k2 k3
  have HNS : Hid (s'.ns = d.f.np) := hns
  clear hns
  go_wp2_with fail
  refine (classOf_any g d.x d.f d.f.ne y' s' a w3 hC HWAB.out.1 (by rw [HNS.out]; exact HWAB.out.2.2.1)).mono ?_
  rintro e w4 ⟨rfl, hb4⟩
  have hC4 := hC.below hb4
  have HB4 : Hid (Below w3.heap.size w3 w4) := hb4
  clear hb4 hC
  go_wp2_with fail
  refine (classOf_any g d.x d.f d.f.ne y' s' b w4 hC4 HWAB.out.2.1 (by rw [HNS.out]; exact HWAB.out.2.2.2)).mono ?_
  rintro e w5 ⟨rfl, hb5⟩
  have HB5 : Hid (Below w3.heap.size w3 w5) := HB4.out.trans (hb5.mono HB4.out.size)
  clear hb5 hC4 HB4
  go_wp2
  refine bodyPost_ret (v := .tuple #[.bool (decide ((s'.S (d.f.W a)).cls = (s'.S (d.f.W b)).cls)), .int .i64 0]) (by simp [results, Try.results9, go_sem, natEq]) rfl ?_
  refine ⟨y', s', rfl, HR.out.1, HR.out.2.1, HR.out.2.2.1.below HB5.out, ?_, fun c hc => ?_⟩
  · exact ((Mv.below (F := Fg g d) HB1.out).trans HR.out.2.2.2.1 (fun b hb => Or.inl hb)).trans (Mv.below (F := Fg g d) HB5.out) (fun b hb => Or.inl hb)
  · rcases HR.out.2.2.2.2 c hc with h9 | h9
    · exact Or.inl h9
    · exact Or.inr (Nat.le_trans HB1.out.size h9)
end Euf
end Go.Proofs.Ytmnpefiaelpkfac
