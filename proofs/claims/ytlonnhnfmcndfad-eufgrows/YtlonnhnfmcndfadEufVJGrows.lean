/- Contracts of New, Equal and Same; they prove no statement of the seat. -/
import Derived.Test.YtlonnhnfmcndfadEufUJGrows
namespace Go.Proofs.Ytlonnhnfmcndfad
open Go.RowKit
set_option linter.unusedVariables false
namespace Euf
/-- The graph without nodes. -/
def dNew (n : Nat) : Gd :=
  { x := { c0 := .slice none 0 0, c1 := .slice none 0 0, c2 := .map (some n), c3 := .map (some (n + 1)), vP := .slice none 0 0, vW := .slice none 0 0, bG := n + 2 }
    f := { np := 0, P := fun _ => ⟨0, 0, 0⟩, nw := 0, W := fun _ => 0, ne := 0, E := fun _ => (0, 0, 0) }, m := 0
    y := { vS := .slice none 0 0, vC := .slice none 0 0, au := fun _ => .slice none 0 0 }, s := { ns := 0, S := fun _ => ⟨0, 0, 0, 0, 0, 0, []⟩, sg := fun _ => none, cl := [] }
    t := { nn := 0, N := fun _ => (ByteArray.empty, []), lab := fun _ => (ByteArray.empty, 0, []), hd := fun _ => none, pr := fun _ => none }, bH := n, bR := n + 1, ag := fun _ => .slice none 0 0 }
theorem dNew_ok (n : Nat) : TOk (dNew n).f (dNew n).t none := by
  refine { nw := rfl, inj := fun i j hi => absurd hi (Nat.not_lt_zero _), hd1 := fun s n p h => (by cases h), hd2 := fun s n p hp => absurd hp (Nat.not_lt_zero _), pr1 := fun p q r h => (by cases h), pr2 := fun r s n l a p hr => absurd hr (Nat.not_lt_zero _), pre := fun r s n l a hr => absurd hr (Nat.not_lt_zero _), root := fun r s n hr => absurd hr (Nat.not_lt_zero _), whole := fun a ha => absurd ha (Nat.not_lt_zero _), node := fun r s n l hr => absurd hr (Nat.not_lt_zero _), args := fun a ha => absurd ha (Nat.not_lt_zero _) }
theorem mapF_none {w : World} {K E : TypeId} {b : Nat} (h : w.heap[b]? = some (.map #[] 0)) {m : Value → Option Int} (hm : ∀ v, m v = none) : MapF Try.prog K E w b 0 m := by
  have h1 := MapF.made default Try.prog K E
  have h2 : MapF Try.prog K E w b 0 (fun _ => none) := by
    obtain ⟨D, ⟨es, cl, h3, h4⟩, h5⟩ := h1
    rw [heap_alloc_new] at h3
    cases h3
    exact ⟨D, ⟨_, _, h, h4⟩, h5⟩
  have : m = fun _ => none := funext hm
  rw [this]; exact h2
theorem sgF_none (v : Value) : sgF (fun _ => none) v = none := by
  cases h : sgF (fun _ => none) v with
  | none => rfl
  | some z => obtain ⟨a, b, q, _, h1, _⟩ := sgF_some h; cases h1
theorem hdF_none (v : Value) : hdF (fun _ => none) v = none := by
  cases h : hdF (fun _ => none) v with
  | none => rfl
  | some z => obtain ⟨a, b, q, _, h1, _⟩ := hdF_some h; cases h1
theorem dNew_gw {w : World} {n : Nat} (h0 : w.heap[n]? = some (.map #[] 0)) (h1 : w.heap[n + 1]? = some (.map #[] 0)) (h2 : w.heap[n + 2]? = some (.map #[] 0))
    (h3 : w.heap[n + 3]? = some (.cells #[.slice none 0 0, .slice none 0 0, .map (some n), .map (some (n + 1)), .slice none 0 0, .slice none 0 0, .int .i64 0, .slice none 0 0, .map (some (n + 2)), .slice none 0 0] 72 (0, 0))) : GW w (n + 3) (dNew n) := by
  refine { cw := { blk := h3, parts := OL.nil _ _ _ _, whole := OL.nil _ _ _ _, eqs := OL.nil _ _ _ _, spots := OL.nil _ _ _ _, uses := fun i hi => absurd hi (Nat.not_lt_zero _), claims := OL.nil _ _ _ _, sig := mapF_none h2 sgF_none, apart := fun i j hi => absurd hi (Nat.not_lt_zero _), apartW := fun i hi => absurd hi (Nat.not_lt_zero _), small := ⟨Nat.zero_le _, Nat.le_refl _⟩ }, c2 := rfl, c3 := rfl, nodes := OL.nil _ _ _ _, args := fun i hi => absurd hi (Nat.not_lt_zero _), heads := mapF_none h0 hdF_none, pairs := mapF_none h1 sgF_none, mne := ?_, ap1 := fun i hi => absurd hi (Nat.not_lt_zero _), ap2 := fun i hi => absurd hi (Nat.not_lt_zero _) }
  show n ≠ n + 1 ∧ n ≠ n + 2 ∧ n + 1 ≠ n + 2
  omega
theorem dNew_fg {n b : Nat} (h : Fg (n + 3) (dNew n) b) : n ≤ b := by
  rcases h with (h | h | h | h | h | h) | h | h | h | h | h | ⟨i, hi, _⟩
  · cases h
  · omega
  · cases h
  · cases h
  · have : b = n := h; omega
  · have : b = n + 1 := h; omega
  · cases h
  · omega
  · have : b = n + 2 := h; omega
  · cases h
  · cases h
  · exact absurd hi (Nat.not_lt_zero _)

set_option maxRecDepth 20000 in
set_option maxHeartbeats 4000000 in
theorem New_any (w : World) : Calls Try.prog 9 #[] w fun e w' => e = .returned (.pointer (some ⟨w.heap.size + 3, 0, none⟩)) ∧ GW w' (w.heap.size + 3) (dNew w.heap.size) ∧ Below w.heap.size w w' := by
  have hmm := @run_makeMap Try.prog
  go_enter Try.func9, Try.ntmps9
  go_wp2
  go_ret
  have hb : ∀ o, Below w.heap.size w ((((w.alloc (.map #[] 0)).alloc (.map #[] 0)).alloc (.map #[] 0)).alloc o) := fun o => by go_grown
  refine ⟨rfl, ?_, hb _⟩
  have s1 : (w.alloc (.map #[] 0)).heap.size = w.heap.size + 1 := by simp
  have s2 : ((w.alloc (.map #[] 0)).alloc (.map #[] 0)).heap.size = w.heap.size + 2 := by simp
  have s3 : (((w.alloc (.map #[] 0)).alloc (.map #[] 0)).alloc (.map #[] 0)).heap.size = w.heap.size + 3 := by simp
  have n0 := heap_alloc_new w (.map #[] 0)
  have n1 := heap_alloc_new (w.alloc (.map #[] 0)) (.map #[] 0)
  have n2 := heap_alloc_new ((w.alloc (.map #[] 0)).alloc (.map #[] 0)) (.map #[] 0)
  have k := fun (w : World) (o : Obj) (b : Nat) (h : b < w.heap.size) => Below.heap_alloc w o b h
  rw [s1] at n1
  rw [s2] at n2
  refine dNew_gw ?_ ?_ ?_ ?_
  · rw [k _ _ _ (by omega), k _ _ _ (by omega), k _ _ _ (by omega)]; exact n0
  · rw [k _ _ _ (by omega), k _ _ _ (by omega)]; exact n1
  · rw [k _ _ _ (by omega)]; exact n2
  · have n3 := heap_alloc_new (((w.alloc (.map #[] 0)).alloc (.map #[] 0)).alloc (.map #[] 0)) (.cells #[.slice none 0 0, .slice none 0 0, .map (some w.heap.size), .map (some (w.heap.size + 1)), .slice none 0 0, .slice none 0 0, .int .i64 0, .slice none 0 0, .map (some (w.heap.size + 2)), .slice none 0 0] 72 (0, 0))
    rw [s3] at n3
    exact n3

set_option maxRecDepth 20000 in
set_option maxHeartbeats 8000000 in
theorem Equal_any (g : Nat) (d : Gd) (a b : Nat) (w : World) (h : GW w g d) (ha : a < d.t.nn) (hb : b < d.t.nn) (hnn : d.t.nn ≤ 10000) (hne : d.f.ne ≤ 10000) :
    Calls Try.prog 11 #[.pointer (some ⟨g, 0, none⟩), .int .i64 (a : Nat), .int .i64 (b : Nat)] w fun e w' => e = .returned (.tuple #[.int .i64 (d.f.ne : Nat), .int .i64 0]) ∧ ∃ v, GW w' g (dE d v (a, b, d.f.np)) ∧ Mv (Fg g d) w w' ∧ (∀ c, Fg g (dE d v (a, b, d.f.np)) c → Fg g d c ∨ w.heap.size ≤ c) := by
  have HGW : Hid (GW w g d) := h
  have HAB : Hid (([(a : Int), (b : Int)]).all (okIn d.t.nn) = true) := by show _ = _; simp [okIn]; omega
  obtain ⟨c0, c1, -, -, c4, -, -, -, -, -⟩ := h.cw.cells
  obtain ⟨an, cn, hvn, -, -, -, -⟩ := h.nodes.shape
  rw [hvn] at c0
  obtain ⟨ae, ce, hve, -, -, -, -⟩ := h.cw.eqs.shape
  rw [hve] at c1
  have HVE : Hid (d.x.c1 = .slice ae d.f.ne ce) := hve
  obtain ⟨ap, cp, hvp, -, -, -, -⟩ := h.cw.parts.shape
  have HVP : Hid (d.x.vP = .slice ap d.f.np cp) := hvp
  have hgl := h.cw.lt
  have hsm := h.cw.small
  have kb : (w.alloc (.cells #[.int .i64 (a : Nat), .int .i64 (b : Nat)] 3 (0, 0))).heap[w.heap.size]? = _ := heap_alloc_new w _
  have hb0 : Below w.heap.size w (w.alloc (.cells #[.int .i64 (a : Nat), .int .i64 (b : Nat)] 3 (0, 0))) := (Below.refl _ _).alloc (Nat.le_refl _) _
  have hai := ai_two kb 2
  have c0' := (hb0.cell (p := ⟨g, 0, none⟩) hgl).trans c0
  clear h hvn hve hvp c0 c4 kb ha hb
  go_enter Try.func11, Try.ntmps11
  go_wp2_with fail
  refine (isNode_any g an d.t.nn cn _ _ true _ c0' (by omega) hai HAB.out).mono ?_
  rintro e w2 ⟨rfl, hb1⟩
  replace hb1 : Below w.heap.size w w2 := hb0.trans (hb1.mono hb0.size)
  have HB1 : Hid (Below w.heap.size w w2) := hb1
  have HG2 : Hid (GW w2 g d) := HGW.out.below hb1
  have c12 := (hb1.cell (p := ⟨g, 1, none⟩) hgl).trans c1
  clear hb1 hb0 hai c0' c1 HAB
  have hgl2 := HG2.out.cw.lt
  have h17 : decide ((16384 : Int) ≤ (d.f.ne : Int)) = false := by simp; omega
  clear hgl
  go_upto_if 19 with fail
  clear h17
  go_wp2
  clear c12
  have hng : d.x.c1.ownBlock ≠ some g := HG2.out.cw.eqs.neB HG2.out.cw.blk (by decide)
  have m0 : w2.cell? ⟨g, 1, none⟩ = some d.x.c1 := HG2.out.cw.cells.2.1
  have m4 : w2.cell? ⟨g, 4, none⟩ = some (.slice ap d.f.np cp) := by rw [← HVP.out]; exact HG2.out.cw.cells.2.2.2.2.1
  have hblk := HG2.out.cw.blk
  obtain ⟨E5, hE5⟩ : ∃ E5 : World → Prop, E5 = fun wr => ∃ v, v ≠ Value.slice none 0 0 ∧ GW wr g (dE d v (a, b, d.f.np)) ∧ Mv (Fg g d) w2 wr ∧ (∀ c, Fg g (dE d v (a, b, d.f.np)) c → Fg g d c ∨ w2.heap.size ≤ c) := ⟨_, rfl⟩
  obtain ⟨M5, hM5⟩ : ∃ M5 : World → Prop, M5 = fun wr => wr.cell? ⟨g, 1, none⟩ = some d.x.c1 ∧ wr.cell? ⟨g, 4, none⟩ = some (.slice ap d.f.np cp) := ⟨_, rfl⟩
  have HM0 : Hid (∀ wr, Below w2.heap.size w2 wr → M5 wr) := by
    intro wr h1; rw [hM5]
    exact ⟨(h1.cell (p := ⟨g, 1, none⟩) hgl2).trans m0, (h1.cell (p := ⟨g, 4, none⟩) hgl2).trans m4⟩
  have HM1 : Hid (∀ wr v9, App d.x.c1 v9 w2 wr → M5 wr) := by
    intro wr v9 h1; rw [hM5]
    exact ⟨(World.cell?_of_block (a := ⟨g, 1, none⟩) (h1.other g hgl2 hng)).trans m0, (World.cell?_of_block (a := ⟨g, 4, none⟩) (h1.other g hgl2 hng)).trans m4⟩
  have HFZ : Hid (∀ wr v9, App d.x.c1 v9 w2 wr → wr.cell? ⟨g, 1, none⟩ = some d.x.c1 ∧ wr.frozen? ⟨g, 1, none⟩ = false) := by
    intro wr v9 h1
    have h2 := HM1.out wr v9 h1
    rw [hM5] at h2
    exact ⟨h2.1, frozen_of_row wr g 1 _ 72 ((h1.other g hgl2 hng).trans hblk)⟩
  have HOWN : Hid (∀ wr, Below w2.heap.size w2 wr → OL 3 79 wr d.x.c1 d.f.ne (eqC d.f.E)) := fun wr h1 => (HG2.out.below h1).cw.eqs
  have HNB : Hid (d.f.ne + 1 ≤ 1000000000) := by show _ ≤ _; omega
  have HSET : Hid (∀ wr v9, OL 3 79 wr v9 (d.f.ne + 1) (eqC (upd d.f.E d.f.ne (a, b, d.f.np))) → App d.x.c1 v9 w2 wr → v9 ≠ .slice none 0 0 → E5 (wr.setCell ⟨g, 1, none⟩ v9)) := by
    intro wr v9 h1 h2 h3
    rw [hE5]
    obtain ⟨k1, k2, k3⟩ := HG2.out.pushEq (a, b, d.f.np) h2 h1
    exact ⟨v9, h3, k1, k2, k3⟩
  clear m0 m4 hng hblk
  refine wp_region_E (by kernel_rfl) [some 20, some 21, some 22, some 23, some 24, some 25, some 26, some 27, some 28, some 29, some 30, some 31, some 32, some 33, some 34, some 35, some 36, some 37, none] [none, none, none, none, none, none, none, none, none, none, none, none, none, none, none, none, none, none, none, none, some 20, some 21, some 22, some 23, some 24, some 25, some 26, some 27, some 28, some 29, some 30, some 31, some 32, some 33, some 34, some 35, some 36, some 37] (fun U => by kernel_rfl) [fun u => u = (.pointer (some ⟨g, 0, none⟩)), fun u => u = (.pointer (some ⟨g, 0, none⟩)), fun u => u = (.pointer (some ⟨g, 0, none⟩)), fun u => u = (.pointer (some ⟨g, 1, none⟩)), fun u => u = (d.x.c1), fun u => u = (.int .i64 (a : Nat)), fun u => u = (.int .i64 (b : Nat)), fun u => u = (.pointer (some ⟨g, 0, none⟩)), fun u => u = (.pointer (some ⟨g, 0, none⟩)), fun u => u = (.pointer (some ⟨g, 2, none⟩)), fun u => u = (.pointer (some ⟨g, 4, none⟩)), fun u => u = (.slice ap d.f.np cp), fun u => u = (.int .i64 (d.f.np : Nat)), fun u => u = (.agg #[.int .i64 (a : Nat), .int .i64 (b : Nat), .int .i64 (d.f.np : Nat)]), fun _ => True, fun _ => True, fun u => u = (.pointer (some ⟨g, 0, none⟩)), fun u => u = (.pointer (some ⟨g, 1, none⟩)), fun _ => True] (fun L U wr => (L 15 = false → Below w2.heap.size w2 wr) ∧ (L 14 = true → L 15 = false → ONE5 79 [.int .i64 (a : Nat), .int .i64 (b : Nat), .int .i64 (d.f.np : Nat)] (U 34) wr) ∧ (L 15 = true → L 18 = false → OL 3 79 wr (U 35) (d.f.ne + 1) (eqC (upd d.f.E d.f.ne (a, b, d.f.np))) ∧ App (d.x.c1) (U 35) w2 wr ∧ U 35 ≠ .slice none 0 0) ∧ (L 18 = true → (L 0 = true ∧ L 1 = true ∧ L 2 = true ∧ L 3 = true ∧ L 4 = true ∧ L 5 = true ∧ L 6 = true ∧ L 7 = true ∧ L 8 = true ∧ L 9 = true ∧ L 10 = true ∧ L 11 = true ∧ L 12 = true ∧ L 13 = true ∧ L 14 = true ∧ L 15 = true ∧ L 16 = true ∧ L 17 = true) ∧ E5 wr)) (by kernel_rfl) (by decide) (by kernel_rfl) (by kernel_rfl) ?_ ?_ ?_
  · exact fun U => ⟨fun _ => (Below.refl _ _).drew, (fun h => by cases h), (fun h => by cases h), (fun h => by cases h)⟩
  · refine StepsE.run rfl ?_ ?_
    · intro L U wr hC hP hlk hcl haf A K hFm hK
      simp [Aft, Region.binds] at haf
      have e0 : A.tmps[0]? = some (.pointer (some ⟨g, 0, none⟩)) := (hFm.old 0 (by decide)).trans (by kernel_rfl)
      have HC : Hid _ := hC
      clear hC
      refine ⟨?_⟩
      go_simp
      refine hK _ _ rfl ?_
      obtain ⟨c0, cB, c1, cS⟩ := HC.out
      refine ⟨fun h => c0 (by simpa using h), (fun h1 h2 => by have h9 := cB (by simpa using h1) (by simpa using h2); simpa [updO, Go.Proofs.Ytlonnhnfmcndfad.upd] using h9), (fun h1 h2 => by have h9 := c1 (by simpa using h1) (by simpa using h2); simpa [updO, Go.Proofs.Ytlonnhnfmcndfad.upd] using h9), fun h => ?_⟩
      have h9 := cS (by simpa using h)
      exact ⟨by simp [h9.1], h9.2⟩
    refine StepsE.run rfl ?_ ?_
    · intro L U wr hC hP hlk hcl haf A K hFm hK
      simp [Aft, Region.binds] at haf
      have e0 : A.tmps[0]? = some (.pointer (some ⟨g, 0, none⟩)) := (hFm.old 0 (by decide)).trans (by kernel_rfl)
      have HC : Hid _ := hC
      clear hC
      refine ⟨?_⟩
      go_simp
      refine hK _ _ rfl ?_
      obtain ⟨c0, cB, c1, cS⟩ := HC.out
      refine ⟨fun h => c0 (by simpa using h), (fun h1 h2 => by have h9 := cB (by simpa using h1) (by simpa using h2); simpa [updO, Go.Proofs.Ytlonnhnfmcndfad.upd] using h9), (fun h1 h2 => by have h9 := c1 (by simpa using h1) (by simpa using h2); simpa [updO, Go.Proofs.Ytlonnhnfmcndfad.upd] using h9), fun h => ?_⟩
      have h9 := cS (by simpa using h)
      exact ⟨by simp [h9.1], h9.2⟩
    refine StepsE.run rfl ?_ ?_
    · intro L U wr hC hP hlk hcl haf A K hFm hK
      simp [Aft, Region.binds] at haf
      have g1 : U 21 = (.pointer (some ⟨g, 0, none⟩)) := hP 1 21 (by simp [haf]) rfl
      have e21 : A.tmps[21]? = some (.pointer (some ⟨g, 0, none⟩)) := hFm.is 1 21 rfl g1
      have HC : Hid _ := hC
      clear hC
      refine ⟨?_⟩
      go_simp
      refine hK _ _ rfl ?_
      obtain ⟨c0, cB, c1, cS⟩ := HC.out
      refine ⟨fun h => c0 (by simpa using h), (fun h1 h2 => by have h9 := cB (by simpa using h1) (by simpa using h2); simpa [updO, Go.Proofs.Ytlonnhnfmcndfad.upd] using h9), (fun h1 h2 => by have h9 := c1 (by simpa using h1) (by simpa using h2); simpa [updO, Go.Proofs.Ytlonnhnfmcndfad.upd] using h9), fun h => ?_⟩
      have h9 := cS (by simpa using h)
      exact ⟨by simp [h9.1], h9.2⟩
    refine StepsE.run rfl ?_ ?_
    · intro L U wr hC hP hlk hcl haf A K hFm hK
      simp [Aft, Region.binds] at haf
      have g2 : U 22 = (.pointer (some ⟨g, 0, none⟩)) := hP 2 22 (by simp [haf]) rfl
      have e22 : A.tmps[22]? = some (.pointer (some ⟨g, 0, none⟩)) := hFm.is 2 22 rfl g2
      have HC : Hid _ := hC
      clear hC
      refine ⟨?_⟩
      go_simp
      refine hK _ _ rfl ?_
      obtain ⟨c0, cB, c1, cS⟩ := HC.out
      refine ⟨fun h => c0 (by simpa using h), (fun h1 h2 => by have h9 := cB (by simpa using h1) (by simpa using h2); simpa [updO, Go.Proofs.Ytlonnhnfmcndfad.upd] using h9), (fun h1 h2 => by have h9 := c1 (by simpa using h1) (by simpa using h2); simpa [updO, Go.Proofs.Ytlonnhnfmcndfad.upd] using h9), fun h => ?_⟩
      have h9 := cS (by simpa using h)
      exact ⟨by simp [h9.1], h9.2⟩
    refine StepsE.run rfl ?_ ?_
    · intro L U wr hC hP hlk hcl haf A K hFm hK
      simp [Aft, Region.binds] at haf
      have g3 : U 23 = (.pointer (some ⟨g, 1, none⟩)) := hP 3 23 (by simp [haf]) rfl
      have e23 : A.tmps[23]? = some (.pointer (some ⟨g, 1, none⟩)) := hFm.is 3 23 rfl g3
      have hM8 : M5 wr := by
        obtain ⟨c0, cB, c1, cS⟩ := hC
        have hs : L 18 = false := by cases h : L 18 with | false => rfl | true => exact absurd (cS h).1 (by simp [hlk])
        cases h14 : L 15 with
        | false => exact HM0.out wr (c0 h14)
        | true => exact HM1.out wr (U 35) (c1 h14 hs).2.1
      rw [hM5] at hM8
      obtain ⟨m7, m4⟩ := hM8
      have HC : Hid _ := hC
      clear hC
      refine ⟨?_⟩
      go_simp
      refine hK _ _ rfl ?_
      obtain ⟨c0, cB, c1, cS⟩ := HC.out
      refine ⟨fun h => c0 (by simpa using h), (fun h1 h2 => by have h9 := cB (by simpa using h1) (by simpa using h2); simpa [updO, Go.Proofs.Ytlonnhnfmcndfad.upd] using h9), (fun h1 h2 => by have h9 := c1 (by simpa using h1) (by simpa using h2); simpa [updO, Go.Proofs.Ytlonnhnfmcndfad.upd] using h9), fun h => ?_⟩
      have h9 := cS (by simpa using h)
      exact ⟨by simp [h9.1], h9.2⟩
    refine StepsE.run rfl ?_ ?_
    · intro L U wr hC hP hlk hcl haf A K hFm hK
      simp [Aft, Region.binds] at haf
      have e1 : A.tmps[1]? = some (.int .i64 (a : Nat)) := (hFm.old 1 (by decide)).trans (by kernel_rfl)
      have HC : Hid _ := hC
      clear hC
      refine ⟨?_⟩
      go_simp
      refine hK _ _ rfl ?_
      obtain ⟨c0, cB, c1, cS⟩ := HC.out
      refine ⟨fun h => c0 (by simpa using h), (fun h1 h2 => by have h9 := cB (by simpa using h1) (by simpa using h2); simpa [updO, Go.Proofs.Ytlonnhnfmcndfad.upd] using h9), (fun h1 h2 => by have h9 := c1 (by simpa using h1) (by simpa using h2); simpa [updO, Go.Proofs.Ytlonnhnfmcndfad.upd] using h9), fun h => ?_⟩
      have h9 := cS (by simpa using h)
      exact ⟨by simp [h9.1], h9.2⟩
    refine StepsE.run rfl ?_ ?_
    · intro L U wr hC hP hlk hcl haf A K hFm hK
      simp [Aft, Region.binds] at haf
      have e2 : A.tmps[2]? = some (.int .i64 (b : Nat)) := (hFm.old 2 (by decide)).trans (by kernel_rfl)
      have HC : Hid _ := hC
      clear hC
      refine ⟨?_⟩
      go_simp
      refine hK _ _ rfl ?_
      obtain ⟨c0, cB, c1, cS⟩ := HC.out
      refine ⟨fun h => c0 (by simpa using h), (fun h1 h2 => by have h9 := cB (by simpa using h1) (by simpa using h2); simpa [updO, Go.Proofs.Ytlonnhnfmcndfad.upd] using h9), (fun h1 h2 => by have h9 := c1 (by simpa using h1) (by simpa using h2); simpa [updO, Go.Proofs.Ytlonnhnfmcndfad.upd] using h9), fun h => ?_⟩
      have h9 := cS (by simpa using h)
      exact ⟨by simp [h9.1], h9.2⟩
    refine StepsE.run rfl ?_ ?_
    · intro L U wr hC hP hlk hcl haf A K hFm hK
      simp [Aft, Region.binds] at haf
      have e0 : A.tmps[0]? = some (.pointer (some ⟨g, 0, none⟩)) := (hFm.old 0 (by decide)).trans (by kernel_rfl)
      have HC : Hid _ := hC
      clear hC
      refine ⟨?_⟩
      go_simp
      refine hK _ _ rfl ?_
      obtain ⟨c0, cB, c1, cS⟩ := HC.out
      refine ⟨fun h => c0 (by simpa using h), (fun h1 h2 => by have h9 := cB (by simpa using h1) (by simpa using h2); simpa [updO, Go.Proofs.Ytlonnhnfmcndfad.upd] using h9), (fun h1 h2 => by have h9 := c1 (by simpa using h1) (by simpa using h2); simpa [updO, Go.Proofs.Ytlonnhnfmcndfad.upd] using h9), fun h => ?_⟩
      have h9 := cS (by simpa using h)
      exact ⟨by simp [h9.1], h9.2⟩
    refine StepsE.run rfl ?_ ?_
    · intro L U wr hC hP hlk hcl haf A K hFm hK
      simp [Aft, Region.binds] at haf
      have g7 : U 27 = (.pointer (some ⟨g, 0, none⟩)) := hP 7 27 (by simp [haf]) rfl
      have e27 : A.tmps[27]? = some (.pointer (some ⟨g, 0, none⟩)) := hFm.is 7 27 rfl g7
      have HC : Hid _ := hC
      clear hC
      refine ⟨?_⟩
      go_simp
      refine hK _ _ rfl ?_
      obtain ⟨c0, cB, c1, cS⟩ := HC.out
      refine ⟨fun h => c0 (by simpa using h), (fun h1 h2 => by have h9 := cB (by simpa using h1) (by simpa using h2); simpa [updO, Go.Proofs.Ytlonnhnfmcndfad.upd] using h9), (fun h1 h2 => by have h9 := c1 (by simpa using h1) (by simpa using h2); simpa [updO, Go.Proofs.Ytlonnhnfmcndfad.upd] using h9), fun h => ?_⟩
      have h9 := cS (by simpa using h)
      exact ⟨by simp [h9.1], h9.2⟩
    refine StepsE.run rfl ?_ ?_
    · intro L U wr hC hP hlk hcl haf A K hFm hK
      simp [Aft, Region.binds] at haf
      have g8 : U 28 = (.pointer (some ⟨g, 0, none⟩)) := hP 8 28 (by simp [haf]) rfl
      have e28 : A.tmps[28]? = some (.pointer (some ⟨g, 0, none⟩)) := hFm.is 8 28 rfl g8
      have HC : Hid _ := hC
      clear hC
      refine ⟨?_⟩
      go_simp
      refine hK _ _ rfl ?_
      obtain ⟨c0, cB, c1, cS⟩ := HC.out
      refine ⟨fun h => c0 (by simpa using h), (fun h1 h2 => by have h9 := cB (by simpa using h1) (by simpa using h2); simpa [updO, Go.Proofs.Ytlonnhnfmcndfad.upd] using h9), (fun h1 h2 => by have h9 := c1 (by simpa using h1) (by simpa using h2); simpa [updO, Go.Proofs.Ytlonnhnfmcndfad.upd] using h9), fun h => ?_⟩
      have h9 := cS (by simpa using h)
      exact ⟨by simp [h9.1], h9.2⟩
    refine StepsE.run rfl ?_ ?_
    · intro L U wr hC hP hlk hcl haf A K hFm hK
      simp [Aft, Region.binds] at haf
      have g9 : U 29 = (.pointer (some ⟨g, 2, none⟩)) := hP 9 29 (by simp [haf]) rfl
      have e29 : A.tmps[29]? = some (.pointer (some ⟨g, 2, none⟩)) := hFm.is 9 29 rfl g9
      have HC : Hid _ := hC
      clear hC
      refine ⟨?_⟩
      go_simp
      refine hK _ _ rfl ?_
      obtain ⟨c0, cB, c1, cS⟩ := HC.out
      refine ⟨fun h => c0 (by simpa using h), (fun h1 h2 => by have h9 := cB (by simpa using h1) (by simpa using h2); simpa [updO, Go.Proofs.Ytlonnhnfmcndfad.upd] using h9), (fun h1 h2 => by have h9 := c1 (by simpa using h1) (by simpa using h2); simpa [updO, Go.Proofs.Ytlonnhnfmcndfad.upd] using h9), fun h => ?_⟩
      have h9 := cS (by simpa using h)
      exact ⟨by simp [h9.1], h9.2⟩
    refine StepsE.run rfl ?_ ?_
    · intro L U wr hC hP hlk hcl haf A K hFm hK
      simp [Aft, Region.binds] at haf
      have g10 : U 30 = (.pointer (some ⟨g, 4, none⟩)) := hP 10 30 (by simp [haf]) rfl
      have e30 : A.tmps[30]? = some (.pointer (some ⟨g, 4, none⟩)) := hFm.is 10 30 rfl g10
      have hM8 : M5 wr := by
        obtain ⟨c0, cB, c1, cS⟩ := hC
        have hs : L 18 = false := by cases h : L 18 with | false => rfl | true => exact absurd (cS h).1 (by simp [hlk])
        cases h14 : L 15 with
        | false => exact HM0.out wr (c0 h14)
        | true => exact HM1.out wr (U 35) (c1 h14 hs).2.1
      rw [hM5] at hM8
      obtain ⟨m7, m4⟩ := hM8
      have HC : Hid _ := hC
      clear hC
      refine ⟨?_⟩
      go_simp
      refine hK _ _ rfl ?_
      obtain ⟨c0, cB, c1, cS⟩ := HC.out
      refine ⟨fun h => c0 (by simpa using h), (fun h1 h2 => by have h9 := cB (by simpa using h1) (by simpa using h2); simpa [updO, Go.Proofs.Ytlonnhnfmcndfad.upd] using h9), (fun h1 h2 => by have h9 := c1 (by simpa using h1) (by simpa using h2); simpa [updO, Go.Proofs.Ytlonnhnfmcndfad.upd] using h9), fun h => ?_⟩
      have h9 := cS (by simpa using h)
      exact ⟨by simp [h9.1], h9.2⟩
    refine StepsE.run rfl ?_ ?_
    · intro L U wr hC hP hlk hcl haf A K hFm hK
      simp [Aft, Region.binds] at haf
      have g11 : U 31 = (.slice ap d.f.np cp) := hP 11 31 (by simp [haf]) rfl
      have e31 : A.tmps[31]? = some (.slice ap d.f.np cp) := hFm.is 11 31 rfl g11
      have HC : Hid _ := hC
      clear hC
      refine ⟨?_⟩
      go_simp
      refine hK _ _ rfl ?_
      obtain ⟨c0, cB, c1, cS⟩ := HC.out
      refine ⟨fun h => c0 (by simpa using h), (fun h1 h2 => by have h9 := cB (by simpa using h1) (by simpa using h2); simpa [updO, Go.Proofs.Ytlonnhnfmcndfad.upd] using h9), (fun h1 h2 => by have h9 := c1 (by simpa using h1) (by simpa using h2); simpa [updO, Go.Proofs.Ytlonnhnfmcndfad.upd] using h9), fun h => ?_⟩
      have h9 := cS (by simpa using h)
      exact ⟨by simp [h9.1], h9.2⟩
    refine StepsE.run rfl ?_ ?_
    · intro L U wr hC hP hlk hcl haf A K hFm hK
      simp [Aft, Region.binds] at haf
      have g5 : U 25 = (.int .i64 (a : Nat)) := hP 5 25 (by simp [haf]) rfl
      have e25 : A.tmps[25]? = some (.int .i64 (a : Nat)) := hFm.is 5 25 rfl g5
      have g6 : U 26 = (.int .i64 (b : Nat)) := hP 6 26 (by simp [haf]) rfl
      have e26 : A.tmps[26]? = some (.int .i64 (b : Nat)) := hFm.is 6 26 rfl g6
      have g12 : U 32 = (.int .i64 (d.f.np : Nat)) := hP 12 32 (by simp [haf]) rfl
      have e32 : A.tmps[32]? = some (.int .i64 (d.f.np : Nat)) := hFm.is 12 32 rfl g12
      have HC : Hid _ := hC
      clear hC
      refine ⟨?_⟩
      go_simp
      refine hK _ _ rfl ?_
      obtain ⟨c0, cB, c1, cS⟩ := HC.out
      refine ⟨fun h => c0 (by simpa using h), (fun h1 h2 => by have h9 := cB (by simpa using h1) (by simpa using h2); simpa [updO, Go.Proofs.Ytlonnhnfmcndfad.upd] using h9), (fun h1 h2 => by have h9 := c1 (by simpa using h1) (by simpa using h2); simpa [updO, Go.Proofs.Ytlonnhnfmcndfad.upd] using h9), fun h => ?_⟩
      have h9 := cS (by simpa using h)
      exact ⟨by simp [h9.1], h9.2⟩
    refine StepsE.run rfl ?_ ?_
    · intro L U wr hC hP hlk hcl haf A K hFm hK
      simp [Aft, Region.binds] at haf
      have g13 : U 33 = (.agg #[.int .i64 (a : Nat), .int .i64 (b : Nat), .int .i64 (d.f.np : Nat)]) := hP 13 33 (by simp [haf]) rfl
      have e33 : A.tmps[33]? = some (.agg #[.int .i64 (a : Nat), .int .i64 (b : Nat), .int .i64 (d.f.np : Nat)]) := hFm.is 13 33 rfl g13
      have hA9 : L 15 = false := by cases h : L 15 with | false => rfl | true => have h9 := hcl 15 _ rfl h; simp [Aft, Region.binds, hlk] at h9
      refine ⟨?_⟩
      go_simp
      refine hK _ _ trivial ⟨fun h => ?_, fun _ _ => ?_, fun h1 h2 => ?_, fun h => ?_⟩
      · exact ((hC.1 hA9).alloc (hC.1 hA9).size _)
      · exact ⟨wr.heap.size, rfl, heap_alloc_new wr _⟩
      · simp [hA9] at h1
      · have h9 := (hC.2.2.2 (by simpa using h)).1
        simp [hlk] at h9
    refine StepsE.run rfl ?_ ?_
    · intro L U wr hC hP hlk hcl haf A K hFm hK
      simp [Aft, Region.binds] at haf
      have g4 : U 24 = (d.x.c1) := hP 4 24 (by simp [haf]) rfl
      have e24 : A.tmps[24]? = some (d.x.c1) := hFm.is 4 24 rfl g4
      have e34 : A.tmps[34]? = some (U 34) := hFm.got 14 34 rfl
      have l14 : L 14 = true := by simp [haf]
      refine ⟨?_⟩
      refine wp_push1 (.tmp 24) (.tmp 34) 68 rfl 3 79 _ 24 uEqs iEq (by decide) rfl (by decide) (d.x.c1) (d.f.ne) (eqC d.f.E) (by simp [Act.eval, e24]) (HOWN.out wr (hC.1 hlk)) (fun _ _ => rfl) [.int .i64 (a : Nat), .int .i64 (b : Nat), .int .i64 (d.f.np : Nat)] 79 (U 34) (hC.2.1 l14 hlk) (by simp [Act.eval, e34]) rfl (by intro u hu; simp at hu; rcases hu with rfl | rfl | rfl <;> rfl) HNB.out (eqC (upd d.f.E d.f.ne (a, b, d.f.np))) (fun k hk => by simp [eqC, upd, Nat.ne_of_lt hk]) (by simp [eqC, upd]) ?_
      intro v9 w9 hol9 hap9 hne9
      refine hK _ _ trivial ⟨fun h => ?_, fun _ h => ?_, fun _ _ => ?_, fun h => ?_⟩
      · simp at h
      · simp at h
      · simp only [updO, Go.Proofs.Ytlonnhnfmcndfad.upd, beq_self_eq_true, cond_true]; exact ⟨hol9, hap9.ofBelow (hC.1 hlk), hne9⟩
      · have h9 := (hC.2.2.2 (by simpa using h)).1
        simp [hlk] at h9
    refine StepsE.run rfl ?_ ?_
    · intro L U wr hC hP hlk hcl haf A K hFm hK
      simp [Aft, Region.binds] at haf
      have g0 : U 20 = (.pointer (some ⟨g, 0, none⟩)) := hP 0 20 (by simp [haf]) rfl
      have e20 : A.tmps[20]? = some (.pointer (some ⟨g, 0, none⟩)) := hFm.is 0 20 rfl g0
      have HC : Hid _ := hC
      clear hC
      refine ⟨?_⟩
      go_simp
      refine hK _ _ rfl ?_
      obtain ⟨c0, cB, c1, cS⟩ := HC.out
      refine ⟨fun h => c0 (by simpa using h), (fun h1 h2 => by have h9 := cB (by simpa using h1) (by simpa using h2); simpa [updO, Go.Proofs.Ytlonnhnfmcndfad.upd] using h9), (fun h1 h2 => by have h9 := c1 (by simpa using h1) (by simpa using h2); simpa [updO, Go.Proofs.Ytlonnhnfmcndfad.upd] using h9), fun h => ?_⟩
      have h9 := cS (by simpa using h)
      exact ⟨by simp [h9.1], h9.2⟩
    refine StepsE.run rfl ?_ ?_
    · intro L U wr hC hP hlk hcl haf A K hFm hK
      simp [Aft, Region.binds] at haf
      have g16 : U 36 = (.pointer (some ⟨g, 0, none⟩)) := hP 16 36 (by simp [haf]) rfl
      have e36 : A.tmps[36]? = some (.pointer (some ⟨g, 0, none⟩)) := hFm.is 16 36 rfl g16
      have HC : Hid _ := hC
      clear hC
      refine ⟨?_⟩
      go_simp
      refine hK _ _ rfl ?_
      obtain ⟨c0, cB, c1, cS⟩ := HC.out
      refine ⟨fun h => c0 (by simpa using h), (fun h1 h2 => by have h9 := cB (by simpa using h1) (by simpa using h2); simpa [updO, Go.Proofs.Ytlonnhnfmcndfad.upd] using h9), (fun h1 h2 => by have h9 := c1 (by simpa using h1) (by simpa using h2); simpa [updO, Go.Proofs.Ytlonnhnfmcndfad.upd] using h9), fun h => ?_⟩
      have h9 := cS (by simpa using h)
      exact ⟨by simp [h9.1], h9.2⟩
    refine StepsE.run rfl ?_ StepsE.nil
    · intro L U wr hC hP hlk hcl haf A K hFm hK
      simp [Aft, Region.binds] at haf
      have g17 : U 37 = (.pointer (some ⟨g, 1, none⟩)) := hP 17 37 (by simp [haf]) rfl
      have e37 : A.tmps[37]? = some (.pointer (some ⟨g, 1, none⟩)) := hFm.is 17 37 rfl g17
      have e35 : A.tmps[35]? = some (U 35) := hFm.got 15 35 rfl
      have l17 : L 17 = true := by simp [haf]
      have l15 : L 15 = true := by simp [haf]
      have a17 := hcl 17 _ rfl l17
      simp [Aft, Region.binds] at a17
      have l16 : L 16 = true := by simp [a17]
      have a15 := hcl 15 _ rfl l15
      simp [Aft, Region.binds] at a15
      have l4 : L 4 = true := by simp [a15]
      have l14 : L 14 = true := by simp [a15]
      have a16 := hcl 16 _ rfl l16
      simp [Aft, Region.binds] at a16
      have l0 : L 0 = true := by simp [a16]
      have a4 := hcl 4 _ rfl l4
      simp [Aft, Region.binds] at a4
      have l3 : L 3 = true := by simp [a4]
      have a14 := hcl 14 _ rfl l14
      simp [Aft, Region.binds] at a14
      have l13 : L 13 = true := by simp [a14]
      have a3 := hcl 3 _ rfl l3
      simp [Aft, Region.binds] at a3
      have l2 : L 2 = true := by simp [a3]
      have a13 := hcl 13 _ rfl l13
      simp [Aft, Region.binds] at a13
      have l5 : L 5 = true := by simp [a13]
      have l6 : L 6 = true := by simp [a13]
      have l12 : L 12 = true := by simp [a13]
      have a2 := hcl 2 _ rfl l2
      simp [Aft, Region.binds] at a2
      have l1 : L 1 = true := by simp [a2]
      have a12 := hcl 12 _ rfl l12
      simp [Aft, Region.binds] at a12
      have l11 : L 11 = true := by simp [a12]
      have a11 := hcl 11 _ rfl l11
      simp [Aft, Region.binds] at a11
      have l10 : L 10 = true := by simp [a11]
      have a10 := hcl 10 _ rfl l10
      simp [Aft, Region.binds] at a10
      have l9 : L 9 = true := by simp [a10]
      have a9 := hcl 9 _ rfl l9
      simp [Aft, Region.binds] at a9
      have l8 : L 8 = true := by simp [a9]
      have a8 := hcl 8 _ rfl l8
      simp [Aft, Region.binds] at a8
      have l7 : L 7 = true := by simp [a8]
      refine ⟨?_⟩
      obtain ⟨hol9, hap9, hne9⟩ := hC.2.2.1 l15 hlk
      have HKK : Hid _ := HSET.out wr (U 35) hol9 hap9 hne9
      obtain ⟨k4, k5⟩ := HFZ.out wr (U 35) hap9
      obtain ⟨ao9, cc9, hv9, -, -, -, -⟩ := hol9.shape
      obtain ⟨nl, hnl⟩ : ∃ nl, nl = d.f.ne + 1 := ⟨_, rfl⟩
      rw [← hnl] at hv9
      clear hnl
      have e35 : A.tmps[35]? = some (.slice ao9 nl cc9) := hFm.is 15 35 rfl hv9
      rw [hv9] at HKK
      clear hol9 hap9 hne9 hC
      go_simp
      refine hK (.tuple #[]) _ trivial ⟨fun h => ?_, fun h1 h2 => ?_, fun h1 h2 => ?_, fun _ => ⟨?_, HKK.out⟩⟩
      · simp [l15] at h
      · simp [l15] at h2
      · simp at h2
      · simp [l0, l1, l2, l3, l4, l5, l6, l7, l8, l9, l10, l11, l12, l13, l14, l15, l16, l17]
  intro L U5 V5 hall hC hP
  have hE := (hC.2.2.2 (hall 18 (by decide))).2
  rw [hE5] at hE
  obtain ⟨v9, hne9, hC9, hM9, hF9⟩ := hE
  clear hC hP hall hE5 hM5 HM0 HM1 HFZ HOWN HSET
  simp only [setM_some, setM_none, setM_nil]
  have HE : Hid _ := And.intro hC9 (And.intro hM9 hF9)
  obtain ⟨-, c1, -, -, -, -, -, -, -, -⟩ := hC9.cw.cells
  obtain ⟨a9, c9, hv9, -, -, -, -⟩ := hC9.cw.eqs.shape
  replace hv9 : v9 = .slice a9 (d.f.ne + 1) c9 := hv9
  replace c1 : V5.cell? ⟨g, 1, none⟩ = some (.slice a9 (d.f.ne + 1) c9) := by rw [← hv9]; exact c1
  have hgl5 := hC9.cw.lt
  clear hC9 hM9 hF9 hne9 hv9 hgl2
  go_wp2
  refine bodyPost_ret (v := .tuple #[.int .i64 (d.f.ne : Nat), .int .i64 0]) (by simp [results, Try.results11, go_sem]) rfl ?_
  refine ⟨rfl, v9, HE.out.1, ?_, fun c hc => ?_⟩
  · exact (Mv.below (F := Fg g d) HB1.out).trans HE.out.2.1 (fun b hb => Or.inl hb)
  · rcases HE.out.2.2 c hc with h9 | h9
    · exact Or.inl h9
    · exact Or.inr (Nat.le_trans HB1.out.size h9)
end Euf
end Go.Proofs.Ytlonnhnfmcndfad
