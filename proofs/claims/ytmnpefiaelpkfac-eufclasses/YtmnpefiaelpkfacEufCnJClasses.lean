/- slices.Clone of a list of ints that isn't empty; no statement of the seat is proved here. -/
import Derived.Test.YtmnpefiaelpkfacEufKlJClasses
namespace Go.Proofs.Ytmnpefiaelpkfac
open Go.RowKit
set_option linter.unusedVariables false
namespace Euf
theorem flat_natC (l : List Nat) (n : Nat) : ∀ u ∈ flat (natC l) n, u.oneCell' = true := by
  intro u hu
  obtain ⟨i, _, hi⟩ := flat_mem _ _ hu
  unfold natC at hi
  simp at hi
  subst hi
  rfl
set_option maxRecDepth 20000 in
set_option maxHeartbeats 8000000 in
theorem Clone_any (b cap : Nat) (l : List Nat) (w : World) (h : OL 1 3 w (.slice (some ⟨b, 0, none⟩) l.length cap) l.length (natC l)) (h0 : 0 < l.length) (hl : l.length ≤ 1000) :
    Calls Try.prog 19 #[.slice (some ⟨b, 0, none⟩) l.length cap] w fun e w' => ∃ b' cap' : Nat, e = .returned (.slice (some ⟨b', 0, none⟩) l.length cap') ∧ OL 1 3 w' (.slice (some ⟨b', 0, none⟩) l.length cap') l.length (natC l) ∧ Below w.heap.size w w' ∧ w.heap.size ≤ b' := by
  have HOL : Hid (OL 1 3 w (.slice (some ⟨b, 0, none⟩) l.length cap) l.length (natC l)) := h
  have q28 : ∀ (w : World) (a : Option Addr) (n c n' c' : Nat), (binOp .eql 31 (.slice a n c) (.slice none n' c')).run Try.prog w = .ok (.bool a.isNone) w := fun w a n c n' c' => Lib.run_eql_slice_nil w _ _ a n c n' c' uIntsE
  have H0 : Hid (0 < l.length) := h0
  obtain ⟨n, hn⟩ : ∃ n, n = l.length := ⟨_, rfl⟩
  have HN : Hid (n = l.length) := hn
  rw [← hn]
  rw [← hn] at HOL H0 hl
  clear h h0 hn
  go_enter Try.func19, Try.ntmps19
  go_wp2_with (at_builtin; refine Stop.of ?_)
  show wpList _ _ _ _ _ _
  have hb0 : Below w.heap.size w (w.alloc (.cells #[] 3 (0, 0))) := by go_grown
  have hol := HOL.out.stay (fun b hb => hb0.block b (HOL.out.lt hb))
  refine wpList_append_list rfl (.tmp 5) (.tmp 6) 31 rfl 1 3 _ 8 uIntsE iIntE (by decide) rfl (by decide) (.slice (some ⟨w.heap.size, 0, none⟩) 0 0) 0 (natC l) rfl (ol_empty w 1 3 _) (fun k hk => rfl) (.slice (some ⟨b, 0, none⟩) n cap) n (natC l) rfl hol (fun k hk => rfl) (flat_natC l n) (by omega) (natC l) (fun k hk => absurd hk (Nat.not_lt_zero _)) (fun k hk => by rw [Nat.zero_add]) ?_
  intro v' w' hol' hap'
  rw [Nat.zero_add] at hol'
  obtain ⟨b', cap', hv', -, -⟩ := hol'.open 0 H0.out
  subst hv'
  have HE : Hid (OL 1 3 w' (.slice (some ⟨b', 0, none⟩) n cap') n (natC l) ∧ Below w.heap.size w w' ∧ w.heap.size ≤ b') := ⟨hol', hb0.trans (hap'.toBelow hb0.size (fun b hb => by injection hb with hb; have hb2 : w.heap.size = b := hb; omega)), by
    rcases hap'.at_ with e | ⟨b2, e, hge⟩
    · injection e with e
      have e2 : b' = w.heap.size := e
      omega
    · injection e with e
      have e2 : b' = b2 := e
      rw [World.size_alloc] at hge
      omega⟩
  clear hol' hap' hol hb0 q28
  go_wp2
  go_ret
  exact ⟨b', cap', rfl, HE.out⟩
set_option maxRecDepth 20000 in
set_option maxHeartbeats 8000000 in
theorem Classes_any (g : Nat) (d : Gd) (w : World) (h : GW w g d) (hk : GSem d) (hnn : d.t.nn ≤ 60) (hne : d.f.ne ≤ 60) :
    Calls Try.prog 7 #[.pointer (some ⟨g, 0, none⟩)] w fun e w' => ∃ (bX : Nat) (c : Nat → Nat) (vO : Value), e = .returned (.func (.func 18) #[] #[.pointer (some ⟨bX, 0, none⟩)]) ∧ Blk 33 w' bX #[vO] ∧ w.heap.size ≤ bX ∧ (∀ i, i < d.t.nn → Least d.t.nn d.t.N (EqOf d.f) i (c i)) ∧ ∃ vi : Nat → Value, LL w' vO (rpsL c d.t.nn).length vi (clsL c d.t.nn) ∧ (∀ b, FL vO (rpsL c d.t.nn).length vi b → w.heap.size ≤ b) ∧ Mv (Fg g d) w w' := by
  have HK : Hid (GW w g d ∧ GSem d) := ⟨h, hk⟩
  clear h hk
  go_enter Try.func7, Try.ntmps7
  go_wp2_with fail
  refine (classes_any g d w HK.out.1 HK.out.2 hnn hne).mono ?_
  rintro e w3 ⟨c, vO, rfl, hL, vi, hll, hbl, hM⟩
  obtain ⟨aO, cO, hv, -, -, -, -⟩ := hll.out.shape
  subst hv
  obtain ⟨W, hW⟩ : ∃ W, W = w3.alloc (.cells #[.slice aO (rpsL c d.t.nn).length cO] 33 (0, 0)) := ⟨_, rfl⟩
  have hb : Below w3.heap.size w3 W := by rw [hW]; go_grown
  have HE : Hid (Blk 33 W w3.heap.size #[.slice aO (rpsL c d.t.nn).length cO] ∧ w.heap.size ≤ w3.heap.size ∧ (∀ i, i < d.t.nn → Least d.t.nn d.t.N (EqOf d.f) i (c i)) ∧ ∃ vi : Nat → Value, LL W (.slice aO (rpsL c d.t.nn).length cO) (rpsL c d.t.nn).length vi (clsL c d.t.nn) ∧ (∀ b, FL (.slice aO (rpsL c d.t.nn).length cO) (rpsL c d.t.nn).length vi b → w.heap.size ≤ b) ∧ Mv (Fg g d) w W) := by
    refine ⟨by rw [hW]; exact heap_alloc_new w3 _, hM.size, hL, vi, hll.below hb, hbl, hM.trans (Mv.below (F := fun _ => False) hb) (fun b hf => hf.elim)⟩
  clear hL hll hbl hM hb
  go_wp2
  rw [← hW]
  go_ret
  exact ⟨_, c, _, rfl, HE.out⟩
end Euf
end Go.Proofs.Ytmnpefiaelpkfac
