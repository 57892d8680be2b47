/- A range over a function whose head writes memory; no statement of the seat is proved here. -/
import Derived.RangeFuncNested
import Derived.RangeFuncBound
import Derived.RangeFuncCalls
import Derived.RangeFuncLeaves
import Derived.Shelf.Abstract
import Derived.OwnWalkIn
import Derived.TacticsInMore
import Derived.LoopNIn
import Derived.LoopIn
import Derived.WalkKit
import Derived.Test.YtomldkljlbdnjaaGreatJoin4Binds
import Derived.Test.YtomldkljlbdnjaaGreatJoin3Binds
import Derived.Test.YtomldkljlbdnjaaGreatJoin13Binds
namespace Go.Proofs.YtomldkljlbdnjaaGreat
open Go.RowKit
set_option linter.unusedVariables false
namespace Syn
theorem range_mid {P : Program} {n : Nat} {g : Operand} {ps : Array Tmp} {assign body : Code} {Q : Exit → Act → World → Prop} {a : Act} {w : World}
    {gf : Nat} {lb : Array Value} (hg : a.eval g = .func (.func gf) #[] lb) (eg : ∀ args w, (callFunc gf args).run P w = .ok (.enter gf args) w)
    (St : Nat → World → Prop) (Ok : Nat → Array Value → World → Prop) (Sx : Code → World → Prop) (En : Nat → Prop) (Mid : Nat → Array Value → Act → World → Prop) (hsz : ∀ k x W, Ok k x W → x.size = ps.size)
    (hst : ∀ k W o, St k W → St k (W.putObj (w.heap.size + 1) o)) (hmid : ∀ k x a' W o, Mid k x a' W → Mid k x a' (W.putObj (w.heap.size + 1) o)) (hsx : ∀ c W o, Sx c W → Sx c (W.putObj (w.heap.size + 1) o))
    (h0 : ∀ o o', St 0 ((w.alloc o).alloc o'))
    (hassign : ∀ (k : Nat) (x : Array Value) (W : World) (K : Act → World → Prop), St k W → Ok k x W → w.heap.size + 1 < W.heap.size → (∀ a' W', Mid k x a' W' → Below W.heap.size W W' → K a' W') → assign.wpIn (Fence.wide.inRound (w.heap.size + 1)) (n - 1 - 1) P (Exit.then K (fun _ _ _ => False)) { tmps := (ps.zip x).foldl (fun t (q, v) => t.setIfInBounds q v) a.tmps, defers := [] } W)
    (hbody : ∀ (k : Nat) (x : Array Value) (a' : Act) (W : World), Mid k x a' W → w.heap.size + 1 < W.heap.size → body.wpIn (Fence.wide.inRound (w.heap.size + 1)) (n - 1 - 1) P (RPost St Sx w k W) a' W)
    (hit : ∀ (Rd Dn : World → Prop), (∀ W, Rd W → w.heap.size + 1 < W.heap.size) → (∀ W W', Rd W → Below W.heap.size W W' → Rd W') →
      (∀ k x W, St k W → Ok k x W → Rd W → YieldAt Fence.wide (n - 1 - 1) P (w.heap.size + 1) x W fun e W' => (e = .returned (.bool true) ∧ St (k + 1) W' ∧ Rd W') ∨ (e = .returned (.bool false) ∧ Dn W')) →
      ∀ W1, St 0 W1 → Rd W1 → CallsIn Fence.wide (n - 1) P gf (#[.func (.yield (w.heap.size + 1)) #[] #[]] ++ lb) W1 fun e W' => (∃ v, e = .returned v) ∧ ((∃ k, En k ∧ St k W' ∧ Rd W') ∨ Dn W'))
    (hdone : ∀ (k : Nat) (W : World), En k → St k W → W.heap[w.heap.size]? = some (.deferred (some [])) → Q .normal { a with defers := { target := .collected w.heap.size, args := #[] } :: a.defers } W)
    (hstop : ∀ (c : Code) (W : World), Sx c W → W.heap[w.heap.size]? = some (.deferred (some [])) → c.wpIn Fence.wide n P Q { a with defers := { target := .collected w.heap.size, args := #[] } :: a.defers } W) :
    (Code.rangeFunc g ps assign body).wpIn Fence.wide n P Q a w := by
  refine wpIn_rangeFunc ?_
  intro fn hfn
  obtain ⟨rec, hrec⟩ : ∃ rec : LoopState → Option Code → Loop, rec = fun st pe => { state := st, pending := pe, fn, tmps := a.tmps, params := ps, assign, body, defers := w.heap.size } := ⟨_, rfl⟩
  obtain ⟨W1, hW1⟩ : ∃ W1, (w.alloc (.deferred (some []))).alloc (.loop (rec .ready none)) = W1 := ⟨_, rfl⟩
  have hR1 : Rdy w (rec .ready none) W1 := by
    refine ⟨?_, ?_⟩
    · rw [← hW1]; have h9 := World.alloc_heap_new (w.alloc (.deferred (some []))) (.loop (rec .ready none)); rwa [World.size_alloc] at h9
    · rw [← hW1]; exact (Below.heap_alloc _ _ _ (by simp)).trans (World.alloc_heap_new w _)
  have hS1 : St 0 W1 := by rw [← hW1]; exact h0 _ _
  refine ⟨w.heap.size + 1, [{ target := .collected w.heap.size, args := #[] }], W1, { target := .fn (.func gf) lb, args := #[.func (.yield (w.heap.size + 1)) #[] #[]] }, W1, gf, #[.func (.yield (w.heap.size + 1)) #[] #[]] ++ lb, W1, ?_, ?_, ?_, ?_, (fun h => by cases h), ?_⟩
  · rw [← hW1, hrec]; exact run_enterLoop_outer _ _ _ _ _
  · simp only [resolve, hg]
    simp [go_sem]
  · intro f' _; exact trivial
  · simp [invoke, go_sem, eg]
  refine (hit (Rdy w (rec .ready none)) (fun W => ∃ c, Sx c W ∧ Rdy w (rec .done (some c)) W) (fun W h => (Array.getElem?_eq_some_iff.1 h.l).1) (fun W W' h hb => h.below hb) ?_ W1 hS1 hR1).mono ?_
  · intro k x W hk hx hr
    have hlt : w.heap.size + 1 < W.heap.size := (Array.getElem?_eq_some_iff.1 hr.l).1
    have hy := run_yield (P := P) (args := x) hr.l (by rw [hrec]; exact hsz k x W hx)
    rw [hrec] at hy
    refine ⟨fn, _, assign, body, hy, roundIn_of_wpIn trivial (hassign k x W _ hk hx hlt (fun a' V hmd hbl => ?_))⟩
    have hr := hr.below hbl
    refine ⟨_, run_beginRound hr.l (by rw [hrec]), ?_⟩
    have hb2 := hr.put { rec .ready none with state := .busy }
    refine wpIn_mono (hbody k x a' _ (hmid k x a' V _ hmd) (by have := (Array.getElem?_eq_some_iff.1 hb2.l).1; omega)) ?_
    have fin : ∀ (jump : Option Code) (W3 : World), (W3.heap[w.heap.size + 1]? = (V.putObj (w.heap.size + 1) (.loop { rec .ready none with state := .busy })).heap[w.heap.size + 1]? ∧ W3.heap[w.heap.size]? = (V.putObj (w.heap.size + 1) (.loop { rec .ready none with state := .busy })).heap[w.heap.size]?) →
        (Instr.endRound (w.heap.size + 1) jump).run P W3 = .ok (.bool jump.isNone) (W3.putObj (w.heap.size + 1) (.loop (rec (if jump.isNone then .ready else .done) jump))) ∧ Rdy w (rec (if jump.isNone then .ready else .done) jump) (W3.putObj (w.heap.size + 1) (.loop (rec (if jump.isNone then .ready else .done) jump))) := fun jump W3 hk3 => by
      have h3 : Rdy w { rec .ready none with state := .busy } W3 := ⟨hk3.1.trans hb2.l, hk3.2.trans hb2.d⟩
      have h9 := run_endRound (P := P) jump h3.l
      rw [hrec] at h9 ⊢
      exact ⟨h9, by have h8 := h3.put (rec (if jump.isNone then .ready else .done) jump); rw [hrec] at h8; exact h8⟩
    rintro e a3 W3 hp
    cases e with
    | normal =>
      obtain ⟨q1, q2⟩ := fin none W3 hp.1
      exact ⟨_, _, q1, .inl ⟨rfl, hst _ _ _ hp.2, q2⟩⟩
    | ret =>
      obtain ⟨q1, q2⟩ := fin (some .ret) W3 hp.1
      exact ⟨_, _, q1, .inr ⟨rfl, .ret, hsx _ _ _ hp.2, q2⟩⟩
    | exit i =>
      obtain ⟨q1, q2⟩ := fin (some (.exit i)) W3 hp.1
      exact ⟨_, _, q1, .inr ⟨rfl, .exit i, hsx _ _ _ hp.2, q2⟩⟩
    | goto t => exact hp.elim
    | panic ch => exact hp.elim
    | outgrown => exact hp.elim
  · rintro e W2 ⟨⟨v, rfl⟩, (⟨k, hE, hk, hr⟩ | ⟨c, hc, hr⟩)⟩
    · refine ⟨none, _, by have h9 := run_endLoop (P := P) hr.l (by rw [hrec]; simp); rw [hrec] at h9; exact h9, hdone k _ hE (hst _ _ _ hk) ((World.putObj_heap_other (by omega)).trans hr.d)⟩
    · refine ⟨some c, _, by have h9 := run_endLoop (P := P) hr.l (by rw [hrec]; simp); rw [hrec] at h9; exact h9, hstop c _ (hsx _ _ _ hc) ((World.putObj_heap_other (by omega)).trans hr.d)⟩
end Syn
end Go.Proofs.YtomldkljlbdnjaaGreat
