/- Contracts of copied and keep; they prove no statement of the seat. -/
import Derived.Test.YtlonnhnfmcndfadJoin3Gcd
import Derived.Test.YtlonnhnfmcndfadBaseJGcd
namespace Go.Proofs.Ytlonnhnfmcndfad
open Go.RowKit
set_option linter.unusedVariables false
namespace Euf
theorem row_ol {w : World} {g n : Nat} {xs : List Nat} (h : Row .i64 3 w g xs) (hn : xs.length = n) (hm : n ≤ 10000) : OL 1 3 w (.slice (some ⟨g, 0, none⟩) n n) n (natC xs) := by
  refine Or.inr ⟨g, n, _, rfl, h, Nat.le_refl _, by unfold maxLen; omega, by simp [hn], fun i hi j hj => ?_⟩
  obtain rfl : j = 0 := by omega
  have hi' : i < xs.length := by omega
  simp [natC, hi']

set_option maxHeartbeats 400000 in
theorem copied_e (ao : Option Addr) (n cap : Nat) (xs : List Nat) (w : World) (hn : xs.length = n) (h1 : n ≤ 10000) (hs : Seg .i64 w ao xs) :
    Calls Try.prog 26 #[.slice ao n cap] w fun e w' => e = .returned (.slice (some ⟨w.heap.size, 0, none⟩) n n) ∧ OL 1 3 w' (.slice (some ⟨w.heap.size, 0, none⟩) n n) n (natC xs) ∧ Below w.heap.size w w' := by
  have HN : Hid (xs.length = n) := hn
  clear hn
  go_enter Try.func26, Try.ntmps26
  go_wp2_with (first
    | (at_make; refine wpList_make_nums _ rfl _ _ 35 rfl 3 .i64 8 uInts iInt _ _ _ _ n rfl rfl rfl rfl (by decide) h1 ?_; intro w1 hr1 hb1 hz1)
    | (refine wpList_copy_nums rfl (.tmp 7) (.tmp 8) 35 rfl 3 .i64 8 uInts iInt _ n n ao n cap rfl rfl _ xs hr1 (by simp) HN.out (hs.below hb1) (Nat.le_refl _) ?_; intro w2 hr2 hb2 hz2))
  go_ret
  refine ⟨rfl, ?_, hb1.trans hb2⟩
  exact row_ol (by simpa using hr2) HN.out h1
theorem uParts : Try.prog.underlying 65 = some (.slice 110) := by kernel_rfl
theorem iPart : (Try.prog.info? 110).map (fun i => (i.zero, i.size, i.bytes)) = some (some (.agg #[.int .i64 0, .int .i64 0, .int .i64 0]), 3, 24) := by kernel_rfl
/-- One part more. -/
theorem CW.pushPart {w : World} {g : Nat} {x : Lx} {f : Fx} {m : Nat} {y : Ly} {s : Sx} (h : CW w g x f m y s) (hn : f.np + 1 ≤ 10000) (p : Part) {w1 : World} {v : Value} (hap : App x.vP v w w1) (hol : OL 3 110 w1 v (f.np + 1) (partC (upd f.P f.np p))) :
    CW (w1.setCell ⟨g, 4, none⟩ v) g { x with vP := v } { f with np := f.np + 1, P := upd f.P f.np p } m y s ∧ Mv (fun b => b = g ∨ x.vP.ownBlock = some b) w (w1.setCell ⟨g, 4, none⟩ v) := by
  have keep : ∀ b, b < w.heap.size → x.vP.ownBlock ≠ some b → b ≠ g → (w1.setCell ⟨g, 4, none⟩ v).heap[b]? = w.heap[b]? := fun b hb h1 h2 => (heap_setCell_other w1 ⟨g, 4, none⟩ b v h2).trans (hap.other b hb h1)
  have hg : w1.heap[g]? = _ := (hap.other g h.lt (h.parts.neB h.blk (by decide))).trans h.blk
  have other : ∀ {sz : Nat} {e : TypeId} {v' : Value} {n : Nat} {f' : Nat → List Value}, OL sz e w v' n f' → e ≠ 110 → e ≠ 72 → OL sz e (w1.setCell ⟨g, 4, none⟩ v) v' n f' := by
    intro sz e v' n f' ho h1 h2
    refine ho.stay fun b hb => keep b (ho.lt hb) (fun hc => ho.ne h.parts h1 hb hc) (fun e' => ho.neB h.blk h2 (by rw [hb, e']))
  have hsm := h.small
  refine ⟨{ blk := ?_, parts := ?_, whole := other h.whole (by decide) (by decide), eqs := other h.eqs (by decide) (by decide), spots := other h.spots (by decide) (by decide), uses := fun i hi => other (h.uses i hi) (by decide) (by decide), claims := other h.claims (by decide) (by decide), sig := ?_, apart := h.apart, apartW := h.apartW, small := ⟨hn, by show s.ns ≤ f.np + 1; omega⟩ }, ?_⟩
  · exact (heap_setCell_same w1 g 4 _ 72 v hg).trans rfl
  · exact hol.stay fun b hb => heap_setCell_other w1 ⟨g, 4, none⟩ b v (fun e' => hol.neB hg (by decide) (by rw [hb, e']))
  · exact h.sig.stay (keep _ h.sig.lt (fun hc => h.parts.neM h.sig hc) (fun e' => by
      obtain ⟨es, cl, he⟩ := h.sig.isMap
      rw [e', h.blk] at he
      cases he))
  · exact ⟨hap.os, hap.tape, hap.output, by simp; exact hap.size, fun b hb hn => keep b hb (fun hc => hn (Or.inr hc)) (fun e' => hn (Or.inl e'))⟩

set_option maxRecDepth 20000 in
set_option maxHeartbeats 4000000 in
theorem keep_any (g : Nat) (x : Lx) (f : Fx) (m : Nat) (y : Ly) (s : Sx) (fr ar : Int) (w : World) (h : CW w g x f m y s) (hn : f.np + 1 ≤ 10000) :
    Calls Try.prog 47 #[.pointer (some ⟨g, 2, none⟩), .int .i64 fr, .int .i64 ar] w fun e w' => e = .returned (.int .i64 (f.np : Nat)) ∧
      ∃ v, CW w' g { x with vP := v } { f with np := f.np + 1, P := upd f.P f.np ⟨fr, ar, -1⟩ } m y s ∧ Mv (fun b => b = g ∨ x.vP.ownBlock = some b) w w' ∧ (v.ownBlock = x.vP.ownBlock ∨ ∃ b, v.ownBlock = some b ∧ w.heap.size ≤ b) := by
  have HCW : Hid (CW w g x f m y s) := h
  obtain ⟨-, -, -, -, c4, -, -, -, -, -⟩ := h.cells
  have hgl := h.lt
  have hp := h.parts
  have h4 := h.alloc (.cells #[.int .i64 fr, .int .i64 ar, .int .i64 (-1)] 110 (0, 0))
  clear h
  go_enter Try.func47, Try.ntmps47
  go_wp2_with (at_builtin; refine Stop.of ?_)
  show wpList _ _ _ _ _ _
  refine wpList_push rfl (.tmp 11) (.tmp 15) 65 rfl 3 110 _ 24 uParts iPart (by decide) rfl (by decide) x.vP f.np _ rfl [.int .i64 fr, .int .i64 ar, .int .i64 (-1)] 110 h4.parts (fun _ _ => rfl) 1 rfl rfl (by intro u hu; simp at hu; rcases hu with rfl | rfl | rfl <;> rfl) (by omega) (partC (upd f.P f.np ⟨fr, ar, -1⟩)) (fun k hk => by simp [partC, upd, Nat.ne_of_lt hk]) (by simp [partC, upd]) ?_
  intro v w1 hol hap hne
  replace hap := hap.of_alloc (fun b hb => hp.lt hb)
  obtain ⟨k1, k2⟩ := HCW.out.pushPart hn ⟨fr, ar, -1⟩ hap hol
  have hg1 : w1.heap[g]? = _ := (hap.other g hgl (hp.neB HCW.out.blk (by decide))).trans HCW.out.blk
  have c41 : w1.cell? ⟨g, 4, none⟩ = some x.vP := cell_of_row w1 g 4 _ 72 (0, 0) hg1
  have q41 : w1.frozen? ⟨g, 4, none⟩ = false := frozen_of_row w1 g 4 _ 72 hg1
  have hgl1 : g < w1.heap.size := (Array.getElem?_eq_some_iff.1 hg1).1
  obtain ⟨ao, cc, hv', -, -, -, -⟩ := hol.shape
  subst hv'
  have hat := hap.at_
  have HKK : Hid _ := And.intro k1 (And.intro k2 hat)
  clear hg1 hol hap h4 hp c4 k1 k2 hat hne
  go_wp2
  go_ret
  exact ⟨rfl, _, HKK.out.1, HKK.out.2.1, HKK.out.2.2⟩
end Euf
end Go.Proofs.Ytlonnhnfmcndfad
