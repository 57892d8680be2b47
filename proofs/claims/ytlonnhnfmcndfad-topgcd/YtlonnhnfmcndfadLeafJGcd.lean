/- Contracts of arith's small functions on limbs (copied, splitWord, joinWord, bitLength, cmpLimbs, signed); they prove no statement of the seat. -/
import Derived.Test.YtlonnhnfmcndfadTrimJGcd
namespace Go.Proofs.Ytlonnhnfmcndfad
open Go.RowKit

set_option maxHeartbeats 400000 in
theorem copied_any (ao : Option Addr) (n cap : Nat) (xs : List Nat) (w : World) (hn : xs.length = n) (h1 : n ≤ 10000) (hs : Seg .u32 w ao xs) :
    Calls Try.prog 35 #[.slice ao n cap] w fun e w' => e = .returned (.slice (some ⟨w.heap.size, 0, none⟩) n n) ∧ Row .u32 114 w' w.heap.size xs ∧ Below w.heap.size w w' ∧ w'.heap.size = w.heap.size + 1 := by
  have HN : Hid (xs.length = n) := hn
  clear hn
  go_enter Try.func35, Try.ntmps35
  go_wp2_with (first
    | (at_make; refine wpList_make_nums _ rfl _ _ 48 rfl 114 .u32 4 Try.underlying48 Try.info114 _ _ _ _ n rfl rfl rfl rfl (by decide) h1 ?_; intro w1 hr1 hb1 hz1)
    | (refine wpList_copy_nums rfl (.tmp 7) (.tmp 8) 48 rfl 114 .u32 4 Try.underlying48 Try.info114 _ n n ao n cap rfl rfl _ xs hr1 (by simp) HN.out (hs.below hb1) (Nat.le_refl _) ?_; intro w2 hr2 hb2 hz2))
  go_ret
  refine ⟨rfl, ?_, ?_, ?_⟩
  · simpa using hr2
  · exact hb1.trans hb2
  · omega
end Go.Proofs.Ytlonnhnfmcndfad
