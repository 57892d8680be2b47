/- Contract of arith.cmpLimbs; it proves no statement of the seat. -/
import Derived.Test.YtlonnhnfmcndfadCmpPJGcd
import Derived.Test.YtlonnhnfmcndfadText2JGcd
import Derived.BigQuiet
namespace Go.Proofs.Ytlonnhnfmcndfad
open Go.RowKit

set_option maxHeartbeats 1000000 in
theorem cmpLimbs_any (ao bo : Option Addr) (n m cap cap' : Nat) (xs ys : List Nat) (w : World) (hn : xs.length = n) (hm : ys.length = m) (h1 : n ≤ 100000) (h2 : m ≤ 100000) (hs : Seg .u32 w ao xs) (ht : Seg .u32 w bo ys) (hdx : Digs 4294967296 xs) (hdy : Digs 4294967296 ys) :
    Calls Try.prog 52 #[.slice ao n cap, .slice bo m cap'] w fun e w' => e = .returned (.int .i64 (cmpL 4294967296 xs ys)) ∧ Below w.heap.size w w' := by
  have HN : Hid (xs.length = n) := hn
  have HM : Hid (ys.length = m) := hm
  clear hn hm
  by_cases hne : n = m
  · subst hne
    have hb : (((n : Nat) : Int) != ((n : Nat) : Int)) = false := by simp
    go_enter Try.func52, Try.ntmps52
    go_wp2
    go_loopw [5] (fun i wr => ∃ k : Nat, k ≤ n ∧ i = .int .i64 ((k : Int) - 1) ∧ Hid (xs.drop k = ys.drop k) ∧ Below w.heap.size w wr) (fun i _ => (intOf i + 1).toNat)
    case atStart => exact ⟨n, Nat.le_refl _, rfl, (by rw [List.drop_of_length_le (by have := HN.out; omega), List.drop_of_length_le (by have := HM.out; omega)] : _ = _), Below.refl _ _⟩
    case round =>
      obtain ⟨k, hk, rfl, HD, hbel⟩ := hrel
      have hs' := hs.below hbel
      have ht' := ht.below hbel
      by_cases h0 : 0 < k
      · obtain ⟨j, rfl⟩ : ∃ j, k = j + 1 := ⟨k - 1, by omega⟩
        obtain ⟨b, off, rfl, hc⟩ := hs'.open j (by have := HN.out; omega)
        obtain ⟨b2, off2, rfl, hc2⟩ := ht'.open j (by have := HM.out; omega)
        have c1 := hc j (by have := HN.out; omega)
        have c2 := hc2 j (by have := HM.out; omega)
        obtain ⟨x, hx⟩ : ∃ x, x = xs.getD j 0 := ⟨_, rfl⟩
        obtain ⟨y, hy⟩ : ∃ y, y = ys.getD j 0 := ⟨_, rfl⟩
        rw [← hx] at c1
        rw [← hy] at c2
        have HX : Hid (x = xs.getD j 0) := hx
        have HY : Hid (y = ys.getD j 0) := hy
        clear hx hy hc hc2 hs' ht'
        by_cases hlt : x < y
        · go_wp2
          go_region
          go_wp2
          go_ret
          refine ⟨?_, hbel.drew⟩
          rw [cmpL_lt (by rw [HN.out, HM.out]) (val_lt_at hdx (by rw [HN.out, HM.out]) j (by have := HN.out; omega) HD.out (by rw [← HX.out, ← HY.out]; exact hlt))]
          rfl
        · by_cases hgt : y < x
          · go_wp2
            go_region
            go_wp2
            go_region
            go_wp2
            go_ret
            refine ⟨?_, hbel.drew.drew⟩
            rw [cmpL_gt (by rw [HN.out, HM.out]) (val_lt_at hdy (by rw [HN.out, HM.out]) j (by have := HM.out; omega) HD.out.symm (by rw [← HX.out, ← HY.out]; exact hgt))]
            rfl
          · have hxy : x = y := by omega
            go_wp2
            go_region
            go_wp2
            go_region
            go_wp2
            go_roundw
            case rel =>
              refine ⟨j, by omega, rfl, ?_, hbel.drew.drew⟩
              show _ = _
              rw [drop_cons_getD xs j (by have := HN.out; omega), drop_cons_getD ys j (by have := HM.out; omega), ← HX.out, ← HY.out, HD.out, hxy]
            case measure => simp [intOf]
      · have hk0 : k = 0 := by omega
        subst hk0
        go_wp2
        go_ret
        refine ⟨?_, hbel⟩
        have e : xs = ys := by simpa using HD.out
        rw [e, cmpL_eq]
        rfl
  · have hb : (((n : Nat) : Int) != ((m : Nat) : Int)) = true := by rw [bne_iff_ne]; omega
    by_cases hlt : n < m
    · have HR : Hid (cmpL 4294967296 xs ys = -1) := by show _ = _; unfold cmpL; rw [if_pos (by rw [HN.out, HM.out]; exact hlt)]
      go_enter Try.func52, Try.ntmps52
      go_wp2
      go_ret
      exact ⟨by rw [HR.out]; rfl, Below.refl _ _⟩
    · have HR : Hid (cmpL 4294967296 xs ys = 1) := by show _ = _; unfold cmpL; rw [if_neg (by rw [HN.out, HM.out]; omega), if_pos (by rw [HN.out, HM.out]; omega)]
      go_enter Try.func52, Try.ntmps52
      go_wp2
      go_ret
      exact ⟨by rw [HR.out]; rfl, Below.refl _ _⟩
end Go.Proofs.Ytlonnhnfmcndfad
