/- The contract of arith.trimmed: the list without noughts at its end; it proves no statement of the seat. -/
import Derived.Test.YtlonnhnfmcndfadBaseJGcd
import Derived.Test.YtlonnhnfmcndfadPlainJGcd
import Derived.Test.YtlonnhnfmcndfadProg
namespace Go.Proofs.Ytlonnhnfmcndfad
open Go.RowKit

theorem Try.underlying48 : Try.prog.underlying 48 = some (.slice 114) := by kernel_rfl
theorem Try.info114 : (Try.prog.info? 114).map (fun i => (i.zero, i.size, i.bytes)) = some (some (.int .u32 0), 1, 4) := by kernel_rfl

theorem trim_end (xs : List Nat) (j : Nat) (hj : j < xs.length) (h : ∀ i, j + 1 ≤ i → i < xs.length → xs.getD i 0 = 0) (h0 : ((xs[j]?.getD 0 : Nat) : Int) == 0 → False) :
    (trimZ xs).length = j + 1 := by
  rw [trimZ_eq_of_zeros xs (j + 1) (by omega) h, take_snoc xs j hj, trimZ_snoc_ne _ _ (fun e => h0 (by rw [List.getD_eq_getElem?_getD] at e; simp [e]))]
  simp; omega

set_option maxHeartbeats 400000 in
theorem trimmed_any (ao : Option Addr) (n cap : Nat) (xs : List Nat) (w : World) (hn : xs.length = n) (h1 : n ≤ cap) (h2 : cap ≤ maxLen) (hs : Seg .u32 w ao xs) :
    Calls Try.prog 50 #[.slice ao n cap] w fun e w' => e = .returned (.slice ao (trimZ xs).length cap) ∧ w' = w := by
  subst hn
  unfold maxLen at h2
  go_enter Try.func50, Try.ntmps50
  go_wp2
  go_loop [3] (fun n => ∃ k : Nat, k ≤ xs.length ∧ n = .int .i64 k ∧ Hid (∀ i, k ≤ i → i < xs.length → xs.getD i 0 = 0)) (fun n => (intOf n).toNat)
  case atStart => exact ⟨_, Nat.le_refl _, rfl, fun i h1 h2 => by omega⟩
  case round =>
    obtain ⟨k, hk, rfl, hz⟩ := hrel
    by_cases h0 : 0 < k
    · obtain ⟨b, off, rfl, hc⟩ := hs.open (k - 1) (by omega)
      have hcell := hc (k - 1) (by omega)
      have hkk : ∃ j, k = j + 1 := ⟨k - 1, by omega⟩
      obtain ⟨j, rfl⟩ := hkk
      simp only [Nat.add_sub_cancel] at hcell
      clear hc
      go_wp2
      · have h0' : ((xs[j]?.getD 0 : Nat) : Int) == 0 := by assumption
        go_round
        case rel =>
          refine ⟨j, by omega, rfl, fun i h1 h2 => ?_⟩
          by_cases e : i = j
          · subst e; rw [List.getD_eq_getElem?_getD]; simpa using h0'
          · exact hz.out i (by omega) h2
        case measure => simp [intOf]
      · have h0' : (((xs[j]?.getD 0 : Nat) : Int) == 0) = false := by assumption
        go_ret
        refine ⟨?_, rfl⟩
        rw [trim_end xs j (by omega) hz.out (fun h => by rw [h0'] at h; cases h)]
        rfl
    · go_wp2
      go_ret
      refine ⟨?_, rfl⟩
      have hk0 : k = 0 := by omega
      subst hk0
      rw [trimZ_eq_of_zeros xs 0 (by omega) hz.out]
      rfl
end Go.Proofs.Ytlonnhnfmcndfad
