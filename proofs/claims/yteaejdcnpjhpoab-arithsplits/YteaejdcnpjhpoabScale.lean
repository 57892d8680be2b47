/- Contract of arith.scaleLimbs; it proves no statement of the seat. -/
import Derived.Test.YteaejdcnpjhpoabSign
namespace Go.Proofs.Yteaejdcnpjhpoab
open Go.RowKit

theorem mul_lt_word (x f : Nat) (hx : x < 4294967296) (hf : f < 4294967296) : x * f ≤ 18446744065119617025 := Nat.mul_le_mul (show x ≤ 4294967295 by omega) (show f ≤ 4294967295 by omega)

set_option maxHeartbeats 1000000 in
theorem scaleLimbs_any (ao : Option Addr) (n cap f m : Nat) (xs : List Nat) (w : World) (hn : xs.length = n) (h1 : n ≤ 9000) (hs : Seg .u32 w ao xs) (hd : Digs 4294967296 xs) (hf : f < 4294967296) (hm : m < 4294967296) :
    Calls Try.prog 56 #[.slice ao n cap, .int .u32 f, .int .u32 m] w fun e w' => ∃ zs, e = .returned (.slice (some ⟨w.heap.size, 0, none⟩) (trimZ zs).length (n + 1)) ∧ zs.length = n + 1 ∧ Digs 4294967296 zs ∧ val 4294967296 zs = val 4294967296 xs * f + m ∧ Row .u32 74 w' w.heap.size zs ∧ Below w.heap.size w w' := by
  have HN : Hid (xs.length = n) := hn
  clear hn
  go_enter Try.func56, Try.ntmps56
  go_wp2_with (first
    | (at_make; refine wpList_make_nums _ rfl _ _ 23 rfl 74 .u32 4 Try.underlying23 Try.info74 _ _ _ _ (n + 1) rfl rfl (by omega) (by omega) (by decide) (by omega) ?_; intro w1 hr1 hb1 hz1))
  go_loopw [8, 20] (fun c i wr => ∃ k cN : Nat, ∃ zs : List Nat, k ≤ n ∧ i = .int .i64 k ∧ c = .int .u64 cN ∧ cN < 4294967296 ∧ zs.length = n + 1 ∧ Digs 4294967296 zs ∧
      Hid (val 4294967296 (zs.take k) + 4294967296 ^ k * cN = val 4294967296 (xs.take k) * f + m) ∧ Row .u32 74 wr w.heap.size zs ∧ Below w.heap.size w wr) (fun _ i _ => n - (intOf i).toNat)
  case atStart => exact ⟨0, m, _, Nat.zero_le _, rfl, rfl, hm, by simp, Digs.replicate _ _ (by decide), (by simp [val] : _ = _), hr1, hb1⟩
  case round =>
    obtain ⟨k, cN, zs, hk, rfl, rfl, hc, hzl, hzd, HV, hrow, hbel⟩ := hrel
    have HZ : Hid (zs.length = n + 1) := hzl
    clear hzl
    by_cases h0 : k < n
    · obtain ⟨b, off, rfl, hcs⟩ := hs.open k (by have := HN.out; omega)
      have hbw : b < w.heap.size := World.block_lt_of_cell? w ⟨b, off + k, none⟩ (hcs k (by have := HN.out; omega))
      have hcell : wr.cell? ⟨b, off + k, none⟩ = some (.int .u32 (xs.getD k 0 : Nat)) := (hbel.cell (p := ⟨b, off + k, none⟩) hbw).trans (hcs k (by have := HN.out; omega))
      obtain ⟨x, hx⟩ : ∃ x, x = xs.getD k 0 := ⟨_, rfl⟩
      have hxl : x < 4294967296 := hx ▸ hd.getD (by decide) k
      rw [← hx] at hcell
      have HX : Hid (x = xs.getD k 0) := hx
      have hout := hrow.cell k (by have := HZ.out; omega)
      obtain ⟨z, hz⟩ : ∃ z, z = zs.getD k 0 := ⟨_, rfl⟩
      rw [← hz] at hout
      have hfr := hrow.frozen k
      have hprod := mul_lt_word x f hxl hf
      have hprod' : (x : Int) * (f : Int) ≤ 18446744065119617025 := by rw [← Int.natCast_mul]; omega
      have hprod0 : 0 ≤ (x : Int) * (f : Int) := by rw [← Int.natCast_mul]; omega
      clear hx hz hcs hr1 hb1 hprod
      go_wp2
      go_roundw
      case rel =>
        refine ⟨k + 1, (x * f + cN) / 4294967296, zs.set k ((x * f + cN) % 4294967296), by omega, by go_num, rfl, ?_, ?_, ?_, ?_, ?_, ?_⟩
        · have := mul_lt_word x f hxl hf; omega
        · rw [List.length_set]; exact HZ.out
        · exact hzd.set _ _ (Nat.mod_lt _ (by decide))
        · show _ = _
          rw [val_set_succ _ _ _ _ (by have := HZ.out; omega), val_take_succ _ _ _ (by have := HN.out; omega), ← HX.out, Nat.pow_succ]
          exact scale_step _ _ _ _ _ _ _ _ _ _ HV.out (Nat.mod_add_div _ _)
        · exact hrow.set k _ _ rfl
        · exact hbel.setCell (Nat.le_refl _) _
      case measure => simp [intOf]; omega
    · have hkn : k = n := by omega
      subst hkn
      have hout := hrow.cell k (by have := HZ.out; omega)
      obtain ⟨z, hz⟩ : ∃ z, z = zs.getD k 0 := ⟨_, rfl⟩
      rw [← hz] at hout
      have hfr := hrow.frozen k
      have hrow' : Row .u32 74 (wr.setCell ⟨w.heap.size, k, none⟩ (.int .u32 (cN : Int))) w.heap.size (zs.set k cN) := hrow.set k _ _ rfl
      have hl' : (zs.set k cN).length = k + 1 := by rw [List.length_set]; exact HZ.out
      have HL : Hid ((zs.set k cN).length = k + 1) := hl'
      have hsg := hrow'.all
      clear hz hr1 hb1 hl'
      go_wp2_with (go_at_call 47; refine (trimmed_any (some ⟨w.heap.size, 0, none⟩) (k + 1) (k + 1) (zs.set k cN) _ HL.out (Nat.le_refl _) (by unfold maxLen; omega) hsg).mono ?_; rintro e w' ⟨rfl, rfl⟩)
      go_ret
      refine ⟨zs.set k cN, rfl, HL.out, hzd.set _ _ hc, ?_, hrow', hbel.setCell (Nat.le_refl _) _⟩
      have e1 := val_set_succ 4294967296 zs k cN (by have := HZ.out; omega)
      rw [List.take_of_length_le (by rw [HL.out]; exact Nat.le_refl _)] at e1
      have e2 := HV.out
      rw [List.take_of_length_le (l := xs) (by have := HN.out; omega)] at e2
      rw [e1, e2]
end Go.Proofs.Yteaejdcnpjhpoab
