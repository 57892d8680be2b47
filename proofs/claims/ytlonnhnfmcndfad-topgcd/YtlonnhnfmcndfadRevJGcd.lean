/- Contracts of slices.Reverse and arith's Text; they prove no statement of the seat. -/
import Derived.Test.YtlonnhnfmcndfadWriteJGcd
import Derived.BigQuiet
namespace Go.Proofs.Ytlonnhnfmcndfad
open Go.RowKit

set_option maxHeartbeats 1000000 in
theorem reverse_any (g n cap base : Nat) (zs : List Nat) (w : World) (hn : n ≤ 100000) (ho : Own .u8 5 base w (.slice (some ⟨g, 0, none⟩) n cap) zs) (hl : zs.length = n) :
    Calls Try.prog 34 #[.slice (some ⟨g, 0, none⟩) n cap] w fun e w' => e = .returned (.tuple #[]) ∧ Own .u8 5 base w' (.slice (some ⟨g, 0, none⟩) n cap) zs.reverse ∧ Only g w w' := by
  have HL : Hid (zs.length = n) := hl
  clear hl
  go_enter Try.func34, Try.ntmps34
  go_wp2
  go_loopw [2, 3] (fun i j wr => ∃ k : Nat, ∃ ys : List Nat, k ≤ n ∧ i = .int .i64 k ∧ j = .int .i64 ((n : Int) - 1 - k) ∧ Hid (ys.length = n) ∧ Own .u8 5 base wr (.slice (some ⟨g, 0, none⟩) n cap) ys ∧ Hid (∀ p, p < n → ys.getD p 0 = if p < k ∨ n - k ≤ p then zs.getD (n - 1 - p) 0 else zs.getD p 0) ∧ Only g w wr) (fun i _ _ => n - (intOf i).toNat)
  case atStart => exact ⟨0, zs, Nat.zero_le _, rfl, by go_num, HL, ho, (fun p hp => by rw [if_neg (by omega)] : ∀ p, _ → _), Only.refl _ _⟩
  case round =>
    obtain ⟨k, ys, hk, rfl, rfl, HY, hoy, HP, honly⟩ := hrel
    by_cases hlt : 2 * k + 1 < n
    · have c1 := hoy.cell k (by have := HY.out; omega)
      have c2 := hoy.cell (n - 1 - k) (by have := HY.out; omega)
      have f1 := hoy.frozen k
      have f2 := hoy.frozen (n - 1 - k)
      obtain ⟨x, hx⟩ : ∃ x, x = ys.getD k 0 := ⟨_, rfl⟩
      obtain ⟨y, hy⟩ : ∃ y, y = ys.getD (n - 1 - k) 0 := ⟨_, rfl⟩
      rw [← hx] at c1
      rw [← hy] at c2
      have HX : Hid (x = ys.getD k 0 ∧ y = ys.getD (n - 1 - k) 0) := ⟨hx, hy⟩
      clear hx hy
      go_wp2
      go_region
      go_wp2
      go_roundw
      case rel =>
        obtain ⟨hx, hy⟩ := HX.out
        have hyl := HY.out
        refine ⟨k + 1, (ys.set k y).set (n - 1 - k) x, by omega, by go_num, by go_num, ?_, ?_, ?_, ?_⟩
        · show _ = _
          rw [List.length_set, List.length_set]; exact hyl
        · exact ((hoy.set k _ y rfl).set (n - 1 - k) _ x rfl).drew
        · intro p hp
          rw [getD_set _ _ _ _ (by rw [List.length_set]; omega), getD_set _ _ _ _ (by omega)]
          by_cases e1 : p = n - 1 - k
          · rw [if_pos e1, if_pos (by omega), hx, HP.out k (by omega), if_neg (by omega)]
            congr 1; omega
          · rw [if_neg e1]
            by_cases e2 : p = k
            · rw [if_pos e2, if_pos (by omega), hy, HP.out (n - 1 - k) (by omega), if_neg (by omega), e2]
            · rw [if_neg e2, HP.out p hp]
              by_cases e3 : p < k ∨ n - k ≤ p
              · rw [if_pos e3, if_pos (by omega)]
              · rw [if_neg e3, if_neg (by omega)]
        · exact ((honly.set _ _).set _ _).drew
      case measure => simp [intOf]; omega
    · go_wp2
      go_end0
      refine ⟨rfl, ?_, honly⟩
      have hyl := HY.out
      have hzl := HL.out
      have e : ys = zs.reverse := by
        apply ext_getD (by rw [List.length_reverse]; omega)
        intro p hp
        rw [HP.out p (by omega), getD_reverse _ _ (by omega), hzl]
        by_cases e3 : p < k ∨ n - k ≤ p
        · rw [if_pos e3]
        · rw [if_neg e3]; congr 1; omega
      rw [← e]; exact hoy
end Go.Proofs.Ytlonnhnfmcndfad
