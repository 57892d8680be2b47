/- Contract of arith.shrinkLimbs; it proves no statement of the seat. -/
import Derived.Test.YtlonnhnfmcndfadParse2JGcd
namespace Go.Proofs.Ytlonnhnfmcndfad
open Go.RowKit

theorem set_mid (a b : List Nat) (x y j : Nat) (h : a.length = j) : ((a ++ [x]) ++ b).set j y = a ++ (y :: b) := by
  subst h
  simp

theorem or_shift (r x : Nat) (hr : r < 4294967296) (hx : x < 4294967296) : bits BinOp.or IntKind.u64 ((r : Int) * 4294967296) (x : Int) = ((r * 4294967296 + x : Nat) : Int) := by
  have e1 : (r : Int) * 4294967296 = ((r * 4294967296 : Nat) : Int) := by omega
  rw [e1, u64_or_nat _ _ (by omega) (by omega)]
  congr 1
  have := Nat.shiftLeft_add_eq_or_of_lt (b := x) (i := 32) hx r
  rw [Nat.shiftLeft_eq] at this
  rw [← show r * 2 ^ 32 = r * 4294967296 from rfl, ← this]

theorem drop_take_cons (zs : List Nat) (n j : Nat) (hj : j < n) (hn : n ≤ zs.length) : (zs.take n).drop j = zs.getD j 0 :: (zs.take n).drop (j + 1) := by
  have hl : j < (zs.take n).length := by rw [List.length_take]; omega
  rw [List.drop_eq_getElem_cons hl]
  congr 1
  simp [List.getElem_take, List.getElem?_eq_getElem (show j < zs.length by omega)]

theorem shrink_step (x B V r d q r' H : Nat) (h1 : H = r * B + x) (h2 : q * d + r' = H) : x + B * (V * d + r) = (q + B * V) * d + r' := by
  subst h1
  rw [Nat.mul_add, Nat.add_mul, ← Nat.mul_assoc, Nat.mul_comm B r]
  omega

set_option maxHeartbeats 1000000 in
theorem shrinkLimbs_any (g n cap d : Nat) (zs : List Nat) (w : World) (hn : n ≤ zs.length) (h1 : n ≤ 10000) (hr : Row .u32 114 w g zs) (hd : Digs 4294967296 zs) (hd0 : 0 < d) (hdl : d < 4294967296) :
    Calls Try.prog 51 #[.slice (some ⟨g, 0, none⟩) n cap, .int .u32 d] w fun e w' => ∃ r qs, e = .returned (.int .u32 ((r : Nat) : Int)) ∧ r < d ∧ qs.length = n ∧ Digs 4294967296 qs ∧ val 4294967296 (zs.take n) = val 4294967296 qs * d + r ∧ Row .u32 114 w' g (qs ++ zs.drop n) ∧ Only g w w' := by
  go_enter Try.func51, Try.ntmps51
  go_wp2
  go_loopw [5, 6] (fun v i wr => ∃ k r : Nat, ∃ qs : List Nat, k ≤ n ∧ i = .int .i64 ((k : Int) - 1) ∧ v = .int .u64 r ∧ r < d ∧ Hid (k + qs.length = n) ∧ Digs 4294967296 qs ∧ Hid (val 4294967296 ((zs.take n).drop k) = val 4294967296 qs * d + r) ∧
      Row .u32 114 wr g (zs.take k ++ (qs ++ zs.drop n)) ∧ Only g w wr) (fun _ i _ => (intOf i + 1).toNat)
  case atStart => exact ⟨n, 0, [], Nat.le_refl _, rfl, rfl, hd0, (by simp : _ = _), Digs.nil _, (by rw [List.drop_of_length_le (by rw [List.length_take]; omega)]; simp [val] : _ = _), by simpa using hr, Only.refl _ _⟩
  case round =>
    obtain ⟨k, r, qs, hk, rfl, rfl, hrd, HQ, hqd, HV, hrow, honly⟩ := hrel
    by_cases h0 : 0 < k
    · obtain ⟨j, rfl⟩ : ∃ j, k = j + 1 := ⟨k - 1, by omega⟩
      have hlen : (zs.take (j + 1) ++ (qs ++ zs.drop n)).length = zs.length := by
        have := HQ.out
        simp; omega
      have hcell := hrow.cell j (by rw [hlen]; omega)
      have hx0 : (zs.take (j + 1) ++ (qs ++ zs.drop n)).getD j 0 = zs.getD j 0 := by
        rw [List.getD_eq_getElem?_getD, List.getElem?_append_left (by simp; omega), List.getElem?_take, if_pos (by omega), ← List.getD_eq_getElem?_getD]
      rw [hx0] at hcell
      obtain ⟨x, hx⟩ : ∃ x, x = zs.getD j 0 := ⟨_, rfl⟩
      rw [← hx] at hcell
      have hxl : x < 4294967296 := hx ▸ hd.getD (by decide) j
      have HX : Hid (x = zs.getD j 0) := hx
      have hfr := hrow.frozen j
      obtain ⟨H, hH⟩ : ∃ H, H = r * 4294967296 + x := ⟨_, rfl⟩
      have hor : bits BinOp.or IntKind.u64 ((r : Int) * 4294967296) (x : Int) = (H : Int) := by rw [hH]; exact or_shift r x (by omega) hxl
      have hHl : (H : Int) < 18446744073709551616 := by omega
      have hq : H / d < 4294967296 := by
        rw [Nat.div_lt_iff_lt_mul hd0, hH]
        have : (r + 1) * 4294967296 ≤ d * 4294967296 := Nat.mul_le_mul_right _ hrd
        rw [Nat.mul_comm 4294967296 d]
        omega
      have hq' : (H : Int) / (d : Int) < 4294967296 := by rw [← Int.natCast_ediv]; omega
      have hq0 : 0 ≤ (H : Int) / (d : Int) := by rw [← Int.natCast_ediv]; exact Int.natCast_nonneg _
      have HH : Hid (H = r * 4294967296 + x) := hH
      clear hx hx0 hlen hH
      go_wp2
      go_roundw
      case rel =>
        refine ⟨j, H % d, H / d :: qs, by omega, rfl, by rw [Int.natCast_emod], Nat.mod_lt _ hd0, ?_, Digs.cons hq hqd, ?_, ?_, honly.set _ _⟩
        · show _ = _
          have := HQ.out
          simp; omega
        · show _ = _
          rw [drop_take_cons zs n j (by omega) hn, val_cons, HV.out, ← HX.out, val_cons]
          exact shrink_step _ _ _ _ _ _ _ _ HH.out (by rw [Nat.mul_comm]; exact Nat.div_add_mod _ _)
        · have e1 : zs.take (j + 1) = zs.take j ++ [zs.getD j 0] := take_snoc zs j (by omega)
          have e2 := hrow.set j ((H : Int) / (d : Int)) (H / d) (by rw [Int.natCast_ediv])
          rw [e1, set_mid _ _ _ _ _ (by rw [List.length_take]; omega)] at e2
          exact e2
      case measure => simp [intOf]
    · have hk0 : k = 0 := by omega
      subst hk0
      go_wp2
      go_ret
      refine ⟨r, qs, rfl, hrd, by have := HQ.out; omega, hqd, by have := HV.out; simpa using this, by simpa using hrow, honly⟩
end Go.Proofs.Ytlonnhnfmcndfad
