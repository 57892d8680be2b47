/- Contract of arith.writeDigits; it proves no statement of the seat. -/
import Derived.Test.YtlonnhnfmcndfadShrinkJGcd
import Derived.Test.YtlonnhnfmcndfadOwnJGcd
namespace Go.Proofs.Ytlonnhnfmcndfad
open Go.RowKit

theorem Try.underlying86 : Try.prog.underlying 86 = some (.slice 5) := by kernel_rfl
theorem Try.underlying5 : Try.prog.underlying 5 = some (.int .u8) := by kernel_rfl
theorem Try.info5 : (Try.prog.info? 5).map (fun i => (i.zero, i.size, i.bytes)) = some (some (.int .u8 0), 1, 1) := by kernel_rfl

/-- The lowest j decimal digits of r. -/
def dg (r : Nat) : Nat → List Nat
  | 0 => []
  | j + 1 => dg r j ++ [r / 10 ^ j % 10]
theorem dg_length (r j : Nat) : (dg r j).length = j := by
  induction j with
  | zero => rfl
  | succ j ih => simp [dg, ih]
theorem dg_digs (r j : Nat) : Digs 10 (dg r j) := by
  induction j with
  | zero => exact Digs.nil _
  | succ j ih => exact ih.append (Digs.cons (Nat.mod_lt _ (by decide)) (Digs.nil _))
theorem dg_val (r j : Nat) : val 10 (dg r j) = r % 10 ^ j := by
  induction j with
  | zero => simp [dg, val, Nat.mod_one]
  | succ j ih => rw [dg, val_snoc, ih, dg_length, Nat.pow_succ, Nat.mod_mul]

/-- A slice's length. -/
def lenOf : Value → Nat
  | .slice _ n _ => n
  | _ => 0

/-- Digits as bytes. -/
def byt (ds : List Nat) : List Nat := ds.map fun d => 48 + d
theorem byt_length (ds : List Nat) : (byt ds).length = ds.length := by simp [byt]
theorem byt_append (a b : List Nat) : byt (a ++ b) = byt a ++ byt b := by simp [byt]
theorem byt_take (a : List Nat) (n : Nat) : (byt a).take n = byt (a.take n) := by simp [byt, List.map_take]
theorem byt_getD (a : List Nat) (i : Nat) (h : i < a.length) : (byt a).getD i 0 = 48 + a.getD i 0 := by
  simp [byt, List.getElem?_eq_getElem h]

theorem write_step (D P q r K : Nat) (V : Nat) (h : V = q * K + r) : D + P * V = (D + P * r) + P * K * q := by
  subst h
  rw [Nat.mul_add, Nat.mul_assoc, Nat.mul_comm K q]; omega

theorem digits_bound (L n : Nat) (V D : Nat) (xs : List Nat) (hd : Digs 4294967296 xs) (hL : xs.length = L) (h : val 4294967296 xs = D + 10 ^ n * V) (hV : 0 < V) : n ≤ 10 * L := by
  have h1 := val_lt hd
  rw [hL] at h1
  have h2 : 4294967296 ^ L ≤ (10 ^ 10) ^ L := Nat.pow_le_pow_left (by decide) L
  rw [← Nat.pow_mul] at h2
  have h3 : 10 ^ n * 1 ≤ 10 ^ n * V := Nat.mul_le_mul_left _ hV
  rcases Nat.lt_or_ge (10 * L) n with h4 | h4
  · have h5 : 10 ^ (10 * L) ≤ 10 ^ n := Nat.pow_le_pow_right (by decide) (by omega)
    omega
  · exact h4

theorem shrinkLimbs_int (g n cap d : Nat) (D : Int) (hD : D = (d : Int)) (zs : List Nat) (w : World) (hn : n ≤ zs.length) (h1 : n ≤ 10000) (hr : Row .u32 114 w g zs) (hd : Digs 4294967296 zs) (hd0 : 0 < d) (hdl : d < 4294967296) :
    Calls Try.prog 51 #[.slice (some ⟨g, 0, none⟩) n cap, .int .u32 D] w fun e w' => ∃ r qs, e = .returned (.int .u32 ((r : Nat) : Int)) ∧ r < d ∧ qs.length = n ∧ Digs 4294967296 qs ∧ val 4294967296 (zs.take n) = val 4294967296 qs * d + r ∧ Row .u32 114 w' g (qs ++ zs.drop n) ∧ Only g w w' := by
  subst hD
  exact shrinkLimbs_any g n cap d zs w hn h1 hr hd hd0 hdl

set_option maxHeartbeats 2000000 in
theorem writeDigits_any (ao : Option Addr) (L cap : Nat) (xs : List Nat) (w : World) (hn : xs.length = L) (h1 : L ≤ 1000) (hs : Seg .u32 w ao xs) (hd : Digs 4294967296 xs) (hnm : Norm xs) :
    Calls Try.prog 33 #[.slice ao L cap] w fun e w' => ∃ v, e = .returned v ∧ ∃ ds, Norm ds ∧ Digs 10 ds ∧ val 10 ds = val 4294967296 xs ∧ ds.length ≤ 20000 ∧ Own .u8 5 w.heap.size w' v (byt ds) ∧ Below w.heap.size w w' := by
  have HN : Hid (xs.length = L) := hn
  clear hn
  go_enter Try.func33, Try.ntmps33
  go_wp2_with fail
  refine (copied_any ao L cap xs _ HN.out (by omega) hs).mono ?_
  rintro e w1 ⟨rfl, hr1, hb1, hz1⟩
  go_wp2
  go_loopg [3, 4] (val 4294967296 xs) (fun gk v rest wr => ∃ n : Nat, ∃ zs ds : List Nat, rest = .slice (some ⟨w.heap.size, 0, none⟩) n L ∧ Row .u32 114 wr w.heap.size zs ∧ Hid (zs.length = L) ∧ n ≤ L ∧ Digs 4294967296 zs ∧ Hid (Norm (zs.take n)) ∧ Hid (val 4294967296 (zs.take n) = gk) ∧
    Own .u8 5 (w.heap.size + 1) wr v (byt ds) ∧ Digs 10 ds ∧ Hid (val 4294967296 xs = val 10 ds + 10 ^ ds.length * gk) ∧ Hid (ds.length ≤ 10 * L + 9) ∧ Below w.heap.size w wr ∧ w.heap.size + 1 ≤ wr.heap.size)
  case atStart => exact ⟨L, xs, [], rfl, hr1, HN, Nat.le_refl _, hd, (by rw [List.take_of_length_le (by rw [HN.out]; exact Nat.le_refl _)]; exact hnm : Norm _), (by rw [List.take_of_length_le (by rw [HN.out]; exact Nat.le_refl _)] : _ = _), Own.nil _ _ _ _, Digs.nil _, (by simp [val] : _ = _), (by simp : _ ≤ _), hb1, by omega⟩
  case round =>
    obtain ⟨n, zs, ds, rfl, hrow, HZ, hnl, hzd, HNM, HGK, hown, hdd, HV, HDL, hbel, hsz⟩ := hrel
    by_cases h0 : 0 < n
    · go_wp2_with fail
      refine (shrinkLimbs_int w.heap.size n L 1000000000 _ rfl zs _ (by have := HZ.out; omega) (by omega) hrow hzd (by decide) (by decide)).mono ?_
      rintro e w2 ⟨r, qs, rfl, hr, hql, hqd, hqv, hrow2, honly⟩
      have hsq : Seg .u32 w2 (some ⟨w.heap.size, 0, none⟩) qs := by
        have := hrow2.first n (by rw [List.length_append]; omega)
        rwa [List.take_left' hql] at this
      have HQL : Hid (qs.length = n) := hql
      have HQV : Hid (val 4294967296 (zs.take n) = val 4294967296 qs * 1000000000 + r) := hqv
      have hown2 : Own .u8 5 (w.heap.size + 1) w2 u3 (byt ds) := hown.only honly (by omega)
      have hbel2 : Below w.heap.size w w2 := hbel.trans (honly.below (Nat.le_refl _))
      have hsz2 : w.heap.size + 1 ≤ w2.heap.size := by rw [honly.size]; exact hsz
      clear hql hqv hown hbel hsz
      go_wp2_with (go_at_call 50; refine (trimmed_any (some ⟨w.heap.size, 0, none⟩) n L qs _ HQL.out hnl (by unfold maxLen; omega) hsq).mono ?_; rintro e w' ⟨rfl, rfl⟩)
      go_loopw [3, 5, 15] (fun v c i wq => ∃ j cN : Nat, j ≤ 9 ∧ i = .int .i64 j ∧ c = .int .u32 cN ∧ Hid (cN = r / 10 ^ j) ∧ cN < 1000000000 ∧ Own .u8 5 (w.heap.size + 1) wq v (byt (ds ++ dg r j)) ∧ Row .u32 114 wq w.heap.size (qs ++ zs.drop n) ∧ Below w.heap.size w wq ∧ w.heap.size + 1 ≤ wq.heap.size) (fun _ _ i _ => 9 - (intOf i).toNat)
      case atStart => exact ⟨0, r, by omega, rfl, rfl, (by simp : _ = _), hr, by simpa [dg] using hown2, hrow2, hbel2, hsz2⟩
      case round =>
        obtain ⟨j, cN, hj, rfl, rfl, HC, hcl, hownq, hrowq, hbelq, hszq⟩ := hrel
        by_cases hj9 : j < 9
        · have hlen : (byt (ds ++ dg r j)).length ≤ 100000 := by
            have := HDL.out
            rw [byt_length, List.length_append, dg_length]; omega
          have HLEN : Hid ((byt (ds ++ dg r j)).length ≤ 100000) := hlen
          clear hlen
          go_wp2_with (at_builtin; refine wpList_append_num rfl (.tmp 17) (.tmp 22) 86 rfl (w.heap.size + 1) 5 .u8 1 Try.underlying86 Try.info5 (by decide) _ _ rfl hownq _ (48 + cN % 10) (by omega) rfl HLEN.out hszq ?_; intro v' w3 hown3 hblk3 hbel3)
          go_roundw
          case rel =>
            refine ⟨j + 1, cN / 10, by omega, by go_num, rfl, ?_, by omega, ?_, ?_, ?_, ?_⟩
            · show _ = _
              rw [HC.out, Nat.div_div_eq_div_mul, Nat.pow_succ]
            · rw [HC.out] at hown3
              rw [dg, ← List.append_assoc, byt_append]
              exact hown3
            · exact hrowq.keep hbel3 (by omega)
            · exact hbelq.trans (hbel3.mono (by omega))
            · have := hbel3.size; omega
          case measure => simp [intOf]; omega
        · have hj' : j = 9 := by omega
          subst hj'
          go_wp2
          go_roundg (val 4294967296 qs)
          case measure =>
            have h2 := HQV.out
            rw [HGK.out] at h2
            have h3 := (HNM.out.pos (B := 4294967296) (by intro e; have := congrArg List.length e; rw [List.length_take, HZ.out] at this; simp at this; omega)).resolve_right (by decide)
            rw [HGK.out] at h3
            omega
          case rel =>
            have hgp := (HNM.out.pos (B := 4294967296) (by intro e; have := congrArg List.length e; rw [List.length_take, HZ.out] at this; simp at this; omega)).resolve_right (by decide)
            rw [HGK.out] at hgp
            have hlt := trimZ_length_le qs
            have hql := HQL.out
            have etake : (qs ++ zs.drop n).take (trimZ qs).length = trimZ qs := by
              rw [List.take_append_of_le_length hlt, ← trimZ_take]
            refine ⟨(trimZ qs).length, qs ++ zs.drop n, ds ++ dg r 9, rfl, hrowq, ?_, by omega, hqd.append (hzd.drop n), ?_, ?_, hownq, hdd.append (dg_digs _ _), ?_, ?_, hbelq, hszq⟩
            · show _ = _
              rw [List.length_append, List.length_drop, HZ.out]; omega
            · show Norm _
              rw [etake]; exact norm_trimZ _
            · show _ = _
              rw [etake, val_trimZ]
            · show _ = _
              have h2 := HQV.out
              rw [HGK.out] at h2
              rw [HV.out, val_append, dg_val, List.length_append, dg_length, Nat.pow_add, Nat.mod_eq_of_lt hr]
              exact write_step _ _ _ _ _ _ h2
            · show _ ≤ _
              have := digits_bound L ds.length gk (val 10 ds) xs hd HN.out HV.out hgp
              rw [List.length_append, dg_length]; omega
    · have hn0 : n = 0 := by omega
      subst hn0
      obtain ⟨ao3, cap3, rfl, hl3, hm3, hs3, ha3⟩ := hown.open
      rw [byt_length] at hl3
      have HVV : Hid (val 4294967296 xs = val 10 ds) := by
        show _ = _
        have h2 := HGK.out
        rw [List.take_zero, val_nil] at h2
        rw [HV.out, ← h2]; simp
      unfold maxLen at hm3
      go_wp2
      go_loop [3] (fun v => ∃ m : Nat, m ≤ ds.length ∧ v = .slice ao3 m cap3 ∧ Hid (∀ i, m ≤ i → i < ds.length → ds.getD i 0 = 0)) (fun v => lenOf v)
      case atStart => exact ⟨_, Nat.le_refl _, by rw [byt_length], fun i h1 h2 => by omega⟩
      case round =>
        obtain ⟨m, hmd, rfl, HM⟩ := hrel
        by_cases hm0 : 0 < m
        · obtain ⟨j, rfl⟩ : ∃ j, m = j + 1 := ⟨m - 1, by omega⟩
          obtain ⟨b, off, rfl, hc⟩ := hs3.open j (by rw [byt_length]; omega)
          have hcell := hc j (by rw [byt_length]; omega)
          rw [byt_getD ds j (by omega)] at hcell
          obtain ⟨x, hx⟩ : ∃ x, x = ds.getD j 0 := ⟨_, rfl⟩
          rw [← hx] at hcell
          have hx10 : x < 10 := hx ▸ hdd.getD (by decide) j
          have HX : Hid (x = ds.getD j 0) := hx
          clear hc hx
          by_cases hx0 : x = 0
          · have hb : (48 + (x : Int) == 48) = true := by rw [beq_iff_eq]; omega
            have HX0 : Hid (x = 0) := hx0
            clear hx0
            go_wp2
            go_round
            case rel =>
              refine ⟨j, by omega, rfl, fun i h1 h2 => ?_⟩
              by_cases e : i = j
              · subst e; rw [← HX.out, HX0.out]
              · exact HM.out i (by omega) h2
            case measure => simp [lenOf]
          · have hb : (48 + (x : Int) == 48) = false := by rw [beq_eq_false_iff_ne]; omega
            have HX0 : Hid (x ≠ 0) := hx0
            clear hx0
            go_wp2
            go_ret
            have e1 : trimZ ds = ds.take (j + 1) := by
              rw [trimZ_eq_of_zeros ds (j + 1) (by omega) HM.out, take_snoc ds j (by omega), trimZ_snoc_ne _ _ (by rw [← HX.out]; exact HX0.out)]
            refine ⟨_, rfl, trimZ ds, norm_trimZ _, hdd.trimZ, by rw [val_trimZ, HVV.out], ?_, ?_, hbel⟩
            · have := HDL.out; have := trimZ_length_le ds; omega
            · rw [e1, ← byt_take]
              exact (hown.mono (Nat.le_succ _)).take (j + 1) (by rw [byt_length]; omega) (by simp)
        · have hm0' : m = 0 := by omega
          subst hm0'
          go_wp2
          go_ret
          have e1 : trimZ ds = [] := by rw [trimZ_eq_of_zeros ds 0 (by omega) HM.out]; rfl
          refine ⟨_, rfl, trimZ ds, norm_trimZ _, hdd.trimZ, by rw [val_trimZ, HVV.out], by rw [e1]; simp, ?_, hbel⟩
          rw [e1]
          exact (hown.mono (Nat.le_succ _)).empty
end Go.Proofs.Ytlonnhnfmcndfad
