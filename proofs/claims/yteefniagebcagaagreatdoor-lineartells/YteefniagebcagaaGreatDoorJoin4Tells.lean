/- Joined: Write, Rev, Text2, CmpA: words and contracts; no statement of the seat is proved here. -/
import Derived.Test.YteefniagebcagaaGreatDoorJoin3Tells
import Derived.Test.YteefniagebcagaaGreatDoorJoin2Tells
import Derived.BigQuiet
/- Contract of arith.writeDigits; it proves no statement of the seat. -/
namespace Go.Proofs.YteefniagebcagaaGreatDoor
open Go.RowKit

theorem Tryz.underlying126 : Tryz.prog.underlying 126 = some (.slice 5) := by kernel_rfl
theorem Tryz.underlying5 : Tryz.prog.underlying 5 = some (.int .u8) := by kernel_rfl
theorem Tryz.info5 : (Tryz.prog.info? 5).map (fun i => (i.zero, i.size, i.bytes)) = some (some (.int .u8 0), 1, 1) := by kernel_rfl

/-- The lowest j decimal digits of r. -/
def dg (r : Nat) : Nat → List Nat
  | 0 => []
  | j + 1 => dg r j ++ [r / 10 ^ j % 10]
theorem dg_length (r j : Nat) : (dg r j).length = j := by
  induction j with
  | zero => rfl
  | succ j ih => simp [dg, ih]
theorem dg_digs (r j : Nat) : Digs 10 (dg r j) := by
  induction j with
  | zero => exact Digs.nil _
  | succ j ih => exact ih.append (Digs.cons (Nat.mod_lt _ (by decide)) (Digs.nil _))
theorem dg_val (r j : Nat) : val 10 (dg r j) = r % 10 ^ j := by
  induction j with
  | zero => simp [dg, val, Nat.mod_one]
  | succ j ih => rw [dg, val_snoc, ih, dg_length, Nat.pow_succ, Nat.mod_mul]

/-- A slice's length. -/
def lenOf : Value → Nat
  | .slice _ n _ => n
  | _ => 0

/-- Digits as bytes. -/
def byt (ds : List Nat) : List Nat := ds.map fun d => 48 + d
theorem byt_length (ds : List Nat) : (byt ds).length = ds.length := by simp [byt]
theorem byt_append (a b : List Nat) : byt (a ++ b) = byt a ++ byt b := by simp [byt]
theorem byt_take (a : List Nat) (n : Nat) : (byt a).take n = byt (a.take n) := by simp [byt, List.map_take]
theorem byt_getD (a : List Nat) (i : Nat) (h : i < a.length) : (byt a).getD i 0 = 48 + a.getD i 0 := by
  simp [byt, List.getElem?_eq_getElem h]

theorem write_step (D P q r K : Nat) (V : Nat) (h : V = q * K + r) : D + P * V = (D + P * r) + P * K * q := by
  subst h
  rw [Nat.mul_add, Nat.mul_assoc, Nat.mul_comm K q]; omega

theorem digits_bound (L n : Nat) (V D : Nat) (xs : List Nat) (hd : Digs 4294967296 xs) (hL : xs.length = L) (h : val 4294967296 xs = D + 10 ^ n * V) (hV : 0 < V) : n ≤ 10 * L := by
  have h1 := val_lt hd
  rw [hL] at h1
  have h2 : 4294967296 ^ L ≤ (10 ^ 10) ^ L := Nat.pow_le_pow_left (by decide) L
  rw [← Nat.pow_mul] at h2
  have h3 : 10 ^ n * 1 ≤ 10 ^ n * V := Nat.mul_le_mul_left _ hV
  rcases Nat.lt_or_ge (10 * L) n with h4 | h4
  · have h5 : 10 ^ (10 * L) ≤ 10 ^ n := Nat.pow_le_pow_right (by decide) (by omega)
    omega
  · exact h4

theorem shrinkLimbs_int (g n cap d : Nat) (D : Int) (hD : D = (d : Int)) (zs : List Nat) (w : World) (hn : n ≤ zs.length) (h1 : n ≤ 10000) (hr : Row .u32 167 w g zs) (hd : Digs 4294967296 zs) (hd0 : 0 < d) (hdl : d < 4294967296) :
    Calls Tryz.prog 112 #[.slice (some ⟨g, 0, none⟩) n cap, .int .u32 D] w fun e w' => ∃ r qs, e = .returned (.int .u32 ((r : Nat) : Int)) ∧ r < d ∧ qs.length = n ∧ Digs 4294967296 qs ∧ val 4294967296 (zs.take n) = val 4294967296 qs * d + r ∧ Row .u32 167 w' g (qs ++ zs.drop n) ∧ Only g w w' := by
  subst hD
  exact shrinkLimbs_any g n cap d zs w hn h1 hr hd hd0 hdl

set_option maxHeartbeats 2000000 in
theorem writeDigits_any (ao : Option Addr) (L cap : Nat) (xs : List Nat) (w : World) (hn : xs.length = L) (h1 : L ≤ 1000) (hs : Seg .u32 w ao xs) (hd : Digs 4294967296 xs) (hnm : Norm xs) :
    Calls Tryz.prog 74 #[.slice ao L cap] w fun e w' => ∃ v, e = .returned v ∧ ∃ ds, Norm ds ∧ Digs 10 ds ∧ val 10 ds = val 4294967296 xs ∧ ds.length ≤ 20000 ∧ Own .u8 5 w.heap.size w' v (byt ds) ∧ Below w.heap.size w w' := by
  have HN : Hid (xs.length = L) := hn
  clear hn
  go_enter Tryz.func74, Tryz.ntmps74
  go_wp2_with fail
  refine (copied_any ao L cap xs _ HN.out (by omega) hs).mono ?_
  rintro e w1 ⟨rfl, hr1, hb1, hz1⟩
  go_wp2
  go_loopg [3, 4] (val 4294967296 xs) (fun gk v rest wr => ∃ n : Nat, ∃ zs ds : List Nat, rest = .slice (some ⟨w.heap.size, 0, none⟩) n L ∧ Row .u32 167 wr w.heap.size zs ∧ Hid (zs.length = L) ∧ n ≤ L ∧ Digs 4294967296 zs ∧ Hid (Norm (zs.take n)) ∧ Hid (val 4294967296 (zs.take n) = gk) ∧
    Own .u8 5 (w.heap.size + 1) wr v (byt ds) ∧ Digs 10 ds ∧ Hid (val 4294967296 xs = val 10 ds + 10 ^ ds.length * gk) ∧ Hid (ds.length ≤ 10 * L + 9) ∧ Below w.heap.size w wr ∧ w.heap.size + 1 ≤ wr.heap.size)
  case atStart => exact ⟨L, xs, [], rfl, hr1, HN, Nat.le_refl _, hd, (by rw [List.take_of_length_le (by rw [HN.out]; exact Nat.le_refl _)]; exact hnm : Norm _), (by rw [List.take_of_length_le (by rw [HN.out]; exact Nat.le_refl _)] : _ = _), Own.nil _ _ _ _, Digs.nil _, (by simp [val] : _ = _), (by simp : _ ≤ _), hb1, by omega⟩
  case round =>
    obtain ⟨n, zs, ds, rfl, hrow, HZ, hnl, hzd, HNM, HGK, hown, hdd, HV, HDL, hbel, hsz⟩ := hrel
    by_cases h0 : 0 < n
    · go_wp2_with fail
      refine (shrinkLimbs_int w.heap.size n L 1000000000 _ rfl zs _ (by have := HZ.out; omega) (by omega) hrow hzd (by decide) (by decide)).mono ?_
      rintro e w2 ⟨r, qs, rfl, hr, hql, hqd, hqv, hrow2, honly⟩
      have hsq : Seg .u32 w2 (some ⟨w.heap.size, 0, none⟩) qs := by
        have := hrow2.first n (by rw [List.length_append]; omega)
        rwa [List.take_left' hql] at this
      have HQL : Hid (qs.length = n) := hql
      have HQV : Hid (val 4294967296 (zs.take n) = val 4294967296 qs * 1000000000 + r) := hqv
      have hown2 : Own .u8 5 (w.heap.size + 1) w2 u3 (byt ds) := hown.only honly (by omega)
      have hbel2 : Below w.heap.size w w2 := hbel.trans (honly.below (Nat.le_refl _))
      have hsz2 : w.heap.size + 1 ≤ w2.heap.size := by rw [honly.size]; exact hsz
      clear hql hqv hown hbel hsz
      go_wp2_with (go_at_call 113; refine (trimmed_any (some ⟨w.heap.size, 0, none⟩) n L qs _ HQL.out hnl (by unfold maxLen; omega) hsq).mono ?_; rintro e w' ⟨rfl, rfl⟩)
      go_loopw [3, 5, 15] (fun v c i wq => ∃ j cN : Nat, j ≤ 9 ∧ i = .int .i64 j ∧ c = .int .u32 cN ∧ Hid (cN = r / 10 ^ j) ∧ cN < 1000000000 ∧ Own .u8 5 (w.heap.size + 1) wq v (byt (ds ++ dg r j)) ∧ Row .u32 167 wq w.heap.size (qs ++ zs.drop n) ∧ Below w.heap.size w wq ∧ w.heap.size + 1 ≤ wq.heap.size) (fun _ _ i _ => 9 - (intOf i).toNat)
      case atStart => exact ⟨0, r, by omega, rfl, rfl, (by simp : _ = _), hr, by simpa [dg] using hown2, hrow2, hbel2, hsz2⟩
      case round =>
        obtain ⟨j, cN, hj, rfl, rfl, HC, hcl, hownq, hrowq, hbelq, hszq⟩ := hrel
        by_cases hj9 : j < 9
        · have hlen : (byt (ds ++ dg r j)).length ≤ 100000 := by
            have := HDL.out
            rw [byt_length, List.length_append, dg_length]; omega
          have HLEN : Hid ((byt (ds ++ dg r j)).length ≤ 100000) := hlen
          clear hlen
          go_wp2_with (at_builtin; refine wpList_append_num rfl (.tmp 17) (.tmp 22) 126 rfl (w.heap.size + 1) 5 .u8 1 Tryz.underlying126 Tryz.info5 (by decide) _ _ rfl hownq _ (48 + cN % 10) (by omega) rfl HLEN.out hszq ?_; intro v' w3 hown3 hblk3 hbel3)
          go_roundw
          case rel =>
            refine ⟨j + 1, cN / 10, by omega, by go_num, rfl, ?_, by omega, ?_, ?_, ?_, ?_⟩
            · show _ = _
              rw [HC.out, Nat.div_div_eq_div_mul, Nat.pow_succ]
            · rw [HC.out] at hown3
              rw [dg, ← List.append_assoc, byt_append]
              exact hown3
            · exact hrowq.keep hbel3 (by omega)
            · exact hbelq.trans (hbel3.mono (by omega))
            · have := hbel3.size; omega
          case measure => simp [intOf]; omega
        · have hj' : j = 9 := by omega
          subst hj'
          go_wp2
          go_roundg (val 4294967296 qs)
          case measure =>
            have h2 := HQV.out
            rw [HGK.out] at h2
            have h3 := (HNM.out.pos (B := 4294967296) (by intro e; have := congrArg List.length e; rw [List.length_take, HZ.out] at this; simp at this; omega)).resolve_right (by decide)
            rw [HGK.out] at h3
            omega
          case rel =>
            have hgp := (HNM.out.pos (B := 4294967296) (by intro e; have := congrArg List.length e; rw [List.length_take, HZ.out] at this; simp at this; omega)).resolve_right (by decide)
            rw [HGK.out] at hgp
            have hlt := trimZ_length_le qs
            have hql := HQL.out
            have etake : (qs ++ zs.drop n).take (trimZ qs).length = trimZ qs := by
              rw [List.take_append_of_le_length hlt, ← trimZ_take]
            refine ⟨(trimZ qs).length, qs ++ zs.drop n, ds ++ dg r 9, rfl, hrowq, ?_, by omega, hqd.append (hzd.drop n), ?_, ?_, hownq, hdd.append (dg_digs _ _), ?_, ?_, hbelq, hszq⟩
            · show _ = _
              rw [List.length_append, List.length_drop, HZ.out]; omega
            · show Norm _
              rw [etake]; exact norm_trimZ _
            · show _ = _
              rw [etake, val_trimZ]
            · show _ = _
              have h2 := HQV.out
              rw [HGK.out] at h2
              rw [HV.out, val_append, dg_val, List.length_append, dg_length, Nat.pow_add, Nat.mod_eq_of_lt hr]
              exact write_step _ _ _ _ _ _ h2
            · show _ ≤ _
              have := digits_bound L ds.length gk (val 10 ds) xs hd HN.out HV.out hgp
              rw [List.length_append, dg_length]; omega
    · have hn0 : n = 0 := by omega
      subst hn0
      obtain ⟨ao3, cap3, rfl, hl3, hm3, hs3, ha3⟩ := hown.open
      rw [byt_length] at hl3
      have HVV : Hid (val 4294967296 xs = val 10 ds) := by
        show _ = _
        have h2 := HGK.out
        rw [List.take_zero, val_nil] at h2
        rw [HV.out, ← h2]; simp
      unfold maxLen at hm3
      go_wp2
      go_loop [3] (fun v => ∃ m : Nat, m ≤ ds.length ∧ v = .slice ao3 m cap3 ∧ Hid (∀ i, m ≤ i → i < ds.length → ds.getD i 0 = 0)) (fun v => lenOf v)
      case atStart => exact ⟨_, Nat.le_refl _, by rw [byt_length], fun i h1 h2 => by omega⟩
      case round =>
        obtain ⟨m, hmd, rfl, HM⟩ := hrel
        by_cases hm0 : 0 < m
        · obtain ⟨j, rfl⟩ : ∃ j, m = j + 1 := ⟨m - 1, by omega⟩
          obtain ⟨b, off, rfl, hc⟩ := hs3.open j (by rw [byt_length]; omega)
          have hcell := hc j (by rw [byt_length]; omega)
          rw [byt_getD ds j (by omega)] at hcell
          obtain ⟨x, hx⟩ : ∃ x, x = ds.getD j 0 := ⟨_, rfl⟩
          rw [← hx] at hcell
          have hx10 : x < 10 := hx ▸ hdd.getD (by decide) j
          have HX : Hid (x = ds.getD j 0) := hx
          clear hc hx
          by_cases hx0 : x = 0
          · have hb : (48 + (x : Int) == 48) = true := by rw [beq_iff_eq]; omega
            have HX0 : Hid (x = 0) := hx0
            clear hx0
            go_wp2
            go_round
            case rel =>
              refine ⟨j, by omega, rfl, fun i h1 h2 => ?_⟩
              by_cases e : i = j
              · subst e; rw [← HX.out, HX0.out]
              · exact HM.out i (by omega) h2
            case measure => simp [lenOf]
          · have hb : (48 + (x : Int) == 48) = false := by rw [beq_eq_false_iff_ne]; omega
            have HX0 : Hid (x ≠ 0) := hx0
            clear hx0
            go_wp2
            go_ret
            have e1 : trimZ ds = ds.take (j + 1) := by
              rw [trimZ_eq_of_zeros ds (j + 1) (by omega) HM.out, take_snoc ds j (by omega), trimZ_snoc_ne _ _ (by rw [← HX.out]; exact HX0.out)]
            refine ⟨_, rfl, trimZ ds, norm_trimZ _, hdd.trimZ, by rw [val_trimZ, HVV.out], ?_, ?_, hbel⟩
            · have := HDL.out; have := trimZ_length_le ds; omega
            · rw [e1, ← byt_take]
              exact (hown.mono (Nat.le_succ _)).take (j + 1) (by rw [byt_length]; omega) (by simp)
        · have hm0' : m = 0 := by omega
          subst hm0'
          go_wp2
          go_ret
          have e1 : trimZ ds = [] := by rw [trimZ_eq_of_zeros ds 0 (by omega) HM.out]; rfl
          refine ⟨_, rfl, trimZ ds, norm_trimZ _, hdd.trimZ, by rw [val_trimZ, HVV.out], by rw [e1]; simp, ?_, hbel⟩
          rw [e1]
          exact (hown.mono (Nat.le_succ _)).empty
end Go.Proofs.YteefniagebcagaaGreatDoor
/- Contracts of slices.Reverse and arith's Text; they prove no statement of the seat. -/
namespace Go.Proofs.YteefniagebcagaaGreatDoor
open Go.RowKit

set_option maxHeartbeats 1000000 in
theorem reverse_any (g n cap base : Nat) (zs : List Nat) (w : World) (hn : n ≤ 100000) (ho : Own .u8 5 base w (.slice (some ⟨g, 0, none⟩) n cap) zs) (hl : zs.length = n) :
    Calls Tryz.prog 75 #[.slice (some ⟨g, 0, none⟩) n cap] w fun e w' => e = .returned (.tuple #[]) ∧ Own .u8 5 base w' (.slice (some ⟨g, 0, none⟩) n cap) zs.reverse ∧ Only g w w' := by
  have HL : Hid (zs.length = n) := hl
  clear hl
  go_enter Tryz.func75, Tryz.ntmps75
  go_wp2
  go_loopw [2, 3] (fun i j wr => ∃ k : Nat, ∃ ys : List Nat, k ≤ n ∧ i = .int .i64 k ∧ j = .int .i64 ((n : Int) - 1 - k) ∧ Hid (ys.length = n) ∧ Own .u8 5 base wr (.slice (some ⟨g, 0, none⟩) n cap) ys ∧ Hid (∀ p, p < n → ys.getD p 0 = if p < k ∨ n - k ≤ p then zs.getD (n - 1 - p) 0 else zs.getD p 0) ∧ Only g w wr) (fun i _ _ => n - (intOf i).toNat)
  case atStart => exact ⟨0, zs, Nat.zero_le _, rfl, by go_num, HL, ho, (fun p hp => by rw [if_neg (by omega)] : ∀ p, _ → _), Only.refl _ _⟩
  case round =>
    obtain ⟨k, ys, hk, rfl, rfl, HY, hoy, HP, honly⟩ := hrel
    by_cases hlt : 2 * k + 1 < n
    · have c1 := hoy.cell k (by have := HY.out; omega)
      have c2 := hoy.cell (n - 1 - k) (by have := HY.out; omega)
      have f1 := hoy.frozen k
      have f2 := hoy.frozen (n - 1 - k)
      obtain ⟨x, hx⟩ : ∃ x, x = ys.getD k 0 := ⟨_, rfl⟩
      obtain ⟨y, hy⟩ : ∃ y, y = ys.getD (n - 1 - k) 0 := ⟨_, rfl⟩
      rw [← hx] at c1
      rw [← hy] at c2
      have HX : Hid (x = ys.getD k 0 ∧ y = ys.getD (n - 1 - k) 0) := ⟨hx, hy⟩
      clear hx hy
      go_wp2
      go_region
      go_wp2
      go_roundw
      case rel =>
        obtain ⟨hx, hy⟩ := HX.out
        have hyl := HY.out
        refine ⟨k + 1, (ys.set k y).set (n - 1 - k) x, by omega, by go_num, by go_num, ?_, ?_, ?_, ?_⟩
        · show _ = _
          rw [List.length_set, List.length_set]; exact hyl
        · exact ((hoy.set k _ y rfl).set (n - 1 - k) _ x rfl).drew
        · intro p hp
          rw [getD_set _ _ _ _ (by rw [List.length_set]; omega), getD_set _ _ _ _ (by omega)]
          by_cases e1 : p = n - 1 - k
          · rw [if_pos e1, if_pos (by omega), hx, HP.out k (by omega), if_neg (by omega)]
            congr 1; omega
          · rw [if_neg e1]
            by_cases e2 : p = k
            · rw [if_pos e2, if_pos (by omega), hy, HP.out (n - 1 - k) (by omega), if_neg (by omega), e2]
            · rw [if_neg e2, HP.out p hp]
              by_cases e3 : p < k ∨ n - k ≤ p
              · rw [if_pos e3, if_pos (by omega)]
              · rw [if_neg e3, if_neg (by omega)]
        · exact ((honly.set _ _).set _ _).drew
      case measure => simp [intOf]; omega
    · go_wp2
      go_end0
      refine ⟨rfl, ?_, honly⟩
      have hyl := HY.out
      have hzl := HL.out
      have e : ys = zs.reverse := by
        apply ext_getD (by rw [List.length_reverse]; omega)
        intro p hp
        rw [HP.out p (by omega), getD_reverse _ _ (by omega), hzl]
        by_cases e3 : p < k ∨ n - k ≤ p
        · rw [if_pos e3]
        · rw [if_neg e3]; congr 1; omega
      rw [← e]; exact hoy
end Go.Proofs.YteefniagebcagaaGreatDoor
/- Contract of arith's Text; it proves no statement of the seat. -/
namespace Go.Proofs.YteefniagebcagaaGreatDoor
open Go.RowKit

/-- The text of a number: its sign, its decimal digits, the lowest first. -/
def showB (neg : Bool) (ds : List Nat) : List Nat := if ds.length = 0 then [48] else (if neg = true then [45] else []) ++ (byt ds).reverse
/-- S is the number's text. -/
def TextOf (S : ByteArray) (z : Int) : Prop := ∃ neg ds, Norm ds ∧ Digs 10 ds ∧ (ds.length = 0 → neg = false) ∧ z = sv neg (val 10 ds) ∧ bs S = showB neg ds

theorem sv_inj {a b : Bool} {m n : Nat} (h : sv a m = sv b n) (ha : m = 0 → a = false) (hb : n = 0 → b = false) : a = b ∧ m = n := by
  have h1 : m = n := by rw [← sv_natAbs a m, h, sv_natAbs]
  subst h1
  refine ⟨?_, rfl⟩
  by_cases hm : m = 0
  · rw [ha hm, hb hm]
  · cases a <;> cases b <;> simp [sv] at h ⊢ <;> omega

theorem Norm.len_zero {xs : List Nat} {B : Nat} (h : Norm xs) (hB : 0 < B) : val B xs = 0 → xs.length = 0 := fun e => by rw [h.eq_nil hB e]; rfl

/-- A number has one text. -/
theorem TextOf.same {S T : ByteArray} {z : Int} (h : TextOf S z) (k : TextOf T z) : S = T := by
  obtain ⟨a, ds, n1, d1, z1, v1, s1⟩ := h
  obtain ⟨b, es, n2, d2, z2, v2, s2⟩ := k
  rw [v1] at v2
  obtain ⟨e1, e2⟩ := sv_inj v2 (fun h => z1 (n1.len_zero (by decide) h)) (fun h => z2 (n2.len_zero (by decide) h))
  have e3 := Norm.inj d1 d2 n1 n2 (by decide) e2
  subst e1; subst e3
  exact bs_inj (s1.trans s2.symm)

theorem bs_nums (zs : List Nat) (h : ∀ z, z ∈ zs → z < 256) : bs (strOfNums (zs.map fun z : Nat => (z : Int))) = zs := by
  unfold bs
  rw [strOfNums_data, List.map_map, List.map_map]
  have : ∀ z, z ∈ zs → ((UInt8.toNat ∘ fun n : Int => UInt8.ofNat n.toNat) ∘ fun z : Nat => (z : Int)) z = z := by
    intro z hz
    simp
    exact h z hz
  rw [List.map_congr_left this]
  simp

theorem own_convert {P : Program} {e src : TypeId} {base g n cap : Nat} {w : World} {zs : List Nat} (h : Own .u8 e base w (.slice (some ⟨g, 0, none⟩) n cap) zs) (hn : zs.length = n) (hz : ∀ z, z ∈ zs → z < 256) (hs : P.underlying src = some (.slice e)) (he : P.underlying e = some (.int .u8)) (dst : TypeId) (hd : P.underlying dst = some .string) :
    ∃ S, bs S = zs ∧ (convert src dst (.slice (some ⟨g, 0, none⟩) n cap)).run P w = .ok (.string S) w := by
  refine ⟨_, bs_nums zs hz, run_convert_bytes_arg (P := P) w src e hs he g 0 n cap _ (by simpa using hn) (fun i hi => ?_) dst hd⟩
  rw [Nat.zero_add, h.cell i (by omega)]
  congr 2
  simp [List.getElem?_eq_getElem (show i < zs.length by omega)]

theorem byt_lt (ds : List Nat) (h : Digs 10 ds) : ∀ z, z ∈ byt ds → z < 256 := by
  intro z hz
  obtain ⟨d, hd, rfl⟩ := List.mem_map.1 hz
  have := h d hd
  omega

set_option maxHeartbeats 1000000 in
theorem text_any (v : Value) (neg : Bool) (xs : List Nat) (w : World) (hv : IntV w v neg xs) (hl : xs.length ≤ 1000) :
    Calls Tryz.prog 31 #[v] w fun e w' => ∃ S, e = .returned (.string S) ∧ TextOf S (sv neg (val 4294967296 xs)) ∧ Below w.heap.size w w' := by
  have HV := hv
  obtain ⟨ao, cap, rfl, h1, h2, hs, hd, hn, h3⟩ := hv
  have B0 := Blk.new w 31 #[.bool neg, .slice ao xs.length cap]
  have hbx : Below w.heap.size w (w.alloc (.cells #[.bool neg, .slice ao xs.length cap] 31)) := (Below.refl _ _).alloc (Nat.le_refl _) _
  by_cases h0 : xs.length = 0
  · have hx : xs = [] := List.eq_nil_of_length_eq_zero h0
    subst hx
    obtain rfl := h3 rfl
    have hsg : ((sv false (val 4294967296 [])).sign == 0) = true := by rw [val_nil, sv_zero]; rfl
    go_enter Tryz.func31, Tryz.ntmps31
    go_wp2_with fail
    refine (sign_any _ false [] _ (HV.below hbx)).mono ?_
    rintro e w1 ⟨rfl, hb1⟩
    go_wp2
    go_ret
    refine ⟨_, rfl, ⟨false, [], Norm.nil, Digs.nil _, fun _ => rfl, by rw [val_nil, sv_zero]; simp [sv, val], rfl⟩, hbx.step hb1 (Nat.le_refl _)⟩
  · have hp := (hn.pos (B := 4294967296) (by intro e; subst e; simp at h0)).resolve_right (by decide)
    have hsg : ((sv neg (val 4294967296 xs)).sign == 0) = false := by
      rw [beq_eq_false_iff_ne]
      intro e
      have := Int.sign_eq_zero_iff_zero.1 e
      have h4 := sv_natAbs neg (val 4294967296 xs)
      rw [this] at h4
      simp at h4
      omega
    have HH : Hid (0 < val 4294967296 xs ∧ xs.length ≠ 0) := ⟨hp, h0⟩
    clear hp h0 h3
    go_enter Tryz.func31, Tryz.ntmps31
    go_wp2_with fail
    refine (sign_any _ neg xs _ (HV.below hbx)).mono ?_
    rintro e w1 ⟨rfl, hb1⟩
    have B1 := B0.stay hb1
    obtain ⟨c0, c1, f0, f1⟩ := B1.two
    have hb2 := hbx.step hb1 (Nat.le_refl _)
    go_wp2_with fail
    refine (writeDigits_any ao xs.length cap xs _ rfl hl (hs.below hb2) hd hn).mono ?_
    rintro e w2 ⟨vo, rfl, ds, hdn, hdd, hdv, hdl, hown, hb3⟩
    have HDV : Hid (val 10 ds = val 4294967296 xs) := hdv
    have hdp : 0 < ds.length := by
      rcases Nat.eq_zero_or_pos ds.length with h | h
      · have e := List.eq_nil_of_length_eq_zero h
        rw [e, val_nil] at hdv
        have := HH.out.1
        omega
      · exact h
    clear hdv
    have B2 := B1.stay hb3
    clear c0 c1 f0 f1
    obtain ⟨c0, c1, f0, f1⟩ := B2.two
    have hb4 := hb2.step hb3 (Nat.le_refl _)
    have hw1 : w.heap.size < w1.heap.size := B1.lt
    cases neg with
    | false =>
      obtain ⟨g, cp, rfl, hg1, hg2⟩ := hown.shape (by rw [byt_length]; exact hdp)
      have HBL : Hid ((byt ds).length ≤ 100000) := by show _ ≤ _; rw [byt_length]; omega
      go_wp2_with fail
      refine (reverse_any g (byt ds).length cp w1.heap.size (byt ds) _ HBL.out hown rfl).mono ?_
      rintro e w3 ⟨rfl, hown3, honly⟩
      obtain ⟨S, hS, hconv⟩ := own_convert (P := Tryz.prog) (src := 126) hown3 (by simp) (fun z hz => byt_lt ds hdd z (List.mem_reverse.1 hz)) Tryz.underlying126 Tryz.underlying5 9 Tryz.underlying9
      have HS : Hid (bs S = (byt ds).reverse) := hS
      clear hS
      go_wp2
      go_ret
      refine ⟨_, rfl, ⟨false, ds, hdn, hdd, fun _ => rfl, by rw [HDV.out], ?_⟩, hb4.trans (honly.below (by omega))⟩
      rw [HS.out, showB, if_neg (by omega)]
      rfl
    | true =>
      have HBL : Hid ((byt ds).length ≤ 100000) := by show _ ≤ _; rw [byt_length]; omega
      have HBB : Hid (w1.heap.size ≤ w2.heap.size) := hb3.size
      go_wp2_with (at_builtin; refine wpList_append_num rfl (.tmp 12) (.tmp 13) 126 rfl w1.heap.size 5 .u8 1 Tryz.underlying126 Tryz.info5 (by decide) _ _ rfl hown _ 45 rfl rfl HBL.out HBB.out ?_; intro v' w3 hown3 hblk3 hbel3)
      obtain ⟨g, cp, hv3, hg1, hg2⟩ := hown3.shape (by simp)
      have hLL : (byt ds ++ [45]).length = ds.length + 1 := by rw [List.length_append, byt_length]; rfl
      rw [hLL] at hv3
      subst hv3
      have HBL3 : Hid (ds.length + 1 ≤ 100000) := by show _ ≤ _; omega
      have HLL : Hid ((byt ds ++ [45]).length = ds.length + 1) := hLL
      clear hLL
      go_wp2_with fail
      refine (reverse_any g (ds.length + 1) cp w1.heap.size (byt ds ++ [45]) _ HBL3.out hown3 HLL.out).mono ?_
      rintro e w4 ⟨rfl, hown4, honly⟩
      obtain ⟨S, hS, hconv⟩ := own_convert (P := Tryz.prog) (src := 126) hown4 (by rw [List.length_reverse]; exact HLL.out) (by
        intro z hz
        rcases List.mem_append.1 (List.mem_reverse.1 hz) with h | h
        · exact byt_lt ds hdd z h
        · simp at h; omega) Tryz.underlying126 Tryz.underlying5 9 Tryz.underlying9
      have HS : Hid (bs S = (byt ds ++ [45]).reverse) := hS
      clear hS
      go_wp2
      go_ret
      refine ⟨_, rfl, ⟨true, ds, hdn, hdd, fun h => by omega, by rw [HDV.out], ?_⟩, (hb4.trans (hbel3.mono (by omega))).trans (honly.below (by omega))⟩
      rw [HS.out, showB, if_neg (by omega)]
      simp
end Go.Proofs.YteefniagebcagaaGreatDoor
/- Contract of arith.cmpLimbs; it proves no statement of the seat. -/
namespace Go.Proofs.YteefniagebcagaaGreatDoor
open Go.RowKit

set_option maxHeartbeats 1000000 in
theorem cmpLimbs_any (ao bo : Option Addr) (n m cap cap' : Nat) (xs ys : List Nat) (w : World) (hn : xs.length = n) (hm : ys.length = m) (h1 : n ≤ 100000) (h2 : m ≤ 100000) (hs : Seg .u32 w ao xs) (ht : Seg .u32 w bo ys) (hdx : Digs 4294967296 xs) (hdy : Digs 4294967296 ys) :
    Calls Tryz.prog 87 #[.slice ao n cap, .slice bo m cap'] w fun e w' => e = .returned (.int .i64 (cmpL 4294967296 xs ys)) ∧ Below w.heap.size w w' := by
  have HN : Hid (xs.length = n) := hn
  have HM : Hid (ys.length = m) := hm
  clear hn hm
  by_cases hne : n = m
  · subst hne
    have hb : (((n : Nat) : Int) != ((n : Nat) : Int)) = false := by simp
    go_enter Tryz.func87, Tryz.ntmps87
    go_wp2
    go_loopw [5] (fun i wr => ∃ k : Nat, k ≤ n ∧ i = .int .i64 ((k : Int) - 1) ∧ Hid (xs.drop k = ys.drop k) ∧ Below w.heap.size w wr) (fun i _ => (intOf i + 1).toNat)
    case atStart => exact ⟨n, Nat.le_refl _, rfl, (by rw [List.drop_of_length_le (by have := HN.out; omega), List.drop_of_length_le (by have := HM.out; omega)] : _ = _), Below.refl _ _⟩
    case round =>
      obtain ⟨k, hk, rfl, HD, hbel⟩ := hrel
      have hs' := hs.below hbel
      have ht' := ht.below hbel
      by_cases h0 : 0 < k
      · obtain ⟨j, rfl⟩ : ∃ j, k = j + 1 := ⟨k - 1, by omega⟩
        obtain ⟨b, off, rfl, hc⟩ := hs'.open j (by have := HN.out; omega)
        obtain ⟨b2, off2, rfl, hc2⟩ := ht'.open j (by have := HM.out; omega)
        have c1 := hc j (by have := HN.out; omega)
        have c2 := hc2 j (by have := HM.out; omega)
        obtain ⟨x, hx⟩ : ∃ x, x = xs.getD j 0 := ⟨_, rfl⟩
        obtain ⟨y, hy⟩ : ∃ y, y = ys.getD j 0 := ⟨_, rfl⟩
        rw [← hx] at c1
        rw [← hy] at c2
        have HX : Hid (x = xs.getD j 0) := hx
        have HY : Hid (y = ys.getD j 0) := hy
        clear hx hy hc hc2 hs' ht'
        by_cases hlt : x < y
        · go_wp2
          go_region
          go_wp2
          go_ret
          refine ⟨?_, hbel.drew⟩
          rw [cmpL_lt (by rw [HN.out, HM.out]) (val_lt_at hdx (by rw [HN.out, HM.out]) j (by have := HN.out; omega) HD.out (by rw [← HX.out, ← HY.out]; exact hlt))]
          rfl
        · by_cases hgt : y < x
          · go_wp2
            go_region
            go_wp2
            go_region
            go_wp2
            go_ret
            refine ⟨?_, hbel.drew.drew⟩
            rw [cmpL_gt (by rw [HN.out, HM.out]) (val_lt_at hdy (by rw [HN.out, HM.out]) j (by have := HM.out; omega) HD.out.symm (by rw [← HX.out, ← HY.out]; exact hgt))]
            rfl
          · have hxy : x = y := by omega
            go_wp2
            go_region
            go_wp2
            go_region
            go_wp2
            go_roundw
            case rel =>
              refine ⟨j, by omega, rfl, ?_, hbel.drew.drew⟩
              show _ = _
              rw [drop_cons_getD xs j (by have := HN.out; omega), drop_cons_getD ys j (by have := HM.out; omega), ← HX.out, ← HY.out, HD.out, hxy]
            case measure => simp [intOf]
      · have hk0 : k = 0 := by omega
        subst hk0
        go_wp2
        go_ret
        refine ⟨?_, hbel⟩
        have e : xs = ys := by simpa using HD.out
        rw [e, cmpL_eq]
        rfl
  · have hb : (((n : Nat) : Int) != ((m : Nat) : Int)) = true := by rw [bne_iff_ne]; omega
    by_cases hlt : n < m
    · have HR : Hid (cmpL 4294967296 xs ys = -1) := by show _ = _; unfold cmpL; rw [if_pos (by rw [HN.out, HM.out]; exact hlt)]
      go_enter Tryz.func87, Tryz.ntmps87
      go_wp2
      go_ret
      exact ⟨by rw [HR.out]; rfl, Below.refl _ _⟩
    · have HR : Hid (cmpL 4294967296 xs ys = 1) := by show _ = _; unfold cmpL; rw [if_neg (by rw [HN.out, HM.out]; omega), if_pos (by rw [HN.out, HM.out]; omega)]
      go_enter Tryz.func87, Tryz.ntmps87
      go_wp2
      go_ret
      exact ⟨by rw [HR.out]; rfl, Below.refl _ _⟩
end Go.Proofs.YteefniagebcagaaGreatDoor
