/- The walk of suretylaw03.LinearThrough; they prove no statement of the seat. -/
import Derived.Test.YteefniagebcagaaGreatDoorLinHxJThrough
namespace Go.Proofs.YteefniagebcagaaGreatDoor
open Go.RowKit
set_option linter.unusedVariables false

theorem Tryz.und_ints : Tryz.prog.underlying 54 = some (.slice 31) := by kernel_rfl
theorem Tryz.info_int : (Tryz.prog.info? 31).map (fun i => (i.zero, i.size, i.bytes)) = some (some (.agg #[.bool false, .slice none 0 0]), 2, 32) := by kernel_rfl
/-- The cells of numbers in a row. -/
theorem Arr.cells {w : World} {g o : Nat} {zs : List Int} (h : Arr w (some ⟨g, o, none⟩) zs) : ∃ news : List Value, news.length = zs.length * 2 ∧ (∀ j u, news[j]? = some u → w.cell? (Addr.add ⟨g, o, none⟩ j) = some u) ∧ (∀ u ∈ news, u.oneCell' = true) ∧ (∀ u ∈ news, NoU u) ∧ ∀ i, i < zs.length → ∃ s a n c, news[i * 2]? = some (.bool s) ∧ news[i * 2 + 1]? = some (.slice a n c) ∧ AInt w (.agg #[.bool s, .slice a n c]) (zs.getD i 0) := by
  rcases h with h | ⟨g', o', he, hc⟩
  · subst h; exact ⟨[], rfl, by simp, by simp, by simp, by simp⟩
  · cases he
    have key : ∀ i, ∃ q : Bool × Option Addr × Nat × Nat, i < zs.length → w.cell? ⟨g, o + i * 2, none⟩ = some (.bool q.1) ∧ w.cell? ⟨g, o + i * 2 + 1, none⟩ = some (.slice q.2.1 q.2.2.1 q.2.2.2) ∧ AInt w (.agg #[.bool q.1, .slice q.2.1 q.2.2.1 q.2.2.2]) (zs.getD i 0) := fun i => by
      by_cases hi : i < zs.length
      · obtain ⟨s, a, n, c, h1, h2, h3⟩ := hc i hi
        exact ⟨(s, a, n, c), fun _ => ⟨h1, h2, h3⟩⟩
      · exact ⟨(false, none, 0, 0), fun k => absurd k hi⟩
    obtain ⟨f, hf⟩ := Classical.axiomOfChoice key
    let cell : Nat → Value := fun j => if j % 2 = 0 then .bool (f (j / 2)).1 else .slice (f (j / 2)).2.1 (f (j / 2)).2.2.1 (f (j / 2)).2.2.2
    have hat : ∀ j, ((List.range (zs.length * 2)).map cell)[j]? = if j < zs.length * 2 then some (cell j) else none := fun j => by
      rw [List.getElem?_map]
      by_cases hj : j < zs.length * 2
      · rw [List.getElem?_range hj, if_pos hj]; rfl
      · rw [List.getElem?_eq_none (by simp; omega), if_neg hj]; rfl
    have hmem : ∀ u ∈ (List.range (zs.length * 2)).map cell, ∃ j, u = cell j := fun u hu => by
      obtain ⟨j, _, rfl⟩ := List.mem_map.1 hu
      exact ⟨j, rfl⟩
    refine ⟨(List.range (zs.length * 2)).map cell, by simp, fun j u hu => ?_, fun u hu => ?_, fun u hu => ?_, fun i hi => ?_⟩
    · rw [hat] at hu
      by_cases hj : j < zs.length * 2
      · rw [if_pos hj] at hu
        injection hu with hu
        subst hu
        obtain ⟨h1, h2, _⟩ := hf (j / 2) (by omega)
        rw [show Addr.add ⟨g, o, none⟩ j = ⟨g, o + j, none⟩ from by unfold Addr.add; split <;> simp_all]
        by_cases h : j % 2 = 0
        · rw [show cell j = .bool (f (j / 2)).1 from if_pos h, ← h1, show o + j = o + j / 2 * 2 by omega]
        · rw [show cell j = .slice (f (j / 2)).2.1 (f (j / 2)).2.2.1 (f (j / 2)).2.2.2 from if_neg h, ← h2, show o + j = o + j / 2 * 2 + 1 by omega]
      · rw [if_neg hj] at hu; cases hu
    · obtain ⟨j, rfl⟩ := hmem u hu
      show (if j % 2 = 0 then _ else _ : Value).oneCell' = true
      split <;> rfl
    · obtain ⟨j, rfl⟩ := hmem u hu
      show NoU (if j % 2 = 0 then _ else _)
      split
      · exact noU_bool _
      · exact noU_slice _ _ _
    · obtain ⟨h1, h2, h3⟩ := hf i hi
      refine ⟨(f i).1, (f i).2.1, (f i).2.2.1, (f i).2.2.2, ?_, ?_, h3⟩
      · rw [hat, if_pos (by omega), show cell (i * 2) = .bool (f (i * 2 / 2)).1 from if_pos (by omega), show i * 2 / 2 = i by omega]
      · rw [hat, if_pos (by omega), show cell (i * 2 + 1) = .slice (f ((i * 2 + 1) / 2)).2.1 (f ((i * 2 + 1) / 2)).2.2.1 (f ((i * 2 + 1) / 2)).2.2.2 from if_neg (by omega), show (i * 2 + 1) / 2 = i by omega]
theorem Arr.stores {w : World} {g o b i : Nat} {zs : List Int} {vs : List Value} (h : Arr w (some ⟨g, o, none⟩) zs) (hne : g ≠ b) (hk : KeepN w (stores w b i vs)) : Arr (stores w b i vs) (some ⟨g, o, none⟩) zs := by
  rcases h with h | ⟨g', o', he, hc⟩
  · exact Or.inl h
  · cases he
    refine Or.inr ⟨g, o, rfl, fun j hj => ?_⟩
    obtain ⟨s, a, n, c, h1, h2, h3⟩ := hc j hj
    have hs := stores_other b g hne vs w i
    exact ⟨s, a, n, c, (World.cell?_of_block (w := w) hs).trans h1, (World.cell?_of_block (w := w) hs).trans h2, h3.keepN hk⟩
theorem LstG.shape {sz : Nat} {e : TypeId} {base : Nat} {w : World} {v : Value} {n : Nat} {xs : List Value} (h : LstG sz e base w v n xs) (hn : 0 < n) : ∃ g cap, v = .slice (some ⟨g, 0, none⟩) n cap ∧ base ≤ g := by
  rcases h.2 with ⟨_, h0⟩ | ⟨g, cap, cur, h1, h2, _⟩
  · omega
  · exact ⟨g, cap, h1, h2⟩
/-- A list of numbers of one's own, one of them written. -/
theorem LstG.arr_put {base : Nat} {w2 : World} {news : List Value} {zs : List Int} {g n cap k : Nat} {s : Bool} {a : Option Addr} {m c : Nat} {y : Int} (h : LstG 2 31 base w2 (.slice (some ⟨g, 0, none⟩) n cap) n (news.take (k * 2) ++ [.bool s, .slice a m c] ++ news.drop (k * 2 + 2)))
    (hl : news.length = zs.length * 2) (hn : zs.length = n) (hk : k < zs.length) (he : ∀ i, i < zs.length → ∃ s a n c, news[i * 2]? = some (.bool s) ∧ news[i * 2 + 1]? = some (.slice a n c) ∧ AInt w2 (.agg #[.bool s, .slice a n c]) (zs.getD i 0)) (hy : AInt w2 (.agg #[.bool s, .slice a m c]) y) : Arr w2 (some ⟨g, 0, none⟩) (zs.set k y) := by
  have hat : ∀ j, (news.take (k * 2) ++ [.bool s, .slice a m c] ++ news.drop (k * 2 + 2))[j]? = if j = k * 2 then some (.bool s) else if j = k * 2 + 1 then some (.slice a m c) else news[j]? := fun j => by
    have ht : (news.take (k * 2)).length = k * 2 := by rw [List.length_take]; omega
    rw [List.append_assoc]
    by_cases h1 : j < k * 2
    · rw [List.getElem?_append_left (by omega), List.getElem?_take, if_pos h1, if_neg (by omega), if_neg (by omega)]
    · rw [List.getElem?_append_right (by omega), ht]
      by_cases h2 : j = k * 2
      · rw [if_pos h2, h2, Nat.sub_self]; rfl
      · rw [if_neg h2]
        by_cases h3 : j = k * 2 + 1
        · rw [if_pos h3, h3, show k * 2 + 1 - k * 2 = 1 by omega]; rfl
        · rw [if_neg h3, List.getElem?_append_right (by simp; omega), List.getElem?_drop]
          congr 1
          simp
          omega
  refine Or.inr ⟨g, 0, rfl, fun i hi => ?_⟩
  rw [List.length_set] at hi
  have hc : ∀ j u, j < n * 2 → (news.take (k * 2) ++ [.bool s, .slice a m c] ++ news.drop (k * 2 + 2))[j]? = some u → w2.cell? ⟨g, 0 + j, none⟩ = some u := fun j u hj hu => by
    obtain ⟨z, hz1, hz2⟩ := h.cell j hj
    rw [hz2] at hu
    injection hu with hu
    subst hu
    rw [Nat.zero_add]; exact hz1
  by_cases hik : i = k
  · subst hik
    refine ⟨s, a, m, c, hc _ _ (by omega) (by rw [hat, if_pos rfl]), ?_, ?_⟩
    · have := hc (i * 2 + 1) (.slice a m c) (by omega) (by rw [hat, if_neg (by omega), if_pos rfl])
      rw [← Nat.add_assoc] at this; exact this
    · rw [List.getD_eq_getElem?_getD, List.getElem?_set_self hk]; exact hy
  · obtain ⟨s', a', m', c', h1, h2, h3⟩ := he i hi
    refine ⟨s', a', m', c', hc _ _ (by omega) (by rw [hat, if_neg (by omega), if_neg (by omega)]; exact h1), ?_, ?_⟩
    · have := hc (i * 2 + 1) (.slice a' m' c') (by omega) (by rw [hat, if_neg (by omega), if_neg (by omega)]; exact h2)
      rw [← Nat.add_assoc] at this; exact this
    · rw [List.getD_eq_getElem?_getD, List.getElem?_set_ne (Ne.symm hik), ← List.getD_eq_getElem?_getD]; exact h3
/-- What LinearThrough asks, without the machine. -/
theorem through_sum {a b : List (Nat × Int)} {r s : Int} {zs : List Int} {ss : List (Nat × Int)} {s0 x y z co c1 c2 c3 : Int} (ha : Fine a) (hb : Fine b) (hs : Fine ss) (H0 : co = 0 → tAddOk a b r s ∧ ss = addP a b ∧ s0 = r + s) (H1 : x = atZ a r zs ∧ c1 = atE a r zs) (H2 : y = atZ b s zs ∧ c2 = atE b s zs) (H3 : z = atZ ss s0 zs ∧ c3 = atE ss s0 zs)
    (e0 : co = 0) (e1 : c1 = 0) (e2 : c2 = 0) (e3 : c3 = 0) (e4 : ec (x + y) = 0) : (z - hz (x + y)).sign = 0 := by
  obtain ⟨_, rfl, rfl⟩ := H0 e0
  obtain ⟨rfl, rfl⟩ := H1
  obtain ⟨rfl, rfl⟩ := H2
  obtain ⟨rfl, rfl⟩ := H3
  have hl : (atZ a r zs + atZ b s zs).natAbs < lim := by
    apply Classical.byContradiction
    intro h
    rw [show ec (atZ a r zs + atZ b s zs) = 11 from if_neg h] at e4
    exact absurd e4 (by decide)
  rw [hz_of hl, at_evl ha.1 e1, at_evl hb.1 e2, at_evl hs.1 e3, evl_add]
  have e : r + s + (evl a zs + evl b zs) - (r + evl a zs + (s + evl b zs)) = 0 := by omega
  rw [e]; rfl
theorem through_put {a b : List (Nat × Int)} {r s : Int} {zs : List Int} {v : Nat} {ts : List (Nat × Int)} {t0 y z w co c2 c3 c4 : Int} (ha : Fine a) (hb : Fine b) (ht : Fine ts) (hv : v < zs.length) (H0 : co = 0 → ts = putP a v b ∧ t0 = putR a r v s) (H2 : y = atZ b s zs ∧ c2 = atE b s zs) (H3 : z = atZ ts t0 zs ∧ c3 = atE ts t0 zs) (H4 : w = atZ a r (zs.set v y) ∧ c4 = atE a r (zs.set v y))
    (e0 : co = 0) (e2 : c2 = 0) (e3 : c3 = 0) (e4 : c4 = 0) : (z - w).sign = 0 := by
  obtain ⟨rfl, rfl⟩ := H0 e0
  obtain ⟨rfl, rfl⟩ := H2
  obtain ⟨rfl, rfl⟩ := H3
  obtain ⟨rfl, rfl⟩ := H4
  rw [at_evl ha.1 e4, at_evl ht.1 e3, at_evl hb.1 e2, evl_put ha hv, Int.sub_self]; rfl

set_option maxRecDepth 20000 in
set_option maxHeartbeats 32000000 in
theorem linearThrough_any (aX : Option Addr) (nX cX : Nat) (ms : List (Int × ByteArray)) (aY : Option Addr) (nY cY : Nat) (ls : List (Int × ByteArray)) (SB : ByteArray) (vo : Option Addr) (vn vc : Nat) (ss : List ByteArray) (v : Int) (w : World) (ht : Tab w) (hm : MArr w aX ms) (hl : ms.length = nX) (hx : nX ≤ maxLen) (hm2 : MArr w aY ls) (hl2 : ls.length = nY) (hy : nY ≤ maxLen) (hs : SArr w vo ss) (hsn : ss.length = vn) (hvn : vn ≤ maxLen) :
    Calls Tryz.prog 8 #[.slice aX nX cX, .slice aY nY cY, .agg #[.string SB, .slice vo vn vc, .int .i64 v]] w fun e w' => e = .returned (.bool true) ∧ Below w.heap.size w w' := by
  have oK := (Blk.new w 25 #[.string SB, .slice vo vn vc, .int .i64 v])
  have hbw : Below w.heap.size w (w.alloc (.cells #[.string SB, .slice vo vn vc, .int .i64 v] 25 (0, 0))) := by go_grown
  have ltK := oK.lt
  have lwK : w.heap.size ≤ w.heap.size := by omega
  have HTB : Hid (Tab w) := ht
  have HM : Hid (MArr w aX ms) := hm
  have HLN : Hid (ms.length = nX) := hl
  have HXN : Hid (nX ≤ maxLen) := hx
  have HM2 : Hid (MArr w aY ls) := hm2
  have HLN2 : Hid (ls.length = nY) := hl2
  have HYN : Hid (nY ≤ maxLen) := hy
  have HSA : Hid (SArr w vo ss) := hs
  have HSN : Hid (ss.length = vn) := hsn
  have HVN : Hid (vn ≤ maxLen) := hvn
  clear ht hm hl hx hm2 hl2 hy hs hsn hvn
  go_enter Tryz.func8, Tryz.ntmps8
  go_wp2_with fail
  refine (awake3_any _ (HTB.out.below hbw)).mono ?_
  rintro e w1 ⟨rfl, hb⟩
  replace oK := oK.stay hb
  replace ltK := oK.lt
  replace hbw := hbw.step hb (Nat.le_refl _)
  clear hb
  go_wp2_with fail
  refine (few_any aX nX cX ms _ (HM.out.below hbw) HLN.out HXN.out).mono ?_
  rintro e w2 ⟨aA0, nA0, cA0, rfl, hnA0, hmA0, hb⟩
  replace oK := oK.stay hb
  replace ltK := oK.lt
  replace hbw := hbw.step hb (Nat.le_refl _)
  clear hb
  go_wp2_with fail
  refine (term_any aA0 nA0 cA0 (fewM ms) _ hmA0 hnA0 (by rw [← hnA0]; have := fewM_len ms; unfold maxLen; omega) (fewM_size ms)).mono ?_
  rintro e w3 ⟨_, ps, r, ok, rfl, ⟨pA, qA, rA, xA, aA, nA, cA, rfl, hA⟩, HT, hb⟩
  replace oK := oK.stay hb
  replace ltK := oK.lt
  replace hmA0 := hmA0.below hb
  replace hbw := hbw.step hb (Nat.le_refl _)
  clear hb
  clear hmA0 hnA0
  have hn := below_new w3 (.cells #[.slice pA qA rA, .bool xA, .slice aA nA cA] 33 (0, 0))
  have oA := Blk.new w3 33 #[.slice pA qA rA, .bool xA, .slice aA nA cA]
  have neKA : w.heap.size ≠ w3.heap.size := by have := ltK; (try simp at this); omega
  have lwA : w.heap.size ≤ w3.heap.size := by have := hbw.size; (try simp at this); omega
  replace oK := oK.stay hn
  replace ltK := oK.lt
  replace hA := hA.below hn
  replace hbw := hbw.step hn (Nat.le_refl _)
  clear hn
  have ltA := oA.lt
  go_wp2_with fail
  refine (few_any aY nY cY ls _ (HM2.out.below hbw) HLN2.out HYN.out).mono ?_
  rintro e w4 ⟨aB0, nB0, cB0, rfl, hnB0, hmB0, hb⟩
  replace oK := oK.stay hb
  replace ltK := oK.lt
  replace oA := oA.stay hb
  replace ltA := oA.lt
  replace hA := hA.below hb
  replace hbw := hbw.step hb (Nat.le_refl _)
  clear hb
  go_wp2_with fail
  refine (term_any aB0 nB0 cB0 (fewM ls) _ hmB0 hnB0 (by rw [← hnB0]; have := fewM_len ls; unfold maxLen; omega) (fewM_size ls)).mono ?_
  rintro e w5 ⟨_, qs, t, ok2, rfl, ⟨pB, qB, rB, xB, aB, nB, cB, rfl, hB⟩, HT2, hb⟩
  replace oK := oK.stay hb
  replace ltK := oK.lt
  replace oA := oA.stay hb
  replace ltA := oA.lt
  replace hA := hA.below hb
  replace hmB0 := hmB0.below hb
  replace hbw := hbw.step hb (Nat.le_refl _)
  clear hb
  clear hmB0 hnB0
  have hn := below_new w5 (.cells #[.slice pB qB rB, .bool xB, .slice aB nB cB] 33 (0, 0))
  have oB := Blk.new w5 33 #[.slice pB qB rB, .bool xB, .slice aB nB cB]
  have neKB : w.heap.size ≠ w5.heap.size := by have := ltK; (try simp at this); omega
  have neAB : w3.heap.size ≠ w5.heap.size := by have := ltA; (try simp at this); omega
  have lwB : w.heap.size ≤ w5.heap.size := by have := hbw.size; (try simp at this); omega
  replace oK := oK.stay hn
  replace ltK := oK.lt
  replace oA := oA.stay hn
  replace ltA := oA.lt
  replace hA := hA.below hn
  replace hB := hB.below hn
  replace hbw := hbw.step hn (Nat.le_refl _)
  clear hn
  have ltB := oB.lt
  obtain ⟨Kc0, Kc1, Kc2⟩ := oK.three
  obtain ⟨Kk0, Kk1, Kk2⟩ := oK.frozen3
  go_wp2_with fail
  refine (values_any vo vn vc ss _ (HSA.out.below hbw) HSN.out HVN.out).mono ?_
  rintro e w6 ⟨a1, c1, a2, c2, k9, rfl, hk9, hA1, hA2, hb⟩
  clear Kc0 Kc1 Kc2 Kk0 Kk1 Kk2
  replace oK := oK.stay hb
  replace ltK := oK.lt
  replace oA := oA.stay hb
  replace ltA := oA.lt
  replace oB := oB.stay hb
  replace ltB := oB.lt
  replace hA := hA.below hb
  replace hB := hB.below hb
  replace hbw := hbw.step hb (Nat.le_refl _)
  clear hb
  clear hA2 HT HT2
  have HK9 : Hid ((valZ ss).length = k9) := hk9
  have HK8 : Hid (k9 ≤ 1000) := by show _ ≤ _; rw [← hk9]; exact Nat.le_trans (valZ_len ss) (by decide)
  clear hk9
  generalize valZ ss = zs at hA1 HK9
  cases ok
  · obtain ⟨Kc0, Kc1, Kc2⟩ := oK.three
    obtain ⟨Kk0, Kk1, Kk2⟩ := oK.frozen3
    go_wp2
    go_ret
    exact ⟨rfl, hbw⟩
  · cases ok2
    · obtain ⟨Kc0, Kc1, Kc2⟩ := oK.three
      obtain ⟨Kk0, Kk1, Kk2⟩ := oK.frozen3
      go_wp2
      go_ret
      exact ⟨rfl, hbw⟩
    · by_cases hv : 0 ≤ v ∧ v < k9
      · obtain ⟨u, rfl⟩ : ∃ u : Nat, v = u := ⟨v.toNat, by omega⟩
        have hu : u < k9 := by omega
        have hui : ¬ (k9 : Int) ≤ u := by omega
        clear hv
        have HF : Hid (Fine ps) := hA.fine
        have HG : Hid (Fine qs) := hB.fine
        obtain ⟨Kc0, Kc1, Kc2⟩ := oK.three
        obtain ⟨Kk0, Kk1, Kk2⟩ := oK.frozen3
        obtain ⟨Ac0, Ac1, Ac2⟩ := oA.three
        obtain ⟨Ak0, Ak1, Ak2⟩ := oA.frozen3
        obtain ⟨Bc0, Bc1, Bc2⟩ := oB.three
        obtain ⟨Bk0, Bk1, Bk2⟩ := oB.frozen3
        go_wp2_with fail
        refine (add_x _ _ ps qs r t _ hA.val hB.val).mono ?_
        rintro e w7 ⟨pS, qS, rS, xS, aS, nS, cS, us, s0, co, rfl, hS, H0, hb⟩
        clear Kc0 Kc1 Kc2 Kk0 Kk1 Kk2
        clear Ac0 Ac1 Ac2 Ak0 Ak1 Ak2
        clear Bc0 Bc1 Bc2 Bk0 Bk1 Bk2
        replace oK := oK.stay hb
        replace ltK := oK.lt
        replace oA := oA.stay hb
        replace ltA := oA.lt
        replace oB := oB.stay hb
        replace ltB := oB.lt
        replace hA := hA.below hb
        replace hB := hB.below hb
        replace hA1 := hA1.below hb
        replace hbw := hbw.step hb (Nat.le_refl _)
        clear hb
        have hn := below_new w7 (.cells #[.slice pS qS rS, .bool xS, .slice aS nS cS] 33 (0, 0))
        have oS := Blk.new w7 33 #[.slice pS qS rS, .bool xS, .slice aS nS cS]
        have neKS : w.heap.size ≠ w7.heap.size := by have := ltK; (try simp at this); omega
        have neAS : w3.heap.size ≠ w7.heap.size := by have := ltA; (try simp at this); omega
        have neBS : w5.heap.size ≠ w7.heap.size := by have := ltB; (try simp at this); omega
        have lwS : w.heap.size ≤ w7.heap.size := by have := hbw.size; (try simp at this); omega
        replace oK := oK.stay hn
        replace ltK := oK.lt
        replace oA := oA.stay hn
        replace ltA := oA.lt
        replace oB := oB.stay hn
        replace ltB := oB.lt
        replace hA := hA.below hn
        replace hB := hB.below hn
        replace hA1 := hA1.below hn
        replace hS := hS.below hn
        replace hbw := hbw.step hn (Nat.le_refl _)
        clear hn
        have ltS := oS.lt
        clear ltK oK
        obtain ⟨Ac0, Ac1, Ac2⟩ := oA.three
        obtain ⟨Ak0, Ak1, Ak2⟩ := oA.frozen3
        go_wp2_with fail
        refine (at_h _ ps r a1 k9 c1 zs _ hA.val HK9.out hA1 HK8.out).mono ?_
        rintro e w8 ⟨xU, aU, nU, cU, x, d1, rfl, hU, H1, hb⟩
        clear Ac0 Ac1 Ac2 Ak0 Ak1 Ak2
        replace oA := oA.stay hb
        replace ltA := oA.lt
        replace oB := oB.stay hb
        replace ltB := oB.lt
        replace oS := oS.stay hb
        replace ltS := oS.lt
        replace hA := hA.below hb
        replace hB := hB.below hb
        replace hA1 := hA1.below hb
        replace hS := hS.below hb
        replace hbw := hbw.step hb (Nat.le_refl _)
        clear hb
        have hn := below_new w8 (.cells #[.bool xU, .slice aU nU cU] 31 (0, 0))
        have oU := Blk.new w8 31 #[.bool xU, .slice aU nU cU]
        have neAU : w3.heap.size ≠ w8.heap.size := by have := ltA; (try simp at this); omega
        have neBU : w5.heap.size ≠ w8.heap.size := by have := ltB; (try simp at this); omega
        have neSU : w7.heap.size ≠ w8.heap.size := by have := ltS; (try simp at this); omega
        have lwU : w.heap.size ≤ w8.heap.size := by have := hbw.size; (try simp at this); omega
        replace oA := oA.stay hn
        replace ltA := oA.lt
        replace oB := oB.stay hn
        replace ltB := oB.lt
        replace oS := oS.stay hn
        replace ltS := oS.lt
        replace hA := hA.below hn
        replace hB := hB.below hn
        replace hA1 := hA1.below hn
        replace hS := hS.below hn
        replace hU := hU.below hn
        replace hbw := hbw.step hn (Nat.le_refl _)
        clear hn
        have ltU := oU.lt
        obtain ⟨Bc0, Bc1, Bc2⟩ := oB.three
        obtain ⟨Bk0, Bk1, Bk2⟩ := oB.frozen3
        go_wp2_with fail
        refine (at_h _ qs t a1 k9 c1 zs _ hB.val HK9.out hA1 HK8.out).mono ?_
        rintro e w9 ⟨xY, aY9, nY9, cY9, y, d2, rfl, hY, H2, hb⟩
        clear Bc0 Bc1 Bc2 Bk0 Bk1 Bk2
        replace oA := oA.stay hb
        replace ltA := oA.lt
        replace oB := oB.stay hb
        replace ltB := oB.lt
        replace oS := oS.stay hb
        replace ltS := oS.lt
        replace oU := oU.stay hb
        replace ltU := oU.lt
        replace hA := hA.below hb
        replace hB := hB.below hb
        replace hA1 := hA1.below hb
        replace hS := hS.below hb
        replace hU := hU.below hb
        replace hbw := hbw.step hb (Nat.le_refl _)
        clear hb
        have hn := below_new w9 (.cells #[.bool xY, .slice aY9 nY9 cY9] 31 (0, 0))
        have oY := Blk.new w9 31 #[.bool xY, .slice aY9 nY9 cY9]
        have neAY : w3.heap.size ≠ w9.heap.size := by have := ltA; (try simp at this); omega
        have neBY : w5.heap.size ≠ w9.heap.size := by have := ltB; (try simp at this); omega
        have neSY : w7.heap.size ≠ w9.heap.size := by have := ltS; (try simp at this); omega
        have neUY : w8.heap.size ≠ w9.heap.size := by have := ltU; (try simp at this); omega
        have lwY : w.heap.size ≤ w9.heap.size := by have := hbw.size; (try simp at this); omega
        replace oA := oA.stay hn
        replace ltA := oA.lt
        replace oB := oB.stay hn
        replace ltB := oB.lt
        replace oS := oS.stay hn
        replace ltS := oS.lt
        replace oU := oU.stay hn
        replace ltU := oU.lt
        replace hA := hA.below hn
        replace hB := hB.below hn
        replace hA1 := hA1.below hn
        replace hS := hS.below hn
        replace hU := hU.below hn
        replace hY := hY.below hn
        replace hbw := hbw.step hn (Nat.le_refl _)
        clear hn
        have ltY := oY.lt
        obtain ⟨Sc0, Sc1, Sc2⟩ := oS.three
        obtain ⟨Sk0, Sk1, Sk2⟩ := oS.frozen3
        go_wp2_with fail
        refine (at_h _ us s0 a1 k9 c1 zs _ hS.val HK9.out hA1 HK8.out).mono ?_
        rintro e w10 ⟨xZ, aZ, nZ, cZ, z, d3, rfl, hZ, H3, hb⟩
        clear Sc0 Sc1 Sc2 Sk0 Sk1 Sk2
        replace oA := oA.stay hb
        replace ltA := oA.lt
        replace oB := oB.stay hb
        replace ltB := oB.lt
        replace oS := oS.stay hb
        replace ltS := oS.lt
        replace oU := oU.stay hb
        replace ltU := oU.lt
        replace oY := oY.stay hb
        replace ltY := oY.lt
        replace hA := hA.below hb
        replace hB := hB.below hb
        replace hA1 := hA1.below hb
        replace hS := hS.below hb
        replace hU := hU.below hb
        replace hY := hY.below hb
        replace hbw := hbw.step hb (Nat.le_refl _)
        clear hb
        have hn := below_new w10 (.cells #[.bool xZ, .slice aZ nZ cZ] 31 (0, 0))
        have oZ := Blk.new w10 31 #[.bool xZ, .slice aZ nZ cZ]
        have neAZ : w3.heap.size ≠ w10.heap.size := by have := ltA; (try simp at this); omega
        have neBZ : w5.heap.size ≠ w10.heap.size := by have := ltB; (try simp at this); omega
        have neSZ : w7.heap.size ≠ w10.heap.size := by have := ltS; (try simp at this); omega
        have neUZ : w8.heap.size ≠ w10.heap.size := by have := ltU; (try simp at this); omega
        have neYZ : w9.heap.size ≠ w10.heap.size := by have := ltY; (try simp at this); omega
        have lwZ : w.heap.size ≤ w10.heap.size := by have := hbw.size; (try simp at this); omega
        replace oA := oA.stay hn
        replace ltA := oA.lt
        replace oB := oB.stay hn
        replace ltB := oB.lt
        replace oS := oS.stay hn
        replace ltS := oS.lt
        replace oU := oU.stay hn
        replace ltU := oU.lt
        replace oY := oY.stay hn
        replace ltY := oY.lt
        replace hA := hA.below hn
        replace hB := hB.below hn
        replace hA1 := hA1.below hn
        replace hS := hS.below hn
        replace hU := hU.below hn
        replace hY := hY.below hn
        replace hZ := hZ.below hn
        replace hbw := hbw.step hn (Nat.le_refl _)
        clear hn
        have ltZ := oZ.lt
        obtain ⟨Uc0, Uc1, Uk0, Uk1⟩ := oU.two
        obtain ⟨Yc0, Yc1, Yk0, Yk1⟩ := oY.two
        go_wp2_with fail
        refine (add_h _ _ x y _ hU hY).mono ?_
        rintro e w11 ⟨xQ, aQ, nQ, cQ, rfl, hQ, hb⟩
        clear Uc0 Uc1 Uk0 Uk1
        clear Yc0 Yc1 Yk0 Yk1
        replace oA := oA.stay hb
        replace ltA := oA.lt
        replace oB := oB.stay hb
        replace ltB := oB.lt
        replace oS := oS.stay hb
        replace ltS := oS.lt
        replace oU := oU.stay hb
        replace ltU := oU.lt
        replace oY := oY.stay hb
        replace ltY := oY.lt
        replace oZ := oZ.stay hb
        replace ltZ := oZ.lt
        replace hA := hA.below hb
        replace hB := hB.below hb
        replace hA1 := hA1.below hb
        replace hS := hS.below hb
        replace hU := hU.below hb
        replace hY := hY.below hb
        replace hZ := hZ.below hb
        replace hbw := hbw.step hb (Nat.le_refl _)
        clear hb
        have hn := below_new w11 (.cells #[.bool xQ, .slice aQ nQ cQ] 31 (0, 0))
        have oQ := Blk.new w11 31 #[.bool xQ, .slice aQ nQ cQ]
        have neAQ : w3.heap.size ≠ w11.heap.size := by have := ltA; (try simp at this); omega
        have neBQ : w5.heap.size ≠ w11.heap.size := by have := ltB; (try simp at this); omega
        have neSQ : w7.heap.size ≠ w11.heap.size := by have := ltS; (try simp at this); omega
        have neUQ : w8.heap.size ≠ w11.heap.size := by have := ltU; (try simp at this); omega
        have neYQ : w9.heap.size ≠ w11.heap.size := by have := ltY; (try simp at this); omega
        have neZQ : w10.heap.size ≠ w11.heap.size := by have := ltZ; (try simp at this); omega
        have lwQ : w.heap.size ≤ w11.heap.size := by have := hbw.size; (try simp at this); omega
        replace oA := oA.stay hn
        replace ltA := oA.lt
        replace oB := oB.stay hn
        replace ltB := oB.lt
        replace oS := oS.stay hn
        replace ltS := oS.lt
        replace oU := oU.stay hn
        replace ltU := oU.lt
        replace oY := oY.stay hn
        replace ltY := oY.lt
        replace oZ := oZ.stay hn
        replace ltZ := oZ.lt
        replace hA := hA.below hn
        replace hB := hB.below hn
        replace hA1 := hA1.below hn
        replace hS := hS.below hn
        replace hU := hU.below hn
        replace hY := hY.below hn
        replace hZ := hZ.below hn
        replace hQ := hQ.below hn
        replace hbw := hbw.step hn (Nat.le_refl _)
        clear hn
        have ltQ := oQ.lt
        have f1 : co = 0 → d1 = 0 → d2 = 0 → d3 = 0 → ec (x + y) = 0 → (z - hz (x + y)).sign = 0 := fun e0 e1 e2 e3 e4 => through_sum HF.out HG.out hS.fine H0.out H1.out H2.out H3.out e0 e1 e2 e3 e4
        clear H0 H1 H3
        generalize hz (x + y) = q0 at hQ f1
        generalize ec (x + y) = d4 at f1 ⊢
        go_upto_region 14 with fail
        generalize (w11.alloc (.cells #[.bool xQ, .slice aQ nQ cQ] 31 (0, 0))) = W9 at hbw oA oB oS oU oY oZ oQ ltA ltB ltS ltU ltY ltZ ltQ hA hB hA1 hS hU hY hZ hQ ⊢
        go_cut [117] (fun c wx => c = .bool false ∧ Below W9.heap.size W9 wx)
        case first =>
          have key : ∀ e : Int, e = 0 ∨ (e == 0) = false := fun e => by by_cases h : e = 0; (exact Or.inl h); (exact Or.inr (beq_eq_false_iff_ne.2 h))
          rcases key co with rfl | g0
          rotate_left
          · go_wp2_with fail
            go_meet
            case rel => exact ⟨rfl, Below.refl _ _⟩
          rcases key d1 with rfl | g1
          rotate_left
          · go_wp2_with fail
            go_meet
            case rel => exact ⟨rfl, Below.refl _ _⟩
          rcases key d2 with rfl | g2
          rotate_left
          · go_wp2_with fail
            go_meet
            case rel => exact ⟨rfl, Below.refl _ _⟩
          rcases key d3 with rfl | g3
          rotate_left
          · go_wp2_with fail
            go_meet
            case rel => exact ⟨rfl, Below.refl _ _⟩
          rcases key d4 with rfl | g4
          rotate_left
          · go_wp2_with fail
            go_meet
            case rel => exact ⟨rfl, Below.refl _ _⟩
          obtain ⟨Zc0, Zc1, Zk0, Zk1⟩ := oZ.two
          obtain ⟨Qc0, Qc1, Qk0, Qk1⟩ := oQ.two
          have f2 := f1 rfl rfl rfl rfl rfl
          clear f1 key
          go_wp2_with fail
          refine (cmp_h _ _ z q0 0 _ hZ hQ f2).mono ?_
          rintro e w9 ⟨rfl, hb⟩
          go_wp2_with fail
          go_meet
          case rel => exact ⟨rfl, hb⟩
        case rest =>
          obtain ⟨rfl, hb⟩ := hcut
          clear f1
          replace oA := oA.stay hb
          replace ltA := oA.lt
          replace oB := oB.stay hb
          replace ltB := oB.lt
          replace oS := oS.stay hb
          replace ltS := oS.lt
          replace oU := oU.stay hb
          replace ltU := oU.lt
          replace oY := oY.stay hb
          replace ltY := oY.lt
          replace oZ := oZ.stay hb
          replace ltZ := oZ.lt
          replace oQ := oQ.stay hb
          replace ltQ := oQ.lt
          replace hA := hA.below hb
          replace hB := hB.below hb
          replace hA1 := hA1.below hb
          replace hS := hS.below hb
          replace hU := hU.below hb
          replace hY := hY.below hb
          replace hZ := hZ.below hb
          replace hQ := hQ.below hb
          replace hbw := hbw.step hb (Nat.le_refl _)
          clear hb
          obtain ⟨Ac0, Ac1, Ac2⟩ := oA.three
          obtain ⟨Ak0, Ak1, Ak2⟩ := oA.frozen3
          obtain ⟨Bc0, Bc1, Bc2⟩ := oB.three
          obtain ⟨Bk0, Bk1, Bk2⟩ := oB.frozen3
          go_wp2_with fail
          refine (put_x _ _ ps qs r t u _ hA.val hB.val).mono ?_
          rintro e w12 ⟨pT, qT, rT, xT, aT, nT, cT, ts, t0, d5, rfl, hT, H5, hb⟩
          clear Ac0 Ac1 Ac2 Ak0 Ak1 Ak2
          clear Bc0 Bc1 Bc2 Bk0 Bk1 Bk2
          replace oA := oA.stay hb
          replace ltA := oA.lt
          replace oB := oB.stay hb
          replace ltB := oB.lt
          replace oS := oS.stay hb
          replace ltS := oS.lt
          replace oU := oU.stay hb
          replace ltU := oU.lt
          replace oY := oY.stay hb
          replace ltY := oY.lt
          replace oZ := oZ.stay hb
          replace ltZ := oZ.lt
          replace oQ := oQ.stay hb
          replace ltQ := oQ.lt
          replace hA := hA.below hb
          replace hB := hB.below hb
          replace hA1 := hA1.below hb
          replace hS := hS.below hb
          replace hU := hU.below hb
          replace hY := hY.below hb
          replace hZ := hZ.below hb
          replace hQ := hQ.below hb
          replace hbw := hbw.step hb (Nat.le_refl _)
          clear hb
          have hn := below_new w12 (.cells #[.slice pT qT rT, .bool xT, .slice aT nT cT] 33 (0, 0))
          have oT := Blk.new w12 33 #[.slice pT qT rT, .bool xT, .slice aT nT cT]
          have neAT : w3.heap.size ≠ w12.heap.size := by have := ltA; (try simp at this); omega
          have neBT : w5.heap.size ≠ w12.heap.size := by have := ltB; (try simp at this); omega
          have neST : w7.heap.size ≠ w12.heap.size := by have := ltS; (try simp at this); omega
          have neUT : w8.heap.size ≠ w12.heap.size := by have := ltU; (try simp at this); omega
          have neYT : w9.heap.size ≠ w12.heap.size := by have := ltY; (try simp at this); omega
          have neZT : w10.heap.size ≠ w12.heap.size := by have := ltZ; (try simp at this); omega
          have neQT : w11.heap.size ≠ w12.heap.size := by have := ltQ; (try simp at this); omega
          have lwT : w.heap.size ≤ w12.heap.size := by have := hbw.size; (try simp at this); omega
          replace oA := oA.stay hn
          replace ltA := oA.lt
          replace oB := oB.stay hn
          replace ltB := oB.lt
          replace oS := oS.stay hn
          replace ltS := oS.lt
          replace oU := oU.stay hn
          replace ltU := oU.lt
          replace oY := oY.stay hn
          replace ltY := oY.lt
          replace oZ := oZ.stay hn
          replace ltZ := oZ.lt
          replace oQ := oQ.stay hn
          replace ltQ := oQ.lt
          replace hA := hA.below hn
          replace hB := hB.below hn
          replace hA1 := hA1.below hn
          replace hS := hS.below hn
          replace hU := hU.below hn
          replace hY := hY.below hn
          replace hZ := hZ.below hn
          replace hQ := hQ.below hn
          replace hT := hT.below hn
          replace hbw := hbw.step hn (Nat.le_refl _)
          clear hn
          have ltT := oT.lt
          go_upto_region 17 with fail
          generalize (w12.alloc (.cells #[.slice pT qT rT, .bool xT, .slice aT nT cT] 33 (0, 0))) = W8 at hbw oA oB oS oU oY oZ oQ oT ltA ltB ltS ltU ltY ltZ ltQ ltT hA hB hA1 hS hU hY hZ hQ hT ⊢
          obtain ⟨gP, oP, hao⟩ : ∃ g o, a1 = some ⟨g, o, none⟩ := hA1.at u (by rw [HK9.out]; exact hu)
          subst hao
          obtain ⟨news, hw1, hw2, hw3, hw4, hw5⟩ := hA1.cells
          have HW1 : Hid (news.length = zs.length * 2) := hw1
          have HW5 : Hid (∀ i, i < zs.length → ∃ s a n c, news[i * 2]? = some (.bool s) ∧ news[i * 2 + 1]? = some (.slice a n c) ∧ AInt W8 (.agg #[.bool s, .slice a n c]) (zs.getD i 0)) := hw5
          have HB8 : Hid (Below w.heap.size w W8) := hbw
          have hbn := below_new W8 (.cells #[] 31 (0, 0))
          have hL0 : LstG 2 31 W8.heap.size (W8.alloc (.cells #[] 31 (0, 0))) (.slice (some ⟨W8.heap.size, 0, none⟩) 0 0) 0 [] := ⟨rfl, Or.inr ⟨_, _, #[], rfl, Nat.le_refl _, Blk.new W8 31 #[], Nat.le_refl _, Nat.zero_le _, rfl, rfl, fun u hu => by simp at hu⟩⟩
          have hwn : ∀ j u, news[j]? = some u → (W8.alloc (.cells #[] 31 (0, 0))).cell? (Addr.add ⟨gP, oP, none⟩ j) = some u := fun j u h => (hbn.cell (World.block_lt_of_cell? W8 _ (hw2 j u h))).trans (hw2 j u h)
          clear hw1 hw2 hw5
          have hu2 : u * 2 + 1 < k9 * 2 := by omega
          go_wp2_with (at_builtin; go_loud (refine wpList_append_g rfl _ _ 54 rfl 2 W8.heap.size 31 (.agg #[.bool false, .slice none 0 0]) 32 Tryz.und_ints Tryz.info_int (by decide) rfl (by decide) (nuI _ _ _ _) (by decide) _ _ _ rfl hL0 ⟨gP, oP, none⟩ k9 _ news rfl (by rw [HW1.out, HK9.out]) hwn hw3 hw4 (Or.inl (by omega)) (by have := HK8.out; omega) hbn.size ?_; intro v8 w8 hL8 hA8 hn8; rw [Nat.zero_add, List.nil_append] at hL8; obtain ⟨g9, cap9, rfl, hg9⟩ := hL8.shape (by omega); obtain ⟨z0, q0c, -⟩ := hL8.cell (u * 2) (by omega); obtain ⟨z1, q1c, -⟩ := hL8.cell (u * 2 + 1) (by omega); have q0f := hL8.frozen (u * 2); have q1f := hL8.frozen (u * 2 + 1); have hb8 := hbn.trans hA8.bel; have hb9 := below_stores hg9 [.bool xY, .slice aY9 nY9 cY9] (u * 2) hb8; have hL9 := hL8.putA (u * 2) [.bool xY, .slice aY9 nY9 cY9] (by simp; omega) (nuI _ _ _ _); clear hL8 hA8 hn8; obtain ⟨Yc0, Yc1, Yk0, Yk1⟩ := (oY.stay hb8).two; obtain ⟨Tc0, Tc1, Tc2⟩ := Blk.three (show Blk _ ((w8.setCell ⟨g9, u * 2, none⟩ (.bool xY)).setCell ⟨g9, u * 2 + 1, none⟩ (.slice aY9 nY9 cY9)) _ _ from oT.stay hb9)))
          clear Yc0 Yc1 Yk0 Yk1 q0c q1c q0f q1f
          replace hb9 : Below W8.heap.size W8 ((w8.setCell ⟨g9, u * 2, none⟩ (.bool xY)).setCell ⟨g9, u * 2 + 1, none⟩ (.slice aY9 nY9 cY9)) := hb9
          have hQ9 : Arr ((w8.setCell ⟨g9, u * 2, none⟩ (.bool xY)).setCell ⟨g9, u * 2 + 1, none⟩ (.slice aY9 nY9 cY9)) (some ⟨g9, 0, none⟩) (zs.set u y) := LstG.arr_put hL9 HW1.out HK9.out (by rw [HK9.out]; exact hu) (fun i hi => by obtain ⟨s, a, n, c, h1, h2, h3⟩ := HW5.out i hi; exact ⟨s, a, n, c, h1, h2, h3.below hb9⟩) (hY.below hb9)
          clear hL9 hL0 hwn hw3 hw4 HW5 HW1 hbn hb8
          have neZ9 : g9 ≠ w10.heap.size := by have := ltZ; omega
          replace oA := oA.stay hb9
          replace ltA := oA.lt
          replace oB := oB.stay hb9
          replace ltB := oB.lt
          replace oS := oS.stay hb9
          replace ltS := oS.lt
          replace oU := oU.stay hb9
          replace ltU := oU.lt
          replace oY := oY.stay hb9
          replace ltY := oY.lt
          replace oZ := oZ.stay hb9
          replace ltZ := oZ.lt
          replace oQ := oQ.stay hb9
          replace ltQ := oQ.lt
          replace oT := oT.stay hb9
          replace ltT := oT.lt
          replace hA := hA.below hb9
          replace hB := hB.below hb9
          replace hA1 := hA1.below hb9
          replace hS := hS.below hb9
          replace hU := hU.below hb9
          replace hY := hY.below hb9
          replace hZ := hZ.below hb9
          replace hQ := hQ.below hb9
          replace hT := hT.below hb9
          replace hbw := HB8.out.step hb9 (Nat.le_refl _)
          clear hb9 HB8
          refine (at_h _ ts t0 (some ⟨gP, oP, none⟩) k9 c1 zs _ hT.val HK9.out hA1 HK8.out).mono ?_
          rintro e w20 ⟨xE, aE, nE, cE, z2, d6, rfl, hE, H6, hb⟩
          clear Tc0 Tc1 Tc2
          replace oA := oA.stay hb
          replace ltA := oA.lt
          replace oB := oB.stay hb
          replace ltB := oB.lt
          replace oS := oS.stay hb
          replace ltS := oS.lt
          replace oU := oU.stay hb
          replace ltU := oU.lt
          replace oY := oY.stay hb
          replace ltY := oY.lt
          replace oZ := oZ.stay hb
          replace ltZ := oZ.lt
          replace oQ := oQ.stay hb
          replace ltQ := oQ.lt
          replace oT := oT.stay hb
          replace ltT := oT.lt
          replace hA := hA.below hb
          replace hB := hB.below hb
          replace hA1 := hA1.below hb
          replace hS := hS.below hb
          replace hU := hU.below hb
          replace hY := hY.below hb
          replace hZ := hZ.below hb
          replace hQ := hQ.below hb
          replace hT := hT.below hb
          replace hQ9 := hQ9.below hb
          replace hbw := hbw.step hb (Nat.le_refl _)
          clear hb
          obtain ⟨Zc0, Zc1, Zk0, Zk1⟩ := oZ.two
          obtain ⟨hK, hB, hO⟩ := resI (by decide) (by decide) oZ hbw lwZ xE aE nE cE
          have oA2 := oA.otherS neAZ.symm 0 [.bool xE, .slice aE nE cE]
          have oQ2 := oQ.otherS neZQ 0 [.bool xE, .slice aE nE cE]
          obtain ⟨Ac0, Ac1, Ac2⟩ := Blk.three (show Blk _ ((w20.setCell ⟨w10.heap.size, 0, none⟩ (.bool xE)).setCell ⟨w10.heap.size, 1, none⟩ (.slice aE nE cE)) _ _ from oA2)
          have hA1b : Arr ((w20.setCell ⟨w10.heap.size, 0, none⟩ (.bool xE)).setCell ⟨w10.heap.size, 1, none⟩ (.slice aE nE cE)) (some ⟨g9, 0, none⟩) (zs.set u y) := Arr.stores (i := 0) (vs := [.bool xE, .slice aE nE cE]) hQ9 neZ9 hK.n
          go_wp2_with fail
          refine (at_h _ ps r (some ⟨g9, 0, none⟩) k9 _ (zs.set u y) _ (hA.keepP hK).val (by rw [List.length_set]; exact HK9.out) hA1b HK8.out).mono ?_
          rintro e w21 ⟨xF, aF, nF, cF, w2, d7, rfl, hF, H7, hb⟩
          clear Ac0 Ac1 Ac2 Zc0 Zc1 Zk0 Zk1
          replace oZ := Blk.stay hO hb
          replace oQ := Blk.stay oQ2 hb
          replace hE := (hE.keepP hK).below hb
          replace hbw := hB.step hb (Nat.le_refl _)
          have f3 : d5 = 0 → d2 = 0 → d6 = 0 → d7 = 0 → (z2 - w2).sign = 0 := fun e0 e2 e3 e4 => through_put HF.out HG.out hT.fine (by rw [HK9.out]; exact hu) H5.out H2.out H6.out H7.out e0 e2 e3 e4
          clear hb H5 H2 H6 H7 hA1b oA2 hK hB hO oQ2
          have key : ∀ e : Int, e = 0 ∨ (e != 0) = true := fun e => by by_cases h : e = 0; (exact Or.inl h); (exact Or.inr (bne_iff_ne.2 h))
          obtain ⟨hK, hB, hO⟩ := resI (by decide) (by decide) oQ hbw lwQ xF aF nF cF
          have oZ2 := oZ.otherS neZQ.symm 0 [.bool xF, .slice aF nF cF]
          obtain ⟨Zc0, Zc1, -, -⟩ := Blk.two (show Blk _ ((w21.setCell ⟨w11.heap.size, 0, none⟩ (.bool xF)).setCell ⟨w11.heap.size, 1, none⟩ (.slice aF nF cF)) _ _ from oZ2)
          obtain ⟨Pc0, Pc1, -, -⟩ := Blk.two (show Blk _ ((w21.setCell ⟨w11.heap.size, 0, none⟩ (.bool xF)).setCell ⟨w11.heap.size, 1, none⟩ (.slice aF nF cF)) _ _ from hO)
          obtain ⟨Qc0, Qc1, Qk0, Qk1⟩ := oQ.two
          rcases key d5 with rfl | k0
          · rcases key d2 with rfl | k1
            · rcases key d6 with rfl | k2
              · rcases key d7 with rfl | k3
                · have f4 := f3 rfl rfl rfl rfl
                  clear f3 key
                  go_wp2_with fail
                  refine (cmp_h _ _ z2 w2 0 _ (hE.keepP hK) (hF.keepP hK) f4).mono ?_
                  rintro e w22 ⟨rfl, hb⟩
                  go_wp2
                  go_ret
                  exact ⟨rfl, hB.step hb (Nat.le_refl _)⟩
                · (clear f3 key; go_wp2; go_ret; exact ⟨rfl, hB⟩)
              · (clear f3 key; go_wp2; go_ret; exact ⟨rfl, hB⟩)
            · (clear f3 key; go_wp2; go_ret; exact ⟨rfl, hB⟩)
          · (clear f3 key; go_wp2; go_ret; exact ⟨rfl, hB⟩)
      · have hv2 : v < 0 ∨ ¬ v < 0 ∧ (k9 : Int) ≤ v := by omega
        clear hv
        rcases hv2 with hv2 | ⟨hv2, hv3⟩
        · obtain ⟨Kc0, Kc1, Kc2⟩ := oK.three
          obtain ⟨Kk0, Kk1, Kk2⟩ := oK.frozen3
          go_wp2
          go_ret
          exact ⟨rfl, hbw⟩
        · obtain ⟨Kc0, Kc1, Kc2⟩ := oK.three
          obtain ⟨Kk0, Kk1, Kk2⟩ := oK.frozen3
          go_wp2
          go_ret
          exact ⟨rfl, hbw⟩

end Go.Proofs.YteefniagebcagaaGreatDoor
