/- The walk of suretylaw01.ArithReads: it answers true at every text; with the helper 'same'. -/
import Derived.Test.YteaejdcnpjhpoaaAwakeJ
import Derived.Test.YteaejdcnpjhpoaaRShowJ
import Derived.Test.YteaejdcnpjhpoaaParsJ
namespace Go.Proofs.Yteaejdcnpjhpoaa
open Go.RowKit

theorem keep2 {t t' : TypeId} {W0 w' : World} {b1 b2 : Nat} {p1 q1 p2 q2 : Value} (h1 : Blk t W0 b1 #[p1, q1]) (h2 : Blk t' W0 b2 #[p2, q2]) (h : Below W0.heap.size W0 w') :
    Below W0.heap.size W0 w' ∧ w'.cell? ⟨b1, 0, none⟩ = some p1 ∧ w'.cell? ⟨b1, 1, none⟩ = some q1 ∧ w'.cell? ⟨b2, 0, none⟩ = some p2 ∧ w'.cell? ⟨b2, 1, none⟩ = some q2 :=
  ⟨h, (h1.stay h).two.1, (h1.stay h).two.2.1, (h2.stay h).two.1, (h2.stay h).two.2.1⟩

theorem show_a (v : Value) (z : Int) (L : Nat) (w : World) (hv : RNum w v z L) (hL : L ≤ 20000) :
    Calls Try.prog 25 #[v] w fun e w' => ∃ S, e = .returned (.string S) ∧ TextOf S z ∧ Below w.heap.size w w' := by
  obtain ⟨neg, ds, h1, h2, h3⟩ := hv
  rw [h2]
  exact show_any v neg ds w h1 (by omega)

theorem text_two {S T : ByteArray} {z : Int} (h : TextOf S z) (k : TextOf T z) : (S.toList == T.toList) = true := by rw [h.same k]; simp

set_option maxHeartbeats 4000000 in
theorem same_yes (vx vy : Value) (c z : Int) (L : Nat) (w : World) (hx : AInt w vx z) (hy : RNum w vy z L) (hL : L ≤ 20000) :
    Calls Try.prog 12 #[vx, .int .i64 c, vy, .int .i64 c] w fun e w' => e = .returned (.bool true) ∧ Below w.heap.size w w' := by
  obtain ⟨xx, ax, nx, cx, rfl⟩ := hx.shape
  obtain ⟨xy, ay, ny, cy, rfl⟩ := hy.shape
  have hc : ((c : Int) == c) = true := by simp
  have X0 := (Blk.new w 25 #[.bool xx, .slice ax nx cx]).alloc (.cells #[.bool xy, .slice ay ny cy] 31 (0, 0))
  have Y0 := Blk.new (w.alloc (.cells #[.bool xx, .slice ax nx cx] 25 (0, 0))) 31 #[.bool xy, .slice ay ny cy]
  simp only [World.size_alloc] at Y0
  have hbw : Below w.heap.size w ((w.alloc (.cells #[.bool xx, .slice ax nx cx] 25 (0, 0))).alloc (.cells #[.bool xy, .slice ay ny cy] 31 (0, 0))) := by go_grown
  have hx1 := hx.below hbw
  have hy1 := hy.below hbw
  go_enter Try.func12, Try.ntmps12
  go_wp2
  obtain ⟨W0, hW0⟩ : ∃ W0, W0 = ((w.alloc (.cells #[.bool xx, .slice ax nx cx] 25 (0, 0))).alloc (.cells #[.bool xy, .slice ay ny cy] 31 (0, 0))) := ⟨_, rfl⟩
  rw [← hW0] at X0 Y0 hx1 hy1 hbw ⊢
  clear hW0 hx hy
  go_region_held3 (fun w' => Below W0.heap.size W0 w' ∧ w'.cell? ⟨w.heap.size, 0, none⟩ = some (.bool xx) ∧ w'.cell? ⟨w.heap.size, 1, none⟩ = some (.slice ax nx cx) ∧ w'.cell? ⟨w.heap.size + 1, 0, none⟩ = some (.bool xy) ∧ w'.cell? ⟨w.heap.size + 1, 1, none⟩ = some (.slice ay ny cy))
    ((refine keep2 X0 Y0 ?_; repeat' (first | assumption | exact Below.refl _ _ | refine Below.drew ?_)))
    (first
      | (go_at_call 13; refine (text_a _ z _ (hx1.below (And.left (by assumption)))).mono ?_; rintro e w1 ⟨S1, rfl, hS1, hb1⟩; have hB1 := keepl (by assumption) hb1)
      | (go_at_call 25; refine (show_a _ z L _ (hy1.below (And.left (by assumption))) hL).mono ?_; rintro e w2 ⟨S2, rfl, hS2, hb2⟩; have hB2 := keepl (by assumption) hb2; have t2 : (S1.toList == S2.toList) = true := text_two hS1 hS2))
  go_wp2
  go_ret
  exact ⟨rfl, hbw.step hB2 (Nat.le_refl _)⟩

theorem byt_digs (l : List Nat) (h : ∀ x, x ∈ l → 48 ≤ x) : (byt (digs l)).reverse = l := by
  unfold byt digs
  rw [List.map_map, ← List.map_reverse, List.reverse_reverse]
  have e : ∀ x, x ∈ l → ((fun d => 48 + d) ∘ fun c => c - 48) x = x := by
    intro x hx
    have := h x hx
    simp; omega
  rw [List.map_congr_left e]
  simp

theorem Plain.mem {l : List Nat} (h : Plain l) : ∀ x, x ∈ l → 48 ≤ x ∧ x ≤ 57 := by
  intro x hx
  obtain ⟨i, hi, rfl⟩ := List.mem_iff_getElem.1 hx
  have := h.2.2 i hi
  rw [List.getD_eq_getElem?_getD, List.getElem?_eq_getElem hi] at this
  exact this

theorem bs_sign (s : ByteArray) : bs s = (if pneg (bs s) = true then [45] else []) ++ pbody (bs s) := by
  unfold pbody
  by_cases h : pneg (bs s) = true
  · rw [if_pos h, if_pos h]
    have h1 : (bs s).getD 0 0 = 45 := by unfold pneg at h; simpa using h
    cases e : bs s with
    | nil => rw [e] at h1; simp at h1
    | cons x r => rw [e] at h1; simp at h1; simp [h1]
  · rw [if_neg h, if_neg h]; rfl

/-- A number's text is the text that it was read of. -/
theorem text_read {s : ByteArray} (hg : Good (bs s)) : TextOf s (pval (bs s)) := by
  obtain ⟨hp, hz⟩ := hg
  have hs := bs_sign s
  have hm := hp.mem
  by_cases h0 : pbody (bs s) = [48]
  · have hneg : pneg (bs s) = false := by
      cases h : pneg (bs s) with
      | false => rfl
      | true => exact absurd ⟨h, h0⟩ hz
    refine ⟨false, [], Norm.nil, Digs.nil _, fun _ => rfl, ?_, ?_⟩
    · rw [pval, hneg, h0]; rfl
    · rw [hs, hneg, h0]; rfl
  · have hne : (digs (pbody (bs s))).length ≠ 0 := by rw [digs_length]; have := hp.1; omega
    refine ⟨pneg (bs s), digs (pbody (bs s)), ?_, digs_digs _ (fun x hx => (hm x hx).2), fun h => absurd h hne, ?_, ?_⟩
    · generalize pbody (bs s) = l at *
      cases l with
      | nil => simp [Plain] at hp
      | cons x r =>
        rw [digs_cons]
        unfold Norm
        apply trimZ_snoc_ne
        have h1 := hm x (List.mem_cons_self ..)
        intro e
        have hx : x = 48 := by omega
        subst hx
        by_cases hr : r.length = 0
        · exact h0 (by rw [List.eq_nil_of_length_eq_zero hr])
        · exact hp.2.1 ⟨by simp, by simp; omega⟩
    · rw [pval, dec_val]
    · rw [showB, if_neg hne, byt_digs _ (fun x hx => (hm x hx).1), ← hs]

set_option maxHeartbeats 4000000 in
theorem arithReads_any (s : ByteArray) (w : World) (hl : s.size ≤ maxLen) :
    Calls Try.prog 3 #[.string s] w fun e w' => e = .returned (.bool true) ∧ Below w.heap.size w w' := by
  unfold maxLen at hl
  by_cases h5 : 5000 < s.size
  · go_enter Try.func3, Try.ntmps3
    go_wp2_with (go_at_call 9; refine (awake_any _).mono ?_; rintro e w1 ⟨rfl, hb1⟩)
    go_ret
    exact ⟨rfl, hb1⟩
  · go_enter Try.func3, Try.ntmps3
    go_wp2_with fail
    refine (awake_any _).mono ?_
    rintro e w1 ⟨rfl, hb1⟩
    go_wp2_with fail
    refine (parse_any s _ (by omega)).mono ?_
    rintro e w2 ⟨vx, c, rfl, hb2, hpx⟩
    have hsh : ∃ x a n cc, vx = .agg #[.bool x, .slice a n cc] := by
      rcases hpx with ⟨_, _, h⟩ | ⟨_, h⟩
      · exact h.shape
      · exact h.shape
    obtain ⟨xx, ax, nx, cx, rfl⟩ := hsh
    go_wp2_with fail
    refine (rparse_any s _ (by omega)).mono ?_
    rintro e w3 ⟨vy, c', rfl, hb3, hpy⟩
    obtain ⟨rfl, z, hx, hy, hz⟩ := parses_same hpx hpy
    obtain ⟨xy, ay, ny, cy, rfl⟩ := hy.shape
    have HZ : Hid (c = 0 → Good (bs s) ∧ z = pval (bs s)) := hz
    clear hz hpx hpy
    have hbx : Below w2.heap.size w2 (w2.alloc (.cells #[.bool xx, .slice ax nx cx] 25 (0, 0))) := (Below.refl _ _).alloc (Nat.le_refl _) _
    have X0 := (Blk.new w2 25 #[.bool xx, .slice ax nx cx]).stay hb3
    have hby : Below w3.heap.size w3 (w3.alloc (.cells #[.bool xy, .slice ay ny cy] 31 (0, 0))) := (Below.refl _ _).alloc (Nat.le_refl _) _
    have X1 := X0.stay hby
    have hx1 := ((hx.below hbx).below hb3).below hby
    have hy1 := hy.below hby
    have hbw := (((hb1.step hb2 (Nat.le_refl _)).step hbx (Nat.le_refl _)).step hb3 (Nat.le_refl _)).step hby (Nat.le_refl _)
    obtain ⟨x0, x1, _, _⟩ := X1.two
    have hlt := X0.lt
    clear hb1 hb2 hb3 hbx hby hx hy X0
    go_wp2_with fail
    refine (same_yes _ _ c z 400 _ hx1 hy1 (by decide)).mono ?_
    rintro e w4 ⟨rfl, hb4⟩
    have X2 := X1.stay hb4
    clear x0 x1
    obtain ⟨x0, x1, _, _⟩ := X2.two
    have hx2 := hx1.below hb4
    have hbw2 := hbw.step hb4 (Nat.le_refl _)
    by_cases hc : c = 0
    · obtain ⟨hg, rfl⟩ := HZ.out hc
      have hcb : (c != 0) = false := by rw [bne_eq_false_iff_eq]; exact hc
      have HG : Hid (Good (bs s)) := hg
      clear hc hg
      go_wp2_with (go_at_call 13; refine (text_a _ _ _ hx2).mono ?_; rintro e w5 ⟨S, rfl, hS, hb5⟩; have tS : (S.toList == s.toList) = true := text_two hS (text_read HG.out))
      go_ret
      exact ⟨rfl, hbw2.step hb5 (Nat.le_refl _)⟩
    · have hcb : (c != 0) = true := by rw [bne_iff_ne]; exact hc
      clear hc
      go_wp2
      go_ret
      exact ⟨rfl, hbw2⟩
end Go.Proofs.Yteaejdcnpjhpoaa
