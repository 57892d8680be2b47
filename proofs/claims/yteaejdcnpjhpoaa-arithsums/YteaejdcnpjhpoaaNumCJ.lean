/- Contract of the statements' helper num; it proves no statement of the seat. -/
import Derived.Test.YteaejdcnpjhpoaaAwakeJ
import Derived.Test.YteaejdcnpjhpoaaParsJ
namespace Go.Proofs.Yteaejdcnpjhpoaa
open Go.RowKit

/-- The number that both read of a text. -/
def Both (w : World) (vx vy : Value) : Prop := ∃ z, AInt w vx z ∧ RNum w vy z 400

set_option maxHeartbeats 4000000 in
theorem num_aux (s t : ByteArray) (w : World) (hl : t.size ≤ 400) (hs : s.size ≤ maxLen) (ht : (400 < s.size ∧ t = s.extract 0 400) ∨ (¬ 400 < s.size ∧ t = s)) :
    Calls Try.prog 14 #[.string s] w fun e w' => ∃ vx vy, e = .returned (.tuple #[vx, vy]) ∧ Both w' vx vy ∧ Below w.heap.size w w' := by
  unfold maxLen at hs
  have P0 := (Blk.new w 25 #[.bool false, .slice none 0 0]).alloc (.cells #[.bool false, .slice none 0 0] 31 (0, 0))
  have Q0 := Blk.new (w.alloc (.cells #[.bool false, .slice none 0 0] 25 (0, 0))) 31 #[.bool false, .slice none 0 0]
  simp only [World.size_alloc] at Q0
  have hbw : Below w.heap.size w ((w.alloc (.cells #[.bool false, .slice none 0 0] 25 (0, 0))).alloc (.cells #[.bool false, .slice none 0 0] 31 (0, 0))) := by go_grown
  have HT : Hid (t.size ≤ 400) := hl
  clear hl
  rcases ht with ⟨h4, rfl⟩ | ⟨h4, rfl⟩
  all_goals
    go_enter Try.func14, Try.ntmps14
    go_wp2_with fail
    refine (parse_any _ _ (by have := HT.out; omega)).mono ?_
    rintro e w2 ⟨vx, c, rfl, hb2, hpx⟩
    have hsh : ∃ x a n cc, vx = .agg #[.bool x, .slice a n cc] := by
      rcases hpx with ⟨_, _, h⟩ | ⟨_, h⟩
      · exact h.shape
      · exact h.shape
    obtain ⟨xx, ax, nx, cx, rfl⟩ := hsh
    go_wp2_with fail
    refine (rparse_any _ _ (by have := HT.out; omega)).mono ?_
    rintro e w3 ⟨vy, c', rfl, hb3, hpy⟩
    obtain ⟨rfl, z, hx, hy, hz⟩ := parses_same hpx hpy
    clear hz hpx hpy
    obtain ⟨xy, ay, ny, cy, rfl⟩ := hy.shape
    have hbx : Below w2.heap.size w2 (w2.alloc (.cells #[.bool xx, .slice ax nx cx] 25 (0, 0))) := (Below.refl _ _).alloc (Nat.le_refl _) _
    have X0 := (Blk.new w2 25 #[.bool xx, .slice ax nx cx]).stay hb3
    have hby : Below w3.heap.size w3 (w3.alloc (.cells #[.bool xy, .slice ay ny cy] 31 (0, 0))) := (Below.refl _ _).alloc (Nat.le_refl _) _
    have X1 := X0.stay hby
    have Y1 := Blk.new w3 31 #[.bool xy, .slice ay ny cy]
    have P1 := (((P0.stay hb2).stay hbx).stay hb3).stay hby
    have Q1 := (((Q0.stay hb2).stay hbx).stay hb3).stay hby
    have hx1 := ((hx.below hbx).below hb3).below hby
    have hy1 := hy.below hby
    have hbw1 := (((hbw.step hb2 (Nat.le_refl _)).step hbx (Nat.le_refl _)).step hb3 (Nat.le_refl _)).step hby (Nat.le_refl _)
    have hl1 : w.heap.size + 1 < w2.heap.size := (Q0.stay hb2).lt
    have hl2 := X0.lt
    obtain ⟨x0, x1, xf0, xf1⟩ := X1.two
    obtain ⟨y0, y1, yf0, yf1⟩ := Y1.two
    obtain ⟨p0, p1, pf0, pf1⟩ := P1.two
    obtain ⟨q0, q1, qf0, qf1⟩ := Q1.two
    clear P0 Q0 X0 hb2 hb3 hbx hby hbw hx hy
    go_wp2
    obtain ⟨W0, hW0⟩ : ∃ W0, W0 = w3.alloc (.cells #[.bool xy, .slice ay ny cy] 31 (0, 0)) := ⟨_, rfl⟩
    rw [← hW0] at x0 x1 xf0 xf1 y0 y1 yf0 yf1 p0 p1 pf0 pf1 q0 q1 qf0 qf1 X1 Y1 P1 Q1 hx1 hy1 hbw1 ⊢
    clear hW0
    go_region
    go_wp2
    refine bodyPost_ret (v := .tuple #[.agg #[.bool xx, .slice ax nx cx], .agg #[.bool xy, .slice ay ny cy]]) (by simp [results, Try.results14, go_sem, p0, p1, q0, q1]) rfl ?_
    have Q2 : Blk 31 ((W0.setCell ⟨w.heap.size, 0, none⟩ (.bool xx)).setCell ⟨w.heap.size, 1, none⟩ (.slice ax nx cx)) (w.heap.size + 1) #[.bool false, .slice none 0 0] := (Q1.other (by simp) _).other (by simp) _
    refine ⟨_, _, rfl, ⟨z, ?_, ?_⟩, ?_⟩
    · exact (hx1.store2 P1 _ _ _ _).store2 Q2 _ _ _ _
    · exact (hy1.store2 P1 _ _ _ _).store2 Q2 _ _ _ _
    · exact (below_store2 (below_store2 hbw1 (Nat.le_refl _) _ _) (by omega) _ _).drew

theorem num_any (s : ByteArray) (w : World) (hs : s.size ≤ maxLen) :
    Calls Try.prog 14 #[.string s] w fun e w' => ∃ vx vy, e = .returned (.tuple #[vx, vy]) ∧ Both w' vx vy ∧ Below w.heap.size w w' := by
  by_cases h : 400 < s.size
  · refine num_aux s (s.extract 0 400) w ?_ hs (Or.inl ⟨h, rfl⟩)
    rw [← bs_length, bs_extract, List.drop_zero, List.length_take]
    exact Nat.min_le_left _ _
  · exact num_aux s s w (by omega) hs (Or.inr ⟨h, rfl⟩)
end Go.Proofs.Yteaejdcnpjhpoaa
