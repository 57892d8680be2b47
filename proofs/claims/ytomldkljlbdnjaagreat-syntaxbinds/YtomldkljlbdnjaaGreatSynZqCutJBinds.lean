/- Parse: its deferred closure. No statement of the seat is proved here. -/
import Derived.Test.YtomldkljlbdnjaaGreatJoin12Binds
import Derived.Defers
import Derived.Recover
import Derived.Laws.Pointers
namespace Go.Proofs.YtomldkljlbdnjaaGreat
open Go.RowKit
set_option linter.unusedVariables false
set_option linter.unusedSimpArgs false
namespace Syn
open Euf (OL App Stop)
open Lex (T TL tx bs tkC FV IsNm hide)
set_option maxRecDepth 4000 in
set_option maxHeartbeats 1000000 in
theorem catch_idle (pb fb : Nat) (w : World) :
    CallsD Tryz.prog 25 #[.pointer (some ⟨pb, 0, none⟩), .pointer (some ⟨fb, 0, none⟩)] .returning w fun e u' w' => e = .returned (.tuple #[]) ∧ u' = .returning ∧ w' = w := by
  refine callsD_of_wpS Tryz.func25 rfl fun c₀ cs hu => ?_
  apply wpS_seq
  apply wpS_region
  simp [wpOpsS, go_sem, recoverD, hu, Tryz.ntmps25, Exit.thenS]
  apply wpS_seq
  apply wpS_seq
  apply wpS_region
  simp [wpOpsS, go_sem, Exit.thenS]
  refine wpS_cond (t := true) (by simp [Act.eval, Array.replicate]) ?_
  simp only [if_true]
  refine wpS_of_wp (wp_ret ?_)
  cases c₀
  simp_all [bodyPostS, results, Tryz.results25, Exit.thenS]
set_option maxRecDepth 4000 in
set_option maxHeartbeats 2000000 in
/-- A fault of the text is told. -/
theorem catch_fault (pb fb c a : Nat) (older : List PanicEntry) (w : World) (x0 x1 y0 y1 : Value) (hne : pb ≠ fb) (hp : Blk 26 w pb #[x0, x1]) (hf : Blk 29 w fb #[y0, y1]) :
    CallsD Tryz.prog 25 #[.pointer (some ⟨pb, 0, none⟩), .pointer (some ⟨fb, 0, none⟩)] (.panicking ({ v := .iface 62 (FV c a), recovered := false } :: older)) w fun e u' w' =>
      e = .returned (.tuple #[]) ∧ u' = .panicking ({ v := .iface 62 (FV c a), recovered := true } :: older) ∧ Blk 26 w' pb #[.slice none 0 0, .slice none 0 0] ∧ Blk 29 w' fb #[.int .i64 (c : Nat), .int .i64 (a : Nat)] ∧ Sat.Mv (fun b => b = pb ∨ b = fb) w w' := by
  have HP := hide hp
  have HF := hide hf
  obtain ⟨a0, a1, g0, g1⟩ := bk2 hp
  obtain ⟨b0, b1, h0, h1⟩ := bk2 hf
  have lp := hp.lt
  have lf := hf.lt
  clear hp hf
  refine callsD_of_wpS Tryz.func25 rfl fun c₀ cs hu => ?_
  apply wpS_seq
  apply wpS_region
  simp [wpOpsS, go_sem, recoverD, hu, Tryz.ntmps25, Exit.thenS, FV]
  apply wpS_seq
  apply wpS_seq
  apply wpS_region
  simp [wpOpsS, go_sem, Exit.thenS]
  refine wpS_cond (t := false) (by simp [Act.eval, Array.replicate]) ?_
  simp only [Bool.false_eq_true, if_false]
  refine wpS_of_wp (wp_skip ?_)
  simp only [Exit.thenS]
  have hta : ∀ w' : World, (Instr.typeAssert (.iface 62 (.agg #[.int .i64 (c : Nat), .int .i64 (a : Nat)])) 20 62 true).run Tryz.prog w' = .ok (.tuple #[.agg #[.int .i64 (c : Nat), .int .i64 (a : Nat)], .bool true]) w' := fun _ => by kernel_rfl
  simp only [Array.replicate_succ, Array.replicate_zero, List.push_toArray, List.nil_append, List.cons_append, List.setIfInBounds_toArray, List.set_cons_zero, List.set_cons_succ, List.append_toArray]
  refine wpS_of_wp ?_
  go_wp2_with fail
  go_region
  refine ⟨rfl, _, rfl, .tuple #[], by simp [results, Tryz.results25, go_sem], rfl, rfl, ?_, ?_, ?_⟩
  · have h := ((((HP.out.set 0 (.slice none 0 0)).set 1 (.slice none 0 0)).other (a := ⟨fb, 0, none⟩) (by show fb ≠ pb; omega) (.int .i64 (c : Nat))).other (a := ⟨fb, 1, none⟩) (by show fb ≠ pb; omega) (.int .i64 (a : Nat))).alloc (.cells #[.int .i64 (c : Nat), .int .i64 (a : Nat)] 62 (0, 0))
    exact h
  · have h := ((((HF.out.other (a := ⟨pb, 0, none⟩) (by show pb ≠ fb; omega) (.slice none 0 0)).other (a := ⟨pb, 1, none⟩) (by show pb ≠ fb; omega) (.slice none 0 0)).set 0 (.int .i64 (c : Nat))).set 1 (.int .i64 (a : Nat))).alloc (.cells #[.int .i64 (c : Nat), .int .i64 (a : Nat)] 62 (0, 0))
    exact h
  · refine Sat.Mv.drew (Sat.Mv.alloc (Sat.Mv.set (Sat.Mv.set (Sat.Mv.set (Sat.Mv.set (Sat.Mv.refl _ w) ?_ _) ?_ _) ?_ _) ?_ _) _)
    · exact Or.inl (Or.inl rfl)
    · exact Or.inl (Or.inl rfl)
    · exact Or.inl (Or.inr rfl)
    · exact Or.inl (Or.inr rfl)
end Syn
end Go.Proofs.YtomldkljlbdnjaaGreat
