/- Rows of plain parts and of texts that were handed in: what they hold; no statement of the seat is proved here. -/
import Derived.Test.YteefniagebcagaaGreatDoorJoin24Tells
import Derived.Test.YteefniagebcagaaGreatDoorStrArgJTells
import Derived.Lib.SmallJoins
import Derived.Deep.Slices
import Derived.ProofKit
import Derived.OpenShut
namespace Go.Proofs.YteefniagebcagaaGreatDoor
open Go.ChangeShapes Go.WideShapes Go.ChangeAt Go.RowKit Go.Deep Go.Joins
set_option linter.unusedVariables false

theorem Tryz.cells_mono : Tryz.prog.cellsOf 103 = 2 := by kernel_rfl
theorem Tryz.cells_i : Tryz.prog.cellsOf 3 = 1 := by kernel_rfl
theorem Tryz.cells_s : Tryz.prog.cellsOf 9 = 1 := by kernel_rfl
theorem two_cells {w : World} {a : Addr} {cs : List Value} (h : w.cells? 0 a 2 = some cs) : ∃ c0 c1, cs = [c0, c1] ∧ w.cell? a = some c0 ∧ w.cell? (a.add 1) = some c1 := by
  unfold World.cells? at h
  rw [if_pos (Nat.zero_le _), show List.range 2 = [0, 1] from rfl] at h
  simp only [List.mapM_cons, List.mapM_nil, Option.bind_eq_bind, Option.bind_eq_some_iff, Option.pure_def, Option.some.injEq] at h
  obtain ⟨c0, h0, _, ⟨c1, h1, _, rfl, rfl⟩, rfl⟩ := h
  exact ⟨c0, c1, rfl, by simpa [Addr.add] using h0, h1⟩
theorem mono_open {H : Type} {enc : TypeId × Value → H} {W : World} {n : Nat} {c0 c1 : Value} {y : DataW H × List MemPlace} (h : DataW.trod enc Tryz.prog W 0 (fun _ => true) true n 103 [c0, c1] = some y) : ∃ (v : Int) (s : ByteArray), c0 = .int .i64 v ∧ c1 = .string s := by
  obtain ⟨y0, y1, m, hx, _, h0, h1⟩ := trod_struct2 Tryz.underlying103 h
  have k0 : DataW.trod enc Tryz.prog W 0 (fun _ => true) true m 3 [c0] = some y0 := by simpa [Tryz.cells_i] using h0
  have k1 : DataW.trod enc Tryz.prog W 0 (fun _ => true) true m 9 [c1] = some y1 := by simpa [Tryz.cells_s] using h1
  obtain ⟨v, e0, _, _⟩ := DataW.trod_int Tryz.underlying3 k0
  obtain ⟨s, e1, _, _⟩ := DataW.trod_string Tryz.underlying9 k1
  injection e0 with e0
  injection e1 with e1
  exact ⟨v, s, e0, e1⟩
theorem marr_open {H : Type} {enc : TypeId × Value → H} {W : World} {fuel : Nat} {v : Value} {y : DataW H × List MemPlace} (h : DataW.trod enc Tryz.prog W 0 (fun _ => true) true fuel 22 [v] = some y) :
    ∃ a0 len cap ms, v = .slice a0 len cap ∧ List.length ms = len ∧ len ≤ maxLen ∧ MArr W a0 ms := by
  rcases open_slice Tryz.und_monos h with ⟨hcs, _⟩ | ⟨a, len, cap, m, n, D, Pl, hcs, _, hl, hm, hmm, _, hx⟩
  · injection hcs with hcs
    exact ⟨none, 0, 0, [], hcs, rfl, Nat.zero_le _, Or.inl rfl⟩
  · injection hcs with hcs
    simp only [if_true] at hmm
    subst hmm
    rw [Tryz.cells_mono] at hx
    have key : ∀ i, ∃ p : Int × ByteArray, i < len → W.cell? (a.add (i * 2)) = some (.int .i64 p.1) ∧ W.cell? ((a.add (i * 2)).add 1) = some (.string p.2) := fun i => by
      by_cases hi : i < len
      · obtain ⟨cs', h1, h2⟩ := hx i (by omega)
        obtain ⟨c0, c1, rfl, h3, h4⟩ := two_cells h1
        obtain ⟨v, s, rfl, rfl⟩ := mono_open h2
        exact ⟨(v, s), fun _ => ⟨h3, h4⟩⟩
      · exact ⟨(0, ⟨#[]⟩), fun k => absurd k hi⟩
    obtain ⟨f, hf⟩ := Classical.axiomOfChoice key
    refine ⟨some a, len, _, (List.range len).map f, hcs, by simp, Nat.le_trans hl hm, ?_⟩
    rcases Nat.eq_zero_or_pos len with h0 | h0
    · subst h0; exact Or.inl rfl
    · obtain ⟨b, off, spot⟩ := a
      have hspot : spot = none := by simpa [Addr.add] using World.cell?_spot (hf 0 h0).1
      subst hspot
      refine Or.inr ⟨b, off, rfl, fun i hi => ?_⟩
      have hi' : i < len := by simpa using hi
      have e : ((List.range len).map f).getD i (0, ⟨#[]⟩) = f i := by
        rw [List.getD_eq_getElem?_getD, List.getElem?_map, List.getElem?_range hi']; rfl
      rw [e]
      obtain ⟨k1, k2⟩ := hf i hi'
      rw [add_plain] at k1 k2
      rw [add_plain] at k2
      exact ⟨k1, k2⟩
end Go.Proofs.YteefniagebcagaaGreatDoor
