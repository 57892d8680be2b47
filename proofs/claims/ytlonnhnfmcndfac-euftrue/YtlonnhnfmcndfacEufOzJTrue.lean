/- How long the texts of a script are, by the form's own reach; no statement of the seat is proved here. -/
import Derived.Test.YtlonnhnfmcndfacEufOsJTrue
import Derived.SizedLaws
namespace Go.Proofs.Ytlonnhnfmcndfac
open Go.RowKit
set_option linter.unusedVariables false
namespace Euf
theorem weights_all {H : Type} {P : Program} {e : TypeId} : ∀ {ds : List (DataW H)} {d : DataW H}, d ∈ ds → ∀ n ∈ d.weights P e, n ∈ DataW.weightsAll P e ds
  | d0 :: ds, d, hd, n, hn => by
    simp only [DataW.weightsAll, List.mem_append]
    rcases List.mem_cons.1 hd with rfl | h
    · exact Or.inl hn
    · exact Or.inr (weights_all h n hn)
section
variable {H : Type} {enc : TypeId × Value → H} {w : World} {base : Nat} {sp : Nat → Bool} {held : Bool}
theorem op_fn {fuel : Nat} {cs : List Value} {x : DataW H × List MemPlace} (h : DataW.trod enc Try.prog w base sp held fuel 34 cs = some x) (hw : ∀ n ∈ x.1.weights Try.prog 34, n ≤ reachBytes) : ∃ s : ByteArray, cs[1]? = some (.string s) ∧ s.size ≤ reachBytes := by
  obtain ⟨opFs, uOp, hLay⟩ := opLay
  obtain ⟨xs, n, -, rfl, hl, hlen, hf⟩ := DataW.trod_struct uOp h
  rw [opSz] at hl
  have hfs : opFs.size = 5 := by
    have := congrArg List.length hLay
    simpa using this
  rw [hfs] at hlen
  obtain ⟨c0, c1, c2, c3, c4, rfl⟩ := list5 cs hl
  obtain ⟨x0, x1, x2, x3, x4, rfl⟩ := list5 xs hlen
  obtain ⟨f1, k1, t1, o1⟩ := opF hLay 1 _ rfl
  have h1 := hf 1 f1 k1
  rw [t1, o1] at h1
  simp only [opOnes.2.1, List.drop, List.take, List.getElem?_cons_zero, List.getElem?_cons_succ] at h1
  obtain ⟨s1, e1, e2, hs1⟩ := DataW.trod_string uStrO h1
  injection e1 with e1
  subst e1
  refine ⟨s1, rfl, hw _ ?_⟩
  unfold DataW.weights
  rw [uOp]
  refine DataW.weights_mem_each (j := 1) (t := f1.type) (d := x1.1) (by simp [k1]) rfl _ ?_
  rw [e2]
  simp [DataW.weights]
theorem script_fn {fuel : Nat} {v : Value} {x : DataW H × List MemPlace} (h : DataW.trod enc Try.prog w base sp held fuel 22 [v] = some x) (hw : ∀ n ∈ x.1.weights Try.prog 22, n ≤ reachBytes) {aS : Option Addr} {ops : List OpS} {cS : Nat} (hv : v = .slice aS ops.length cS) (hS : Scr w aS ops) : ∀ i, (ops.getD i noOp).fn.size ≤ 140737488351232 := by
  intro i
  by_cases hi : i < ops.length
  · rcases DataW.trod_slice uOps h with ⟨e, -⟩ | ⟨a, len, cap, elems, rest, n, -, e, rfl, -, hl, hm, hlen, hel, -⟩
    · rw [hv] at e
      injection e with e
      injection e with e1 e2 e3
      omega
    · rw [hv] at e
      injection e with e
      injection e with e1 e2 e3
      subst e1 e2 e3
      rw [opSz] at hel
      have h1 := hel i hi
      rw [List.getElem?_eq_getElem (by omega)] at h1
      obtain ⟨cs, h2, h3⟩ := Option.bind_eq_some_iff.1 h1
      obtain ⟨-, h4l, h4⟩ := World.cells?_some h2
      obtain ⟨s, k1, k2⟩ := op_fn h3 (fun m hm' => hw m (by
        unfold DataW.weights
        rw [uOps]
        refine List.mem_cons_of_mem _ (List.mem_append_left _ (weights_all (d := (elems[i]'(by omega)).1) (List.mem_map.2 ⟨_, List.getElem_mem _, rfl⟩) m hm'))))
      have c1 := h4 1 (by omega)
      rw [k1] at c1
      obtain ⟨b, off, aZ, cZ, e9, -, -, m1, -, -, -, -⟩ := hS.at_ i hi
      injection e9 with e9
      subst e9
      rw [addr9, addr9, m1] at c1
      injection c1 with c1
      injection c1 with c1
      rw [c1]
      exact k2
  · have : ops.getD i noOp = noOp := by rw [List.getD_eq_getElem?_getD, List.getElem?_eq_none (by omega)]; rfl
    rw [this]
    exact Nat.zero_le _
end
end Euf
end Go.Proofs.Ytlonnhnfmcndfac
