/- A script that came in is opened; no statement of the seat is proved here. -/
import Derived.Test.YtmnpefiaelpkfacEufOdJClasses
import Derived.ChangeArms
import Derived.ChangeSlices
namespace Go.Proofs.Ytmnpefiaelpkfac
open Go Go.ChangeShapes Go.WideShapes Go.ChangeAt Go.RowKit
set_option linter.unusedVariables false
namespace Euf
theorem uOps : Try.prog.underlying 22 = some (.slice 40) := by kernel_rfl
theorem opSz : Try.prog.cellsOf 40 = 5 := by kernel_rfl
def layOf (u : TypeDesc) : Option (List (TypeId × Nat)) := match u with
  | .struct fs => some (fs.toList.map (fun f => (f.type, f.offset)))
  | _ => none
theorem opLay0 : (Try.prog.underlying 40).map layOf = some (some [(3, 0), (9, 1), (31, 2), (3, 3), (3, 4)]) := by kernel_rfl
theorem opLay : ∃ fs, Try.prog.underlying 40 = some (.struct fs) ∧ fs.toList.map (fun f => (f.type, f.offset)) = [(3, 0), (9, 1), (31, 2), (3, 3), (3, 4)] := by
  obtain ⟨u, h1, h2⟩ := Option.map_eq_some_iff.1 opLay0
  unfold layOf at h2
  split at h2
  · rename_i fs
    injection h2 with h2
    exact ⟨fs, h1, h2⟩
  · cases h2
theorem opOnes : Try.prog.cellsOf 3 = 1 ∧ Try.prog.cellsOf 9 = 1 ∧ Try.prog.cellsOf 31 = 1 := ⟨by kernel_rfl, by kernel_rfl, by kernel_rfl⟩
theorem uIntO : Try.prog.underlying 3 = some (.int .i64) := by kernel_rfl
theorem uStrO : Try.prog.underlying 9 = some .string := by kernel_rfl
theorem uIntsO : Try.prog.underlying 31 = some (.slice 3) := by kernel_rfl
theorem opF {fs : Array Field} {l : List (TypeId × Nat)} (hl : fs.toList.map (fun f => (f.type, f.offset)) = l) (i : Nat) (p : TypeId × Nat) (h : l[i]? = some p) : ∃ f, fs[i]? = some f ∧ f.type = p.1 ∧ f.offset = p.2 := by
  rw [← hl, List.getElem?_map] at h
  obtain ⟨f, h1, h2⟩ := Option.map_eq_some_iff.1 h
  refine ⟨f, by simpa using h1, ?_, ?_⟩
  · rw [← h2]
  · rw [← h2]
theorem addr9 (b off j : Nat) : ((⟨b, off, none⟩ : Addr).add j) = ⟨b, off + j, none⟩ := by
  unfold Addr.add
  split
  · rename_i h; subst h; rfl
  · rfl
theorem spot9 {w : World} {a : Addr} {v : Value} (h : w.cell? a = some v) : a = ⟨a.block, a.off, none⟩ := by
  unfold World.cell? at h
  obtain ⟨b, off, sp⟩ := a
  cases sp with
  | none => rfl
  | some x => split at h <;> simp at h
theorem list5 {α : Type} (l : List α) (h : l.length = 5) : ∃ a b c d e, l = [a, b, c, d, e] := by
  obtain _ | ⟨a, l⟩ := l
  · simp at h
  obtain _ | ⟨b, l⟩ := l
  · simp at h
  obtain _ | ⟨c, l⟩ := l
  · simp at h
  obtain _ | ⟨d, l⟩ := l
  · simp at h
  obtain _ | ⟨e, l⟩ := l
  · simp at h
  obtain _ | ⟨f, l⟩ := l
  · exact ⟨a, b, c, d, e, rfl⟩
  · simp at h
section
variable {H : Type} {enc : TypeId × Value → H} {w : World} {base : Nat} {sp : Nat → Bool} {held : Bool}
theorem open_args {fuel : Nat} {c : Value} {x : DataW H × List MemPlace} (h : DataW.trod enc Try.prog w base sp held fuel 31 [c] = some x) : ∃ (aZ : Option Addr) (cZ : Nat) (zs : List Int), c = .slice aZ zs.length cZ ∧ (aZ = none → zs = [] ∧ cZ = 0) ∧ (zs = [] ∨ ∃ b off, aZ = some ⟨b, off, none⟩ ∧ b < w.heap.size ∧ ∀ i, i < zs.length → w.cell? ⟨b, off + i, none⟩ = some (.int .i64 (zs.getD i 0))) := by
  rcases open_ints uIntsO uIntO opOnes.1 h with ⟨e, -⟩ | ⟨a, len, cap, zs, e, -, hl, -, hz, -, hc, -⟩
  · injection e with e
    exact ⟨none, 0, [], e, fun _ => ⟨rfl, rfl⟩, Or.inl rfl⟩
  · injection e with e
    have hlz : len ≤ zs.length := by rw [hz]; split <;> omega
    refine ⟨some a, cap, zs.take len, by rw [List.length_take, Nat.min_eq_left hlz]; exact e, (fun e => by cases e), ?_⟩
    by_cases h0 : len = 0
    · left; rw [h0]; rfl
    · right
      have c0 := hc 0 (by omega)
      have e0 : a.add 0 = a := by unfold Addr.add; rw [if_pos rfl]
      rw [e0] at c0
      have hs := spot9 c0
      refine ⟨a.block, a.off, by rw [← hs], World.block_lt_of_cell? w a c0, fun i hi => ?_⟩
      rw [List.length_take] at hi
      have ci := hc i (by omega)
      rw [hs, addr9] at ci
      rw [ci, List.getD_eq_getElem?_getD, List.getD_eq_getElem?_getD, List.getElem?_take, if_pos (by omega)]
/-- One op. -/
theorem open_op {fuel : Nat} {cs : List Value} {x : DataW H × List MemPlace} (h : DataW.trod enc Try.prog w base sp held fuel 40 cs = some x) : ∃ (o : OpS) (aZ : Option Addr) (cZ : Nat), cs = [.int .i64 o.kind, .string o.fn, .slice aZ o.zs.length cZ, .int .i64 o.a, .int .i64 o.b] ∧ (o.zs.length ≤ 20 → OpOk w o aZ cZ) := by
  obtain ⟨opFs, uOp, hLay⟩ := opLay
  obtain ⟨xs, n, -, -, hl, hlen, hf⟩ := DataW.trod_struct uOp h
  rw [opSz] at hl
  have hfs : opFs.size = 5 := by
    have := congrArg List.length hLay
    simpa using this
  rw [hfs] at hlen
  obtain ⟨c0, c1, c2, c3, c4, rfl⟩ := list5 cs hl
  obtain ⟨x0, x1, x2, x3, x4, rfl⟩ := list5 xs hlen
  obtain ⟨f0, k0, t0, o0⟩ := opF hLay 0 _ rfl
  obtain ⟨f1, k1, t1, o1⟩ := opF hLay 1 _ rfl
  obtain ⟨f2, k2, t2, o2⟩ := opF hLay 2 _ rfl
  obtain ⟨f3, k3, t3, o3⟩ := opF hLay 3 _ rfl
  obtain ⟨f4, k4, t4, o4⟩ := opF hLay 4 _ rfl
  have h0 := hf 0 f0 k0
  have h1 := hf 1 f1 k1
  have h2 := hf 2 f2 k2
  have h3 := hf 3 f3 k3
  have h4 := hf 4 f4 k4
  rw [t0, o0] at h0
  rw [t1, o1] at h1
  rw [t2, o2] at h2
  rw [t3, o3] at h3
  rw [t4, o4] at h4
  simp only [opOnes.1, opOnes.2.1, opOnes.2.2, List.drop, List.take, List.getElem?_cons_zero, List.getElem?_cons_succ] at h0 h1 h2 h3 h4
  obtain ⟨z0, e0, -, -⟩ := DataW.trod_int uIntO h0
  obtain ⟨s1, e1, -, hs1⟩ := DataW.trod_string uStrO h1
  obtain ⟨aZ, cZ, zs, e2, hn, hz⟩ := open_args h2
  obtain ⟨z3, e3, -, -⟩ := DataW.trod_int uIntO h3
  obtain ⟨z4, e4, -, -⟩ := DataW.trod_int uIntO h4
  injection e0 with e0
  injection e1 with e1
  injection e3 with e3
  injection e4 with e4
  subst e0 e1 e2 e3 e4
  refine ⟨⟨z0, s1, zs, z3, z4⟩, aZ, cZ, rfl, fun h20 => ⟨⟨aZ, cZ, rfl, by show zs.length ≤ _; have : zs.length ≤ 20 := h20; omega, hz⟩, hn, fun hp b off e => ?_, hs1, h20⟩⟩
  rcases hz with hz | ⟨b', off', k1, k2, -⟩
  · have : zs.length = 0 := by rw [hz]; rfl
    have hp' : 0 < zs.length := hp
    omega
  · rw [k1] at e
    injection e with e
    injection e with e
    subst e
    exact k2
/-- A script. -/
theorem open_script {fuel : Nat} {v : Value} {x : DataW H × List MemPlace} (h : DataW.trod enc Try.prog w base sp held fuel 22 [v] = some x) : ∃ (aS : Option Addr) (ops : List OpS) (cS : Nat), v = .slice aS ops.length cS ∧ Scr w aS ops ∧ ops.length ≤ maxLen := by
  rcases DataW.trod_slice uOps h with ⟨e, -⟩ | ⟨a, len, cap, elems, rest, n, -, e, -, -, hl, hm, hlen, hel, -⟩
  · injection e with e
    exact ⟨none, [], 0, e, ⟨fun i hi => absurd hi (Nat.not_lt_zero _)⟩, Nat.zero_le _⟩
  · injection e with e
    rw [opSz] at hel
    have key : ∀ i, ∃ o : OpS, i < len → ∃ (aZ : Option Addr) (cZ : Nat), (∀ j, j < 5 → w.cell? ((a.add (i * 5)).add j) = [Value.int .i64 o.kind, .string o.fn, .slice aZ o.zs.length cZ, .int .i64 o.a, .int .i64 o.b][j]?) ∧ (o.zs.length ≤ 20 → OpOk w o aZ cZ) := by
      intro i
      by_cases hi : i < len
      · have h1 := hel i hi
        rw [List.getElem?_eq_getElem (by omega)] at h1
        obtain ⟨cs, h2, h3⟩ := Option.bind_eq_some_iff.1 h1
        obtain ⟨-, -, h4⟩ := World.cells?_some h2
        obtain ⟨o, aZ, cZ, rfl, h5⟩ := open_op h3
        exact ⟨o, fun _ => ⟨aZ, cZ, h4, h5⟩⟩
      · exact ⟨noOp, fun h => absurd h hi⟩
    obtain ⟨f, hf⟩ := Classical.skolem.1 key
    have hlen2 : ((List.range len).map f).length = len := by simp
    refine ⟨some a, (List.range len).map f, cap, by rw [hlen2]; exact e, ⟨fun i hi => ?_⟩, by rw [hlen2]; omega⟩
    rw [hlen2] at hi
    have eo : ((List.range len).map f).getD i noOp = f i := by
      rw [List.getD_eq_getElem?_getD, List.getElem?_map, List.getElem?_range hi]; rfl
    rw [eo]
    obtain ⟨aZ0, cZ0, hc0, -⟩ := hf 0 (by omega)
    have s0 := hc0 0 (by omega)
    have e0 : (a.add (0 * 5)).add 0 = a := by unfold Addr.add; rfl
    rw [e0] at s0
    have hs := spot9 s0
    obtain ⟨aZ, cZ, hc, hok⟩ := hf i hi
    rw [hs, addr9] at hc
    have q : ∀ j, j < 5 → w.cell? ⟨a.block, a.off + i * 5 + j, none⟩ = [Value.int .i64 (f i).kind, .string (f i).fn, .slice aZ (f i).zs.length cZ, .int .i64 (f i).a, .int .i64 (f i).b][j]? := fun j hj => by have := hc j hj; rw [addr9] at this; exact this
    exact ⟨a.block, a.off, aZ, cZ, by rw [← hs], World.block_lt_of_cell? w a s0, q 0 (by omega), q 1 (by omega), q 2 (by omega), q 3 (by omega), q 4 (by omega), hok⟩
end
end Euf
end Go.Proofs.Ytmnpefiaelpkfac
