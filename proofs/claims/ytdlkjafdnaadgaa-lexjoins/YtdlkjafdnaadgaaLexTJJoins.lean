/- The builder's methods at this program. No statement of the seat is proved here. -/
import Derived.Test.YtdlkjafdnaadgaaLexRJJoins
import Derived.Lib.Builder
import Derived.Lib.AppendStr
namespace Go.Proofs.Ytdlkjafdnaadgaa
open Go Go.RowKit
set_option linter.unusedVariables false
set_option linter.unusedSimpArgs false
namespace Lex
open Euf (OL App Stop wpList_push)

/-- A builder that has been written to, or not yet, holding the bytes l. -/
def BU (B b : Nat) (l : List UInt8) (w : World) : Prop := Lib.IsBuilder 54 5 B b (Lib.byteCells l) w
/-- .. and has been written to. -/
def BV (B b : Nat) (l : List UInt8) (w : World) : Prop := Lib.BuilderAt 54 5 B b (.pointer (some ⟨b, 0, none⟩)) (Lib.byteCells l) w
/-- What isn't a builder or bytes is as it was. -/
def Frm (w w' : World) : Prop := ∀ (k : Nat) (cur : Array Value) (e : TypeId) (z : Nat × Nat), w.heap[k]? = some (Obj.cells cur e z) → e ≠ 54 → e ≠ 5 → w'.heap[k]? = w.heap[k]?
theorem Frm.refl (w : World) : Frm w w := fun _ _ _ _ _ _ _ => rfl
theorem Frm.trans {a b c : World} (h : Frm a b) (k : Frm b c) : Frm a c := fun i cur e z h1 h2 h3 => by
  have h4 := h i cur e z h1 h2 h3
  rw [← h4]
  exact k i cur e z (h4.trans h1) h2 h3
theorem Frm.set {w : World} {b : Nat} {cs : Array Value} (hb : w.heap[b]? = some (.cells cs 54 (0, 0))) (i : Nat) (x : Value) : Frm w (w.setCell ⟨b, i, none⟩ x) := fun k cur e z h1 h2 h3 => by
  refine heap_setCell_other w _ k x ?_
  rintro rfl
  rw [hb] at h1
  injection h1 with h1
  injection h1 with h5 h6
  exact h2 h6.symm
theorem sizeB : (Try.prog.info? 54).map (·.size) = some 2 := by kernel_rfl
theorem liesB : liesAt Try.prog Try.prog.depth 54 (2 / Try.prog.cellsOf 54) 0 54 1 = true := by kernel_rfl
set_option maxHeartbeats 1000000 in
set_option maxRecDepth 100000 in
theorem copyCheck_any (B b : Nat) (l : List UInt8) (w : World) (h : BU B b l w) :
    Calls Try.prog 42 #[.pointer (some ⟨b, 0, none⟩)] w fun e w' => e = .returned (.tuple #[]) ∧ BV B b l w' ∧ Below B w w' ∧ Frm w w' := by
  obtain ⟨j, hj, hjs⟩ := Option.map_eq_some_iff.1 sizeB
  rcases h with h | h
  · have c0 := h.cell0
    have f0 := h.frozen0
    have hto := Lib.run_to_unsafe (P := Try.prog) w (src := 52) (dst := 68) ⟨b, 0, none⟩ Try.underlying52 Try.underlying68 hj (by rw [hjs]; decide) h.shape (Nat.zero_lt_succ 1)
    have hfr := Lib.run_from_unsafe (P := Try.prog) w (src := 68) (dst := 52) ⟨b, 0, none⟩ Try.underlying68 Try.underlying52 hj h.shape liesB
    have hex : (callFunc 46 #[.pointer (some ⟨b, 0, none⟩)]).run Try.prog w = .ok (.value (.pointer (some ⟨b, 0, none⟩))) w := by
      rw [run_callFunc_extern Try.func46 (by kernel_rfl) (by kernel_rfl) (by kernel_rfl) (e := Extern.AbiNoEscape.same) (by kernel_rfl), Lib.run_noEscape]
      rfl
    have HE := hide h
    clear h
    go_enter Try.func42, Try.ntmps42
    go_wp2
    first | (refine bodyPost_ret (results_none rfl _ _ _) rfl ?_) | (refine bodyPost_end (results_none rfl _ _ _) rfl ?_)
    exact ⟨rfl, HE.out.used _, (Below.refl _ _).setCell (p := ⟨b, 0, none⟩) HE.out.1 _, by obtain ⟨_, v, hb, _⟩ := HE.out; exact Frm.set hb 0 _⟩
  · have c0 := h.cell0
    have hnq := Lib.run_neq_ptr_same (P := Try.prog) w ⟨b, 0, none⟩ Try.underlying52 hj
    have HE := hide h
    clear h
    go_enter Try.func42, Try.ntmps42
    go_wp2
    go_returns
    exact ⟨rfl, HE.out, Below.refl _ _, Frm.refl _⟩
/-- Bytes lie in no block of another type. -/
theorem row_ne {w : World} {B : Nat} {v : Value} {n : Nat} {xs : List Value} (h : w.ownsRow B 5 1 v n xs) {k : Nat} {cur : Array Value} {e : TypeId} {z : Nat × Nat} (h1 : w.heap[k]? = some (.cells cur e z)) (h3 : e ≠ 5) : ¬ some k = v.ownBlock := by
  intro q
  rcases h.2 with ⟨hv, _⟩ | ⟨g, cap, cur', hv, _, hg, _⟩
  · rw [hv] at q; cases q
  · rw [hv] at q
    have q' : g = k := by simpa [Value.ownBlock] using q.symm
    subst q'
    rw [hg] at h1
    injection h1 with h1
    injection h1 with h5 h6
    exact h3 h6.symm
theorem iByteL : (Try.prog.info? 5).map (fun i => (i.zero, i.size, i.bytes)) = some (some (.int .u8 0), 1, 1) := by kernel_rfl
theorem byteCells_app (l r : List UInt8) : Lib.byteCells (l ++ r) = Lib.byteCells l ++ Lib.byteCells r := by simp [Lib.byteCells]
set_option maxHeartbeats 1000000 in
set_option maxRecDepth 100000 in
theorem writeByte_any (B b : Nat) (l : List UInt8) (c : UInt8) (w : World) (h : BU B b l w) (hl : l.length ≤ 1000000000) (hB : B ≤ w.heap.size) :
    Calls Try.prog 29 #[.pointer (some ⟨b, 0, none⟩), .int .u8 (c.toNat : Int)] w fun e w' => e = .returned .nilIface ∧ BV B b (l ++ [c]) w' ∧ Below B w w' ∧ Frm w w' := by
  go_enter Try.func29, Try.ntmps29
  go_wp2_with fail
  refine (copyCheck_any B b l w h).mono ?_
  rintro e w1 ⟨rfl, h1, hb1, hf1⟩
  have hlt := h1.lt
  obtain ⟨hBb, v, hbk, hown, hne⟩ := h1
  have c0 : w1.cell? ⟨b, 0, none⟩ = some (.pointer (some ⟨b, 0, none⟩)) := cell_of_row w1 b 0 _ _ (0, 0) hbk
  have c1 : w1.cell? ⟨b, 1, none⟩ = some v := cell_of_row w1 b 1 _ _ (0, 0) hbk
  have hsz := hb1.size
  have hlc : (Lib.byteCells l).length = l.length := Lib.byteCells_length l
  obtain ⟨i0, hi, hz0, hz1, hz2⟩ := info_parts iByteL
  go_wp2_with (at_builtin; refine wpList_append_own _ rfl _ _ 40 rfl B 5 i0 (.int .u8 0) 1 1 Try.underlying40 hi hz0 hz1 hz2 rfl (by decide) v _ _ rfl (hown.alloc _) ⟨w1.heap.size, 0, none⟩ 1 1 [.int .u8 (c.toNat : Int)] rfl rfl ?_ (by intro u hu; simp at hu; subst hu; rfl) (by unfold maxLen; omega) (by omega) (by simp; omega) ?_)
  · intro j u hj
    match j, hj with
    | 0, hj => simp at hj; subst hj; simp [Addr.add]
  intro v' w2 hown' hgrow hn0
  have hb2 : Blk 54 w2 b #[.pointer (some ⟨b, 0, none⟩), v] :=
    (hgrow.block b (by simp; omega) (fun e => hne e.symm)).trans ((Below.heap_alloc w1 _ b hlt).trans hbk)
  obtain ⟨d0, d1, f0, f1⟩ := hb2.two
  obtain ⟨ao, n', cap, rfl⟩ : ∃ ao n' cap, v' = .slice ao n' cap := by
    rcases hown'.2 with ⟨hv, _⟩ | ⟨g, cap, cur, hv, _⟩
    · exact ⟨_, _, _, hv⟩
    · exact ⟨_, _, _, hv⟩
  have HB := hide (((hb1.alloc (by omega) (.cells #[.int .u8 (c.toNat : Int)] 5 (0, 0))).grown hgrow (by simp; omega) (fun k hk => (hown.lt k hk).1)).setCell (p := ⟨b, 1, none⟩) hBb (.slice ao n' cap))
  have HP : Hid (BV B b (l ++ [c]) (w2.setCell ⟨b, 1, none⟩ (.slice ao n' cap))) :=
    Lib.BuilderAt.put (T := 54) (e := 5) hBb hb2 (bs' := Lib.byteCells (l ++ [c])) (by rw [byteCells_app]; simpa [Lib.byteCells] using hown') (by decide)
  have HF : Hid (Frm w (w2.setCell ⟨b, 1, none⟩ (.slice ao n' cap))) := by
    refine (hf1.trans ?_).trans (Frm.set hb2 1 _)
    intro k cur e z k1 k2 k3
    have hk : k < w1.heap.size := (Array.getElem?_eq_some_iff.1 k1).1
    rw [hgrow.block k (by simp; omega) (fun q => row_ne hown k1 k3 q), Below.heap_alloc w1 _ k hk]
  clear hown' hgrow hown
  go_wp2
  go_ret
  exact ⟨rfl, HP.out, HB.out, HF.out⟩
set_option maxHeartbeats 1000000 in
set_option maxRecDepth 100000 in
theorem writeString_any (B b : Nat) (l : List UInt8) (s : ByteArray) (w : World) (h : BU B b l w) (hl : l.length + s.size ≤ 1000000000) (hB : B ≤ w.heap.size) :
    Calls Try.prog 31 #[.pointer (some ⟨b, 0, none⟩), .string s] w fun e w' => e = .returned (.tuple #[.int .i64 (s.size : Int), .nilIface]) ∧ BV B b (l ++ bs s) w' ∧ Below B w w' ∧ Frm w w' := by
  go_enter Try.func31, Try.ntmps31
  go_wp2_with fail
  refine (copyCheck_any B b l w h).mono ?_
  rintro e w1 ⟨rfl, h1, hb1, hf1⟩
  have hlt := h1.lt
  obtain ⟨hBb, v, hbk, hown, hne⟩ := h1
  have c0 : w1.cell? ⟨b, 0, none⟩ = some (.pointer (some ⟨b, 0, none⟩)) := cell_of_row w1 b 0 _ _ (0, 0) hbk
  have c1 : w1.cell? ⟨b, 1, none⟩ = some v := cell_of_row w1 b 1 _ _ (0, 0) hbk
  have hsz := hb1.size
  have hlc : (Lib.byteCells l).length = l.length := Lib.byteCells_length l
  obtain ⟨i0, hi, hz0, hz1, hz2⟩ := info_parts iByteL
  go_wp2_with (at_builtin; refine Lib.wpList_append_own_string _ rfl _ _ 40 9 rfl B 5 i0 Try.underlying40 Try.underlying9 hi hz0 hz1 hz2 v _ _ rfl hown s rfl (by unfold maxLen; omega) (by omega) (by omega) ?_)
  intro v' w2 hown' hgrow hn0
  have hb2 : Blk 54 w2 b #[.pointer (some ⟨b, 0, none⟩), v] := (hgrow.block b hlt (fun e => hne e.symm)).trans hbk
  obtain ⟨d0, d1, f0, f1⟩ := hb2.two
  obtain ⟨ao, n', cap, rfl⟩ : ∃ ao n' cap, v' = .slice ao n' cap := by
    rcases hown'.2 with ⟨hv, _⟩ | ⟨g, cap, cur, hv, _⟩
    · exact ⟨_, _, _, hv⟩
    · exact ⟨_, _, _, hv⟩
  have HB := hide ((hb1.grown hgrow (by omega) (fun k hk => (hown.lt k hk).1)).setCell (p := ⟨b, 1, none⟩) hBb (.slice ao n' cap))
  have HP : Hid (BV B b (l ++ bs s) (w2.setCell ⟨b, 1, none⟩ (.slice ao n' cap))) := by
    have hc : Lib.strCells s = Lib.byteCells (bs s) := rfl
    have hn9 : (Lib.byteCells (l ++ bs s)).length = (Lib.byteCells l).length + s.size := by rw [byteCells_app, List.length_append, Lib.byteCells_length (bs s), bs_length]
    refine Lib.BuilderAt.put (T := 54) (e := 5) hBb hb2 (bs' := Lib.byteCells (l ++ bs s)) ?_ (by decide)
    rw [hn9, hlc, byteCells_app]; exact hown'
  have HF : Hid (Frm w (w2.setCell ⟨b, 1, none⟩ (.slice ao n' cap))) := by
    refine (hf1.trans ?_).trans (Frm.set hb2 1 _)
    intro k cur e z k1 k2 k3
    have hk : k < w1.heap.size := (Array.getElem?_eq_some_iff.1 k1).1
    rw [hgrow.block k hk (fun q => row_ne hown k1 k3 q)]
  clear hown' hgrow hown
  go_wp2
  go_ret2
  exact ⟨rfl, HP.out, HB.out, HF.out⟩
theorem BV.bu {B b : Nat} {l : List UInt8} {w : World} (h : BV B b l w) : BU B b l w := Or.inr h
theorem BU.len {B b : Nat} {l : List UInt8} {w : World} (h : BU B b l w) : Calls Try.prog 30 #[.pointer (some ⟨b, 0, none⟩)] w fun e w' => e = .returned (.int .i64 (l.length : Int)) ∧ w' = w := by
  have := Try.Builder_Len B b (Lib.byteCells l) w h
  rwa [Lib.byteCells_length] at this
end Lex
end Go.Proofs.Ytdlkjafdnaadgaa
