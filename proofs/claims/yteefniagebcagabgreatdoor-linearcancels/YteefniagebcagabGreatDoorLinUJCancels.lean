/- Contracts of linear's Text: the texts of numbers; they prove no statement of the seat. -/
import Derived.Test.YteefniagebcagabGreatDoorJoin16Cancels
import Derived.Test.YteefniagebcagabGreatDoorJoin0Cancels
namespace Go.Proofs.YteefniagebcagabGreatDoor
open Go.RowKit
set_option linter.unusedVariables false

/-- The number's text. -/
def nT (z : Int) : ByteArray := ⟨(Lib.itoa z).toArray⟩
theorem norm_cons {x : Nat} {r : List Nat} (h : Norm r) (hr : r ≠ [] ∨ x ≠ 0) : Norm (x :: r) := by
  unfold Norm at h ⊢
  simp only [trimZ, h]
  rw [if_neg (fun k => by rcases hr with hr | hr; exact hr k.1; exact hr k.2)]
theorem dec_of : ∀ (n : Nat), 0 < n → ∃ ds, Norm ds ∧ Digs 10 ds ∧ val 10 ds = n ∧ ds ≠ [] ∧ (byt ds).reverse = (Lib.decDigits n).map UInt8.toNat := by
  intro n
  induction n using Nat.strongRecOn with
  | _ n ih =>
    intro hn
    by_cases h : n < 10
    · refine ⟨[n], norm_cons Norm.nil (Or.inr (by omega)), fun x hx => by simp at hx; omega, by simp [val], by simp, ?_⟩
      rw [Lib.decDigits_one h]
      simp [byt]
      omega
    · obtain ⟨ds, h1, h2, h3, h4, h5⟩ := ih (n / 10) (by omega) (by omega)
      refine ⟨n % 10 :: ds, norm_cons h1 (Or.inl h4), fun x hx => ?_, ?_, by simp, ?_⟩
      · rcases List.mem_cons.1 hx with rfl | hx
        · omega
        · exact h2 x hx
      · simp only [val]; omega
      · rw [Lib.decDigits, dif_neg h, List.map_append, ← h5]
        simp [byt]
        omega
theorem nT_text (z : Int) : TextOf (nT z) z := by
  unfold nT Lib.itoa
  by_cases h0 : z = 0
  · subst h0
    refine ⟨false, [], Norm.nil, Digs.nil _, fun _ => rfl, rfl, ?_⟩
    rw [if_neg (by decide), show (0 : Int).toNat = 0 from rfl, Lib.decDigits_one (by decide)]
    rfl
  · obtain ⟨ds, h1, h2, h3, h4, h5⟩ := dec_of z.natAbs (by omega)
    have hl : ¬ ds.length = 0 := fun h => h4 (List.eq_nil_of_length_eq_zero h)
    by_cases hz : z < 0
    · refine ⟨true, ds, h1, h2, fun h => absurd h hl, ?_, ?_⟩
      · rw [h3]; unfold sv; simp; omega
      · unfold bs showB
        rw [if_neg hl, if_pos hz, if_pos rfl, h5]
        simp
    · refine ⟨false, ds, h1, h2, fun _ => rfl, ?_, ?_⟩
      · rw [h3]; unfold sv; simp; omega
      · unfold bs showB
        rw [if_neg hl, if_neg hz, if_neg (by decide), h5, show z.toNat = z.natAbs by omega]
        simp
theorem TextOf.nT {S : ByteArray} {z : Int} (h : TextOf S z) : S = nT z := h.same (nT_text z)
theorem nT_size {z : Int} (hz' : z.natAbs < lim) : (nT z).size ≤ 400 := by
  obtain ⟨neg, ds, hn, hd, h1, h2, h3⟩ := nT_text z
  have hl : ds.length ≤ 309 := by
    rcases Nat.lt_or_ge 309 ds.length with k | k
    · have h4 := hn.ge (B := 10) (List.ne_nil_of_length_pos (by omega)) (by decide)
      have h5 := lim_dec (ds.length - 1) (by omega)
      rw [h2, sv_natAbs] at hz'
      omega
    · exact k
  rw [← bs_length, h3]
  unfold showB byt
  split
  · decide
  · rw [List.length_append, List.length_reverse, List.length_map]
    split <;> simp <;> omega
/-- The table of powers of ten lies there. -/
def Tab (w : World) : Prop := Lib.TabIs Tryz.prog w "internal/strconv.uint64pow10" .u64 Lib.pow10Tab
theorem Tab.below {w w' : World} (h : Tab w) (hb : Below w.heap.size w w') : Tab w' := by
  unfold Tab Lib.TabIs World.var? at h ⊢
  cases hg : Tryz.prog.globalNamed "internal/strconv.uint64pow10" with
  | none => rw [hg] at h; cases h
  | some g =>
    rw [hg] at h
    simp only [Option.bind_some] at h ⊢
    have hlt : g < w.heap.size := by
      rcases Nat.lt_or_ge g w.heap.size with h' | h'
      · exact h'
      · rw [Array.getElem?_eq_none h'] at h; cases h
    rw [hb.block g hlt]
    exact h
theorem itoa_h (n : Int) (w : World) (h0 : 0 ≤ n) (h1 : n ≤ 4096) (ht : Tab w) :
    Calls Tryz.prog 56 #[.int .i64 n] w fun e w' => e = .returned (.string (nT n)) ∧ Below w.heap.size w w' := by
  refine (Tryz.strconv_Itoa n (by omega) (by omega) w ht).mono ?_
  rintro e w' ⟨rfl, k, os, rfl⟩
  refine ⟨rfl, rfl, rfl, rfl, by show w.heap.size ≤ (w.heap ++ os).size; rw [Array.size_append]; omega, fun i hi => ?_⟩
  show ((w.drewN k).heap ++ os)[i]? = _
  rw [Array.getElem?_append_left (by show i < w.heap.size; omega)]
  rfl
theorem text_h (v : Value) (z : Int) (w : World) (hv : AInt w v z) :
    Calls Tryz.prog 29 #[v] w fun e w' => e = .returned (.string (nT z)) ∧ Below w.heap.size w w' := by
  refine (text_a v z w hv).mono ?_
  rintro e w' ⟨S, rfl, hS, hb⟩
  rw [hS.nT]
  exact ⟨rfl, hb⟩
/-- A part's text. -/
def pT (v : Nat) (z : Int) : ByteArray := nT z ++ ⟨#[42, 120]⟩ ++ nT v
/-- A term's text, by parts. -/
def lT (a : List (Nat × Int)) (r : Int) : List ByteArray := a.map (fun p => pT p.1 p.2) ++ (if r ≠ 0 ∨ a = [] then [nT r] else [])
def tT (a : List (Nat × Int)) (r : Int) : ByteArray := ⟨(Lib.join ((lT a r).map (·.data.toList)) [32, 43, 32]).toArray⟩
theorem Tryz.und_strs : Tryz.prog.underlying 23 = some (.slice 9) := by kernel_rfl
theorem Tryz.info_str : (Tryz.prog.info? 9).map (fun i => (i.zero, i.size, i.bytes)) = some (some (.string ⟨#[]⟩), 1, 16) := by kernel_rfl

end Go.Proofs.YteefniagebcagabGreatDoor
