/- Words for a list of one's own that lies in a struct's field while a region puts a part behind it; no statement of the seat is proved here. -/
import Derived.Test.YteefniagebcagaaGreatDoorRefAJReckons
namespace Go.Proofs.YteefniagebcagaaGreatDoor
open Go.RowKit
set_option linter.unusedVariables false
theorem flip_a {P : Array Value → Prop} {b : Bool} (hb : b = false) {x y z : Array Value} (h : P (bif b then x else z)) : P (bif b then y else z) := by rw [hb] at h ⊢;exact h
theorem LstG.isSlice {sz : Nat} {e : TypeId} {base : Nat} {w : World} {v : Value} {n : Nat} {xs : List Value} (h : LstG sz e base w v n xs) : ∃ ao m cap,v = .slice ao m cap := by
 rcases h.2 with ⟨h1,_⟩ | ⟨g,cap,cur,h1,_⟩
 · exact ⟨_,_,_,h1⟩
 · exact ⟨_,_,_,h1⟩
def LQ (base : Nat) (qs : List (Nat × Int)) (nb : Nat) : Value → World → Prop := fun u w => ∃ n xs, LstG 3 70 base w u n xs ∧ ElsQ w xs qs ∧ qs.length = n ∧ n ≤ nb
theorem ElsQ.keepQ {w w' : World} {xs : List Value} {ps : List (Nat × Int)} (h : ElsQ w xs ps) (hk : KeepQ w w') : ElsQ w' xs ps := h.keep hk.n
theorem ElsQ.keepN {w w' : World} {xs : List Value} {ps : List (Nat × Int)} (h : ElsQ w xs ps) (hk : KeepN w w') : ElsQ w' xs ps := h.keep hk
theorem ElsQ.below {w w' : World} {xs : List Value} {ps : List (Nat × Int)} (h : ElsQ w xs ps) (hb : Below w.heap.size w w') : ElsQ w' xs ps := h.keep (KeepN.below hb)
def scP (a : List (Nat × Int)) (z : Int) : List (Nat × Int) := if z = 0 then [] else mulP a z
theorem scP_step {a : List (Nat × Int)} {k pv : Nat} {pz z : Int} (hk : k < a.length) (hp : a.getD k (0,0) = (pv,pz)) (hn : pz ≠ 0) : scP (a.take (k + 1)) z = scP (a.take k) z ++ one pv (pz * z) := by
 unfold scP one;by_cases hz9 : z = 0
 · rw [if_pos hz9,if_pos hz9,hz9,Int.mul_zero,if_pos rfl];rfl
 · rw [if_neg hz9,if_neg hz9,if_neg (Int.mul_ne_zero hn hz9),take_one hk hp];unfold mulP;rw [List.map_append];rfl
theorem scP_zero (z : Int) : scP [] z = [] := by unfold scP mulP;split <;> rfl
theorem scP_len (a : List (Nat × Int)) (z : Int) : (scP a z).length ≤ a.length := by
 unfold scP mulP;split <;> simp
theorem scP_fine {a : List (Nat × Int)} {z r : Int} (h : Fine a) (hf : tMulOk a r z) : Fine (scP a z) := by
 unfold scP;by_cases hz9 : z = 0
 · rw [if_pos hz9];exact Fine.nil
 · rw [if_neg hz9];exact mulP_fine h hz9 hf.2
def fitM (a : List (Nat × Int)) (r z : Int) (k : Nat) : Prop := (r * z).natAbs < lim ∧ ∀ p ∈ a.take k, (p.2 * z).natAbs < lim
theorem fitM_step {a : List (Nat × Int)} {r z : Int} {k pv : Nat} {pz : Int} (hk : k < a.length) (hp : a.getD k (0,0) = (pv,pz)) : fitM a r z (k + 1) ↔ fitM a r z k ∧ (pz * z).natAbs < lim := by
 unfold fitM;rw [take_one hk hp];constructor
 · rintro ⟨h1,h2⟩;exact ⟨⟨h1,fun p hq => h2 p (List.mem_append_left _ hq)⟩,h2 (pv,pz) (by simp)⟩
 ·
  rintro ⟨⟨h1,h2⟩,h3⟩;refine ⟨h1,fun p hq => ?_⟩
  rcases List.mem_append.1 hq with h | h
  · exact h2 p h
  · rw [List.mem_singleton.1 h];exact h3
theorem fitM_end {a : List (Nat × Int)} {r z : Int} : fitM a r z a.length ↔ tMulOk a r z := by
 unfold fitM tMulOk;rw [List.take_of_length_le (Nat.le_refl _)]
end Go.Proofs.YteefniagebcagaaGreatDoor
