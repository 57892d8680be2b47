/- A term is known by its text; no program is spoken of here but by its texts. -/
import Derived.Test.YteefniagebcagaaGreatDoorJoin25Reckons
import Derived.Test.YteefniagebcagaaGreatDoorRefLJReckons
namespace Go.Proofs.YteefniagebcagaaGreatDoor
open Go.RowKit
set_option linter.unusedVariables false
theorem cut_inj (c : UInt8) : ∀ (y z X Y : List UInt8), c ∉ y → c ∉ z → y ++ c :: X = z ++ c :: Y → y = z ∧ X = Y
  | [], [], X, Y, _, _, h => by simpa using h
  | [], d :: z, X, Y, _, hz, h => by
    rw [List.nil_append, List.cons_append] at h
    injection h with h1 h2
    exact absurd (h1 ▸ List.mem_cons_self ..) hz
  | d :: y, [], X, Y, hy, _, h => by
    rw [List.nil_append, List.cons_append] at h
    injection h with h1 h2
    exact absurd (h1 ▸ List.mem_cons_self ..) hy
  | d :: y, e :: z, X, Y, hy, hz, h => by
    rw [List.cons_append, List.cons_append] at h
    injection h with h1 h2
    obtain ⟨h3, h4⟩ := cut_inj c y z X Y (fun k => hy (List.mem_cons_of_mem _ k)) (fun k => hz (List.mem_cons_of_mem _ k)) h2
    exact ⟨by rw [h1, h3], h4⟩
theorem join_inj : ∀ (l m : List (List UInt8)),l ≠ [] → m ≠ [] → (∀ x ∈ l,(32 : UInt8) ∉ x) → (∀ x ∈ m,(32 : UInt8) ∉ x) → Lib.join l [32,43,32] = Lib.join m [32,43,32] → l = m
 | [],_,h,_,_,_,_ => absurd rfl h
 | _ :: _,[],_,h,_,_,_ => absurd rfl h
 | [y],[z],_,_,_,_,h => by rw [join_one,join_one] at h;rw [h]
 | [y],z :: w :: m,_,_,hl,_,h => by
  exfalso
  rw [join_one,show Lib.join (z :: w :: m) [32,43,32] = _ from inter_two _ _ _ _] at h
  exact hl y (List.mem_cons_self ..) (by rw [h];simp)
 | y :: w :: l,[z],_,_,_,hm,h => by
  exfalso
  rw [join_one,show Lib.join (y :: w :: l) [32,43,32] = _ from inter_two _ _ _ _] at h
  exact hm z (List.mem_cons_self ..) (by rw [← h];simp)
 | y :: w :: l,z :: v :: m,_,_,hl,hm,h => by
  rw [show Lib.join (y :: w :: l) [32,43,32] = _ from inter_two _ _ _ _,show Lib.join (z :: v :: m) [32,43,32] = _ from inter_two _ _ _ _] at h
  obtain ⟨h1,h2⟩ := cut_inj 32 y z _ _ (hl y (List.mem_cons_self ..)) (hm z (List.mem_cons_self ..)) h;have h3 : Lib.join (w :: l) [32,43,32] = Lib.join (v :: m) [32,43,32] := by
   show ([32,43,32] : List UInt8).intercalate (w :: l) = ([32,43,32] : List UInt8).intercalate (v :: m)
   simpa using h2
  rw [h1,join_inj (w :: l) (v :: m) (by simp) (by simp) (fun x hx => hl x (List.mem_cons_of_mem _ hx)) (fun x hx => hm x (List.mem_cons_of_mem _ hx)) h3]
theorem nT_bytes (z : Int) : ∀ x ∈ (nT z).data.toList,x.toNat = 45 ∨ (48 ≤ x.toNat ∧ x.toNat ≤ 57) := by
 intro x hx;obtain ⟨neg,ds,hn,hd,h0,hz',hb⟩ := nT_text z;have hx2 : x.toNat ∈ bs (nT z) := List.mem_map.2 ⟨x,hx,rfl⟩;rw [hb] at hx2;unfold showB at hx2;split at hx2
 · right;rw [List.mem_singleton.1 hx2];decide
 ·
  rcases List.mem_append.1 hx2 with h | h
  ·
   left
   split at h
   · exact List.mem_singleton.1 h
   · cases h
  ·
   right
   rw [List.mem_reverse] at h;unfold byt at h;obtain ⟨d,hd1,hd2⟩ := List.mem_map.1 h;have := hd d hd1;omega
theorem nT_no (z : Int) (c : UInt8) (h1 : c.toNat ≠ 45) (h2 : ¬ (48 ≤ c.toNat ∧ c.toNat ≤ 57)) : c ∉ (nT z).data.toList := fun h => (nT_bytes z c h).elim h1 h2
theorem nT_inj {z z' : Int} (h : nT z = nT z') : z = z' := by
 have h1 := (text_good (nT_text z)).2;have h2 := (text_good (nT_text z')).2;rw [← h1,← h2,h]
def PB (p : Nat × Int) : List UInt8 := (pT p.1 p.2).data.toList
theorem PB_is (p : Nat × Int) : PB p = (nT p.2).data.toList ++ 42 :: (120 :: (nT p.1).data.toList) := by
 unfold PB pT;rw [ByteArray.data_append,ByteArray.data_append,Array.toList_append,Array.toList_append];simp
theorem PB_inj {p q : Nat × Int} (h : PB p = PB q) : p = q := by
 rw [PB_is,PB_is] at h;obtain ⟨h1,h2⟩ := cut_inj 42 _ _ _ _ (nT_no _ _ (by decide) (by decide)) (nT_no _ _ (by decide) (by decide)) h
 injection h2 with _ h2;have e1 := nT_inj (ByteArray.ext (Array.toList_inj.1 h1));have e2 := nT_inj (ByteArray.ext (Array.toList_inj.1 h2));exact Prod.ext (by omega) e1
theorem PB_no (p : Nat × Int) : (32 : UInt8) ∉ PB p := by
 rw [PB_is];intro h;rcases List.mem_append.1 h with h | h
 · exact nT_no _ _ (by decide) (by decide) h
 ·
  rcases List.mem_cons.1 h with h | h
  · exact absurd h (by decide)
  ·
   rcases List.mem_cons.1 h with h | h
   · exact absurd h (by decide)
   · exact nT_no _ _ (by decide) (by decide) h
theorem parts_inj : ∀ (a b : List (Nat × Int)) (R S : List (List UInt8)), (∀ x ∈ R, (42 : UInt8) ∉ x) → (∀ x ∈ S, (42 : UInt8) ∉ x) → a.map PB ++ R = b.map PB ++ S → a = b ∧ R = S
  | [], [], R, S, _, _, h => ⟨rfl, by simpa using h⟩
  | [], q :: b, R, S, hR, _, h => by
    exfalso
    rw [List.map_nil, List.nil_append] at h
    exact hR (PB q) (by rw [h]; simp) (by rw [PB_is]; simp)
  | p :: a, [], R, S, _, hS, h => by
    exfalso
    rw [List.map_nil, List.nil_append] at h
    exact hS (PB p) (by rw [← h]; simp) (by rw [PB_is]; simp)
  | p :: a, q :: b, R, S, hR, hS, h => by
    rw [List.map_cons, List.map_cons, List.cons_append, List.cons_append] at h
    injection h with h1 h2
    obtain ⟨h3, h4⟩ := parts_inj a b R S hR hS h2
    exact ⟨by rw [PB_inj h1, h3], h4⟩
theorem lT_list (a : List (Nat × Int)) (r : Int) : (lT a r).map (·.data.toList) = a.map PB ++ (if r ≠ 0 ∨ a = [] then [(nT r).data.toList] else []) := by
 unfold lT;rw [List.map_append,List.map_map];congr 1
 split <;> rfl
theorem lT_ne (a : List (Nat × Int)) (r : Int) : (lT a r).map (·.data.toList) ≠ [] := by
 rw [lT_list];intro h;obtain ⟨h1,h2⟩ := List.append_eq_nil_iff.1 h;have ha : a = [] := List.map_eq_nil_iff.1 h1;rw [if_pos (Or.inr ha)] at h2;cases h2
theorem lT_no32 (a : List (Nat × Int)) (r : Int) : ∀ x ∈ (lT a r).map (·.data.toList),(32 : UInt8) ∉ x := by
 rw [lT_list];intro x hx;rcases List.mem_append.1 hx with h | h
 · obtain ⟨p,_,rfl⟩ := List.mem_map.1 h;exact PB_no p
 ·
  split at h
  · rw [List.mem_singleton.1 h];exact nT_no _ _ (by decide) (by decide)
  · cases h
theorem tT_inj {a b : List (Nat × Int)} {r s : Int} (h : tT a r = tT b s) : a = b ∧ r = s := by
 unfold tT at h;have h1 : Lib.join ((lT a r).map (·.data.toList)) [32,43,32] = Lib.join ((lT b s).map (·.data.toList)) [32,43,32] := by
  have := congrArg (fun x : ByteArray => x.data.toList) h
  simpa using this
 have h2 := join_inj _ _ (lT_ne a r) (lT_ne b s) (lT_no32 a r) (lT_no32 b s) h1;rw [lT_list,lT_list] at h2;have hn : ∀ (c : List (Nat × Int)) (t : Int),∀ x ∈ (if t ≠ 0 ∨ c = [] then [(nT t).data.toList] else []),(42 : UInt8) ∉ x := by
  intro c t x hx;split at hx
  · rw [List.mem_singleton.1 hx];exact nT_no _ _ (by decide) (by decide)
  · cases hx
 obtain ⟨rfl,h4⟩ := parts_inj a b _ _ (hn a r) (hn b s) h2;refine ⟨rfl,?_⟩;by_cases h5 : r ≠ 0 ∨ a = [] <;> by_cases h6 : s ≠ 0 ∨ a = []
 · rw [if_pos h5,if_pos h6] at h4;injection h4 with h4;exact nT_inj (ByteArray.ext (Array.toList_inj.1 h4))
 · rw [if_pos h5,if_neg h6] at h4;cases h4
 · rw [if_neg h5,if_pos h6] at h4;cases h4
 ·
  have e1 : r = 0 := Classical.byContradiction fun k => h5 (Or.inl k)
  have e2 : s = 0 := Classical.byContradiction fun k => h6 (Or.inl k)
  rw [e1,e2]
end Go.Proofs.YteefniagebcagaaGreatDoor
