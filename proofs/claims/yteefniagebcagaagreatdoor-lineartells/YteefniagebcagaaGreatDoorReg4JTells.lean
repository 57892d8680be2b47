/- A region that draws its order and leaves all that lay there: one predicate for each operation's slot, moved on by one law; no statement of the seat is proved here. -/
import Derived.Test.YteefniagebcagaaGreatDoorJoin1Tells
namespace Go.Proofs.YteefniagebcagaaGreatDoor
open Go.RowKit
set_option linter.unusedVariables false

/-- The frame A is a with what U says in the slots. -/
structure Frm (a : Act) (sls : List Nat) (U : Nat → Value) (A : Act) : Prop where
  got : ∀ i, i < sls.length → A.tmps[sls.getD i 0]? = some (U (sls.getD i 0))
  old : ∀ s, (sls.contains s) = false → A.tmps[s]? = a.tmps[s]?
def StepK (P : Program) (ops : Array Oper) (Q : Exit → Act → World → Prop) (a : Act) (sls : List Nat) (W : World) (prs : List (Value → World → Prop)) (k : Nat) (o : Oper) : Prop :=
  ∀ L U w, Below W.heap.size W w → (∀ i, L i = true → prs.getD i (fun _ _ => True) (U (sls.getD i 0)) w) → Aft o L = true → ∀ (A : Act) (K : Act → World → Prop), Frm a sls U A →
    (∀ v w', prs.getD k (fun _ _ => True) v w' → Below w.heap.size w w' → K (A.put o.dst v) w') → Gate (if Region.wanted o (yielded ops A.tmps) = true then Oper.wp P o A w K Q else K (A.put o.dst undef) w)
def StepsK (P : Program) (ops : Array Oper) (Q : Exit → Act → World → Prop) (a : Act) (sls : List Nat) (W : World) (prs : List (Value → World → Prop)) : Nat → List Oper → Prop
  | _, [] => True
  | k, o :: os => StepK P ops Q a sls W prs k o ∧ StepsK P ops Q a sls W prs (k + 1) os
section
variable {P : Program} {ops : Array Oper} {Q : Exit → Act → World → Prop} {a : Act} {sls : List Nat} {W : World} {prs : List (Value → World → Prop)} {k : Nat} {o : Oper} {os : List Oper}
theorem StepsK.nil : StepsK P ops Q a sls W prs k [] := trivial
theorem StepsK.cond (h : StepK P ops Q a sls W prs k o) (hs : StepsK P ops Q a sls W prs (k + 1) os) : StepsK P ops Q a sls W prs k (o :: os) := ⟨h, hs⟩
theorem StepsK.run (hg : o.guard = none) (h : ∀ L U w, Below W.heap.size W w → (∀ i, L i = true → prs.getD i (fun _ _ => True) (U (sls.getD i 0)) w) → Aft o L = true → ∀ (A : Act) (K : Act → World → Prop), Frm a sls U A →
    (∀ v w', prs.getD k (fun _ _ => True) v w' → Below w.heap.size w w' → K (A.put o.dst v) w') → Gate (Oper.wp P o A w K Q)) (hs : StepsK P ops Q a sls W prs (k + 1) os) : StepsK P ops Q a sls W prs k (o :: os) := by
  refine ⟨fun L U w h1 h2 h3 A K hA hK => ⟨?_⟩, hs⟩
  rw [if_pos (by simp [Region.wanted, hg])]
  exact (h L U w h1 h2 h3 A K hA hK).out
end
theorem put_tmps_same (a : Act) (s : Nat) (v : Value) (h : s < a.tmps.size) : (a.put (some s) v).tmps[s]? = some v := by simp [Act.put, h]
theorem put_tmps_other (a : Act) {s t : Nat} (v : Value) (h : t ≠ s) : (a.put (some s) v).tmps[t]? = a.tmps[t]? := by simp [Act.put, Ne.symm h]
theorem put_size (a : Act) (s : Nat) (v : Value) : (a.put (some s) v).tmps.size = a.tmps.size := by simp [Act.put]
theorem putAll_size (a : Act) : ∀ (sls : List Nat) (U : Nat → Value), (putAll a sls U).tmps.size = a.tmps.size := by
  intro sls
  induction sls generalizing a with
  | nil => intro U; rfl
  | cons s l ih => intro U; show (putAll (a.put (some s) (U s)) l U).tmps.size = _; rw [ih, put_size]
theorem putAll_defers (a : Act) : ∀ (sls : List Nat) (U : Nat → Value), (putAll a sls U).defers = a.defers := by
  intro sls
  induction sls generalizing a with
  | nil => intro U; rfl
  | cons s l ih => intro U; show (putAll (a.put (some s) (U s)) l U).defers = _; rw [ih]; rfl
theorem putAll_other (a : Act) : ∀ (sls : List Nat) (U : Nat → Value) (t : Nat), t ∉ sls → (putAll a sls U).tmps[t]? = a.tmps[t]? := by
  intro sls
  induction sls generalizing a with
  | nil => intro U t _; rfl
  | cons s l ih =>
    intro U t ht
    show (putAll (a.put (some s) (U s)) l U).tmps[t]? = _
    rw [ih _ U t (fun h => ht (List.mem_cons_of_mem _ h)), put_tmps_other _ _ (fun e => by subst e; exact ht (List.mem_cons_self ..))]
theorem putAll_mem (a : Act) : ∀ (sls : List Nat) (U : Nat → Value) (t : Nat), t ∈ sls → t < a.tmps.size → (putAll a sls U).tmps[t]? = some (U t) := by
  intro sls
  induction sls generalizing a with
  | nil => intro U t h; cases h
  | cons s l ih =>
    intro U t ht hsz
    show (putAll (a.put (some s) (U s)) l U).tmps[t]? = _
    by_cases hl : t ∈ l
    · exact ih _ U t hl (by rw [put_size]; exact hsz)
    · rw [putAll_other _ l U t hl]
      rcases List.mem_cons.1 ht with rfl | h
      · exact put_tmps_same _ _ _ hsz
      · exact absurd h hl
theorem act_ext {a b : Act} (hd : a.defers = b.defers) (hs : a.tmps.size = b.tmps.size) (ht : ∀ t : Nat, a.tmps[t]? = b.tmps[t]?) : a = b := by
  cases a; cases b
  simp only at hd hs ht
  subst hd
  congr 1
  exact Array.ext_getElem? ht
theorem putAll_upd (a : Act) (sls : List Nat) (U : Nat → Value) (s : Nat) (v : Value) (hs : s ∈ sls) (hsz : s < a.tmps.size) : (putAll a sls U).put (some s) v = putAll a sls (upd U s v) := by
  refine act_ext ?_ ?_ ?_
  · rw [putAll_defers]; show (putAll a sls U).defers = _; rw [putAll_defers]
  · rw [put_size, putAll_size, putAll_size]
  · intro t
    by_cases e : t = s
    · subst e
      rw [put_tmps_same _ _ _ (by rw [putAll_size]; exact hsz), putAll_mem _ _ _ _ hs hsz]
      simp [upd]
    · rw [put_tmps_other _ _ e]
      by_cases ht : t ∈ sls
      · by_cases hl : t < a.tmps.size
        · rw [putAll_mem _ _ _ _ ht hl, putAll_mem _ _ _ _ ht hl]
          have e' : (t == s) = false := by simp [e]
          simp [upd, e']
        · rw [Array.getElem?_eq_none (by rw [putAll_size]; omega), Array.getElem?_eq_none (by rw [putAll_size]; omega)]
      · rw [putAll_other _ _ _ _ ht, putAll_other _ _ _ _ ht]
/-- The law: 'prs' tells of each operation what its slot holds once it has run. -/
theorem wp_region_K {P : Program} {ops : Array Oper} {Q : Exit → Act → World → Prop} {id : Nat} {l : List Value} {d : List Deferred} {W : World} (hm : P.follows .mixedOrders = true) (sls : List Nat) (mask : List (Option Nat)) (hmask : ∀ U, putAll ⟨l.toArray, d⟩ sls U = ⟨(setM U mask l).toArray, d⟩)
    (prs : List (Value → World → Prop)) (hdst : ops.toList.map (·.dst) = sls.map some) (hnd : sls.Nodup) (hsz : sls.all (fun s => decide (s < l.length)) = true) (hord : inOrder 0 ops.toList = true)
    (hmono : ∀ p ∈ prs, ∀ u w w', Below w.heap.size w w' → p u w → p u w') (hs : StepsK P ops Q ⟨l.toArray, d⟩ sls W prs 0 ops.toList)
    (hd : ∀ U w', Below W.heap.size W w' → (∀ i, i < ops.size → prs.getD i (fun _ _ => True) (U (sls.getD i 0)) w') → Q .normal ⟨(setM U mask l).toArray, d⟩ w') : (Code.region id ops true).wp P Q ⟨l.toArray, d⟩ W := by
  have hlen : sls.length = ops.size := by
    have := congrArg List.length hdst
    simpa using this.symm
  have hmono' : ∀ i u w w', Below w.heap.size w w' → prs.getD i (fun _ _ => True) u w → prs.getD i (fun _ _ => True) u w' := by
    intro i u w w' hb hp
    by_cases hi : i < prs.length
    · rw [List.getD_eq_getElem?_getD, List.getElem?_eq_getElem hi] at hp ⊢
      exact hmono _ (List.getElem_mem hi) u w w' hb hp
    · rw [List.getD_eq_getElem?_getD, List.getElem?_eq_none (by omega)]; trivial
  have hgd : ∀ i, i < sls.length → sls.getD i 0 ∈ sls := fun i hi => by
    rw [List.getD_eq_getElem?_getD, List.getElem?_eq_getElem hi]; exact List.getElem_mem hi
  have hlt : ∀ s ∈ sls, s < (⟨l.toArray, d⟩ : Act).tmps.size := fun s hs => by
    have := List.all_eq_true.1 hsz s hs
    simpa using this
  have hinj : ∀ i j, i < sls.length → j < sls.length → sls.getD i 0 = sls.getD j 0 → i = j := by
    intro i j hi hj e
    rw [List.getD_eq_getElem?_getD, List.getD_eq_getElem?_getD, List.getElem?_eq_getElem hi, List.getElem?_eq_getElem hj] at e
    simp only [Option.getD_some] at e
    rcases Nat.lt_trichotomy i j with h | h | h
    · exact absurd e (List.pairwise_iff_getElem.1 hnd i j hi hj h)
    · exact h
    · exact absurd e.symm (List.pairwise_iff_getElem.1 hnd j i hj hi h)
  have hat : ∀ (k : Nat) (o : Oper), ops.toList[k]? = some o → o.dst = some (sls.getD k 0) ∧ k < sls.length := by
    intro k o ho
    have hk : k < ops.toList.length := (List.getElem?_eq_some_iff.1 ho).1
    have h1 : (ops.toList.map (·.dst))[k]? = some o.dst := by rw [List.getElem?_map, ho]; rfl
    have hk2 : k < sls.length := by rw [hlen]; simpa using hk
    rw [hdst, List.getElem?_map, List.getElem?_eq_getElem hk2] at h1
    rw [List.getD_eq_getElem?_getD, List.getElem?_eq_getElem hk2]
    exact ⟨by simpa using h1.symm, hk2⟩
  let I : (Nat → Bool) → Act → World → Prop := fun L a' w' => ∃ U, a' = putAll ⟨l.toArray, d⟩ sls U ∧ Below W.heap.size W w' ∧ (∀ i, L i = true → i < sls.length) ∧ ∀ i, L i = true → prs.getD i (fun _ _ => True) (U (sls.getD i 0)) w'
  have steps : ∀ (os : List Oper) (k : Nat), (∀ j o, os[j]? = some o → ops.toList[k + j]? = some o) → StepsK P ops Q ⟨l.toArray, d⟩ sls W prs k os → StepsOK P ops Q I k os := by
    intro os
    induction os with
    | nil => intro k _ _; trivial
    | cons o os ih =>
      intro k hk hst
      refine ⟨?_, ih (k + 1) (fun j o' hj => by have := hk (j + 1) o' (by simpa using hj); rw [← this]; congr 1; omega) hst.2⟩
      obtain ⟨hdo, hkl⟩ := hat k o (by simpa using hk 0 o rfl)
      rintro L _ w ⟨U, rfl, hb, hLl, hP⟩ hlk haf K hK
      have fin : ∀ v w', prs.getD k (fun _ _ => True) v w' → Below w.heap.size w w' → K ((putAll ⟨l.toArray, d⟩ sls U).put o.dst v) w' := by
        intro v w' hv hb'
        refine hK _ _ ⟨upd U (sls.getD k 0) v, by rw [hdo]; exact putAll_upd _ _ _ _ _ (hgd k hkl) (hlt _ (hgd k hkl)), hb.trans (hb'.mono hb.size), ?_, ?_⟩
        · intro i hi
          by_cases e : i = k
          · subst e; exact hkl
          · have : L i = true := by simpa [e] using hi
            exact hLl i this
        · intro i hi
          by_cases e : i = k
          · subst e; simp [upd, hv]
          · have hLi : L i = true := by simpa [e] using hi
            have hne : sls.getD i 0 ≠ sls.getD k 0 := fun e2 => e (hinj i k (hLl i hLi) hkl e2)
            have e3 : (sls.getD i 0 == sls.getD k 0) = false := by simp only [beq_eq_false_iff_ne]; exact hne
            have : upd U (sls.getD k 0) v (sls.getD i 0) = U (sls.getD i 0) := by unfold upd; rw [e3]; rfl
            rw [this]
            exact hmono' i _ _ _ hb' (hP i hLi)
      exact (hst.1 L U w hb hP haf _ K ⟨fun i hi => putAll_mem _ _ _ _ (hgd i hi) (hlt _ (hgd i hi)), fun s hs => putAll_other _ _ _ _ (by simpa using hs)⟩ fin).out
  refine wp_region_inv hm I hord ⟨fun s => (⟨l.toArray, d⟩ : Act).tmps.getD s undef, (putAll_self _ _).symm, (Below.refl _ _).drew, (fun _ h => by cases h), (fun _ h => by cases h)⟩ ?_ (steps ops.toList 0 (fun j o h => by simpa using h) hs)
  rintro L _ w' ⟨U, rfl, hb, _, hP⟩ hall
  rw [hmask]
  exact hd U w' hb (fun i hi => hP i (hall i hi))
end Go.Proofs.YteefniagebcagaaGreatDoor
