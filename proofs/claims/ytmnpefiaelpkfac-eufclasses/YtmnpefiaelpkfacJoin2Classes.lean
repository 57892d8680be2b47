/- Joined: Reg, Reg4, Reg5, EufN: words and contracts; no statement of the seat is proved here. -/
import Derived.WalkKit
import Derived.RegionTactic
import Derived.Test.YtmnpefiaelpkfacJoin1Classes
import Derived.Deep.CutRange
/- A region that draws its order, by what holds at any time: one step for each operation, whatever came ahead of it; no statement of the seat is proved here. -/
namespace Go.Proofs.Ytmnpefiaelpkfac
open Go Go.RowKit

/-- All that the operation waits for is listed. -/
def Aft (o : Oper) (L : Nat → Bool) : Bool := o.after.toList.all fun e => !Region.binds .any e || L e.on
/-- One step, whenever operation k may come up. -/
def StepOK (P : Program) (ops : Array Oper) (Q : Exit → Act → World → Prop) (I : (Nat → Bool) → Act → World → Prop) (k : Nat) (o : Oper) : Prop :=
  ∀ L a w, I L a w → L k = false → Aft o L = true → ∀ K : Act → World → Prop, (∀ a' w', I (fun j => j == k || L j) a' w' → K a' w') →
    if Region.wanted o (yielded ops a.tmps) = true then Oper.wp P o a w K Q else K (a.put o.dst undef) w
def StepsOK (P : Program) (ops : Array Oper) (Q : Exit → Act → World → Prop) (I : (Nat → Bool) → Act → World → Prop) : Nat → List Oper → Prop
  | _, [] => True
  | k, o :: os => StepOK P ops Q I k o ∧ StepsOK P ops Q I (k + 1) os
/-- What is waited for stands ahead. -/
def inOrder : Nat → List Oper → Bool
  | _, [] => true
  | k, o :: os => (o.after.toList.all fun e => !Region.binds .any e || decide (e.on < k)) && inOrder (k + 1) os

theorem cnt_lt {p q : Nat → Bool} : ∀ {l : List Nat}, (∀ x, p x = true → q x = true) → ∀ {i : Nat}, i ∈ l → q i = true → p i = false → l.countP p < l.countP q
  | [], _, _, hi, _, _ => by cases hi
  | x :: l, h, i, hi, hq, hp => by
    have hle : l.countP p ≤ l.countP q := List.countP_mono_left (fun y _ hy => h y hy)
    rcases List.mem_cons.1 hi with e | e
    · subst e
      simp only [List.countP_cons, hq, hp]
      simp
      omega
    · have ih := cnt_lt (l := l) h e hq hp
      simp only [List.countP_cons]
      cases hx : p x with
      | false => simp; split <;> omega
      | true => simp [h x hx]; omega

theorem steps_at {P : Program} {ops : Array Oper} {Q : Exit → Act → World → Prop} {I : (Nat → Bool) → Act → World → Prop} : ∀ {l : List Oper} {k i : Nat} {o : Oper}, StepsOK P ops Q I k l → l[i]? = some o → StepOK P ops Q I (k + i) o
  | [], _, _, _, _, h => by simp at h
  | x :: l, k, 0, o, h, hi => by simp at hi; subst hi; exact h.1
  | x :: l, k, i + 1, o, h, hi => by
    have := steps_at (i := i) h.2 (by simpa using hi)
    rw [Nat.add_assoc, Nat.add_comm 1 i] at this
    exact this
theorem order_at : ∀ {l : List Oper} {k i : Nat} {o : Oper}, inOrder k l = true → l[i]? = some o → (o.after.toList.all fun e => !Region.binds .any e || decide (e.on < k + i)) = true
  | [], _, _, _, _, h => by simp at h
  | x :: l, k, 0, o, h, hi => by
    simp at hi; subst hi
    unfold inOrder at h
    exact (Bool.and_eq_true_iff.1 h).1
  | x :: l, k, i + 1, o, h, hi => by
    unfold inOrder at h
    have := order_at (i := i) (Bool.and_eq_true_iff.1 h).2 (by simpa using hi)
    rw [Nat.add_assoc, Nat.add_comm 1 i] at this
    exact this

theorem ready_iff {ops : Array Oper} {listed : Array Bool} {i : Nat} : i ∈ Region.ready .any ops listed ↔ i < ops.size ∧ listed.getD i true = false ∧ ∃ o, ops[i]? = some o ∧ Aft o (fun j => listed.getD j false) = true := by
  unfold Region.ready Aft
  simp only [List.mem_filter, List.mem_range, Bool.and_eq_true, Bool.not_eq_true']
  constructor
  · rintro ⟨h1, h2, h3⟩
    refine ⟨h1, h2, ops[i], by simp [h1], ?_⟩
    simpa [h1] using h3
  · rintro ⟨h1, h2, o, h3, h4⟩
    refine ⟨h1, h2, ?_⟩
    rw [h3]
    simpa using h4

theorem wpAny_inv {P : Program} {ops : Array Oper} {Q : Exit → Act → World → Prop} (I : (Nat → Bool) → Act → World → Prop) (hord : inOrder 0 ops.toList = true) (hs : StepsOK P ops Q I 0 ops.toList)
    (hd : ∀ L a w, I L a w → (∀ i, i < ops.size → L i = true) → Q .normal a w) : ∀ (fuel : Nat) (listed : Array Bool) (a : Act) (w : World), listed.size = ops.size → (List.range ops.size).countP (fun i => !listed.getD i true) ≤ fuel → I (fun j => listed.getD j false) a w → wpAny P .any ops Q fuel listed a w := by
  have same : ∀ (listed : Array Bool) i, i < listed.size → listed.getD i true = listed.getD i false := by
    intro listed i hi
    simp [Array.getD, hi]
  have none_ready : ∀ (listed : Array Bool), listed.size = ops.size → Region.ready .any ops listed = [] → ∀ i, i < ops.size → listed.getD i false = true := by
    intro listed hsz hr i
    induction i using Nat.strongRecOn with
    | ind i ih =>
      intro hi
      cases hb : listed.getD i false with
      | true => rfl
      | false =>
        exfalso
        have ho : ops[i]? = some ops[i] := by simp [hi]
        have h1 := order_at (i := i) (o := ops[i]) hord (by rw [Array.getElem?_toList]; exact ho)
        have : i ∈ Region.ready .any ops listed := by
          refine ready_iff.2 ⟨hi, by rw [same listed i (by omega)]; exact hb, ops[i], ho, ?_⟩
          unfold Aft
          rw [List.all_eq_true] at h1 ⊢
          intro e he
          have h2 := h1 e he
          simp only [Bool.or_eq_true, decide_eq_true_eq, Nat.zero_add] at h2 ⊢
          rcases h2 with h2 | h2
          · exact Or.inl h2
          · exact Or.inr (ih e.on h2 (by omega))
        rw [hr] at this
        cases this
  intro fuel
  induction fuel with
  | zero =>
    intro listed a w hsz hc hI
    have hall : ∀ i, i < ops.size → listed.getD i true = true := by
      intro i hi
      have h0 := Nat.le_zero.1 hc
      rw [List.countP_eq_zero] at h0
      have := h0 i (List.mem_range.2 hi)
      simpa using this
    refine ⟨?_, hd _ _ _ hI (fun i hi => by rw [← same listed i (by omega)]; exact hall i hi)⟩
    rw [List.eq_nil_iff_forall_not_mem]
    intro i hi
    obtain ⟨h1, h2, _⟩ := ready_iff.1 hi
    rw [hall i h1] at h2
    cases h2
  | succ fuel ih =>
    intro listed a w hsz hc hI
    refine ⟨fun hr => hd _ _ _ hI (none_ready listed hsz hr), fun i hi => ?_⟩
    obtain ⟨h1, h2, o, ho, haf⟩ := ready_iff.1 hi
    have hst := steps_at (i := i) hs (by simpa using ho)
    rw [Nat.zero_add] at hst
    refine wpOp_step ho (fun K hK => hst _ a w hI (by rw [← same listed i (by omega)]; exact h2) haf K (fun a' w' h' => hK a' w' ?_))
    refine ih _ a' w' (by simpa using hsz) ?_ ?_
    · have := cnt_lt (p := fun j => !(listed.setIfInBounds i true).getD j true) (q := fun j => !listed.getD j true) (l := List.range ops.size) (i := i) ?_ (List.mem_range.2 h1) (by simp [h2]) ?_
      · omega
      · intro x hx
        by_cases hxi : x = i
        · subst hxi; simp [h2]
        · simp only [Bool.not_eq_true'] at hx ⊢
          by_cases hxs : x < listed.size
          · simp [Array.getD, hxs, Ne.symm hxi] at hx ⊢; exact hx
          · simp [Array.getD, hxs] at hx
      · simp [Array.getD, show i < listed.size by omega]
    · have e : (fun j => (listed.setIfInBounds i true).getD j false) = (fun j => j == i || listed.getD j false) := by
        funext x
        by_cases hxi : x = i
        · subst hxi; simp [Array.getD, show x < listed.size by omega]
        · by_cases hxs : x < listed.size
          · simp [Array.getD, hxs, Ne.symm hxi, hxi]
          · simp [Array.getD, hxs, hxi]
      rw [e]
      exact h'

/-- A region that draws its order, by what holds at any time. -/
theorem wp_region_inv {P : Program} {ops : Array Oper} {Q : Exit → Act → World → Prop} {id : Nat} {a : Act} {w : World} (hm : P.follows .mixedOrders = true) (I : (Nat → Bool) → Act → World → Prop)
    (hord : inOrder 0 ops.toList = true) (h0 : I (fun _ => false) a w.drew) (hd : ∀ L a w, I L a w → (∀ i, i < ops.size → L i = true) → Q .normal a w) (hs : StepsOK P ops Q I 0 ops.toList) : (Code.region id ops true).wp P Q a w := by
  refine wp_region_any hm (wpAny_inv I hord hs hd ops.size _ a _ (by simp) ?_ ?_)
  · refine Nat.le_trans List.countP_le_length ?_
    simp
  · have e : (fun j => (Array.replicate ops.size false).getD j false) = fun _ => false := by
      funext x
      simp [Array.getD]
    rw [e]
    exact h0

/-- Slot s holds v from now on. -/
def upd (U : Nat → Value) (s : Nat) (v : Value) : Nat → Value := fun t => bif t == s then v else U t
/-- The frame a, with what U says in the slots. -/
def putAll (a : Act) (slots : List Nat) (U : Nat → Value) : Act := slots.foldl (fun b s => b.put (some s) (U s)) a
theorem putAll_self (a : Act) : ∀ (slots : List Nat), putAll a slots (fun s => a.tmps.getD s undef) = a := by
  intro slots
  induction slots with
  | nil => rfl
  | cons s l ih =>
    have e : a.put (some s) (a.tmps.getD s undef) = a := by
      unfold Act.put
      simp only
      have : a.tmps.setIfInBounds s (a.tmps.getD s undef) = a.tmps := by
        apply Array.ext
        · simp
        · intro i h1 h2
          rw [Array.getElem_setIfInBounds]
          split
          · rename_i h; subst h; simp [Array.getD, h2]
          · rfl
      rw [this]
    unfold putAll at ih ⊢
    rw [List.foldl_cons, e]
    exact ih

/-- A goal that is not looked into. -/
structure Gate (p : Prop) : Prop where
  out : p
/-- A frame's slots, those of the mask by U. -/
def setM (U : Nat → Value) : List (Option Nat) → List Value → List Value
  | [], l => l
  | some s :: m, _ :: l => U s :: setM U m l
  | none :: m, v :: l => v :: setM U m l
  | _ :: _, [] => []
theorem setM_nil (U : Nat → Value) (l : List Value) : setM U [] l = l := by unfold setM; rfl
theorem setM_some (U : Nat → Value) (s : Nat) (m : List (Option Nat)) (v : Value) (l : List Value) : setM U (some s :: m) (v :: l) = U s :: setM U m l := by rw [setM]
theorem setM_none (U : Nat → Value) (m : List (Option Nat)) (v : Value) (l : List Value) : setM U (none :: m) (v :: l) = v :: setM U m l := by rw [setM]
end Go.Proofs.Ytmnpefiaelpkfac
/- A region that draws its order and leaves all that lay there: one predicate for each operation's slot, moved on by one law; no statement of the seat is proved here. -/
namespace Go.Proofs.Ytmnpefiaelpkfac
open Go.RowKit
set_option linter.unusedVariables false

section
variable {P : Program} {ops : Array Oper} {Q : Exit → Act → World → Prop} {a : Act} {sls : List Nat} {W : World} {prs : List (Value → World → Prop)} {k : Nat} {o : Oper} {os : List Oper}
end
theorem put_tmps_same (a : Act) (s : Nat) (v : Value) (h : s < a.tmps.size) : (a.put (some s) v).tmps[s]? = some v := by simp [Act.put, h]
theorem put_tmps_other (a : Act) {s t : Nat} (v : Value) (h : t ≠ s) : (a.put (some s) v).tmps[t]? = a.tmps[t]? := by simp [Act.put, Ne.symm h]
theorem put_size (a : Act) (s : Nat) (v : Value) : (a.put (some s) v).tmps.size = a.tmps.size := by simp [Act.put]
theorem putAll_size (a : Act) : ∀ (sls : List Nat) (U : Nat → Value), (putAll a sls U).tmps.size = a.tmps.size := by
  intro sls
  induction sls generalizing a with
  | nil => intro U; rfl
  | cons s l ih => intro U; show (putAll (a.put (some s) (U s)) l U).tmps.size = _; rw [ih, put_size]
theorem putAll_defers (a : Act) : ∀ (sls : List Nat) (U : Nat → Value), (putAll a sls U).defers = a.defers := by
  intro sls
  induction sls generalizing a with
  | nil => intro U; rfl
  | cons s l ih => intro U; show (putAll (a.put (some s) (U s)) l U).defers = _; rw [ih]; rfl
theorem putAll_other (a : Act) : ∀ (sls : List Nat) (U : Nat → Value) (t : Nat), t ∉ sls → (putAll a sls U).tmps[t]? = a.tmps[t]? := by
  intro sls
  induction sls generalizing a with
  | nil => intro U t _; rfl
  | cons s l ih =>
    intro U t ht
    show (putAll (a.put (some s) (U s)) l U).tmps[t]? = _
    rw [ih _ U t (fun h => ht (List.mem_cons_of_mem _ h)), put_tmps_other _ _ (fun e => by subst e; exact ht (List.mem_cons_self ..))]
theorem putAll_mem (a : Act) : ∀ (sls : List Nat) (U : Nat → Value) (t : Nat), t ∈ sls → t < a.tmps.size → (putAll a sls U).tmps[t]? = some (U t) := by
  intro sls
  induction sls generalizing a with
  | nil => intro U t h; cases h
  | cons s l ih =>
    intro U t ht hsz
    show (putAll (a.put (some s) (U s)) l U).tmps[t]? = _
    by_cases hl : t ∈ l
    · exact ih _ U t hl (by rw [put_size]; exact hsz)
    · rw [putAll_other _ l U t hl]
      rcases List.mem_cons.1 ht with rfl | h
      · exact put_tmps_same _ _ _ hsz
      · exact absurd h hl
theorem act_ext {a b : Act} (hd : a.defers = b.defers) (hs : a.tmps.size = b.tmps.size) (ht : ∀ t : Nat, a.tmps[t]? = b.tmps[t]?) : a = b := by
  cases a; cases b
  simp only at hd hs ht
  subst hd
  congr 1
  exact Array.ext_getElem? ht
theorem putAll_upd (a : Act) (sls : List Nat) (U : Nat → Value) (s : Nat) (v : Value) (hs : s ∈ sls) (hsz : s < a.tmps.size) : (putAll a sls U).put (some s) v = putAll a sls (upd U s v) := by
  refine act_ext ?_ ?_ ?_
  · rw [putAll_defers]; show (putAll a sls U).defers = _; rw [putAll_defers]
  · rw [put_size, putAll_size, putAll_size]
  · intro t
    by_cases e : t = s
    · subst e
      rw [put_tmps_same _ _ _ (by rw [putAll_size]; exact hsz), putAll_mem _ _ _ _ hs hsz]
      simp [upd]
    · rw [put_tmps_other _ _ e]
      by_cases ht : t ∈ sls
      · by_cases hl : t < a.tmps.size
        · rw [putAll_mem _ _ _ _ ht hl, putAll_mem _ _ _ _ ht hl]
          have e' : (t == s) = false := by simp [e]
          simp [upd, e']
        · rw [Array.getElem?_eq_none (by rw [putAll_size]; omega), Array.getElem?_eq_none (by rw [putAll_size]; omega)]
      · rw [putAll_other _ _ _ _ ht, putAll_other _ _ _ _ ht]
end Go.Proofs.Ytmnpefiaelpkfac
/- A region that draws its order, with some operations that write: one predicate for each slot, and what holds of the world by what has run; no statement of the seat is proved here. -/
namespace Go.Proofs.Ytmnpefiaelpkfac
open Go.RowKit
set_option linter.unusedVariables false

/-- Slot s, if any, holds v from now on. -/
def updO (U : Nat → Value) (s : Option Nat) (v : Value) : Nat → Value := match s with | some t => upd U t v | none => U
structure Frm5 (a : Act) (sls : List (Option Nat)) (U : Nat → Value) (A : Act) : Prop where
  got : ∀ (i s : Nat), sls[i]? = some (some s) → A.tmps[s]? = some (U s)
  old : ∀ s : Nat, (sls.contains (some s)) = false → A.tmps[s]? = a.tmps[s]?
abbrev CW5 := (Nat → Bool) → (Nat → Value) → World → Prop
def StepE (P : Program) (ops : Array Oper) (Q : Exit → Act → World → Prop) (a : Act) (sls : List (Option Nat)) (prs : List (Value → Prop)) (C : CW5) (k : Nat) (o : Oper) : Prop :=
  ∀ L U w, C L U w → (∀ (i s : Nat), L i = true → sls[i]? = some (some s) → prs.getD i (fun _ => True) (U s)) → L k = false → (∀ (i : Nat) (o' : Oper), ops.toList[i]? = some o' → L i = true → Aft o' L = true) → Aft o L = true → ∀ (A : Act) (K : Act → World → Prop), Frm5 a sls U A →
    (∀ v w', prs.getD k (fun _ => True) v → C (fun j => j == k || L j) (updO U o.dst v) w' → K (A.put o.dst v) w') → Gate (if Region.wanted o (yielded ops A.tmps) = true then Oper.wp P o A w K Q else K (A.put o.dst undef) w)
def StepsE (P : Program) (ops : Array Oper) (Q : Exit → Act → World → Prop) (a : Act) (sls : List (Option Nat)) (prs : List (Value → Prop)) (C : CW5) : Nat → List Oper → Prop
  | _, [] => True
  | k, o :: os => StepE P ops Q a sls prs C k o ∧ StepsE P ops Q a sls prs C (k + 1) os
section
variable {P : Program} {ops : Array Oper} {Q : Exit → Act → World → Prop} {a : Act} {sls : List (Option Nat)} {prs : List (Value → Prop)} {C : CW5} {k : Nat} {o : Oper} {os : List Oper}
theorem StepsE.nil : StepsE P ops Q a sls prs C k [] := trivial
theorem StepsE.run (hg : o.guard = none) (h : ∀ L U w, C L U w → (∀ (i s : Nat), L i = true → sls[i]? = some (some s) → prs.getD i (fun _ => True) (U s)) → L k = false → (∀ (i : Nat) (o' : Oper), ops.toList[i]? = some o' → L i = true → Aft o' L = true) → Aft o L = true → ∀ (A : Act) (K : Act → World → Prop), Frm5 a sls U A →
    (∀ v w', prs.getD k (fun _ => True) v → C (fun j => j == k || L j) (updO U o.dst v) w' → K (A.put o.dst v) w') → Gate (Oper.wp P o A w K Q)) (hs : StepsE P ops Q a sls prs C (k + 1) os) : StepsE P ops Q a sls prs C k (o :: os) := by
  refine ⟨fun L U w h1 h2 h3 h4 h5 A K hA hK => ⟨?_⟩, hs⟩
  rw [if_pos (by simp [Region.wanted, hg])]
  exact (h L U w h1 h2 h3 h4 h5 A K hA hK).out
end
theorem Frm5.is {a : Act} {sls : List (Option Nat)} {U : Nat → Value} {A : Act} (h : Frm5 a sls U A) (i s : Nat) (hi : sls[i]? = some (some s)) {v : Value} (hv : U s = v) : A.tmps[s]? = some v := by rw [h.got i s hi, hv]
def slotsOf (sls : List (Option Nat)) : List Nat := sls.filterMap id
theorem mem_slotsOf {sls : List (Option Nat)} {s : Nat} : s ∈ slotsOf sls ↔ some s ∈ sls := by simp [slotsOf]
theorem aft_mono {o : Oper} {L L' : Nat → Bool} (h : ∀ i, L i = true → L' i = true) (ha : Aft o L = true) : Aft o L' = true := by
  unfold Aft at ha ⊢
  rw [List.all_eq_true] at ha ⊢
  intro e he
  have := ha e he
  simp only [Bool.or_eq_true, Bool.not_eq_true'] at this ⊢
  exact this.imp id (h _)
theorem wp_region_E {P : Program} {ops : Array Oper} {Q : Exit → Act → World → Prop} {id : Nat} {l : List Value} {d : List Deferred} {W : World} (hm : P.follows .mixedOrders = true) (sls : List (Option Nat)) (mask : List (Option Nat)) (hmask : ∀ U, putAll ⟨l.toArray, d⟩ (slotsOf sls) U = ⟨(setM U mask l).toArray, d⟩)
    (prs : List (Value → Prop)) (C : CW5) (hdst : ops.toList.map (·.dst) = sls) (hnd : (slotsOf sls).Nodup) (hsz : (slotsOf sls).all (fun s => decide (s < l.length)) = true) (hord : inOrder 0 ops.toList = true)
    (h0 : ∀ U, C (fun _ => false) U W.drew) (hs : StepsE P ops Q ⟨l.toArray, d⟩ sls prs C 0 ops.toList)
    (hd : ∀ L U w', (∀ i, i < ops.size → L i = true) → C L U w' → (∀ (i s : Nat), sls[i]? = some (some s) → prs.getD i (fun _ => True) (U s)) → Q .normal ⟨(setM U mask l).toArray, d⟩ w') : (Code.region id ops true).wp P Q ⟨l.toArray, d⟩ W := by
  have hlen : sls.length = ops.size := by rw [← hdst]; simp
  have hlt : ∀ s ∈ slotsOf sls, s < (⟨l.toArray, d⟩ : Act).tmps.size := fun s hs => by
    have := List.all_eq_true.1 hsz s hs
    simpa using this
  have hat : ∀ (k : Nat) (o : Oper), ops.toList[k]? = some o → sls[k]? = some o.dst := by
    intro k o ho
    rw [← hdst, List.getElem?_map, ho]; rfl
  have hinj : ∀ (sls : List (Option Nat)), (slotsOf sls).Nodup → ∀ (i j s : Nat), sls[i]? = some (some s) → sls[j]? = some (some s) → i = j := by
    intro sls
    induction sls with
    | nil => intro _ i j s h; simp at h
    | cons x sls ih =>
      intro hn i j s hi hj
      cases x with
      | none =>
        have hn' : (slotsOf sls).Nodup := by simpa [slotsOf] using hn
        cases i with
        | zero => simp at hi
        | succ i =>
          cases j with
          | zero => simp at hj
          | succ j => rw [ih hn' i j s (by simpa using hi) (by simpa using hj)]
      | some y =>
        have hn' : y ∉ slotsOf sls ∧ (slotsOf sls).Nodup := by
          have : slotsOf (some y :: sls) = y :: slotsOf sls := by simp [slotsOf]
          rw [this] at hn
          exact List.nodup_cons.1 hn
        have mem : ∀ k, sls[k]? = some (some s) → s ∈ slotsOf sls := fun k hk => mem_slotsOf.2 (List.mem_of_getElem? hk)
        cases i with
        | zero =>
          cases j with
          | zero => rfl
          | succ j =>
            simp at hi hj
            subst hi
            exact absurd (mem j hj) hn'.1
        | succ i =>
          cases j with
          | zero =>
            simp at hi hj
            subst hj
            exact absurd (mem i hi) hn'.1
          | succ j => rw [ih hn'.2 i j s (by simpa using hi) (by simpa using hj)]
  let I : (Nat → Bool) → Act → World → Prop := fun L a' w' => ∃ U, a' = putAll ⟨l.toArray, d⟩ (slotsOf sls) U ∧ C L U w' ∧ (∀ (i : Nat) (o' : Oper), ops.toList[i]? = some o' → L i = true → Aft o' L = true) ∧ ∀ (i s : Nat), L i = true → sls[i]? = some (some s) → prs.getD i (fun _ => True) (U s)
  have steps : ∀ (os : List Oper) (k : Nat), (∀ j o, os[j]? = some o → ops.toList[k + j]? = some o) → StepsE P ops Q ⟨l.toArray, d⟩ sls prs C k os → StepsOK P ops Q I k os := by
    intro os
    induction os with
    | nil => intro k _ _; trivial
    | cons o os ih =>
      intro k hk hst
      refine ⟨?_, ih (k + 1) (fun j o' hj => by have := hk (j + 1) o' (by simpa using hj); rw [← this]; congr 1; omega) hst.2⟩
      have hko : ops.toList[k]? = some o := by simpa using hk 0 o rfl
      have hdo := hat k o hko
      rintro L _ w ⟨U, rfl, hC, hcl, hP⟩ hlk haf K hK
      have fin : ∀ v w', prs.getD k (fun _ => True) v → C (fun j => j == k || L j) (updO U o.dst v) w' → K ((putAll ⟨l.toArray, d⟩ (slotsOf sls) U).put o.dst v) w' := by
        intro v w' hv hC'
        refine hK _ _ ⟨updO U o.dst v, ?_, hC', ?_, ?_⟩
        · cases hd9 : o.dst with
          | none => rfl
          | some s =>
            have : s ∈ slotsOf sls := mem_slotsOf.2 (List.mem_of_getElem? (by rw [hdo, hd9]))
            exact putAll_upd _ _ _ _ _ this (hlt _ this)
        · intro i o' ho' hi
          by_cases e : i = k
          · subst e
            rw [hko] at ho'
            cases ho'
            exact aft_mono (fun j hj => by simp [hj]) haf
          · have hLi : L i = true := by simpa [e] using hi
            exact aft_mono (fun j hj => by simp [hj]) (hcl i o' ho' hLi)
        · intro i s hi his
          by_cases e : i = k
          · subst e
            rw [hdo] at his
            injection his with his
            rw [his]
            simp [updO, upd, hv]
          · have hLi : L i = true := by simpa [e] using hi
            have : updO U o.dst v s = U s := by
              cases hd9 : o.dst with
              | none => rfl
              | some t =>
                have hne : s ≠ t := fun e2 => e (hinj sls hnd i k s his (by rw [hdo, hd9, e2]))
                have e3 : (s == t) = false := by simp [hne]
                simp [updO, upd, e3]
            rw [this]
            exact hP i s hLi his
      exact (hst.1 L U w hC hP hlk hcl haf _ K ⟨fun i s hi => putAll_mem _ _ _ _ (mem_slotsOf.2 (List.mem_of_getElem? hi)) (hlt _ (mem_slotsOf.2 (List.mem_of_getElem? hi))), fun s hs => putAll_other _ _ _ _ (fun hm => by rw [mem_slotsOf] at hm; simp [hm] at hs)⟩ fin).out
  refine wp_region_inv hm I hord ⟨fun s => (⟨l.toArray, d⟩ : Act).tmps.getD s undef, (putAll_self _ _).symm, h0 _, (fun _ _ _ h => by cases h), (fun _ _ h => by cases h)⟩ ?_ (steps ops.toList 0 (fun j o h => by simpa using h) hs)
  rintro L _ w' ⟨U, rfl, hC, _, hP⟩ hall
  rw [hmask]
  exact hd L U w' hall hC (fun i s his => hP i s (hall i (by have := (List.getElem?_eq_some_iff.1 his).1; omega)) his)
end Go.Proofs.Ytmnpefiaelpkfac
/- The contract of merge, ahead of its loops; it proves no statement of the seat. -/
namespace Go.Proofs.Ytmnpefiaelpkfac
open Go.RowKit
set_option linter.unusedVariables false
namespace Euf
/-- What 'merge' leaves. -/
def MergeEnd (g : Nat) (x : Lx) (f : Fx) (m : Nat) (y : Ly) (s : Sx) (c : Claim) (w w' : World) : Prop :=
  ∃ (a b n : Nat) (y' : Ly), ((a = c.a ∧ b = c.b) ∨ (a = c.b ∧ b = c.a)) ∧ (s.S a).cls ≠ (s.S b).cls ∧ Ups s.S (a : Int) n ∧
    CW w' g x f m y' { s with S := mergeS s.S a b c.why n, sg := (mergeX f.P s.S s.sg s.cl a b c.why n).1, cl := (mergeX f.P s.S s.sg s.cl a b c.why n).2 } ∧ Mv (Ft g x y s.ns) w w' ∧ (∀ b, Ft g x y' s.ns b → Ft g x y s.ns b ∨ w.heap.size ≤ b)
theorem ring_le {ns : Nat} {S : Nat → Spot} {c : Nat} {l : List Nat} (h : Ring ns S c l) : (S c).size ≤ ns := by
  rw [← h.len]
  exact nodup_le ns l h.nodup (fun i hi => ((h.mem i).1 hi).1)

set_option maxRecDepth 20000 in
set_option maxHeartbeats 8000000 in
theorem merge_any (g : Nat) (x : Lx) (f : Fx) (m : Nat) (y : Ly) (s : Sx) (c : Claim) (w : World) (h : CW w g x f m y s) (hI : Inv f.np f.P s.ns s.S s.sg (s.cl ++ [c]) []) (hne : (s.S c.a).cls ≠ (s.S c.b).cls) (hmu : s.cl.length ≤ 400000000) :
    Calls Try.prog 44 #[.pointer (some ⟨g, 0, none⟩), .agg #[.int .i64 (c.a : Nat), .int .i64 (c.b : Nat), .int .i64 c.why]] w fun e w' => e = .returned (.tuple #[]) ∧ MergeEnd g x f m y s c w w' := by
  have hcc := hI.cls c (by simp)
  obtain ⟨ha, hb⟩ := hcc
  have hfa := hI.lt _ ha
  have hfb := hI.lt _ hb
  obtain ⟨gs, cap, hv, hc1, hc2⟩ := h.spotsAt ha
  obtain ⟨la, ra⟩ := hI.ring _ hfa (hI.rep _ ha)
  obtain ⟨lb, rb⟩ := hI.ring _ hfb (hI.rep _ hb)
  have za := ring_le ra
  have zb := ring_le rb
  have ua := total_ge (useLen s.S) _ s.ns hfa
  have ub := total_ge (useLen s.S) _ s.ns hfb
  have uN := hI.useN
  have ua' : (s.S (s.S c.a).cls).uses.length ≤ 2 * s.ns := by have : useLen s.S (s.S c.a).cls = (s.S (s.S c.a).cls).uses.length := rfl; omega
  have ub' : (s.S (s.S c.b).cls).uses.length ≤ 2 * s.ns := by have : useLen s.S (s.S c.b).cls = (s.S (s.S c.b).cls).uses.length := rfl; omega
  have HI : Hid (Inv f.np f.P s.ns s.S s.sg (s.cl ++ [c]) []) := hI
  have HV : Hid (y.vS = .slice (some ⟨gs, 0, none⟩) s.ns cap) := hv
  have HNE : Hid ((s.S c.a).cls ≠ (s.S c.b).cls) := hne
  have HWT : Hid ((s.S (s.S c.a).cls).size ≤ s.ns ∧ (s.S (s.S c.b).cls).size ≤ s.ns ∧ (s.S (s.S c.a).cls).uses.length ≤ 2 * s.ns ∧ (s.S (s.S c.b).cls).uses.length ≤ 2 * s.ns) := ⟨za, zb, ua', ub'⟩
  have hbw : Below w.heap.size w (w.alloc (.cells #[.int .i64 (c.a : Nat), .int .i64 (c.b : Nat), .int .i64 c.why] 91 (0, 0))) := by go_grown
  have k0 : (w.alloc (.cells #[.int .i64 (c.a : Nat), .int .i64 (c.b : Nat), .int .i64 c.why] 91 (0, 0))).heap[w.heap.size]? = _ := heap_alloc_new w _
  have hgl := h.lt
  have HCW : Hid (CW w g x f m y s) := h
  clear hI hne hv ra rb za zb ua ub uN ua' ub' h
  go_enter Try.func44, Try.ntmps44
  go_wp2
  generalize (w.alloc (.cells #[.int .i64 (c.a : Nat), .int .i64 (c.b : Nat), .int .i64 c.why] 91 (0, 0))) = w1 at hbw k0 ⊢
  have h1 := HCW.out.below hbw
  have d0 : w1.cell? ⟨w.heap.size, 0, none⟩ = some (.int .i64 (c.a : Nat)) := cell_of_row _ w.heap.size 0 _ 91 (0, 0) k0
  have d1 : w1.cell? ⟨w.heap.size, 1, none⟩ = some (.int .i64 (c.b : Nat)) := cell_of_row _ w.heap.size 1 _ 91 (0, 0) k0
  obtain ⟨-, -, -, -, -, -, -, c7, -, -⟩ := h1.cells
  rw [HV.out] at c7
  obtain ⟨a0, -, -, -, -, -, -⟩ := h1.spot HV.out ha
  obtain ⟨b0, -, -, -, -, -, -⟩ := h1.spot HV.out hb
  have HK0 : Hid (w1.heap[w.heap.size]? = some (.cells #[.int .i64 (c.a : Nat), .int .i64 (c.b : Nat), .int .i64 c.why] 91 (0, 0))) := k0
  clear k0
  go_quiet (fail)
  have hb2 : Below w.heap.size w (w1.drewN nq) := ⟨hbw.os, hbw.tape, hbw.output, hbw.size, hbw.block⟩
  have HK2 : Hid ((w1.drewN nq).heap[w.heap.size]? = some (.cells #[.int .i64 (c.a : Nat), .int .i64 (c.b : Nat), .int .i64 c.why] 91 (0, 0))) := HK0.out
  clear h1 hbw d0 d1 c7 a0 b0 HK0
  generalize w1.drewN nq = w2 at hb2 HK2 ⊢
  go_wp2_with fail
  refine (weight_any g x f m y s _ w2 (HCW.out.below hb2) hfa HWT.out.1 HWT.out.2.2.1).mono ?_
  rintro e w3 ⟨rfl, hb3⟩
  have hB3 : Below w.heap.size w w3 := hb2.trans (hb3.mono hb2.size)
  have HK3 : Hid (w3.heap[w.heap.size]? = some (.cells #[.int .i64 (c.a : Nat), .int .i64 (c.b : Nat), .int .i64 c.why] 91 (0, 0))) := (hb3.block _ (Array.getElem?_eq_some_iff.1 HK2.out).1).trans HK2.out
  clear hb2 HK2 hb3
  go_wp2_with fail
  refine (weight_any g x f m y s _ w3 (HCW.out.below hB3) hfb HWT.out.2.1 HWT.out.2.2.2).mono ?_
  rintro e w4 ⟨rfl, hb4⟩
  have hB4 : Below w.heap.size w w4 := hB3.trans (hb4.mono hB3.size)
  have hk4 : (w4.heap[w.heap.size]? = some (.cells #[.int .i64 (c.a : Nat), .int .i64 (c.b : Nat), .int .i64 c.why] 91 (0, 0))) := (hb4.block _ (Array.getElem?_eq_some_iff.1 HK3.out).1).trans HK3.out
  have HK4 : Hid (w4.heap[w.heap.size]? = some (.cells #[.int .i64 (c.a : Nat), .int .i64 (c.b : Nat), .int .i64 c.why] 91 (0, 0))) := hk4
  have d0 : w4.cell? ⟨w.heap.size, 0, none⟩ = some (.int .i64 (c.a : Nat)) := cell_of_row _ w.heap.size 0 _ 91 (0, 0) hk4
  have d1 : w4.cell? ⟨w.heap.size, 1, none⟩ = some (.int .i64 (c.b : Nat)) := cell_of_row _ w.heap.size 1 _ 91 (0, 0) hk4
  have q0 := frozen_of_row w4 w.heap.size 0 _ 91 hk4
  have q1 := frozen_of_row w4 w.heap.size 1 _ 91 hk4
  clear hB3 HK3 hb4 hk4
  go_upto_if 35 with fail
  go_cut [4, 5] from 36 to 44 (fun v4 v5 wx => ∃ a b : Nat, Hid ((a = c.a ∧ b = c.b) ∨ (a = c.b ∧ b = c.a)) ∧ v4 = .int .i64 ((s.S a).cls : Nat) ∧ v5 = .int .i64 ((s.S b).cls : Nat) ∧ wx.heap[w.heap.size]? = some (.cells #[.int .i64 (a : Nat), .int .i64 (b : Nat), .int .i64 c.why] 91 (0, 0)) ∧ Below w.heap.size w wx)
  case first =>
    go_wp2
    · go_meet
      case rel =>
        refine ⟨c.b, c.a, Or.inr ⟨rfl, rfl⟩, rfl, rfl, ?_, ?_⟩
        · have e1 := heap_setCell_same w4 w.heap.size 0 _ 91 (.int .i64 (c.b : Nat)) HK4.out
          exact (heap_setCell_same _ w.heap.size 1 _ 91 (.int .i64 (c.a : Nat)) e1).trans rfl
        · exact (hB4.setCell (p := ⟨w.heap.size, 0, none⟩) (Nat.le_refl _) _).setCell (p := ⟨w.heap.size, 1, none⟩) (Nat.le_refl _) _
    · go_meet
      case rel => exact ⟨c.a, c.b, Or.inl ⟨rfl, rfl⟩, rfl, rfl, HK4.out, hB4⟩
  case rest =>
    clear hB4 HK4 d0 d1 q0 q1
    obtain ⟨a, b, HAB, rfl, rfl, hk, hbw⟩ := hcut
    have ha' : a < s.ns := by rcases HAB.out with ⟨e1, _⟩ | ⟨e1, _⟩ <;> omega
    have hb' : b < s.ns := by rcases HAB.out with ⟨_, e1⟩ | ⟨_, e1⟩ <;> omega
    have hn' : (s.S a).cls ≠ (s.S b).cls := by
      rcases HAB.out with ⟨e1, e2⟩ | ⟨e1, e2⟩
      · rw [e1, e2]; exact HNE.out
      · rw [e1, e2]; exact HNE.out.symm
    have hI := HI.out
    have hfl := hI.lt a ha'
    have htl := hI.lt b hb'
    have HFT : Hid ((s.S a).cls ≠ (s.S b).cls) := hn'
    obtain ⟨n, hn⟩ := hI.ups a ha'
    have HUP : Hid (Ups s.S (a : Int) n) := hn
    obtain ⟨la, hla⟩ := hI.ring _ hfl (hI.rep a ha')
    obtain ⟨lb, hlb⟩ := hI.ring _ htl (hI.rep b hb')
    have hza := ring_le hla
    have hzb := ring_le hlb
    have HON : Hid (∀ j, On s.S (a : Int) j → j < s.ns) := fun j hj => (hI.on hj rfl ha').1
    have d0 : wc.cell? ⟨w.heap.size, 0, none⟩ = some (.int .i64 (a : Nat)) := cell_of_row _ w.heap.size 0 _ 91 (0, 0) hk
    have d1 : wc.cell? ⟨w.heap.size, 1, none⟩ = some (.int .i64 (b : Nat)) := cell_of_row _ w.heap.size 1 _ 91 (0, 0) hk
    have d2 : wc.cell? ⟨w.heap.size, 2, none⟩ = some (.int .i64 c.why) := cell_of_row _ w.heap.size 2 _ 91 (0, 0) hk
    clear hI hn hn' hk
    go_wp2_with fail
    refine (hang_any g x f m y s a b c.why n wc (HCW.out.below hbw) HUP.out HON.out).mono ?_
    rintro e w5 ⟨rfl, hC5, hM5⟩
    replace hM5 : Mv (Ft g x y s.ns) w w5 := (Mv.below hbw).trans hM5 (fun b hb => Or.inl hb)
    clear d0 d1 d2 hbw
    have hal := hang_alike n s.S (a : Int) (b : Int) c.why
    obtain ⟨T, hT⟩ : ∃ T, T = hang n s.S (a : Int) (b : Int) c.why := ⟨_, rfl⟩
    rw [← hT] at hC5 hal
    have HT : Hid (T = hang n s.S (a : Int) (b : Int) c.why) := hT
    have HAL : Hid (Alike s.S T) := hal
    clear hT
    obtain ⟨-, -, -, -, -, -, -, c7, -, -⟩ := hC5.cells
    rw [HV.out] at c7
    obtain ⟨-, -, -, -, -, -, c6⟩ := hC5.spot HV.out hfl
    obtain ⟨us, hus⟩ : ∃ us, us = (s.S (s.S a).cls).uses := ⟨_, rfl⟩
    have HUS : Hid (us = (s.S (s.S a).cls).uses) := hus
    have hul := hC5.uses _ hfl
    rw [show (T (s.S a).cls).uses = us by rw [hus]; exact (hal _).2.2.2.2] at hul
    obtain ⟨ua, uc, hua, hu1, hu2, hu3, hu4⟩ := hul.shape
    have HUA : Hid (y.au (s.S a).cls = .slice ua us.length uc) := hua
    rw [hua] at c6
    have HUL : Hid (us.length ≤ 20000) := by
      show _ ≤ _
      have h1 := HI.out.useN
      have h2 := total_ge (useLen s.S) _ s.ns hfl
      have h3 : useLen s.S (s.S a).cls = us.length := by rw [hus]; rfl
      have h4 := HCW.out.small
      omega
    clear hul hua hus hal
    go_wp2
    go_loopw [57] (fun v57 wl => ∃ k : Nat, v57 = .int .i64 (k : Nat) ∧ k ≤ us.length ∧ CW wl g x f m y { s with S := T, sg := drop f.P s.S s.sg (us.take k) } ∧ Mv (Ft g x y s.ns) w wl) (fun v _ => us.length - (intOf v).toNat)
    case atStart => exact ⟨0, rfl, Nat.zero_le _, by rw [List.take_zero, drop_nil]; exact hC5, hM5⟩
    case round =>
      clear c7 c6 hC5 hM5
      rename World => wl
      obtain ⟨k, rfl, hk, hCl, hMl⟩ := hrel
      by_cases hlt : k < us.length
      · obtain ⟨at_, hat⟩ : ∃ at_, at_ = us.getD k 0 := ⟨_, rfl⟩
        have HTK : Hid (us.take (k + 1) = us.take k ++ [at_]) := by
          show _ = _
          rw [List.take_succ_eq_append_getElem hlt, hat, List.getD_eq_getElem?_getD, List.getElem?_eq_getElem hlt]; rfl
        have hmem : at_ ∈ (s.S (s.S a).cls).uses := by rw [← HUS.out, hat, List.getD_eq_getElem?_getD, List.getElem?_eq_getElem hlt]; exact List.getElem_mem hlt
        have hU2 := HI.out.use2 _ hfl at_ hmem
        have hsm := HCW.out.small
        have HAT : Hid (at_ < f.np ∧ Made f.P at_) := ⟨by omega, hU2.2.1⟩
        have hpm := HI.out.parts.made HAT.out.1 HAT.out.2
        obtain ⟨fr, hfr0⟩ : ∃ fr, fr = (f.P at_).front.toNat := ⟨_, rfl⟩
        obtain ⟨ar, har0⟩ : ∃ ar, ar = (f.P at_).arg.toNat := ⟨_, rfl⟩
        have HFR : Hid ((f.P at_).front = (fr : Nat) ∧ (f.P at_).arg = (ar : Nat)) := ⟨by omega, by omega⟩
        have hfr : fr < s.ns := by omega
        have har : ar < s.ns := by omega
        have HSGT : Hid (sig f.P s.S at_ = ((T fr).cls, (T ar).cls)) := by
          show _ = _
          rw [← HAL.out.sig f.P at_]; simp [sig, hfr0, har0]
        have HDK : Hid (drop f.P s.S s.sg (us.take (k + 1)) = fun k9 => if k9 = sig f.P s.S at_ then none else drop f.P s.S s.sg (us.take k) k9) := by show _ = _; rw [HTK.out, drop_snoc]
        have b1 : (T fr).cls < s.ns := by rw [(HAL.out fr).1]; exact HI.out.lt fr hfr
        have b2 : (T ar).cls < s.ns := by rw [(HAL.out ar).1]; exact HI.out.lt ar har
        obtain ⟨kl, hkl⟩ := keyPair (a := ((T fr).cls : Nat)) (b := ((T ar).cls : Nat)) (wfNat (by omega)) (wfNat (by omega))
        have HKL : Hid (keyOf Try.prog 51 (.agg #[.int .i64 ((T fr).cls : Nat), .int .i64 ((T ar).cls : Nat)]) = some kl) := hkl
        have hul := hCl.uses _ hfl
        rw [HUA.out, show (T (s.S a).cls).uses = us by rw [HUS.out]; exact (HAL.out _).2.2.2.2] at hul
        obtain ⟨ug, hug⟩ : ∃ ug, ua = some ⟨ug, 0, none⟩ := by
          cases ua with
          | none => have := (hu3 rfl).1; omega
          | some p => obtain ⟨h1, h2⟩ := hu4 p rfl; obtain ⟨pb, po, ps⟩ := p; simp only at h1 h2; subst h1 h2; exact ⟨pb, rfl⟩
        subst hug
        have cu := hul.cell (i := k) hlt (j := 0) (by omega)
        rw [Nat.mul_one] at cu
        simp only [natC, Nat.add_zero, List.getElem?_cons_zero] at cu
        rw [← hat] at cu
        clear hul hkl hfr0 har0 hpm hU2 hmem hat b1 b2
        go_wp2
        refine wp_region_E (by kernel_rfl) [some 61, some 62, some 63, some 64, some 65, some 66, some 67, none] [none, none, none, none, none, none, none, none, none, none, none, none, none, none, none, none, none, none, none, none, none, none, none, none, none, none, none, none, none, none, none, none, none, none, none, none, none, none, none, none, none, none, none, none, none, none, none, none, none, none, none, none, none, none, none, none, none, none, none, none, none, some 61, some 62, some 63, some 64, some 65, some 66, some 67] (fun U => by kernel_rfl) [fun u => u = (.pointer (some ⟨g, 0, none⟩)), fun u => u = (.pointer (some ⟨g, 0, none⟩)), fun u => u = (.pointer (some ⟨g, 8, none⟩)), fun u => u = (.map (some x.bG)), fun u => u = (.pointer (some ⟨g, 0, none⟩)), fun u => u = (.int .i64 (at_ : Nat)), fun u => u = (.agg #[.int .i64 ((T fr).cls : Nat), .int .i64 ((T ar).cls : Nat)]), fun _ => True] (fun L U wr => (L 7 = false → Below wl.heap.size wl wr) ∧ (L 7 = true → (L 0 = true ∧ L 1 = true ∧ L 2 = true ∧ L 3 = true ∧ L 4 = true ∧ L 5 = true ∧ L 6 = true) ∧ CW wr g x f m y { s with S := T, sg := drop f.P s.S s.sg (us.take (k + 1)) } ∧ Mv (Ft g x y s.ns) wl wr)) (by kernel_rfl) (by decide) (by kernel_rfl) (by kernel_rfl) ?_ ?_ ?_
        · exact fun U => ⟨fun _ => (Below.refl _ _).drew, fun h => by cases h⟩
        · refine StepsE.run rfl ?_ ?_
          · intro L U wr hC hP hlk hcl haf A K hFm hK
            simp [Aft, Region.binds] at haf
            have e0 : A.tmps[0]? = some (.pointer (some ⟨g, 0, none⟩)) := (hFm.old 0 (by decide)).trans (by kernel_rfl)
            have HC : Hid _ := hC
            clear hC
            refine ⟨?_⟩
            go_simp
            refine hK _ _ rfl ?_
            obtain ⟨c0, cS⟩ := HC.out
            refine ⟨fun h => c0 (by simpa using h), fun h => ?_⟩
            have h9 := cS (by simpa using h)
            exact ⟨by simp [h9.1], h9.2⟩
          refine StepsE.run rfl ?_ ?_
          · intro L U wr hC hP hlk hcl haf A K hFm hK
            simp [Aft, Region.binds] at haf
            have g0 : U 61 = (.pointer (some ⟨g, 0, none⟩)) := hP 0 61 (by simp [haf]) rfl
            have e61 : A.tmps[61]? = some (.pointer (some ⟨g, 0, none⟩)) := hFm.is 0 61 rfl g0
            have HC : Hid _ := hC
            clear hC
            refine ⟨?_⟩
            go_simp
            refine hK _ _ rfl ?_
            obtain ⟨c0, cS⟩ := HC.out
            refine ⟨fun h => c0 (by simpa using h), fun h => ?_⟩
            have h9 := cS (by simpa using h)
            exact ⟨by simp [h9.1], h9.2⟩
          refine StepsE.run rfl ?_ ?_
          · intro L U wr hC hP hlk hcl haf A K hFm hK
            simp [Aft, Region.binds] at haf
            have g1 : U 62 = (.pointer (some ⟨g, 0, none⟩)) := hP 1 62 (by simp [haf]) rfl
            have e62 : A.tmps[62]? = some (.pointer (some ⟨g, 0, none⟩)) := hFm.is 1 62 rfl g1
            have HC : Hid _ := hC
            clear hC
            refine ⟨?_⟩
            go_simp
            refine hK _ _ rfl ?_
            obtain ⟨c0, cS⟩ := HC.out
            refine ⟨fun h => c0 (by simpa using h), fun h => ?_⟩
            have h9 := cS (by simpa using h)
            exact ⟨by simp [h9.1], h9.2⟩
          refine StepsE.run rfl ?_ ?_
          · intro L U wr hC hP hlk hcl haf A K hFm hK
            simp [Aft, Region.binds] at haf
            have g2 : U 63 = (.pointer (some ⟨g, 8, none⟩)) := hP 2 63 (by simp [haf]) rfl
            have e63 : A.tmps[63]? = some (.pointer (some ⟨g, 8, none⟩)) := hFm.is 2 63 rfl g2
            have hC0 := hC
            obtain ⟨c0, cS⟩ := hC0
            have hs : L 7 = false := by cases h : L 7 with | false => rfl | true => exact absurd (cS h).1 (by simp [hlk])
            obtain ⟨-, -, -, -, -, -, -, -, c8, -⟩ := (hCl.below (c0 hs)).cells
            clear c0 cS hs
            have HC : Hid _ := hC
            clear hC
            refine ⟨?_⟩
            go_simp
            refine hK _ _ rfl ?_
            obtain ⟨c0, cS⟩ := HC.out
            refine ⟨fun h => c0 (by simpa using h), fun h => ?_⟩
            have h9 := cS (by simpa using h)
            exact ⟨by simp [h9.1], h9.2⟩
          refine StepsE.run rfl ?_ ?_
          · intro L U wr hC hP hlk hcl haf A K hFm hK
            simp [Aft, Region.binds] at haf
            have e0 : A.tmps[0]? = some (.pointer (some ⟨g, 0, none⟩)) := (hFm.old 0 (by decide)).trans (by kernel_rfl)
            have HC : Hid _ := hC
            clear hC
            refine ⟨?_⟩
            go_simp
            refine hK _ _ rfl ?_
            obtain ⟨c0, cS⟩ := HC.out
            refine ⟨fun h => c0 (by simpa using h), fun h => ?_⟩
            have h9 := cS (by simpa using h)
            exact ⟨by simp [h9.1], h9.2⟩
          refine StepsE.run rfl ?_ ?_
          · intro L U wr hC hP hlk hcl haf A K hFm hK
            simp [Aft, Region.binds] at haf
            have e8 : A.tmps[8]? = some (.int .i64 (at_ : Nat)) := (hFm.old 8 (by decide)).trans (by kernel_rfl)
            have HC : Hid _ := hC
            clear hC
            refine ⟨?_⟩
            go_simp
            refine hK _ _ rfl ?_
            obtain ⟨c0, cS⟩ := HC.out
            refine ⟨fun h => c0 (by simpa using h), fun h => ?_⟩
            have h9 := cS (by simpa using h)
            exact ⟨by simp [h9.1], h9.2⟩
          refine StepsE.run rfl ?_ ?_
          · intro L U wr hC hP hlk hcl haf A K hFm hK
            simp [Aft, Region.binds] at haf
            have g4 : U 65 = (.pointer (some ⟨g, 0, none⟩)) := hP 4 65 (by simp [haf]) rfl
            have e65 : A.tmps[65]? = some (.pointer (some ⟨g, 0, none⟩)) := hFm.is 4 65 rfl g4
            have g5 : U 66 = (.int .i64 (at_ : Nat)) := hP 5 66 (by simp [haf]) rfl
            have e66 : A.tmps[66]? = some (.int .i64 (at_ : Nat)) := hFm.is 5 66 rfl g5
            obtain ⟨c0, cS⟩ := hC
            have hs : L 7 = false := by cases h : L 7 with | false => rfl | true => exact absurd (cS h).1 (by simp [hlk])
            have hbl := c0 hs
            clear c0 cS
            refine ⟨?_⟩
            go_simp
            refine (signature_any g x f m y { s with S := T, sg := drop f.P s.S s.sg (us.take k) } at_ fr ar wr (hCl.below hbl) HAT.out.1 HFR.out.1 HFR.out.2 hfr har).mono ?_
            rintro e w9 ⟨rfl, hb9⟩
            go_simp
            refine hK _ _ rfl ⟨fun _ => hbl.trans (hb9.mono hbl.size), fun h => ?_⟩
            simp [hs] at h
          refine StepsE.run rfl ?_ StepsE.nil
          · intro L U wr hC hP hlk hcl haf A K hFm hK
            simp [Aft, Region.binds] at haf
            have g3 : U 64 = (.map (some x.bG)) := hP 3 64 (by simp [haf]) rfl
            have e64 : A.tmps[64]? = some (.map (some x.bG)) := hFm.is 3 64 rfl g3
            have g6 : U 67 = (.agg #[.int .i64 ((T fr).cls : Nat), .int .i64 ((T ar).cls : Nat)]) := hP 6 67 (by simp [haf]) rfl
            have e67 : A.tmps[67]? = some (.agg #[.int .i64 ((T fr).cls : Nat), .int .i64 ((T ar).cls : Nat)]) := hFm.is 6 67 rfl g6
            obtain ⟨c0, cS⟩ := hC
            have hbl := c0 hlk
            clear c0 cS
            have l3 : L 3 = true := by simp [haf]
            have l6 : L 6 = true := by simp [haf]
            have a3 := hcl 3 _ rfl l3
            simp [Aft, Region.binds] at a3
            have l2 : L 2 = true := by simp [a3]
            have a6 := hcl 6 _ rfl l6
            simp [Aft, Region.binds] at a6
            have l4 : L 4 = true := by simp [a6]
            have l5 : L 5 = true := by simp [a6]
            have a2 := hcl 2 _ rfl l2
            simp [Aft, Region.binds] at a2
            have l1 : L 1 = true := by simp [a2]
            have a1 := hcl 1 _ rfl l1
            simp [Aft, Region.binds] at a1
            have l0 : L 0 = true := by simp [a1]
            refine ⟨?_⟩
            refine wp_del (.tmp 64) (.tmp 67) 65 rfl (hCl.below hbl).sig lawPair uSig HKL.out (by simp [Act.eval, e64]) (by simp [Act.eval, e67]) (sgF (drop f.P s.S s.sg (us.take (k + 1)))) (by rw [sgF_at, HDK.out]; simp [HSGT.out]) (fun v hv => sgF_other (a := (T fr).cls) (b := (T ar).cls) (fun k9 hk9 => by rw [HDK.out]; simp [HSGT.out, hk9]) v hv) ?_
            intro w9 hm9 ht9
            obtain ⟨j1, j2⟩ := (hCl.below hbl).setSig ht9 hm9
            refine hK _ _ trivial ⟨fun h => ?_, fun _ => ⟨?_, j1, (Mv.below hbl).trans j2 (fun b hb => Or.inl hb)⟩⟩
            · simp at h
            · simp [l0, l1, l2, l3, l4, l5, l6]
        intro L U5 V5 hall hC hP
        obtain ⟨-, hC9, hM9⟩ := hC.2 (hall 7 (by decide))
        clear hC hP hall
        replace hM9 := hMl.trans hM9 (fun b hb => Or.inl hb)
        clear hCl hMl cu
        simp only [setM_some, setM_none, setM_nil]
        have hul9 := HUL.out
        go_wp2
        go_roundw
        case rel => exact ⟨k + 1, by go_num, by omega, hC9, hM9⟩
        case measure => simp [intOf]; omega
      · have hk2 : k = us.length := by omega
        have hlt2 : ¬ ((k : Int) < (us.length : Int)) := by omega
        subst hk2
        rw [List.take_length] at hCl
        go_wp2_with fail
        have hzT : (T (s.S a).cls).size ≤ s.ns ∧ (T (s.S b).cls).size ≤ s.ns := ⟨by rw [(HAL.out _).2.2.1]; exact hza, by rw [(HAL.out _).2.2.1]; exact hzb⟩
        have hrT : Ring s.ns T (s.S a).cls la := ⟨hla.walk.congr (fun i _ => (HAL.out i).2.1), by rw [(HAL.out _).2.2.1]; exact hla.len, hla.nodup, fun i => by rw [(HAL.out i).1]; exact hla.mem i⟩
        refine (rename_any g x f m y { s with S := T, sg := drop f.P s.S s.sg us } (s.S a).cls (s.S b).cls la wl hCl hfl htl HFT.out hrT hzT).mono ?_
        rintro e w6 ⟨rfl, hC6, hM6⟩
        replace hM6 := hMl.trans hM6 (fun b hb => Or.inl hb)
        have HJ : Hid (Inv f.np f.P s.ns (joinS (s.S a).cls (s.S b).cls T) (drop f.P s.S s.sg us) s.cl us) := by
          have := HI.out.joined c.why HAB.out HFT.out HUP.out
          rw [← HUS.out, mergeS, ← HT.out] at this
          exact this
        have HUO : Hid (∀ i ∈ us, i < s.ns ∧ Made f.P i) := by rw [HUS.out]; exact HI.out.usesOk hfl
        clear hCl hMl hzT hrT hlt hlt2
        go_wp2
        go_loopw [75] (fun v75 wl => ∃ (k : Nat) (y' : Ly), v75 = .int .i64 (k : Nat) ∧ k ≤ us.length ∧ CW wl g x f m y' { s with S := renameS (s.S a).cls (s.S b).cls T, sg := (enrolAll f.P (joinS (s.S a).cls (s.S b).cls T) (us.take k) (drop f.P s.S s.sg us, s.cl)).1, cl := (enrolAll f.P (joinS (s.S a).cls (s.S b).cls T) (us.take k) (drop f.P s.S s.sg us, s.cl)).2 } ∧ Hid (y'.vS = y.vS ∧ y'.au = y.au ∧ ∀ b, Ft g x y' s.ns b → Ft g x y s.ns b ∨ w.heap.size ≤ b) ∧ Mv (Ft g x y s.ns) w wl) (fun v _ => us.length - (intOf v).toNat)
        case atStart => exact ⟨0, y, rfl, Nat.zero_le _, hC6, ⟨rfl, rfl, fun b hb => Or.inl hb⟩, hM6⟩
        case round =>
          clear hC6 hM6 hk
          rename World => wl2
          obtain ⟨k, y', rfl, hk, hCl, HY, hMl⟩ := hrel
          by_cases hlt : k < us.length
          · obtain ⟨at_, hat⟩ : ∃ at_, at_ = us.getD k 0 := ⟨_, rfl⟩
            have HTK : Hid (us.take (k + 1) = us.take k ++ [at_]) := by
              show _ = _
              rw [List.take_succ_eq_append_getElem hlt, hat, List.getD_eq_getElem?_getD, List.getElem?_eq_getElem hlt]; rfl
            have hmem : at_ ∈ us := by rw [hat, List.getD_eq_getElem?_getD, List.getElem?_eq_getElem hlt]; exact List.getElem_mem hlt
            have hU2 := HUO.out at_ hmem
            have hsm := HCW.out.small
            have hpm := HI.out.parts.made (show at_ < f.np by omega) hU2.2
            obtain ⟨fr, hfr0⟩ : ∃ fr, fr = (f.P at_).front.toNat := ⟨_, rfl⟩
            obtain ⟨ar, har0⟩ : ∃ ar, ar = (f.P at_).arg.toNat := ⟨_, rfl⟩
            have HFR : Hid ((f.P at_).front = (fr : Nat) ∧ (f.P at_).arg = (ar : Nat)) := ⟨by omega, by omega⟩
            have hfr : fr < s.ns := by omega
            have har : ar < s.ns := by omega
            have HJk : Hid (Inv f.np f.P s.ns (joinS (s.S a).cls (s.S b).cls T) (enrolAll f.P (joinS (s.S a).cls (s.S b).cls T) (us.take k) (drop f.P s.S s.sg us, s.cl)).1 (enrolAll f.P (joinS (s.S a).cls (s.S b).cls T) (us.take k) (drop f.P s.S s.sg us, s.cl)).2 (us.drop k)) :=
              Inv.enrolPart (us.take k) (us.drop k) (drop f.P s.S s.sg us, s.cl) (by rw [List.take_append_drop]; exact HJ.out) (fun i hi => HUO.out i (List.mem_of_mem_take hi))
            have HLN : Hid ((enrolAll f.P (joinS (s.S a).cls (s.S b).cls T) (us.take k) (drop f.P s.S s.sg us, s.cl)).2.length ≤ 500000000) := by
              show _ ≤ _
              have h1 := enrolAll_len (P := f.P) (S := (joinS (s.S a).cls (s.S b).cls T)) (us.take k) (drop f.P s.S s.sg us, s.cl)
              have h2 := HUL.out
              rw [List.length_take] at h1
              simp only at h1
              omega
            have HEX : Hid (enrolAll f.P (joinS (s.S a).cls (s.S b).cls T) (us.take (k + 1)) (drop f.P s.S s.sg us, s.cl) = enrolS f.P (renameS (s.S a).cls (s.S b).cls T) (enrolAll f.P (joinS (s.S a).cls (s.S b).cls T) (us.take k) (drop f.P s.S s.sg us, s.cl)).1 (enrolAll f.P (joinS (s.S a).cls (s.S b).cls T) (us.take k) (drop f.P s.S s.sg us, s.cl)).2 at_) := by
              show _ = _
              rw [HTK.out, enrolAll_snoc]
              exact enrolS_congr (fun i => (renameS_sig _ _ T f.P i).symm) _ _ _
            have hul := hCl.uses _ hfl
            rw [HY.out.2.1, HUA.out, show (renameS (s.S a).cls (s.S b).cls T (s.S a).cls).uses = us by rw [HUS.out]; exact (HAL.out _).2.2.2.2] at hul
            obtain ⟨ug, hug⟩ : ∃ ug, ua = some ⟨ug, 0, none⟩ := by
              cases ua with
              | none => have := (hu3 rfl).1; omega
              | some p => obtain ⟨h1, h2⟩ := hu4 p rfl; obtain ⟨pb, po, ps⟩ := p; simp only at h1 h2; subst h1 h2; exact ⟨pb, rfl⟩
            subst hug
            have cu := hul.cell (i := k) hlt (j := 0) (by omega)
            rw [Nat.mul_one] at cu
            simp only [natC, Nat.add_zero, List.getElem?_cons_zero] at cu
            rw [← hat] at cu
            have HUN : Hid (at_ < s.ns) := hU2.1
            clear hul hfr0 har0 hpm hU2 hmem hat
            go_wp2_with fail
            refine (enrol_any g x f m y' _ at_ fr ar wl2 hCl HUN.out HFR.out.1 HFR.out.2 hfr har ⟨HJk.out.lt fr hfr, HJk.out.lt ar har⟩ (fun k9 q9 hq9 => ⟨(HJk.out.sg1 k9 q9 hq9).1, (HJk.out.sg1 k9 q9 hq9).2.2⟩) HLN.out).mono ?_
            rintro e w8 ⟨rfl, y8, hC8, hv8, hu8, hM8, hF8⟩
            have HY8 : Hid (y8.vS = y.vS ∧ y8.au = y.au ∧ ∀ b, Ft g x y8 s.ns b → Ft g x y s.ns b ∨ w.heap.size ≤ b) := ⟨hv8.trans HY.out.1, hu8.trans HY.out.2.1, fun b hb => by
              rcases hF8 b hb with h9 | h9
              · exact HY.out.2.2 b h9
              · exact Or.inr (Nat.le_trans hMl.size h9)⟩
            replace hM8 := hMl.trans hM8 HY.out.2.2
            simp only [] at hC8
            rw [← HEX.out] at hC8
            have hul9 := HUL.out
            clear hCl hMl cu hF8 hv8 hu8
            go_wp2
            go_roundw
            case rel => exact ⟨k + 1, y8, by go_num, by omega, hC8, HY8, hM8⟩
            case measure => simp [intOf]; omega
          · have hk2 : k = us.length := by omega
            have hlt2 : ¬ ((k : Int) < (us.length : Int)) := by omega
            subst hk2
            rw [List.take_length] at hCl
            obtain ⟨ut, hut⟩ : ∃ ut, ut = (s.S (s.S b).cls).uses := ⟨_, rfl⟩
            have HUT : Hid (ut = (s.S (s.S b).cls).uses) := hut
            have huT : (renameS (s.S a).cls (s.S b).cls T (s.S b).cls).uses = ut := by rw [hut]; exact (HAL.out _).2.2.2.2
            have huA : (renameS (s.S a).cls (s.S b).cls T (s.S a).cls).uses = us := by rw [HUS.out]; exact (HAL.out _).2.2.2.2
            have HLEN : Hid (ut.length + us.length ≤ 1000000000) := by
              show _ ≤ _
              have h1 := HI.out.useN
              have h2 := total_ge (useLen s.S) _ s.ns htl
              have h3 : useLen s.S (s.S b).cls = ut.length := by rw [hut]; rfl
              have h4 := HCW.out.small
              have h5 := HUL.out
              omega
            have HVy : Hid (y'.vS = .slice (some ⟨gs, 0, none⟩) s.ns cap) := HY.out.1.trans HV.out
            obtain ⟨E18, hE18⟩ : ∃ E18 : World → Prop, E18 = fun wr => ∃ v9, CW wr g x f m { y' with au := upd y'.au (s.S b).cls v9 } { s with S := upd (renameS (s.S a).cls (s.S b).cls T) (s.S b).cls { renameS (s.S a).cls (s.S b).cls T (s.S b).cls with uses := ut ++ us }, sg := (enrolAll f.P (joinS (s.S a).cls (s.S b).cls T) us (drop f.P s.S s.sg us, s.cl)).1, cl := (enrolAll f.P (joinS (s.S a).cls (s.S b).cls T) us (drop f.P s.S s.sg us, s.cl)).2 } ∧ Mv (Ft g x y' s.ns) wl2 wr ∧ ∀ b9, Ft g x { y' with au := upd y'.au (s.S b).cls v9 } s.ns b9 → Ft g x y' s.ns b9 ∨ wl2.heap.size ≤ b9 := ⟨_, rfl⟩
            have hau : y'.au = y.au := HY.out.2.1
            have HSET : Hid (∀ wr v9, OL 1 3 wr v9 (ut ++ us).length (natC (ut ++ us)) → App (y.au (s.S b).cls) v9 wl2 wr → CW (wr.setCell ⟨gs, (s.S b).cls * 7 + 6, none⟩ v9) g x f m { y' with au := upd y'.au (s.S b).cls v9 } { s with S := upd (renameS (s.S a).cls (s.S b).cls T) (s.S b).cls { renameS (s.S a).cls (s.S b).cls T (s.S b).cls with uses := ut ++ us }, sg := (enrolAll f.P (joinS (s.S a).cls (s.S b).cls T) us (drop f.P s.S s.sg us, s.cl)).1, cl := (enrolAll f.P (joinS (s.S a).cls (s.S b).cls T) us (drop f.P s.S s.sg us, s.cl)).2 } ∧ Mv (Ft g x y' s.ns) wl2 (wr.setCell ⟨gs, (s.S b).cls * 7 + 6, none⟩ v9) ∧ ∀ b9, Ft g x { y' with au := upd y'.au (s.S b).cls v9 } s.ns b9 → Ft g x y' s.ns b9 ∨ wl2.heap.size ≤ b9) := by
              intro wr v9 h1 h2
              exact hCl.setUses HVy.out htl h2.os h2.tape h2.output h2.size (by rw [hau]; exact h2.other) (by
                rw [hau]; intro b9 hb9
                rcases h2.at_ with h3 | ⟨b8, h3, h4⟩
                · exact Or.inl (h3.symm.trans hb9)
                · rw [hb9] at h3; injection h3 with h3; subst h3; exact Or.inr h4) h1
            obtain ⟨w8m, hw8m⟩ : ∃ w8m : World → Prop, w8m = fun wr => wr.cell? ⟨g, 7, none⟩ = some (.slice (some ⟨gs, 0, none⟩) s.ns cap) ∧ wr.cell? ⟨gs, (s.S b).cls * 7 + 6, none⟩ = some (y.au (s.S b).cls) := ⟨_, rfl⟩
            have base7 : wl2.cell? ⟨g, 7, none⟩ = some (.slice (some ⟨gs, 0, none⟩) s.ns cap) := by have := hCl.cells.2.2.2.2.2.2.2.1; rw [HVy.out] at this; exact this
            have base6 : wl2.cell? ⟨gs, (s.S b).cls * 7 + 6, none⟩ = some (y.au (s.S b).cls) := by have := (hCl.spot HVy.out htl).2.2.2.2.2.2; rw [hau] at this; exact this
            have HM0 : Hid (∀ wr, Below wl2.heap.size wl2 wr → w8m wr) := by
              intro wr h1; rw [hw8m]
              exact ⟨(h1.cell (p := ⟨g, 7, none⟩) hCl.lt).trans base7, (h1.cell (p := ⟨gs, (s.S b).cls * 7 + 6, none⟩) (hCl.ltS HVy.out)).trans base6⟩
            have hneg : (y.au (s.S b).cls).ownBlock ≠ some g := by rw [← hau]; exact (hCl.uses _ htl).neB hCl.blk (by decide)
            have hnes : (y.au (s.S b).cls).ownBlock ≠ some gs := by
              have hs9 := hCl.spots
              rw [HVy.out] at hs9
              obtain ⟨cs9, hcs9⟩ := hs9.elem (b := gs) rfl
              rw [← hau]; exact (hCl.uses _ htl).neB hcs9 (by decide)
            have HM1 : Hid (∀ wr v9, App (y.au (s.S b).cls) v9 wl2 wr → w8m wr) := by
              intro wr v9 h1; rw [hw8m]
              exact ⟨(World.cell?_of_block (a := ⟨g, 7, none⟩) (h1.other g hCl.lt hneg)).trans base7, (World.cell?_of_block (a := ⟨gs, (s.S b).cls * 7 + 6, none⟩) (h1.other gs (hCl.ltS HVy.out) hnes)).trans base6⟩
            have HM2 : Hid (∀ wr v9, App (y.au (s.S b).cls) v9 wl2 wr → wr.cell? ⟨gs, (s.S b).cls * 7 + 6, none⟩ = some (y.au (s.S b).cls) ∧ wr.frozen? ⟨gs, (s.S b).cls * 7 + 6, none⟩ = false) := by
              intro wr v9 h1
              have h2 := HM1.out wr v9 h1
              rw [hw8m] at h2
              refine ⟨h2.2, ?_⟩
              have hs9 := hCl.spots
              rw [HVy.out] at hs9
              obtain ⟨cs9, hcs9⟩ := hs9.elem (b := gs) rfl
              exact frozen_of_row wr gs _ cs9 86 ((h1.other gs (hCl.ltS HVy.out) hnes).trans hcs9)
            have HQ : Hid (∀ wr, Below wl2.heap.size wl2 wr → OL 1 3 wr (y.au (s.S b).cls) ut.length (natC ut) ∧ OL 1 3 wr (.slice ua us.length uc) us.length (natC us)) := by
              intro wr h1
              have q1 := (hCl.below h1).uses _ htl
              have q2 := (hCl.below h1).uses _ hfl
              rw [hau] at q1 q2
              rw [HUA.out] at q2
              simp only at q1 q2
              rw [huT] at q1
              rw [huA] at q2
              exact ⟨q1, q2⟩
            have hn6 : (y.au (s.S b).cls) ≠ .nilIface := fun e9 => by obtain ⟨a9, c9, h9, _⟩ := (hCl.uses _ htl).shape; rw [hau, e9] at h9; cases h9
            clear hut huT huA base7 base6 hneg hnes hlt hn6
            go_wp2
            refine wp_region_E (by kernel_rfl) [some 83, some 84, some 85, some 86, some 87, some 88, some 89, some 90, some 91, some 92, some 93, some 94, some 95, some 96, some 97, some 98, some 99, none] [none, none, none, none, none, none, none, none, none, none, none, none, none, none, none, none, none, none, none, none, none, none, none, none, none, none, none, none, none, none, none, none, none, none, none, none, none, none, none, none, none, none, none, none, none, none, none, none, none, none, none, none, none, none, none, none, none, none, none, none, none, none, none, none, none, none, none, none, none, none, none, none, none, none, none, none, none, none, none, none, none, none, none, some 83, some 84, some 85, some 86, some 87, some 88, some 89, some 90, some 91, some 92, some 93, some 94, some 95, some 96, some 97, some 98, some 99] (fun U => by kernel_rfl) [fun u => u = (.pointer (some ⟨g, 0, none⟩)), fun u => u = (.pointer (some ⟨g, 0, none⟩)), fun u => u = (.pointer (some ⟨g, 7, none⟩)), fun u => u = (.slice (some ⟨gs, 0, none⟩) s.ns cap), fun u => u = (.int .i64 ((s.S b).cls : Nat)), fun u => u = (.pointer (some ⟨g, 0, none⟩)), fun u => u = (.pointer (some ⟨g, 0, none⟩)), fun u => u = (.pointer (some ⟨g, 7, none⟩)), fun u => u = (.slice (some ⟨gs, 0, none⟩) s.ns cap), fun u => u = (.int .i64 ((s.S b).cls : Nat)), fun u => u = (.pointer (some ⟨gs, (s.S b).cls * 7, none⟩)), fun u => u = (.pointer (some ⟨gs, (s.S b).cls * 7 + 6, none⟩)), fun u => u = (y.au (s.S b).cls), fun u => u = (.slice ua us.length uc), fun _ => True, fun u => u = (.pointer (some ⟨gs, (s.S b).cls * 7, none⟩)), fun u => u = (.pointer (some ⟨gs, (s.S b).cls * 7 + 6, none⟩)), fun _ => True] (fun L U wr => (L 14 = false → Below wl2.heap.size wl2 wr) ∧ (L 14 = true → L 17 = false → OL 1 3 wr (U 97) (ut ++ us).length (natC (ut ++ us)) ∧ App (y.au (s.S b).cls) (U 97) wl2 wr) ∧ (L 17 = true → (L 0 = true ∧ L 1 = true ∧ L 2 = true ∧ L 3 = true ∧ L 4 = true ∧ L 5 = true ∧ L 6 = true ∧ L 7 = true ∧ L 8 = true ∧ L 9 = true ∧ L 10 = true ∧ L 11 = true ∧ L 12 = true ∧ L 13 = true ∧ L 14 = true ∧ L 15 = true ∧ L 16 = true) ∧ E18 wr)) (by kernel_rfl) (by decide) (by kernel_rfl) (by kernel_rfl) ?_ ?_ ?_
            · exact fun U => ⟨fun _ => (Below.refl _ _).drew, (fun h => by cases h), (fun h => by cases h)⟩
            · refine StepsE.run rfl ?_ ?_
              · intro L U wr hC hP hlk hcl haf A K hFm hK
                simp [Aft, Region.binds] at haf
                have e0 : A.tmps[0]? = some (.pointer (some ⟨g, 0, none⟩)) := (hFm.old 0 (by decide)).trans (by kernel_rfl)
                have HC : Hid _ := hC
                clear hC
                refine ⟨?_⟩
                go_simp
                refine hK _ _ rfl ?_
                obtain ⟨c0, c1, cS⟩ := HC.out
                refine ⟨fun h => c0 (by simpa using h), fun h1 h2 => by have h9 := c1 (by simpa using h1) (by simpa using h2); simpa [updO, Go.Proofs.Ytmnpefiaelpkfac.upd] using h9, fun h => ?_⟩
                have h9 := cS (by simpa using h)
                exact ⟨by simp [h9.1], h9.2⟩
              refine StepsE.run rfl ?_ ?_
              · intro L U wr hC hP hlk hcl haf A K hFm hK
                simp [Aft, Region.binds] at haf
                have g0 : U 83 = (.pointer (some ⟨g, 0, none⟩)) := hP 0 83 (by simp [haf]) rfl
                have e83 : A.tmps[83]? = some (.pointer (some ⟨g, 0, none⟩)) := hFm.is 0 83 rfl g0
                have HC : Hid _ := hC
                clear hC
                refine ⟨?_⟩
                go_simp
                refine hK _ _ rfl ?_
                obtain ⟨c0, c1, cS⟩ := HC.out
                refine ⟨fun h => c0 (by simpa using h), fun h1 h2 => by have h9 := c1 (by simpa using h1) (by simpa using h2); simpa [updO, Go.Proofs.Ytmnpefiaelpkfac.upd] using h9, fun h => ?_⟩
                have h9 := cS (by simpa using h)
                exact ⟨by simp [h9.1], h9.2⟩
              refine StepsE.run rfl ?_ ?_
              · intro L U wr hC hP hlk hcl haf A K hFm hK
                simp [Aft, Region.binds] at haf
                have g1 : U 84 = (.pointer (some ⟨g, 0, none⟩)) := hP 1 84 (by simp [haf]) rfl
                have e84 : A.tmps[84]? = some (.pointer (some ⟨g, 0, none⟩)) := hFm.is 1 84 rfl g1
                have HC : Hid _ := hC
                clear hC
                refine ⟨?_⟩
                go_simp
                refine hK _ _ rfl ?_
                obtain ⟨c0, c1, cS⟩ := HC.out
                refine ⟨fun h => c0 (by simpa using h), fun h1 h2 => by have h9 := c1 (by simpa using h1) (by simpa using h2); simpa [updO, Go.Proofs.Ytmnpefiaelpkfac.upd] using h9, fun h => ?_⟩
                have h9 := cS (by simpa using h)
                exact ⟨by simp [h9.1], h9.2⟩
              refine StepsE.run rfl ?_ ?_
              · intro L U wr hC hP hlk hcl haf A K hFm hK
                simp [Aft, Region.binds] at haf
                have g2 : U 85 = (.pointer (some ⟨g, 7, none⟩)) := hP 2 85 (by simp [haf]) rfl
                have e85 : A.tmps[85]? = some (.pointer (some ⟨g, 7, none⟩)) := hFm.is 2 85 rfl g2
                have hM8 : w8m wr := by
                  obtain ⟨c0, c1, cS⟩ := hC
                  have hs : L 17 = false := by cases h : L 17 with | false => rfl | true => exact absurd (cS h).1 (by simp [hlk])
                  cases h14 : L 14 with
                  | false => exact HM0.out wr (c0 h14)
                  | true => exact HM1.out wr (U 97) (c1 h14 hs).2
                rw [hw8m] at hM8
                obtain ⟨c7, c6⟩ := hM8
                have HC : Hid _ := hC
                clear hC
                refine ⟨?_⟩
                go_simp
                refine hK _ _ rfl ?_
                obtain ⟨c0, c1, cS⟩ := HC.out
                refine ⟨fun h => c0 (by simpa using h), fun h1 h2 => by have h9 := c1 (by simpa using h1) (by simpa using h2); simpa [updO, Go.Proofs.Ytmnpefiaelpkfac.upd] using h9, fun h => ?_⟩
                have h9 := cS (by simpa using h)
                exact ⟨by simp [h9.1], h9.2⟩
              refine StepsE.run rfl ?_ ?_
              · intro L U wr hC hP hlk hcl haf A K hFm hK
                simp [Aft, Region.binds] at haf
                have e5 : A.tmps[5]? = some (.int .i64 ((s.S b).cls : Nat)) := (hFm.old 5 (by decide)).trans (by kernel_rfl)
                have HC : Hid _ := hC
                clear hC
                refine ⟨?_⟩
                go_simp
                refine hK _ _ rfl ?_
                obtain ⟨c0, c1, cS⟩ := HC.out
                refine ⟨fun h => c0 (by simpa using h), fun h1 h2 => by have h9 := c1 (by simpa using h1) (by simpa using h2); simpa [updO, Go.Proofs.Ytmnpefiaelpkfac.upd] using h9, fun h => ?_⟩
                have h9 := cS (by simpa using h)
                exact ⟨by simp [h9.1], h9.2⟩
              refine StepsE.run rfl ?_ ?_
              · intro L U wr hC hP hlk hcl haf A K hFm hK
                simp [Aft, Region.binds] at haf
                have e0 : A.tmps[0]? = some (.pointer (some ⟨g, 0, none⟩)) := (hFm.old 0 (by decide)).trans (by kernel_rfl)
                have HC : Hid _ := hC
                clear hC
                refine ⟨?_⟩
                go_simp
                refine hK _ _ rfl ?_
                obtain ⟨c0, c1, cS⟩ := HC.out
                refine ⟨fun h => c0 (by simpa using h), fun h1 h2 => by have h9 := c1 (by simpa using h1) (by simpa using h2); simpa [updO, Go.Proofs.Ytmnpefiaelpkfac.upd] using h9, fun h => ?_⟩
                have h9 := cS (by simpa using h)
                exact ⟨by simp [h9.1], h9.2⟩
              refine StepsE.run rfl ?_ ?_
              · intro L U wr hC hP hlk hcl haf A K hFm hK
                simp [Aft, Region.binds] at haf
                have g5 : U 88 = (.pointer (some ⟨g, 0, none⟩)) := hP 5 88 (by simp [haf]) rfl
                have e88 : A.tmps[88]? = some (.pointer (some ⟨g, 0, none⟩)) := hFm.is 5 88 rfl g5
                have HC : Hid _ := hC
                clear hC
                refine ⟨?_⟩
                go_simp
                refine hK _ _ rfl ?_
                obtain ⟨c0, c1, cS⟩ := HC.out
                refine ⟨fun h => c0 (by simpa using h), fun h1 h2 => by have h9 := c1 (by simpa using h1) (by simpa using h2); simpa [updO, Go.Proofs.Ytmnpefiaelpkfac.upd] using h9, fun h => ?_⟩
                have h9 := cS (by simpa using h)
                exact ⟨by simp [h9.1], h9.2⟩
              refine StepsE.run rfl ?_ ?_
              · intro L U wr hC hP hlk hcl haf A K hFm hK
                simp [Aft, Region.binds] at haf
                have g6 : U 89 = (.pointer (some ⟨g, 0, none⟩)) := hP 6 89 (by simp [haf]) rfl
                have e89 : A.tmps[89]? = some (.pointer (some ⟨g, 0, none⟩)) := hFm.is 6 89 rfl g6
                have HC : Hid _ := hC
                clear hC
                refine ⟨?_⟩
                go_simp
                refine hK _ _ rfl ?_
                obtain ⟨c0, c1, cS⟩ := HC.out
                refine ⟨fun h => c0 (by simpa using h), fun h1 h2 => by have h9 := c1 (by simpa using h1) (by simpa using h2); simpa [updO, Go.Proofs.Ytmnpefiaelpkfac.upd] using h9, fun h => ?_⟩
                have h9 := cS (by simpa using h)
                exact ⟨by simp [h9.1], h9.2⟩
              refine StepsE.run rfl ?_ ?_
              · intro L U wr hC hP hlk hcl haf A K hFm hK
                simp [Aft, Region.binds] at haf
                have g7 : U 90 = (.pointer (some ⟨g, 7, none⟩)) := hP 7 90 (by simp [haf]) rfl
                have e90 : A.tmps[90]? = some (.pointer (some ⟨g, 7, none⟩)) := hFm.is 7 90 rfl g7
                have hM8 : w8m wr := by
                  obtain ⟨c0, c1, cS⟩ := hC
                  have hs : L 17 = false := by cases h : L 17 with | false => rfl | true => exact absurd (cS h).1 (by simp [hlk])
                  cases h14 : L 14 with
                  | false => exact HM0.out wr (c0 h14)
                  | true => exact HM1.out wr (U 97) (c1 h14 hs).2
                rw [hw8m] at hM8
                obtain ⟨c7, c6⟩ := hM8
                have HC : Hid _ := hC
                clear hC
                refine ⟨?_⟩
                go_simp
                refine hK _ _ rfl ?_
                obtain ⟨c0, c1, cS⟩ := HC.out
                refine ⟨fun h => c0 (by simpa using h), fun h1 h2 => by have h9 := c1 (by simpa using h1) (by simpa using h2); simpa [updO, Go.Proofs.Ytmnpefiaelpkfac.upd] using h9, fun h => ?_⟩
                have h9 := cS (by simpa using h)
                exact ⟨by simp [h9.1], h9.2⟩
              refine StepsE.run rfl ?_ ?_
              · intro L U wr hC hP hlk hcl haf A K hFm hK
                simp [Aft, Region.binds] at haf
                have e5 : A.tmps[5]? = some (.int .i64 ((s.S b).cls : Nat)) := (hFm.old 5 (by decide)).trans (by kernel_rfl)
                have HC : Hid _ := hC
                clear hC
                refine ⟨?_⟩
                go_simp
                refine hK _ _ rfl ?_
                obtain ⟨c0, c1, cS⟩ := HC.out
                refine ⟨fun h => c0 (by simpa using h), fun h1 h2 => by have h9 := c1 (by simpa using h1) (by simpa using h2); simpa [updO, Go.Proofs.Ytmnpefiaelpkfac.upd] using h9, fun h => ?_⟩
                have h9 := cS (by simpa using h)
                exact ⟨by simp [h9.1], h9.2⟩
              refine StepsE.run rfl ?_ ?_
              · intro L U wr hC hP hlk hcl haf A K hFm hK
                simp [Aft, Region.binds] at haf
                have g8 : U 91 = (.slice (some ⟨gs, 0, none⟩) s.ns cap) := hP 8 91 (by simp [haf]) rfl
                have e91 : A.tmps[91]? = some (.slice (some ⟨gs, 0, none⟩) s.ns cap) := hFm.is 8 91 rfl g8
                have g9 : U 92 = (.int .i64 ((s.S b).cls : Nat)) := hP 9 92 (by simp [haf]) rfl
                have e92 : A.tmps[92]? = some (.int .i64 ((s.S b).cls : Nat)) := hFm.is 9 92 rfl g9
                have HC : Hid _ := hC
                clear hC
                refine ⟨?_⟩
                go_simp
                refine hK _ _ rfl ?_
                obtain ⟨c0, c1, cS⟩ := HC.out
                refine ⟨fun h => c0 (by simpa using h), fun h1 h2 => by have h9 := c1 (by simpa using h1) (by simpa using h2); simpa [updO, Go.Proofs.Ytmnpefiaelpkfac.upd] using h9, fun h => ?_⟩
                have h9 := cS (by simpa using h)
                exact ⟨by simp [h9.1], h9.2⟩
              refine StepsE.run rfl ?_ ?_
              · intro L U wr hC hP hlk hcl haf A K hFm hK
                simp [Aft, Region.binds] at haf
                have g10 : U 93 = (.pointer (some ⟨gs, (s.S b).cls * 7, none⟩)) := hP 10 93 (by simp [haf]) rfl
                have e93 : A.tmps[93]? = some (.pointer (some ⟨gs, (s.S b).cls * 7, none⟩)) := hFm.is 10 93 rfl g10
                have HC : Hid _ := hC
                clear hC
                refine ⟨?_⟩
                go_simp
                refine hK _ _ rfl ?_
                obtain ⟨c0, c1, cS⟩ := HC.out
                refine ⟨fun h => c0 (by simpa using h), fun h1 h2 => by have h9 := c1 (by simpa using h1) (by simpa using h2); simpa [updO, Go.Proofs.Ytmnpefiaelpkfac.upd] using h9, fun h => ?_⟩
                have h9 := cS (by simpa using h)
                exact ⟨by simp [h9.1], h9.2⟩
              refine StepsE.run rfl ?_ ?_
              · intro L U wr hC hP hlk hcl haf A K hFm hK
                simp [Aft, Region.binds] at haf
                have g11 : U 94 = (.pointer (some ⟨gs, (s.S b).cls * 7 + 6, none⟩)) := hP 11 94 (by simp [haf]) rfl
                have e94 : A.tmps[94]? = some (.pointer (some ⟨gs, (s.S b).cls * 7 + 6, none⟩)) := hFm.is 11 94 rfl g11
                have h14 : L 14 = false := by cases h : L 14 with | false => rfl | true => have h9 := hcl 14 _ rfl h; simp [Aft, Region.binds, hlk] at h9
                have c6 := HM0.out wr (hC.1 h14)
                rw [hw8m] at c6
                replace c6 := c6.2
                have HC : Hid _ := hC
                clear hC
                refine ⟨?_⟩
                go_simp
                refine hK _ _ rfl ?_
                obtain ⟨c0, c1, cS⟩ := HC.out
                refine ⟨fun h => c0 (by simpa using h), fun h1 h2 => by have h9 := c1 (by simpa using h1) (by simpa using h2); simpa [updO, Go.Proofs.Ytmnpefiaelpkfac.upd] using h9, fun h => ?_⟩
                have h9 := cS (by simpa using h)
                exact ⟨by simp [h9.1], h9.2⟩
              refine StepsE.run rfl ?_ ?_
              · intro L U wr hC hP hlk hcl haf A K hFm hK
                simp [Aft, Region.binds] at haf
                have e6 : A.tmps[6]? = some (.slice ua us.length uc) := (hFm.old 6 (by decide)).trans (by kernel_rfl)
                have HC : Hid _ := hC
                clear hC
                refine ⟨?_⟩
                go_simp
                refine hK _ _ rfl ?_
                obtain ⟨c0, c1, cS⟩ := HC.out
                refine ⟨fun h => c0 (by simpa using h), fun h1 h2 => by have h9 := c1 (by simpa using h1) (by simpa using h2); simpa [updO, Go.Proofs.Ytmnpefiaelpkfac.upd] using h9, fun h => ?_⟩
                have h9 := cS (by simpa using h)
                exact ⟨by simp [h9.1], h9.2⟩
              refine StepsE.run rfl ?_ ?_
              · intro L U wr hC hP hlk hcl haf A K hFm hK
                simp [Aft, Region.binds] at haf
                have g12 : U 95 = (y.au (s.S b).cls) := hP 12 95 (by simp [haf]) rfl
                have e95 : A.tmps[95]? = some (y.au (s.S b).cls) := hFm.is 12 95 rfl g12
                have g13 : U 96 = (.slice ua us.length uc) := hP 13 96 (by simp [haf]) rfl
                have e96 : A.tmps[96]? = some (.slice ua us.length uc) := hFm.is 13 96 rfl g13
                refine ⟨?_⟩
                obtain ⟨hq1, hq2⟩ := HQ.out wr (hC.1 hlk)
                refine wp_append_list (.tmp 95) (.tmp 96) 31 rfl 1 3 _ 8 uInts iInt (by decide) rfl (by decide) (y.au (s.S b).cls) ut.length (natC ut) (by simp [Act.eval, e95]) hq1 (fun _ _ => rfl) (.slice ua us.length uc) us.length (natC us) (by simp [Act.eval, e96]) hq2 (fun _ _ => rfl) (flat_one us _) HLEN.out (natC (ut ++ us)) (fun k9 hk9 => by simp [natC, List.getD_eq_getElem?_getD, List.getElem?_append_left hk9]) (fun k9 hk9 => by simp [natC, List.getD_eq_getElem?_getD, List.getElem?_append_right]) ?_
                intro v9 w9 hol9 hap9
                have hb9 := hC.1 hlk
                refine hK _ _ trivial ⟨fun h => ?_, fun _ _ => ⟨?_, ?_⟩, fun h => ?_⟩
                · simp at h
                · simp only [updO, Go.Proofs.Ytmnpefiaelpkfac.upd, beq_self_eq_true, cond_true]; rw [List.length_append]; exact hol9
                · simp only [updO, Go.Proofs.Ytmnpefiaelpkfac.upd, beq_self_eq_true, cond_true]; exact hap9.ofBelow hb9
                · have h17 : L 17 = true := by simpa using h
                  have h9 := (hC.2.2 h17).1
                  simp [hlk] at h9
              refine StepsE.run rfl ?_ ?_
              · intro L U wr hC hP hlk hcl haf A K hFm hK
                simp [Aft, Region.binds] at haf
                have g3 : U 86 = (.slice (some ⟨gs, 0, none⟩) s.ns cap) := hP 3 86 (by simp [haf]) rfl
                have e86 : A.tmps[86]? = some (.slice (some ⟨gs, 0, none⟩) s.ns cap) := hFm.is 3 86 rfl g3
                have g4 : U 87 = (.int .i64 ((s.S b).cls : Nat)) := hP 4 87 (by simp [haf]) rfl
                have e87 : A.tmps[87]? = some (.int .i64 ((s.S b).cls : Nat)) := hFm.is 4 87 rfl g4
                have HC : Hid _ := hC
                clear hC
                refine ⟨?_⟩
                go_simp
                refine hK _ _ rfl ?_
                obtain ⟨c0, c1, cS⟩ := HC.out
                refine ⟨fun h => c0 (by simpa using h), fun h1 h2 => by have h9 := c1 (by simpa using h1) (by simpa using h2); simpa [updO, Go.Proofs.Ytmnpefiaelpkfac.upd] using h9, fun h => ?_⟩
                have h9 := cS (by simpa using h)
                exact ⟨by simp [h9.1], h9.2⟩
              refine StepsE.run rfl ?_ ?_
              · intro L U wr hC hP hlk hcl haf A K hFm hK
                simp [Aft, Region.binds] at haf
                have g15 : U 98 = (.pointer (some ⟨gs, (s.S b).cls * 7, none⟩)) := hP 15 98 (by simp [haf]) rfl
                have e98 : A.tmps[98]? = some (.pointer (some ⟨gs, (s.S b).cls * 7, none⟩)) := hFm.is 15 98 rfl g15
                have HC : Hid _ := hC
                clear hC
                refine ⟨?_⟩
                go_simp
                refine hK _ _ rfl ?_
                obtain ⟨c0, c1, cS⟩ := HC.out
                refine ⟨fun h => c0 (by simpa using h), fun h1 h2 => by have h9 := c1 (by simpa using h1) (by simpa using h2); simpa [updO, Go.Proofs.Ytmnpefiaelpkfac.upd] using h9, fun h => ?_⟩
                have h9 := cS (by simpa using h)
                exact ⟨by simp [h9.1], h9.2⟩
              refine StepsE.run rfl ?_ StepsE.nil
              · intro L U wr hC hP hlk hcl haf A K hFm hK
                simp [Aft, Region.binds] at haf
                have g16 : U 99 = (.pointer (some ⟨gs, (s.S b).cls * 7 + 6, none⟩)) := hP 16 99 (by simp [haf]) rfl
                have e99 : A.tmps[99]? = some (.pointer (some ⟨gs, (s.S b).cls * 7 + 6, none⟩)) := hFm.is 16 99 rfl g16
                have e97 : A.tmps[97]? = some (U 97) := hFm.got 14 97 rfl
                have l16 : L 16 = true := by simp [haf]
                have l14 : L 14 = true := by simp [haf]
                have a16 := hcl 16 _ rfl l16
                simp [Aft, Region.binds] at a16
                have l15 : L 15 = true := by simp [a16]
                have a14 := hcl 14 _ rfl l14
                simp [Aft, Region.binds] at a14
                have l12 : L 12 = true := by simp [a14]
                have l13 : L 13 = true := by simp [a14]
                have a15 := hcl 15 _ rfl l15
                simp [Aft, Region.binds] at a15
                have l3 : L 3 = true := by simp [a15]
                have l4 : L 4 = true := by simp [a15]
                have a12 := hcl 12 _ rfl l12
                simp [Aft, Region.binds] at a12
                have l11 : L 11 = true := by simp [a12]
                have a3 := hcl 3 _ rfl l3
                simp [Aft, Region.binds] at a3
                have l2 : L 2 = true := by simp [a3]
                have a11 := hcl 11 _ rfl l11
                simp [Aft, Region.binds] at a11
                have l10 : L 10 = true := by simp [a11]
                have a2 := hcl 2 _ rfl l2
                simp [Aft, Region.binds] at a2
                have l1 : L 1 = true := by simp [a2]
                have a10 := hcl 10 _ rfl l10
                simp [Aft, Region.binds] at a10
                have l8 : L 8 = true := by simp [a10]
                have l9 : L 9 = true := by simp [a10]
                have a1 := hcl 1 _ rfl l1
                simp [Aft, Region.binds] at a1
                have l0 : L 0 = true := by simp [a1]
                have a8 := hcl 8 _ rfl l8
                simp [Aft, Region.binds] at a8
                have l7 : L 7 = true := by simp [a8]
                have a7 := hcl 7 _ rfl l7
                simp [Aft, Region.binds] at a7
                have l6 : L 6 = true := by simp [a7]
                have a6 := hcl 6 _ rfl l6
                simp [Aft, Region.binds] at a6
                have l5 : L 5 = true := by simp [a6]
                refine ⟨?_⟩
                obtain ⟨hol9, hap9⟩ := hC.2.1 l14 hlk
                obtain ⟨k1, k2, k3⟩ := HSET.out wr (U 97) hol9 hap9
                obtain ⟨k4, k5⟩ := HM2.out wr (U 97) hap9
                obtain ⟨ao9, cc9, hv9, -, -, -, -⟩ := hol9.shape
                obtain ⟨nl, hnl⟩ : ∃ nl, nl = (ut ++ us).length := ⟨_, rfl⟩
                rw [← hnl] at hv9
                clear hnl
                have e97 : A.tmps[97]? = some (.slice ao9 nl cc9) := hFm.is 14 97 rfl hv9
                rw [hv9] at k1 k2 k3
                have HKK : Hid _ := And.intro k1 (And.intro k2 k3)
                clear hol9 hap9 k1 k2 k3 hC
                go_simp
                refine hK (.tuple #[]) _ trivial ⟨fun h => ?_, fun h1 h2 => ?_, fun _ => ⟨?_, ?_⟩⟩
                · simp [l14] at h
                · simp at h2
                · simp [l0, l1, l2, l3, l4, l5, l6, l7, l8, l9, l10, l11, l12, l13, l14, l15, l16]
                · rw [hE18]; exact ⟨_, HKK.out.1, HKK.out.2.1, HKK.out.2.2⟩
            intro L U5 V5 hall hC hP
            have hE := (hC.2.2 (hall 17 (by decide))).2
            rw [hE18] at hE
            obtain ⟨v9, hC9, hM9, hF9⟩ := hE
            clear hC hP hall hE18 hw8m HM0 HM1 HM2 HQ HSET
            obtain ⟨-, -, -, -, -, -, -, c7, -, -⟩ := hC9.cells
            rw [show ({ y' with au := upd y'.au (s.S b).cls v9 } : Ly).vS = .slice (some ⟨gs, 0, none⟩) s.ns cap from HVy.out] at c7
            have hgf : (upd y'.au (s.S b).cls v9) (s.S a).cls = y.au (s.S a).cls := by rw [upd_other _ _ HFT.out, hau]
            obtain ⟨-, -, -, -, -, -, c6⟩ := hC9.spot HVy.out hfl
            have q6 := hC9.spotFrozen HVy.out ((s.S a).cls * 7 + 6)
            obtain ⟨k1, k2, k3⟩ := hC9.setUses HVy.out hfl (w1 := V5) (v := .slice none 0 0) (l' := []) rfl rfl rfl (Nat.le_refl _) (fun _ _ _ => rfl) (fun b9 hb9 => by cases hb9) (OL.nil _ _ _ _)
            have HKK : Hid _ := And.intro k1 (And.intro k2 k3)
            clear k1 k2 k3 hC9 hCl
            simp only [setM_some, setM_none, setM_nil]
            simp only [hgf, HUA.out] at c6
            go_wp2
            go_end0
            have hF1 : ∀ b9, Ft g x { y' with au := upd y'.au (s.S b).cls v9 } s.ns b9 → Ft g x y s.ns b9 ∨ w.heap.size ≤ b9 := fun b9 hb9 => by
              rcases hF9 b9 hb9 with h9 | h9
              · exact HY.out.2.2 b9 h9
              · exact Or.inr (Nat.le_trans hMl.size h9)
            have hM1 := (hMl.trans hM9 HY.out.2.2).trans HKK.out.2.1 hF1
            refine ⟨rfl, a, b, n, { y' with au := upd (upd y'.au (s.S b).cls v9) (s.S a).cls (.slice none 0 0) }, HAB.out, HFT.out, HUP.out, ?_, hM1, ?_⟩
            · have e1 : mergeX f.P s.S s.sg s.cl a b c.why n = enrolAll f.P (joinS (s.S a).cls (s.S b).cls T) us (drop f.P s.S s.sg us, s.cl) := by
                unfold mergeX mergeS; rw [← HT.out, ← HUS.out]
              have e2 : mergeS s.S a b c.why n = upd (upd (renameS (s.S a).cls (s.S b).cls T) (s.S b).cls { renameS (s.S a).cls (s.S b).cls T (s.S b).cls with uses := ut ++ us }) (s.S a).cls { upd (renameS (s.S a).cls (s.S b).cls T) (s.S b).cls { renameS (s.S a).cls (s.S b).cls T (s.S b).cls with uses := ut ++ us } (s.S a).cls with uses := [] } := by
                unfold mergeS
                rw [← HT.out]
                have t1 : (T (s.S b).cls).uses = ut := by rw [HUT.out]; exact (HAL.out _).2.2.2.2
                have t2 : (T (s.S a).cls).uses = us := by rw [HUS.out]; exact (HAL.out _).2.2.2.2
                have hft := HFT.out
                funext i
                by_cases e3 : i = (s.S a).cls
                · subst e3
                  simp [joinS, renameS, upd, hft]
                · by_cases e4 : i = (s.S b).cls
                  · subst e4
                    simp [joinS, renameS, upd, Ne.symm hft, t1, t2]
                  · simp [joinS, renameS, upd, e3, e4]
              rw [e1, e2]
              exact HKK.out.1
            · intro b9 hb9
              rcases HKK.out.2.2 b9 hb9 with h9 | h9
              · exact hF1 b9 h9
              · exact Or.inr (Nat.le_trans (Nat.le_trans hMl.size hM9.size) h9)
end Euf
end Go.Proofs.Ytmnpefiaelpkfac
