/- Joined: Reg, Reg4, Reg5, EufN: words and contracts; no statement of the seat is proved here. -/
import Derived.WalkKit
import Derived.RegionTactic
import Derived.Test.YtlonnhnfmcndfadJoin1Gcd
import Derived.Deep.CutRange
/- A region that draws its order, by what holds at any time: one step for each operation, whatever came ahead of it; no statement of the seat is proved here. -/
namespace Go.Proofs.Ytlonnhnfmcndfad
open Go Go.RowKit

/-- All that the operation waits for is listed. -/
def Aft (o : Oper) (L : Nat → Bool) : Bool := o.after.toList.all fun e => !Region.binds .any e || L e.on
/-- One step, whenever operation k may come up. -/
def StepOK (P : Program) (ops : Array Oper) (Q : Exit → Act → World → Prop) (I : (Nat → Bool) → Act → World → Prop) (k : Nat) (o : Oper) : Prop :=
  ∀ L a w, I L a w → L k = false → Aft o L = true → ∀ K : Act → World → Prop, (∀ a' w', I (fun j => j == k || L j) a' w' → K a' w') →
    if Region.wanted o (yielded ops a.tmps) = true then Oper.wp P o a w K Q else K (a.put o.dst undef) w
def StepsOK (P : Program) (ops : Array Oper) (Q : Exit → Act → World → Prop) (I : (Nat → Bool) → Act → World → Prop) : Nat → List Oper → Prop
  | _, [] => True
  | k, o :: os => StepOK P ops Q I k o ∧ StepsOK P ops Q I (k + 1) os
/-- What is waited for stands ahead. -/
def inOrder : Nat → List Oper → Bool
  | _, [] => true
  | k, o :: os => (o.after.toList.all fun e => !Region.binds .any e || decide (e.on < k)) && inOrder (k + 1) os

theorem cnt_lt {p q : Nat → Bool} : ∀ {l : List Nat}, (∀ x, p x = true → q x = true) → ∀ {i : Nat}, i ∈ l → q i = true → p i = false → l.countP p < l.countP q
  | [], _, _, hi, _, _ => by cases hi
  | x :: l, h, i, hi, hq, hp => by
    have hle : l.countP p ≤ l.countP q := List.countP_mono_left (fun y _ hy => h y hy)
    rcases List.mem_cons.1 hi with e | e
    · subst e
      simp only [List.countP_cons, hq, hp]
      simp
      omega
    · have ih := cnt_lt (l := l) h e hq hp
      simp only [List.countP_cons]
      cases hx : p x with
      | false => simp; split <;> omega
      | true => simp [h x hx]; omega

theorem steps_at {P : Program} {ops : Array Oper} {Q : Exit → Act → World → Prop} {I : (Nat → Bool) → Act → World → Prop} : ∀ {l : List Oper} {k i : Nat} {o : Oper}, StepsOK P ops Q I k l → l[i]? = some o → StepOK P ops Q I (k + i) o
  | [], _, _, _, _, h => by simp at h
  | x :: l, k, 0, o, h, hi => by simp at hi; subst hi; exact h.1
  | x :: l, k, i + 1, o, h, hi => by
    have := steps_at (i := i) h.2 (by simpa using hi)
    rw [Nat.add_assoc, Nat.add_comm 1 i] at this
    exact this
theorem order_at : ∀ {l : List Oper} {k i : Nat} {o : Oper}, inOrder k l = true → l[i]? = some o → (o.after.toList.all fun e => !Region.binds .any e || decide (e.on < k + i)) = true
  | [], _, _, _, _, h => by simp at h
  | x :: l, k, 0, o, h, hi => by
    simp at hi; subst hi
    unfold inOrder at h
    exact (Bool.and_eq_true_iff.1 h).1
  | x :: l, k, i + 1, o, h, hi => by
    unfold inOrder at h
    have := order_at (i := i) (Bool.and_eq_true_iff.1 h).2 (by simpa using hi)
    rw [Nat.add_assoc, Nat.add_comm 1 i] at this
    exact this

theorem ready_iff {ops : Array Oper} {listed : Array Bool} {i : Nat} : i ∈ Region.ready .any ops listed ↔ i < ops.size ∧ listed.getD i true = false ∧ ∃ o, ops[i]? = some o ∧ Aft o (fun j => listed.getD j false) = true := by
  unfold Region.ready Aft
  simp only [List.mem_filter, List.mem_range, Bool.and_eq_true, Bool.not_eq_true']
  constructor
  · rintro ⟨h1, h2, h3⟩
    refine ⟨h1, h2, ops[i], by simp [h1], ?_⟩
    simpa [h1] using h3
  · rintro ⟨h1, h2, o, h3, h4⟩
    refine ⟨h1, h2, ?_⟩
    rw [h3]
    simpa using h4

theorem wpAny_inv {P : Program} {ops : Array Oper} {Q : Exit → Act → World → Prop} (I : (Nat → Bool) → Act → World → Prop) (hord : inOrder 0 ops.toList = true) (hs : StepsOK P ops Q I 0 ops.toList)
    (hd : ∀ L a w, I L a w → (∀ i, i < ops.size → L i = true) → Q .normal a w) : ∀ (fuel : Nat) (listed : Array Bool) (a : Act) (w : World), listed.size = ops.size → (List.range ops.size).countP (fun i => !listed.getD i true) ≤ fuel → I (fun j => listed.getD j false) a w → wpAny P .any ops Q fuel listed a w := by
  have same : ∀ (listed : Array Bool) i, i < listed.size → listed.getD i true = listed.getD i false := by
    intro listed i hi
    simp [Array.getD, hi]
  have none_ready : ∀ (listed : Array Bool), listed.size = ops.size → Region.ready .any ops listed = [] → ∀ i, i < ops.size → listed.getD i false = true := by
    intro listed hsz hr i
    induction i using Nat.strongRecOn with
    | ind i ih =>
      intro hi
      cases hb : listed.getD i false with
      | true => rfl
      | false =>
        exfalso
        have ho : ops[i]? = some ops[i] := by simp [hi]
        have h1 := order_at (i := i) (o := ops[i]) hord (by rw [Array.getElem?_toList]; exact ho)
        have : i ∈ Region.ready .any ops listed := by
          refine ready_iff.2 ⟨hi, by rw [same listed i (by omega)]; exact hb, ops[i], ho, ?_⟩
          unfold Aft
          rw [List.all_eq_true] at h1 ⊢
          intro e he
          have h2 := h1 e he
          simp only [Bool.or_eq_true, decide_eq_true_eq, Nat.zero_add] at h2 ⊢
          rcases h2 with h2 | h2
          · exact Or.inl h2
          · exact Or.inr (ih e.on h2 (by omega))
        rw [hr] at this
        cases this
  intro fuel
  induction fuel with
  | zero =>
    intro listed a w hsz hc hI
    have hall : ∀ i, i < ops.size → listed.getD i true = true := by
      intro i hi
      have h0 := Nat.le_zero.1 hc
      rw [List.countP_eq_zero] at h0
      have := h0 i (List.mem_range.2 hi)
      simpa using this
    refine ⟨?_, hd _ _ _ hI (fun i hi => by rw [← same listed i (by omega)]; exact hall i hi)⟩
    rw [List.eq_nil_iff_forall_not_mem]
    intro i hi
    obtain ⟨h1, h2, _⟩ := ready_iff.1 hi
    rw [hall i h1] at h2
    cases h2
  | succ fuel ih =>
    intro listed a w hsz hc hI
    refine ⟨fun hr => hd _ _ _ hI (none_ready listed hsz hr), fun i hi => ?_⟩
    obtain ⟨h1, h2, o, ho, haf⟩ := ready_iff.1 hi
    have hst := steps_at (i := i) hs (by simpa using ho)
    rw [Nat.zero_add] at hst
    refine wpOp_step ho (fun K hK => hst _ a w hI (by rw [← same listed i (by omega)]; exact h2) haf K (fun a' w' h' => hK a' w' ?_))
    refine ih _ a' w' (by simpa using hsz) ?_ ?_
    · have := cnt_lt (p := fun j => !(listed.setIfInBounds i true).getD j true) (q := fun j => !listed.getD j true) (l := List.range ops.size) (i := i) ?_ (List.mem_range.2 h1) (by simp [h2]) ?_
      · omega
      · intro x hx
        by_cases hxi : x = i
        · subst hxi; simp [h2]
        · simp only [Bool.not_eq_true'] at hx ⊢
          by_cases hxs : x < listed.size
          · simp [Array.getD, hxs, Ne.symm hxi] at hx ⊢; exact hx
          · simp [Array.getD, hxs] at hx
      · simp [Array.getD, show i < listed.size by omega]
    · have e : (fun j => (listed.setIfInBounds i true).getD j false) = (fun j => j == i || listed.getD j false) := by
        funext x
        by_cases hxi : x = i
        · subst hxi; simp [Array.getD, show x < listed.size by omega]
        · by_cases hxs : x < listed.size
          · simp [Array.getD, hxs, Ne.symm hxi, hxi]
          · simp [Array.getD, hxs, hxi]
      rw [e]
      exact h'

/-- A region that draws its order, by what holds at any time. -/
theorem wp_region_inv {P : Program} {ops : Array Oper} {Q : Exit → Act → World → Prop} {id : Nat} {a : Act} {w : World} (hm : P.follows .mixedOrders = true) (I : (Nat → Bool) → Act → World → Prop)
    (hord : inOrder 0 ops.toList = true) (h0 : I (fun _ => false) a w.drew) (hd : ∀ L a w, I L a w → (∀ i, i < ops.size → L i = true) → Q .normal a w) (hs : StepsOK P ops Q I 0 ops.toList) : (Code.region id ops true).wp P Q a w := by
  refine wp_region_any hm (wpAny_inv I hord hs hd ops.size _ a _ (by simp) ?_ ?_)
  · refine Nat.le_trans List.countP_le_length ?_
    simp
  · have e : (fun j => (Array.replicate ops.size false).getD j false) = fun _ => false := by
      funext x
      simp [Array.getD]
    rw [e]
    exact h0

/-- Slot s holds v from now on. -/
def upd (U : Nat → Value) (s : Nat) (v : Value) : Nat → Value := fun t => bif t == s then v else U t
/-- The frame a, with what U says in the slots. -/
def putAll (a : Act) (slots : List Nat) (U : Nat → Value) : Act := slots.foldl (fun b s => b.put (some s) (U s)) a
theorem putAll_self (a : Act) : ∀ (slots : List Nat), putAll a slots (fun s => a.tmps.getD s undef) = a := by
  intro slots
  induction slots with
  | nil => rfl
  | cons s l ih =>
    have e : a.put (some s) (a.tmps.getD s undef) = a := by
      unfold Act.put
      simp only
      have : a.tmps.setIfInBounds s (a.tmps.getD s undef) = a.tmps := by
        apply Array.ext
        · simp
        · intro i h1 h2
          rw [Array.getElem_setIfInBounds]
          split
          · rename_i h; subst h; simp [Array.getD, h2]
          · rfl
      rw [this]
    unfold putAll at ih ⊢
    rw [List.foldl_cons, e]
    exact ih

/-- A region that draws its order: what its slots hold (U) and the world, by what is listed (L). -/
def StepU (P : Program) (ops : Array Oper) (Q : Exit → Act → World → Prop) (a : Act) (slots : List Nat) (F : (Nat → Bool) → (Nat → Value) → World → Prop) (k : Nat) (o : Oper) : Prop :=
  ∀ L U w, F L U w → L k = false → Aft o L = true → ∀ K : Act → World → Prop, (∀ U' a' w', a' = putAll a slots U' → F (fun j => j == k || L j) U' w' → K a' w') →
    if Region.wanted o (yielded ops (putAll a slots U).tmps) = true then Oper.wp P o (putAll a slots U) w K Q else K ((putAll a slots U).put o.dst undef) w
def StepsU (P : Program) (ops : Array Oper) (Q : Exit → Act → World → Prop) (a : Act) (slots : List Nat) (F : (Nat → Bool) → (Nat → Value) → World → Prop) : Nat → List Oper → Prop
  | _, [] => True
  | k, o :: os => StepU P ops Q a slots F k o ∧ StepsU P ops Q a slots F (k + 1) os
theorem StepsU.nil {P : Program} {ops : Array Oper} {Q : Exit → Act → World → Prop} {a : Act} {slots : List Nat} {F : (Nat → Bool) → (Nat → Value) → World → Prop} {k : Nat} : StepsU P ops Q a slots F k [] := trivial
theorem StepsU.plain {P : Program} {ops : Array Oper} {Q : Exit → Act → World → Prop} {a : Act} {slots : List Nat} {F : (Nat → Bool) → (Nat → Value) → World → Prop} {k : Nat} {o : Oper} {os : List Oper} (hg : o.guard = none)
    (h : ∀ L U w, F L U w → L k = false → Aft o L = true → ∀ K : Act → World → Prop, (∀ U' a' w', a' = putAll a slots U' → F (fun j => j == k || L j) U' w' → K a' w') → Oper.wp P o (putAll a slots U) w K Q)
    (hs : StepsU P ops Q a slots F (k + 1) os) : StepsU P ops Q a slots F k (o :: os) := by
  refine ⟨fun L U w hF hL haf K hK => ?_, hs⟩
  have hw : Region.wanted o (yielded ops (putAll a slots U).tmps) = true := by simp [Region.wanted, hg]
  rw [if_pos hw]
  exact h L U w hF hL haf K hK
/-- A goal that is not looked into. -/
structure Gate (p : Prop) : Prop where
  out : p
theorem StepsU.run {P : Program} {ops : Array Oper} {Q : Exit → Act → World → Prop} {a : Act} {slots : List Nat} {F : (Nat → Bool) → (Nat → Value) → World → Prop} {k : Nat} {o : Oper} {os : List Oper} (hg : o.guard = none)
    (h : ∀ L U w, F L U w → L k = false → Aft o L = true → ∀ (A : Act) (K : Act → World → Prop), A = putAll a slots U → (∀ U' a' w', a' = putAll a slots U' → F (fun j => j == k || L j) U' w' → K a' w') → Gate (Oper.wp P o A w K Q))
    (hs : StepsU P ops Q a slots F (k + 1) os) : StepsU P ops Q a slots F k (o :: os) :=
  StepsU.plain hg (fun L U w hF hL haf K hK => (h L U w hF hL haf _ K rfl hK).out) hs
theorem rd {A a : Act} {slots : List Nat} {U : Nat → Value} (hA : A = putAll a slots U) (s : Nat) (h : (putAll a slots U).tmps[s]? = some (U s)) {v : Value} (hv : U s = v) : A.tmps[s]? = some v := by rw [hA, h, hv]
theorem StepsU.steps {P : Program} {ops : Array Oper} {Q : Exit → Act → World → Prop} {a : Act} {slots : List Nat} {F : (Nat → Bool) → (Nat → Value) → World → Prop} : ∀ {l : List Oper} {k : Nat}, StepsU P ops Q a slots F k l →
    StepsOK P ops Q (fun L a' w' => ∃ U, a' = putAll a slots U ∧ F L U w') k l
  | [], _, _ => trivial
  | o :: l, k, h => by
    refine ⟨?_, h.2.steps⟩
    rintro L _ w' ⟨U, rfl, hF⟩ hL haf K hK
    exact h.1 L U w' hF hL haf K (fun U' a' w'' e hF' => hK a' w'' ⟨U', e, hF'⟩)
theorem wp_region_U {P : Program} {ops : Array Oper} {Q : Exit → Act → World → Prop} {id : Nat} {a : Act} {w : World} (hm : P.follows .mixedOrders = true) (slots : List Nat) (F : (Nat → Bool) → (Nat → Value) → World → Prop)
    (hord : inOrder 0 ops.toList = true) (h0 : ∀ U, F (fun _ => false) U w.drew) (hs : StepsU P ops Q a slots F 0 ops.toList) (hd : ∀ L U w', (∀ i, i < ops.size → L i = true) → F L U w' → Q .normal (putAll a slots U) w') : (Code.region id ops true).wp P Q a w := by
  refine wp_region_inv hm (fun L a' w' => ∃ U, a' = putAll a slots U ∧ F L U w') hord ⟨_, (putAll_self a slots).symm, h0 _⟩ ?_ hs.steps
  rintro L _ w' ⟨U, rfl, hF⟩ hall
  exact hd L U w' hall hF
/-- A frame's slots, those of the mask by U. -/
def setM (U : Nat → Value) : List (Option Nat) → List Value → List Value
  | [], l => l
  | some s :: m, _ :: l => U s :: setM U m l
  | none :: m, v :: l => v :: setM U m l
  | _ :: _, [] => []
theorem setM_nil (U : Nat → Value) (l : List Value) : setM U [] l = l := by unfold setM; rfl
theorem setM_some (U : Nat → Value) (s : Nat) (m : List (Option Nat)) (v : Value) (l : List Value) : setM U (some s :: m) (v :: l) = U s :: setM U m l := by rw [setM]
theorem setM_none (U : Nat → Value) (m : List (Option Nat)) (v : Value) (l : List Value) : setM U (none :: m) (v :: l) = v :: setM U m l := by rw [setM]
theorem wp_region_M {P : Program} {ops : Array Oper} {Q : Exit → Act → World → Prop} {id : Nat} {l : List Value} {d : List Deferred} {w : World} (hm : P.follows .mixedOrders = true) (slots : List Nat) (mask : List (Option Nat)) (hmask : ∀ U, putAll ⟨l.toArray, d⟩ slots U = ⟨(setM U mask l).toArray, d⟩) (F : (Nat → Bool) → (Nat → Value) → World → Prop)
    (hord : inOrder 0 ops.toList = true) (h0 : ∀ U, F (fun _ => false) U w.drew) (hs : StepsU P ops Q ⟨l.toArray, d⟩ slots F 0 ops.toList) (hd : ∀ L U w', (∀ i, i < ops.size → L i = true) → F L U w' → Q .normal ⟨(setM U mask l).toArray, d⟩ w') : (Code.region id ops true).wp P Q ⟨l.toArray, d⟩ w := by
  refine wp_region_U hm slots F hord h0 hs (fun L U w' h1 h2 => ?_)
  rw [hmask]
  exact hd L U w' h1 h2
end Go.Proofs.Ytlonnhnfmcndfad
/- A region that draws its order and leaves all that lay there: one predicate for each operation's slot, moved on by one law; no statement of the seat is proved here. -/
namespace Go.Proofs.Ytlonnhnfmcndfad
open Go.RowKit
set_option linter.unusedVariables false

section
variable {P : Program} {ops : Array Oper} {Q : Exit → Act → World → Prop} {a : Act} {sls : List Nat} {W : World} {prs : List (Value → World → Prop)} {k : Nat} {o : Oper} {os : List Oper}
end
theorem put_tmps_same (a : Act) (s : Nat) (v : Value) (h : s < a.tmps.size) : (a.put (some s) v).tmps[s]? = some v := by simp [Act.put, h]
theorem put_tmps_other (a : Act) {s t : Nat} (v : Value) (h : t ≠ s) : (a.put (some s) v).tmps[t]? = a.tmps[t]? := by simp [Act.put, Ne.symm h]
theorem put_size (a : Act) (s : Nat) (v : Value) : (a.put (some s) v).tmps.size = a.tmps.size := by simp [Act.put]
theorem putAll_size (a : Act) : ∀ (sls : List Nat) (U : Nat → Value), (putAll a sls U).tmps.size = a.tmps.size := by
  intro sls
  induction sls generalizing a with
  | nil => intro U; rfl
  | cons s l ih => intro U; show (putAll (a.put (some s) (U s)) l U).tmps.size = _; rw [ih, put_size]
theorem putAll_defers (a : Act) : ∀ (sls : List Nat) (U : Nat → Value), (putAll a sls U).defers = a.defers := by
  intro sls
  induction sls generalizing a with
  | nil => intro U; rfl
  | cons s l ih => intro U; show (putAll (a.put (some s) (U s)) l U).defers = _; rw [ih]; rfl
theorem putAll_other (a : Act) : ∀ (sls : List Nat) (U : Nat → Value) (t : Nat), t ∉ sls → (putAll a sls U).tmps[t]? = a.tmps[t]? := by
  intro sls
  induction sls generalizing a with
  | nil => intro U t _; rfl
  | cons s l ih =>
    intro U t ht
    show (putAll (a.put (some s) (U s)) l U).tmps[t]? = _
    rw [ih _ U t (fun h => ht (List.mem_cons_of_mem _ h)), put_tmps_other _ _ (fun e => by subst e; exact ht (List.mem_cons_self ..))]
theorem putAll_mem (a : Act) : ∀ (sls : List Nat) (U : Nat → Value) (t : Nat), t ∈ sls → t < a.tmps.size → (putAll a sls U).tmps[t]? = some (U t) := by
  intro sls
  induction sls generalizing a with
  | nil => intro U t h; cases h
  | cons s l ih =>
    intro U t ht hsz
    show (putAll (a.put (some s) (U s)) l U).tmps[t]? = _
    by_cases hl : t ∈ l
    · exact ih _ U t hl (by rw [put_size]; exact hsz)
    · rw [putAll_other _ l U t hl]
      rcases List.mem_cons.1 ht with rfl | h
      · exact put_tmps_same _ _ _ hsz
      · exact absurd h hl
theorem act_ext {a b : Act} (hd : a.defers = b.defers) (hs : a.tmps.size = b.tmps.size) (ht : ∀ t : Nat, a.tmps[t]? = b.tmps[t]?) : a = b := by
  cases a; cases b
  simp only at hd hs ht
  subst hd
  congr 1
  exact Array.ext_getElem? ht
theorem putAll_upd (a : Act) (sls : List Nat) (U : Nat → Value) (s : Nat) (v : Value) (hs : s ∈ sls) (hsz : s < a.tmps.size) : (putAll a sls U).put (some s) v = putAll a sls (upd U s v) := by
  refine act_ext ?_ ?_ ?_
  · rw [putAll_defers]; show (putAll a sls U).defers = _; rw [putAll_defers]
  · rw [put_size, putAll_size, putAll_size]
  · intro t
    by_cases e : t = s
    · subst e
      rw [put_tmps_same _ _ _ (by rw [putAll_size]; exact hsz), putAll_mem _ _ _ _ hs hsz]
      simp [upd]
    · rw [put_tmps_other _ _ e]
      by_cases ht : t ∈ sls
      · by_cases hl : t < a.tmps.size
        · rw [putAll_mem _ _ _ _ ht hl, putAll_mem _ _ _ _ ht hl]
          have e' : (t == s) = false := by simp [e]
          simp [upd, e']
        · rw [Array.getElem?_eq_none (by rw [putAll_size]; omega), Array.getElem?_eq_none (by rw [putAll_size]; omega)]
      · rw [putAll_other _ _ _ _ ht, putAll_other _ _ _ _ ht]
end Go.Proofs.Ytlonnhnfmcndfad
/- A region that draws its order, with some operations that write: one predicate for each slot, and what holds of the world by what has run; no statement of the seat is proved here. -/
namespace Go.Proofs.Ytlonnhnfmcndfad
open Go.RowKit
set_option linter.unusedVariables false

/-- Slot s, if any, holds v from now on. -/
def updO (U : Nat → Value) (s : Option Nat) (v : Value) : Nat → Value := match s with | some t => upd U t v | none => U
structure Frm5 (a : Act) (sls : List (Option Nat)) (U : Nat → Value) (A : Act) : Prop where
  got : ∀ (i s : Nat), sls[i]? = some (some s) → A.tmps[s]? = some (U s)
  old : ∀ s : Nat, (sls.contains (some s)) = false → A.tmps[s]? = a.tmps[s]?
abbrev CW5 := (Nat → Bool) → (Nat → Value) → World → Prop
def StepE (P : Program) (ops : Array Oper) (Q : Exit → Act → World → Prop) (a : Act) (sls : List (Option Nat)) (prs : List (Value → Prop)) (C : CW5) (k : Nat) (o : Oper) : Prop :=
  ∀ L U w, C L U w → (∀ (i s : Nat), L i = true → sls[i]? = some (some s) → prs.getD i (fun _ => True) (U s)) → L k = false → (∀ (i : Nat) (o' : Oper), ops.toList[i]? = some o' → L i = true → Aft o' L = true) → Aft o L = true → ∀ (A : Act) (K : Act → World → Prop), Frm5 a sls U A →
    (∀ v w', prs.getD k (fun _ => True) v → C (fun j => j == k || L j) (updO U o.dst v) w' → K (A.put o.dst v) w') → Gate (if Region.wanted o (yielded ops A.tmps) = true then Oper.wp P o A w K Q else K (A.put o.dst undef) w)
def StepsE (P : Program) (ops : Array Oper) (Q : Exit → Act → World → Prop) (a : Act) (sls : List (Option Nat)) (prs : List (Value → Prop)) (C : CW5) : Nat → List Oper → Prop
  | _, [] => True
  | k, o :: os => StepE P ops Q a sls prs C k o ∧ StepsE P ops Q a sls prs C (k + 1) os
section
variable {P : Program} {ops : Array Oper} {Q : Exit → Act → World → Prop} {a : Act} {sls : List (Option Nat)} {prs : List (Value → Prop)} {C : CW5} {k : Nat} {o : Oper} {os : List Oper}
theorem StepsE.nil : StepsE P ops Q a sls prs C k [] := trivial
theorem StepsE.run (hg : o.guard = none) (h : ∀ L U w, C L U w → (∀ (i s : Nat), L i = true → sls[i]? = some (some s) → prs.getD i (fun _ => True) (U s)) → L k = false → (∀ (i : Nat) (o' : Oper), ops.toList[i]? = some o' → L i = true → Aft o' L = true) → Aft o L = true → ∀ (A : Act) (K : Act → World → Prop), Frm5 a sls U A →
    (∀ v w', prs.getD k (fun _ => True) v → C (fun j => j == k || L j) (updO U o.dst v) w' → K (A.put o.dst v) w') → Gate (Oper.wp P o A w K Q)) (hs : StepsE P ops Q a sls prs C (k + 1) os) : StepsE P ops Q a sls prs C k (o :: os) := by
  refine ⟨fun L U w h1 h2 h3 h4 h5 A K hA hK => ⟨?_⟩, hs⟩
  rw [if_pos (by simp [Region.wanted, hg])]
  exact (h L U w h1 h2 h3 h4 h5 A K hA hK).out
end
theorem Frm5.is {a : Act} {sls : List (Option Nat)} {U : Nat → Value} {A : Act} (h : Frm5 a sls U A) (i s : Nat) (hi : sls[i]? = some (some s)) {v : Value} (hv : U s = v) : A.tmps[s]? = some v := by rw [h.got i s hi, hv]
def slotsOf (sls : List (Option Nat)) : List Nat := sls.filterMap id
theorem mem_slotsOf {sls : List (Option Nat)} {s : Nat} : s ∈ slotsOf sls ↔ some s ∈ sls := by simp [slotsOf]
theorem aft_mono {o : Oper} {L L' : Nat → Bool} (h : ∀ i, L i = true → L' i = true) (ha : Aft o L = true) : Aft o L' = true := by
  unfold Aft at ha ⊢
  rw [List.all_eq_true] at ha ⊢
  intro e he
  have := ha e he
  simp only [Bool.or_eq_true, Bool.not_eq_true'] at this ⊢
  exact this.imp id (h _)
theorem wp_region_E {P : Program} {ops : Array Oper} {Q : Exit → Act → World → Prop} {id : Nat} {l : List Value} {d : List Deferred} {W : World} (hm : P.follows .mixedOrders = true) (sls : List (Option Nat)) (mask : List (Option Nat)) (hmask : ∀ U, putAll ⟨l.toArray, d⟩ (slotsOf sls) U = ⟨(setM U mask l).toArray, d⟩)
    (prs : List (Value → Prop)) (C : CW5) (hdst : ops.toList.map (·.dst) = sls) (hnd : (slotsOf sls).Nodup) (hsz : (slotsOf sls).all (fun s => decide (s < l.length)) = true) (hord : inOrder 0 ops.toList = true)
    (h0 : ∀ U, C (fun _ => false) U W.drew) (hs : StepsE P ops Q ⟨l.toArray, d⟩ sls prs C 0 ops.toList)
    (hd : ∀ L U w', (∀ i, i < ops.size → L i = true) → C L U w' → (∀ (i s : Nat), sls[i]? = some (some s) → prs.getD i (fun _ => True) (U s)) → Q .normal ⟨(setM U mask l).toArray, d⟩ w') : (Code.region id ops true).wp P Q ⟨l.toArray, d⟩ W := by
  have hlen : sls.length = ops.size := by rw [← hdst]; simp
  have hlt : ∀ s ∈ slotsOf sls, s < (⟨l.toArray, d⟩ : Act).tmps.size := fun s hs => by
    have := List.all_eq_true.1 hsz s hs
    simpa using this
  have hat : ∀ (k : Nat) (o : Oper), ops.toList[k]? = some o → sls[k]? = some o.dst := by
    intro k o ho
    rw [← hdst, List.getElem?_map, ho]; rfl
  have hinj : ∀ (sls : List (Option Nat)), (slotsOf sls).Nodup → ∀ (i j s : Nat), sls[i]? = some (some s) → sls[j]? = some (some s) → i = j := by
    intro sls
    induction sls with
    | nil => intro _ i j s h; simp at h
    | cons x sls ih =>
      intro hn i j s hi hj
      cases x with
      | none =>
        have hn' : (slotsOf sls).Nodup := by simpa [slotsOf] using hn
        cases i with
        | zero => simp at hi
        | succ i =>
          cases j with
          | zero => simp at hj
          | succ j => rw [ih hn' i j s (by simpa using hi) (by simpa using hj)]
      | some y =>
        have hn' : y ∉ slotsOf sls ∧ (slotsOf sls).Nodup := by
          have : slotsOf (some y :: sls) = y :: slotsOf sls := by simp [slotsOf]
          rw [this] at hn
          exact List.nodup_cons.1 hn
        have mem : ∀ k, sls[k]? = some (some s) → s ∈ slotsOf sls := fun k hk => mem_slotsOf.2 (List.mem_of_getElem? hk)
        cases i with
        | zero =>
          cases j with
          | zero => rfl
          | succ j =>
            simp at hi hj
            subst hi
            exact absurd (mem j hj) hn'.1
        | succ i =>
          cases j with
          | zero =>
            simp at hi hj
            subst hj
            exact absurd (mem i hi) hn'.1
          | succ j => rw [ih hn'.2 i j s (by simpa using hi) (by simpa using hj)]
  let I : (Nat → Bool) → Act → World → Prop := fun L a' w' => ∃ U, a' = putAll ⟨l.toArray, d⟩ (slotsOf sls) U ∧ C L U w' ∧ (∀ (i : Nat) (o' : Oper), ops.toList[i]? = some o' → L i = true → Aft o' L = true) ∧ ∀ (i s : Nat), L i = true → sls[i]? = some (some s) → prs.getD i (fun _ => True) (U s)
  have steps : ∀ (os : List Oper) (k : Nat), (∀ j o, os[j]? = some o → ops.toList[k + j]? = some o) → StepsE P ops Q ⟨l.toArray, d⟩ sls prs C k os → StepsOK P ops Q I k os := by
    intro os
    induction os with
    | nil => intro k _ _; trivial
    | cons o os ih =>
      intro k hk hst
      refine ⟨?_, ih (k + 1) (fun j o' hj => by have := hk (j + 1) o' (by simpa using hj); rw [← this]; congr 1; omega) hst.2⟩
      have hko : ops.toList[k]? = some o := by simpa using hk 0 o rfl
      have hdo := hat k o hko
      rintro L _ w ⟨U, rfl, hC, hcl, hP⟩ hlk haf K hK
      have fin : ∀ v w', prs.getD k (fun _ => True) v → C (fun j => j == k || L j) (updO U o.dst v) w' → K ((putAll ⟨l.toArray, d⟩ (slotsOf sls) U).put o.dst v) w' := by
        intro v w' hv hC'
        refine hK _ _ ⟨updO U o.dst v, ?_, hC', ?_, ?_⟩
        · cases hd9 : o.dst with
          | none => rfl
          | some s =>
            have : s ∈ slotsOf sls := mem_slotsOf.2 (List.mem_of_getElem? (by rw [hdo, hd9]))
            exact putAll_upd _ _ _ _ _ this (hlt _ this)
        · intro i o' ho' hi
          by_cases e : i = k
          · subst e
            rw [hko] at ho'
            cases ho'
            exact aft_mono (fun j hj => by simp [hj]) haf
          · have hLi : L i = true := by simpa [e] using hi
            exact aft_mono (fun j hj => by simp [hj]) (hcl i o' ho' hLi)
        · intro i s hi his
          by_cases e : i = k
          · subst e
            rw [hdo] at his
            injection his with his
            rw [his]
            simp [updO, upd, hv]
          · have hLi : L i = true := by simpa [e] using hi
            have : updO U o.dst v s = U s := by
              cases hd9 : o.dst with
              | none => rfl
              | some t =>
                have hne : s ≠ t := fun e2 => e (hinj sls hnd i k s his (by rw [hdo, hd9, e2]))
                have e3 : (s == t) = false := by simp [hne]
                simp [updO, upd, e3]
            rw [this]
            exact hP i s hLi his
      exact (hst.1 L U w hC hP hlk hcl haf _ K ⟨fun i s hi => putAll_mem _ _ _ _ (mem_slotsOf.2 (List.mem_of_getElem? hi)) (hlt _ (mem_slotsOf.2 (List.mem_of_getElem? hi))), fun s hs => putAll_other _ _ _ _ (fun hm => by rw [mem_slotsOf] at hm; simp [hm] at hs)⟩ fin).out
  refine wp_region_inv hm I hord ⟨fun s => (⟨l.toArray, d⟩ : Act).tmps.getD s undef, (putAll_self _ _).symm, h0 _, (fun _ _ _ h => by cases h), (fun _ _ h => by cases h)⟩ ?_ (steps ops.toList 0 (fun j o h => by simpa using h) hs)
  rintro L _ w' ⟨U, rfl, hC, _, hP⟩ hall
  rw [hmask]
  exact hd L U w' hall hC (fun i s his => hP i s (hall i (by have := (List.getElem?_eq_some_iff.1 his).1; omega)) his)
end Go.Proofs.Ytlonnhnfmcndfad
/- The contract of merge, ahead of its loops; it proves no statement of the seat. -/
namespace Go.Proofs.Ytlonnhnfmcndfad
open Go.RowKit
set_option linter.unusedVariables false
namespace Euf
end Euf
end Go.Proofs.Ytlonnhnfmcndfad
