/- Joined: Reg5, Reg6, Reg7, Reg8: words and contracts; no statement of the seat is proved here. -/
import Derived.Test.YtomldkljlbdnjaaGreatJoin10Binds
import Derived.Test.YtomldkljlbdnjaaGreatJoin3Binds
/- A region that draws its order, with some operations that write: one predicate for each slot, and what holds of the world by what has run; no statement of the seat is proved here. -/
namespace Go.Proofs.YtomldkljlbdnjaaGreat
open Go.RowKit
set_option linter.unusedVariables false

/-- Slot s, if any, holds v from now on. -/
def updO (U : Nat → Value) (s : Option Nat) (v : Value) : Nat → Value := match s with | some t => upd U t v | none => U
abbrev CW5 := (Nat → Bool) → (Nat → Value) → World → Prop
def slotsOf (sls : List (Option Nat)) : List Nat := sls.filterMap id
theorem mem_slotsOf {sls : List (Option Nat)} {s : Nat} : s ∈ slotsOf sls ↔ some s ∈ sls := by simp [slotsOf]
theorem aft_mono {o : Oper} {L L' : Nat → Bool} (h : ∀ i, L i = true → L' i = true) (ha : Aft o L = true) : Aft o L' = true := by
  unfold Aft at ha ⊢
  rw [List.all_eq_true] at ha ⊢
  intro e he
  have := ha e he
  simp only [Bool.or_eq_true, Bool.not_eq_true'] at this ⊢
  exact this.imp id (h _)
end Go.Proofs.YtomldkljlbdnjaaGreat
/- Guarded operations in a region that draws its order, and stores at two worlds side by side; no statement of the seat is proved here. -/
namespace Go.Proofs.YtomldkljlbdnjaaGreat
open Go.RowKit
set_option linter.unusedVariables false
end Go.Proofs.YtomldkljlbdnjaaGreat
/- A region that draws its order, with calls that may panic, some operations that write: one predicate for each slot, and what holds of the world by what has run; no statement of the seat is proved here. -/
namespace Go.Proofs.YtomldkljlbdnjaaGreat
open Go.RowKit
set_option linter.unusedVariables false

structure Frm7 (a : Act) (sls : List (Option Nat)) (U : Nat → Value) (A : Act) : Prop where
  got : ∀ (i s : Nat), sls[i]? = some (some s) → A.tmps[s]? = some (U s)
  old : ∀ s : Nat, (sls.contains (some s)) = false → A.tmps[s]? = a.tmps[s]?
  def_ : A.defers = a.defers
def StepF (P : Program) (ops : Array Oper) (Q : Exit → Act → World → Prop) (a : Act) (sls : List (Option Nat)) (prs : List (Value → Prop)) (C : CW5) (k : Nat) (o : Oper) : Prop :=
  ∀ L U w, C L U w → (∀ (i s : Nat), L i = true → sls[i]? = some (some s) → prs.getD i (fun _ => True) (U s)) → L k = false → (∀ (i : Nat) (o' : Oper), ops.toList[i]? = some o' → L i = true → Aft o' L = true) → Aft o L = true → ∀ (A : Act) (K : Act → World → Prop), Frm7 a sls U A →
    (∀ v w', prs.getD k (fun _ => True) v → C (fun j => j == k || L j) (updO U o.dst v) w' → K (A.put o.dst v) w') → Gate (if Region.wanted o (yielded ops A.tmps) = true then Oper.wp P o A w K Q else K (A.put o.dst undef) w)
def StepsF (P : Program) (ops : Array Oper) (Q : Exit → Act → World → Prop) (a : Act) (sls : List (Option Nat)) (prs : List (Value → Prop)) (C : CW5) : Nat → List Oper → Prop
  | _, [] => True
  | k, o :: os => StepF P ops Q a sls prs C k o ∧ StepsF P ops Q a sls prs C (k + 1) os
section
variable {P : Program} {ops : Array Oper} {Q : Exit → Act → World → Prop} {a : Act} {sls : List (Option Nat)} {prs : List (Value → Prop)} {C : CW5} {k : Nat} {o : Oper} {os : List Oper}
theorem StepsF.nil : StepsF P ops Q a sls prs C k [] := trivial
theorem StepsF.run (hg : o.guard = none) (h : ∀ L U w, C L U w → (∀ (i s : Nat), L i = true → sls[i]? = some (some s) → prs.getD i (fun _ => True) (U s)) → L k = false → (∀ (i : Nat) (o' : Oper), ops.toList[i]? = some o' → L i = true → Aft o' L = true) → Aft o L = true → ∀ (A : Act) (K : Act → World → Prop), Frm7 a sls U A →
    (∀ v w', prs.getD k (fun _ => True) v → C (fun j => j == k || L j) (updO U o.dst v) w' → K (A.put o.dst v) w') → Gate (Oper.wp P o A w K Q)) (hs : StepsF P ops Q a sls prs C (k + 1) os) : StepsF P ops Q a sls prs C k (o :: os) := by
  refine ⟨fun L U w h1 h2 h3 h4 h5 A K hA hK => ⟨?_⟩, hs⟩
  rw [if_pos (by simp [Region.wanted, hg])]
  exact (h L U w h1 h2 h3 h4 h5 A K hA hK).out
end
theorem Frm7.is {a : Act} {sls : List (Option Nat)} {U : Nat → Value} {A : Act} (h : Frm7 a sls U A) (i s : Nat) (hi : sls[i]? = some (some s)) {v : Value} (hv : U s = v) : A.tmps[s]? = some v := by rw [h.got i s hi, hv]
theorem wp_region_F {P : Program} {ops : Array Oper} {Q : Exit → Act → World → Prop} {id : Nat} {l : List Value} {d : List Deferred} {W : World} (hm : P.follows .mixedOrders = true) (sls : List (Option Nat)) (mask : List (Option Nat)) (hmask : ∀ U, putAll ⟨l.toArray, d⟩ (slotsOf sls) U = ⟨(setM U mask l).toArray, d⟩)
    (prs : List (Value → Prop)) (C : CW5) (hdst : ops.toList.map (·.dst) = sls) (hnd : (slotsOf sls).Nodup) (hsz : (slotsOf sls).all (fun s => decide (s < l.length)) = true) (hord : inOrder 0 ops.toList = true)
    (h0 : ∀ U, C (fun _ => false) U W.drew) (hs : StepsF P ops Q ⟨l.toArray, d⟩ sls prs C 0 ops.toList)
    (hd : ∀ L U w', (∀ i, i < ops.size → L i = true) → C L U w' → (∀ (i s : Nat), sls[i]? = some (some s) → prs.getD i (fun _ => True) (U s)) → Q .normal ⟨(setM U mask l).toArray, d⟩ w') : (Code.region id ops true).wp P Q ⟨l.toArray, d⟩ W := by
  have hlen : sls.length = ops.size := by rw [← hdst]; simp
  have hlt : ∀ s ∈ slotsOf sls, s < (⟨l.toArray, d⟩ : Act).tmps.size := fun s hs => by
    have := List.all_eq_true.1 hsz s hs
    simpa using this
  have hat : ∀ (k : Nat) (o : Oper), ops.toList[k]? = some o → sls[k]? = some o.dst := by
    intro k o ho
    rw [← hdst, List.getElem?_map, ho]; rfl
  have hinj : ∀ (sls : List (Option Nat)), (slotsOf sls).Nodup → ∀ (i j s : Nat), sls[i]? = some (some s) → sls[j]? = some (some s) → i = j := by
    intro sls
    induction sls with
    | nil => intro _ i j s h; simp at h
    | cons x sls ih =>
      intro hn i j s hi hj
      cases x with
      | none =>
        have hn' : (slotsOf sls).Nodup := by simpa [slotsOf] using hn
        cases i with
        | zero => simp at hi
        | succ i =>
          cases j with
          | zero => simp at hj
          | succ j => rw [ih hn' i j s (by simpa using hi) (by simpa using hj)]
      | some y =>
        have hn' : y ∉ slotsOf sls ∧ (slotsOf sls).Nodup := by
          have : slotsOf (some y :: sls) = y :: slotsOf sls := by simp [slotsOf]
          rw [this] at hn
          exact List.nodup_cons.1 hn
        have mem : ∀ k, sls[k]? = some (some s) → s ∈ slotsOf sls := fun k hk => mem_slotsOf.2 (List.mem_of_getElem? hk)
        cases i with
        | zero =>
          cases j with
          | zero => rfl
          | succ j =>
            simp at hi hj
            subst hi
            exact absurd (mem j hj) hn'.1
        | succ i =>
          cases j with
          | zero =>
            simp at hi hj
            subst hj
            exact absurd (mem i hi) hn'.1
          | succ j => rw [ih hn'.2 i j s (by simpa using hi) (by simpa using hj)]
  let I : (Nat → Bool) → Act → World → Prop := fun L a' w' => ∃ U, a' = putAll ⟨l.toArray, d⟩ (slotsOf sls) U ∧ C L U w' ∧ (∀ (i : Nat) (o' : Oper), ops.toList[i]? = some o' → L i = true → Aft o' L = true) ∧ ∀ (i s : Nat), L i = true → sls[i]? = some (some s) → prs.getD i (fun _ => True) (U s)
  have steps : ∀ (os : List Oper) (k : Nat), (∀ j o, os[j]? = some o → ops.toList[k + j]? = some o) → StepsF P ops Q ⟨l.toArray, d⟩ sls prs C k os → StepsOK P ops Q I k os := by
    intro os
    induction os with
    | nil => intro k _ _; trivial
    | cons o os ih =>
      intro k hk hst
      refine ⟨?_, ih (k + 1) (fun j o' hj => by have := hk (j + 1) o' (by simpa using hj); rw [← this]; congr 1; omega) hst.2⟩
      have hko : ops.toList[k]? = some o := by simpa using hk 0 o rfl
      have hdo := hat k o hko
      rintro L _ w ⟨U, rfl, hC, hcl, hP⟩ hlk haf K hK
      have fin : ∀ v w', prs.getD k (fun _ => True) v → C (fun j => j == k || L j) (updO U o.dst v) w' → K ((putAll ⟨l.toArray, d⟩ (slotsOf sls) U).put o.dst v) w' := by
        intro v w' hv hC'
        refine hK _ _ ⟨updO U o.dst v, ?_, hC', ?_, ?_⟩
        · cases hd9 : o.dst with
          | none => rfl
          | some s =>
            have : s ∈ slotsOf sls := mem_slotsOf.2 (List.mem_of_getElem? (by rw [hdo, hd9]))
            exact putAll_upd _ _ _ _ _ this (hlt _ this)
        · intro i o' ho' hi
          by_cases e : i = k
          · subst e
            rw [hko] at ho'
            cases ho'
            exact aft_mono (fun j hj => by simp [hj]) haf
          · have hLi : L i = true := by simpa [e] using hi
            exact aft_mono (fun j hj => by simp [hj]) (hcl i o' ho' hLi)
        · intro i s hi his
          by_cases e : i = k
          · subst e
            rw [hdo] at his
            injection his with his
            rw [his]
            simp [updO, upd, hv]
          · have hLi : L i = true := by simpa [e] using hi
            have : updO U o.dst v s = U s := by
              cases hd9 : o.dst with
              | none => rfl
              | some t =>
                have hne : s ≠ t := fun e2 => e (hinj sls hnd i k s his (by rw [hdo, hd9, e2]))
                have e3 : (s == t) = false := by simp [hne]
                simp [updO, upd, e3]
            rw [this]
            exact hP i s hLi his
      exact (hst.1 L U w hC hP hlk hcl haf _ K ⟨fun i s hi => putAll_mem _ _ _ _ (mem_slotsOf.2 (List.mem_of_getElem? hi)) (hlt _ (mem_slotsOf.2 (List.mem_of_getElem? hi))), fun s hs => putAll_other _ _ _ _ (fun hm => by rw [mem_slotsOf] at hm; simp [hm] at hs), putAll_defers _ _ _⟩ fin).out
  refine wp_region_inv hm I hord ⟨fun s => (⟨l.toArray, d⟩ : Act).tmps.getD s undef, (putAll_self _ _).symm, h0 _, (fun _ _ _ h => by cases h), (fun _ _ h => by cases h)⟩ ?_ (steps ops.toList 0 (fun j o h => by simpa using h) hs)
  rintro L _ w' ⟨U, rfl, hC, _, hP⟩ hall
  rw [hmask]
  exact hd L U w' hall hC (fun i s his => hP i s (hall i (by have := (List.getElem?_eq_some_iff.1 his).1; omega)) his)
end Go.Proofs.YtomldkljlbdnjaaGreat
/- A region that draws its order, with a chain of operations that write, each behind the one ahead of it, and readers beside; no statement of the seat is proved here. -/
namespace Go.Proofs.YtomldkljlbdnjaaGreat
open Go.RowKit
set_option linter.unusedVariables false
abbrev Chain := List (Nat × Option Nat)
abbrev Phase := Nat → (Nat → Value) → World → Prop
def chN (ch : Chain) (j : Nat) : Nat := (ch.getD j (0, none)).1
def chS (ch : Chain) (j : Nat) : Option Nat := (ch.getD j (0, none)).2
/-- So far i of the chain's operations have run; their answers are vs. -/
def PC (ch : Chain) (Ph : Phase) : CW5 := fun L U w => ∃ i vs, i ≤ ch.length ∧ (∀ j, j < ch.length → L (chN ch j) = decide (j < i)) ∧ (∀ j s, j < i → chS ch j = some s → U s = vs j) ∧ Ph i vs w
theorem PC.start {ch : Chain} {Ph : Phase} {U : Nat → Value} {w : World} (h : Ph 0 (fun _ => undef) w) : PC ch Ph (fun _ => false) U w :=
  ⟨0, fun _ => undef, Nat.zero_le _, fun j _ => by simp, fun j s hj => absurd hj (Nat.not_lt_zero _), h⟩
theorem PC.read {ch : Chain} {Ph : Phase} {L : Nat → Bool} {U : Nat → Value} {w : World} {k : Nat} {s : Option Nat} {v : Value} (h : PC ch Ph L U w) (hk : (ch.all fun x => !(x.1 == k)) = true) (hs : (ch.all fun x => !(x.2 == s) || s == none) = true) : PC ch Ph (fun j => j == k || L j) (updO U s v) w := by
  obtain ⟨i, vs, h1, h2, h3, h4⟩ := h
  have at_ : ∀ j, j < ch.length → ch.getD j (0, none) ∈ ch := fun j hj => by
    rw [List.getD_eq_getElem?_getD, List.getElem?_eq_getElem hj]; exact List.getElem_mem hj
  refine ⟨i, vs, h1, fun j hj => ?_, fun j t hj ht => ?_, h4⟩
  · have := List.all_eq_true.1 hk _ (at_ j hj)
    have hne : (chN ch j == k) = false := by simpa [chN] using this
    show (chN ch j == k || L (chN ch j)) = _
    rw [hne, Bool.false_or, h2 j hj]
  · have := List.all_eq_true.1 hs _ (at_ j (by omega))
    rw [← h3 j t hj ht]
    cases s with
    | none => rfl
    | some s =>
      have hne : t ≠ s := by
        rintro rfl
        have e : (ch.getD j (0, none)).2 = some t := ht
        rw [e] at this
        simp at this
      have e3 : (t == s) = false := by simp [hne]
      simp [updO, upd, e3]
/-- The chain's operation i comes up. -/
theorem PC.step {ch : Chain} {Ph : Phase} {L : Nat → Bool} {U : Nat → Value} {w : World} (h : PC ch Ph L U w) (i : Nat) (hi : i < ch.length) (hL : L (chN ch i) = false) (hp : i = 0 ∨ L (chN ch (i - 1)) = true)
    (hnd : ∀ j, j < ch.length → chN ch j = chN ch i → j = i) (hsd : ∀ j, j < ch.length → chS ch j = chS ch i → (chS ch j).isSome = true → j = i) :
    ∃ vs, (∀ j s, j < i → chS ch j = some s → U s = vs j) ∧ Ph i vs w ∧ ∀ v w', Ph (i + 1) (fun j => if j = i then v else vs j) w' → PC ch Ph (fun j => j == chN ch i || L j) (updO U (chS ch i) v) w' := by
  obtain ⟨k, vs, h1, h2, h3, h4⟩ := h
  have e : k = i := by
    have a1 := h2 i hi
    rw [hL] at a1
    have a1 : ¬ i < k := by simpa using a1.symm
    rcases hp with rfl | hp
    · omega
    · have a2 := h2 (i - 1) (by omega)
      rw [hp] at a2
      have : i - 1 < k := by simpa using a2.symm
      omega
  subst e
  refine ⟨vs, h3, h4, fun v w' hP => ⟨k + 1, _, hi, fun j hj => ?_, fun j s hj hs => ?_, hP⟩⟩
  · by_cases hjk : j = k
    · subst hjk; simp
    · have hne : (chN ch j == chN ch k) = false := by
        simp only [beq_eq_false_iff_ne]
        exact fun e => hjk (hnd j hj e)
      show (chN ch j == chN ch k || L (chN ch j)) = _
      rw [hne, Bool.false_or, h2 j hj]
      exact decide_eq_decide.2 ⟨fun h => by omega, fun h => by omega⟩
  · by_cases hjk : j = k
    · subst hjk
      rw [if_pos rfl]
      unfold updO
      rw [hs]
      simp [upd]
    · rw [if_neg hjk, ← h3 j s (by omega) hs]
      unfold updO
      cases hck : chS ch k with
      | none => rfl
      | some t =>
        have hne : s ≠ t := by
          rintro rfl
          exact hjk (hsd j (by omega) (hs.trans hck.symm) (by rw [hs]; rfl))
        have e3 : (s == t) = false := by simp [hne]
        simp [upd, e3]
theorem PC.at_ {ch : Chain} {Ph : Phase} {L : Nat → Bool} {U : Nat → Value} {w : World} (h : PC ch Ph L U w) (m : Nat) (hm : m < ch.length) (hL : L (chN ch m) = false) : ∃ i vs, i ≤ m ∧ Ph i vs w := by
  obtain ⟨k, vs, h1, h2, h3, h4⟩ := h
  have a1 := h2 m hm
  rw [hL] at a1
  exact ⟨k, vs, by have : ¬ m < k := by simpa using a1.symm
                   omega, h4⟩
theorem PC.fin {ch : Chain} {Ph : Phase} {L : Nat → Bool} {U : Nat → Value} {w : World} (h : PC ch Ph L U w) (hp : 0 < ch.length) (hL : L (chN ch (ch.length - 1)) = true) : ∃ vs, (∀ j s, j < ch.length → chS ch j = some s → U s = vs j) ∧ Ph ch.length vs w := by
  obtain ⟨k, vs, h1, h2, h3, h4⟩ := h
  have a1 := h2 (ch.length - 1) (by omega)
  rw [hL] at a1
  have : ch.length - 1 < k := by simpa using a1.symm
  obtain rfl : k = ch.length := by omega
  exact ⟨vs, h3, h4⟩
/-- One operation, by a law for lists of them. -/
theorem op_list {P : Program} {o : Oper} {a : Act} {w : World} {K : Act → World → Prop} {Q : Exit → Act → World → Prop} (ty : TypeId) (x y : Operand) (ho : o.op = .store ty x y)
    (g : Nat) (cells : Array Value) (hx : a.eval x = .pointer (some ⟨g, 0, none⟩)) (hy : a.eval y = .agg cells) (t : TypeId) (old : Array Value) (hg : w.heap[g]? = some (.cells old t (0, 0))) (hi : (P.info? ty).map (·.size) = some cells.size)
    (hold : old.size = cells.size) (h1 : cells.toList.all (·.oneCell') = true) (h : K (a.put o.dst undef) (w.setRow g cells)) : o.wp P a w K Q :=
  wp_store_row ty x y ho g cells hx hy t old hg hi hold (by rw [← Array.all_toList]; exact h1) h
/-- The world gets a name. -/
theorem region_at {P : Program} {c : Code} {Q : Exit → Act → World → Prop} {a : Act} {w : World} (h : ∀ W, W = w → c.wp P Q a W) : c.wp P Q a w := h w rfl
end Go.Proofs.YtomldkljlbdnjaaGreat
