/- Joined: Reg, Rats, Own, CmpP: words and contracts; no statement of the seat is proved here. -/
import Derived.WalkKit
import Derived.RegionTactic
import Derived.Test.YteefniagebcagaaGreatDoorJoin0Reckons
import Derived.WalkSmall
import Derived.Deep.LoopGhost
import Derived.Laws.AppendOwnNone
namespace Go.Proofs.YteefniagebcagaaGreatDoor
open Go Go.RowKit
def Aft (o : Oper) (L : Nat → Bool) : Bool := o.after.toList.all fun e => !Region.binds .any e || L e.on
def StepOK (P : Program) (ops : Array Oper) (Q : Exit → Act → World → Prop) (I : (Nat → Bool) → Act → World → Prop) (k : Nat) (o : Oper) : Prop :=
  ∀ L a w, I L a w → L k = false → Aft o L = true → ∀ K : Act → World → Prop, (∀ a' w', I (fun j => j == k || L j) a' w' → K a' w') →
    if Region.wanted o (yielded ops a.tmps) = true then Oper.wp P o a w K Q else K (a.put o.dst undef) w
def StepsOK (P : Program) (ops : Array Oper) (Q : Exit → Act → World → Prop) (I : (Nat → Bool) → Act → World → Prop) : Nat → List Oper → Prop
  | _, [] => True
  | k, o :: os => StepOK P ops Q I k o ∧ StepsOK P ops Q I (k + 1) os
def inOrder : Nat → List Oper → Bool
  | _, [] => true
  | k, o :: os => (o.after.toList.all fun e => !Region.binds .any e || decide (e.on < k)) && inOrder (k + 1) os
theorem cnt_lt {p q : Nat → Bool} : ∀ {l : List Nat}, (∀ x, p x = true → q x = true) → ∀ {i : Nat}, i ∈ l → q i = true → p i = false → l.countP p < l.countP q
  | [], _, _, hi, _, _ => by cases hi
  | x :: l, h, i, hi, hq, hp => by
    have hle : l.countP p ≤ l.countP q := List.countP_mono_left (fun y _ hy => h y hy)
    rcases List.mem_cons.1 hi with e | e
    · subst e
      simp only [List.countP_cons, hq, hp]
      simp
      omega
    · have ih := cnt_lt (l := l) h e hq hp
      simp only [List.countP_cons]
      cases hx : p x with
      | false => simp; split <;> omega
      | true => simp [h x hx]; omega
theorem steps_at {P : Program} {ops : Array Oper} {Q : Exit → Act → World → Prop} {I : (Nat → Bool) → Act → World → Prop} : ∀ {l : List Oper} {k i : Nat} {o : Oper}, StepsOK P ops Q I k l → l[i]? = some o → StepOK P ops Q I (k + i) o
  | [], _, _, _, _, h => by simp at h
  | x :: l, k, 0, o, h, hi => by simp at hi; subst hi; exact h.1
  | x :: l, k, i + 1, o, h, hi => by
    have := steps_at (i := i) h.2 (by simpa using hi)
    rw [Nat.add_assoc, Nat.add_comm 1 i] at this
    exact this
theorem order_at : ∀ {l : List Oper} {k i : Nat} {o : Oper}, inOrder k l = true → l[i]? = some o → (o.after.toList.all fun e => !Region.binds .any e || decide (e.on < k + i)) = true
  | [], _, _, _, _, h => by simp at h
  | x :: l, k, 0, o, h, hi => by
    simp at hi; subst hi
    unfold inOrder at h
    exact (Bool.and_eq_true_iff.1 h).1
  | x :: l, k, i + 1, o, h, hi => by
    unfold inOrder at h
    have := order_at (i := i) (Bool.and_eq_true_iff.1 h).2 (by simpa using hi)
    rw [Nat.add_assoc, Nat.add_comm 1 i] at this
    exact this
theorem ready_iff {ops : Array Oper} {listed : Array Bool} {i : Nat} : i ∈ Region.ready .any ops listed ↔ i < ops.size ∧ listed.getD i true = false ∧ ∃ o,ops[i]? = some o ∧ Aft o (fun j => listed.getD j false) = true := by
 unfold Region.ready Aft;simp only [List.mem_filter,List.mem_range,Bool.and_eq_true,Bool.not_eq_true'];constructor
 ·
  rintro ⟨h1,h2,h3⟩;refine ⟨h1,h2,ops[i],by simp [h1],?_⟩
  simpa [h1] using h3
 · rintro ⟨h1,h2,o,h3,h4⟩;refine ⟨h1,h2,?_⟩;rw [h3];simpa using h4
theorem wpAny_inv {P : Program} {ops : Array Oper} {Q : Exit → Act → World → Prop} (I : (Nat → Bool) → Act → World → Prop) (hord : inOrder 0 ops.toList = true) (hs : StepsOK P ops Q I 0 ops.toList)
  (hd : ∀ L a w,I L a w → (∀ i,i < ops.size → L i = true) → Q .normal a w) : ∀ (fuel : Nat) (listed : Array Bool) (a : Act) (w : World),listed.size = ops.size → (List.range ops.size).countP (fun i => !listed.getD i true) ≤ fuel → I (fun j => listed.getD j false) a w → wpAny P .any ops Q fuel listed a w := by
 have same : ∀ (listed : Array Bool) i,i < listed.size → listed.getD i true = listed.getD i false := by
  intro listed i hi;simp [Array.getD,hi]
 have none_ready : ∀ (listed : Array Bool),listed.size = ops.size → Region.ready .any ops listed = [] → ∀ i,i < ops.size → listed.getD i false = true := by
  intro listed hsz hr i;induction i using Nat.strongRecOn with
  | ind i ih =>
   intro hi;cases hb : listed.getD i false with
   | true => rfl
   | false =>
    exfalso
    have ho : ops[i]? = some ops[i] := by simp [hi]
    have h1 := order_at (i := i) (o := ops[i]) hord (by rw [Array.getElem?_toList];exact ho)
    have : i ∈ Region.ready .any ops listed := by
     refine ready_iff.2 ⟨hi,by rw [same listed i (by omega)];exact hb,ops[i],ho,?_⟩
     unfold Aft;rw [List.all_eq_true] at h1 ⊢;intro e he;have h2 := h1 e he;simp only [Bool.or_eq_true,decide_eq_true_eq,Nat.zero_add] at h2 ⊢;rcases h2 with h2 | h2
     · exact Or.inl h2
     · exact Or.inr (ih e.on h2 (by omega))
    rw [hr] at this;cases this
 intro fuel;induction fuel with
 | zero =>
  intro listed a w hsz hc hI;have hall : ∀ i,i < ops.size → listed.getD i true = true := by
   intro i hi;have h0 := Nat.le_zero.1 hc;rw [List.countP_eq_zero] at h0;have := h0 i (List.mem_range.2 hi);simpa using this
  refine ⟨?_,hd _ _ _ hI (fun i hi => by rw [← same listed i (by omega)];exact hall i hi)⟩
  rw [List.eq_nil_iff_forall_not_mem];intro i hi;obtain ⟨h1,h2,_⟩ := ready_iff.1 hi;rw [hall i h1] at h2;cases h2
 | succ fuel ih =>
  intro listed a w hsz hc hI;refine ⟨fun hr => hd _ _ _ hI (none_ready listed hsz hr),fun i hi => ?_⟩
  obtain ⟨h1,h2,o,ho,haf⟩ := ready_iff.1 hi;have hst := steps_at (i := i) hs (by simpa using ho)
  rw [Nat.zero_add] at hst;refine wpOp_step ho (fun K hK => hst _ a w hI (by rw [← same listed i (by omega)];exact h2) haf K (fun a' w' h' => hK a' w' ?_))
  refine ih _ a' w' (by simpa using hsz) ?_ ?_
  ·
   have := cnt_lt (p := fun j => !(listed.setIfInBounds i true).getD j true) (q := fun j => !listed.getD j true) (l := List.range ops.size) (i := i) ?_ (List.mem_range.2 h1) (by simp [h2]) ?_
   · omega
   ·
    intro x hx;by_cases hxi : x = i
    · subst hxi;simp [h2]
    ·
     simp only [Bool.not_eq_true'] at hx ⊢;by_cases hxs : x < listed.size
     · simp [Array.getD,hxs,Ne.symm hxi] at hx ⊢;exact hx
     · simp [Array.getD,hxs] at hx
   · simp [Array.getD,show i < listed.size by omega]
  ·
   have e : (fun j => (listed.setIfInBounds i true).getD j false) = (fun j => j == i || listed.getD j false) := by
    funext x
    by_cases hxi : x = i
    · subst hxi;simp [Array.getD,show x < listed.size by omega]
    ·
     by_cases hxs : x < listed.size
     · simp [Array.getD,hxs,Ne.symm hxi,hxi]
     · simp [Array.getD,hxs,hxi]
   rw [e];exact h'
theorem wp_region_inv {P : Program} {ops : Array Oper} {Q : Exit → Act → World → Prop} {id : Nat} {a : Act} {w : World} (hm : P.follows .mixedOrders = true) (I : (Nat → Bool) → Act → World → Prop)
  (hord : inOrder 0 ops.toList = true) (h0 : I (fun _ => false) a w.drew) (hd : ∀ L a w,I L a w → (∀ i,i < ops.size → L i = true) → Q .normal a w) (hs : StepsOK P ops Q I 0 ops.toList) : (Code.region id ops true).wp P Q a w := by
 refine wp_region_any hm (wpAny_inv I hord hs hd ops.size _ a _ (by simp) ?_ ?_)
 · refine Nat.le_trans List.countP_le_length ?_;simp
 ·
  have e : (fun j => (Array.replicate ops.size false).getD j false) = fun _ => false := by
   funext x
   simp [Array.getD]
  rw [e];exact h0
def upd (U : Nat → Value) (s : Nat) (v : Value) : Nat → Value := fun t => bif t == s then v else U t
def putAll (a : Act) (slots : List Nat) (U : Nat → Value) : Act := slots.foldl (fun b s => b.put (some s) (U s)) a
theorem putAll_self (a : Act) : ∀ (slots : List Nat),putAll a slots (fun s => a.tmps.getD s undef) = a := by
 intro slots;induction slots with
 | nil => rfl
 | cons s l ih =>
  have e : a.put (some s) (a.tmps.getD s undef) = a := by
   unfold Act.put;simp only;have : a.tmps.setIfInBounds s (a.tmps.getD s undef) = a.tmps := by
    apply Array.ext
    · simp
    ·
     intro i h1 h2;rw [Array.getElem_setIfInBounds];split
     · rename_i h;subst h;simp [Array.getD,h2]
     · rfl
   rw [this]
  unfold putAll at ih ⊢;rw [List.foldl_cons,e];exact ih
def StepU (P : Program) (ops : Array Oper) (Q : Exit → Act → World → Prop) (a : Act) (slots : List Nat) (F : (Nat → Bool) → (Nat → Value) → World → Prop) (k : Nat) (o : Oper) : Prop :=
  ∀ L U w, F L U w → L k = false → Aft o L = true → ∀ K : Act → World → Prop, (∀ U' a' w', a' = putAll a slots U' → F (fun j => j == k || L j) U' w' → K a' w') →
    if Region.wanted o (yielded ops (putAll a slots U).tmps) = true then Oper.wp P o (putAll a slots U) w K Q else K ((putAll a slots U).put o.dst undef) w
def StepsU (P : Program) (ops : Array Oper) (Q : Exit → Act → World → Prop) (a : Act) (slots : List Nat) (F : (Nat → Bool) → (Nat → Value) → World → Prop) : Nat → List Oper → Prop
  | _, [] => True
  | k, o :: os => StepU P ops Q a slots F k o ∧ StepsU P ops Q a slots F (k + 1) os
theorem StepsU.nil {P : Program} {ops : Array Oper} {Q : Exit → Act → World → Prop} {a : Act} {slots : List Nat} {F : (Nat → Bool) → (Nat → Value) → World → Prop} {k : Nat} : StepsU P ops Q a slots F k [] := trivial
theorem StepsU.cons {P : Program} {ops : Array Oper} {Q : Exit → Act → World → Prop} {a : Act} {slots : List Nat} {F : (Nat → Bool) → (Nat → Value) → World → Prop} {k : Nat} {o : Oper} {os : List Oper}
    (h : ∀ L U w, F L U w → L k = false → Aft o L = true → ∀ K : Act → World → Prop, (∀ U' a' w', a' = putAll a slots U' → F (fun j => j == k || L j) U' w' → K a' w') →
      if Region.wanted o (yielded ops (putAll a slots U).tmps) = true then Oper.wp P o (putAll a slots U) w K Q else K ((putAll a slots U).put o.dst undef) w)
    (hs : StepsU P ops Q a slots F (k + 1) os) : StepsU P ops Q a slots F k (o :: os) := ⟨h, hs⟩
theorem StepsU.plain {P : Program} {ops : Array Oper} {Q : Exit → Act → World → Prop} {a : Act} {slots : List Nat} {F : (Nat → Bool) → (Nat → Value) → World → Prop} {k : Nat} {o : Oper} {os : List Oper} (hg : o.guard = none)
  (h : ∀ L U w,F L U w → L k = false → Aft o L = true → ∀ K : Act → World → Prop,(∀ U' a' w',a' = putAll a slots U' → F (fun j => j == k || L j) U' w' → K a' w') → Oper.wp P o (putAll a slots U) w K Q)
  (hs : StepsU P ops Q a slots F (k + 1) os) : StepsU P ops Q a slots F k (o :: os) := by
 refine ⟨fun L U w hF hL haf K hK => ?_,hs⟩
 have hw : Region.wanted o (yielded ops (putAll a slots U).tmps) = true := by simp [Region.wanted,hg]
 rw [if_pos hw];exact h L U w hF hL haf K hK
structure Gate (p : Prop) : Prop where
  out : p
theorem StepsU.run {P : Program} {ops : Array Oper} {Q : Exit → Act → World → Prop} {a : Act} {slots : List Nat} {F : (Nat → Bool) → (Nat → Value) → World → Prop} {k : Nat} {o : Oper} {os : List Oper} (hg : o.guard = none)
    (h : ∀ L U w, F L U w → L k = false → Aft o L = true → ∀ (A : Act) (K : Act → World → Prop), A = putAll a slots U → (∀ U' a' w', a' = putAll a slots U' → F (fun j => j == k || L j) U' w' → K a' w') → Gate (Oper.wp P o A w K Q))
    (hs : StepsU P ops Q a slots F (k + 1) os) : StepsU P ops Q a slots F k (o :: os) :=
  StepsU.plain hg (fun L U w hF hL haf K hK => (h L U w hF hL haf _ K rfl hK).out) hs
theorem StepsU.cond {P : Program} {ops : Array Oper} {Q : Exit → Act → World → Prop} {a : Act} {slots : List Nat} {F : (Nat → Bool) → (Nat → Value) → World → Prop} {k : Nat} {o : Oper} {os : List Oper}
    (h : ∀ L U w, F L U w → L k = false → Aft o L = true → ∀ (A : Act) (K : Act → World → Prop), A = putAll a slots U → (∀ U' a' w', a' = putAll a slots U' → F (fun j => j == k || L j) U' w' → K a' w') → Gate (if Region.wanted o (yielded ops A.tmps) = true then Oper.wp P o A w K Q else K (A.put o.dst undef) w))
    (hs : StepsU P ops Q a slots F (k + 1) os) : StepsU P ops Q a slots F k (o :: os) :=
  StepsU.cons (fun L U w hF hL haf K hK => (h L U w hF hL haf _ K rfl hK).out) hs
theorem rd {A a : Act} {slots : List Nat} {U : Nat → Value} (hA : A = putAll a slots U) (s : Nat) (h : (putAll a slots U).tmps[s]? = some (U s)) {v : Value} (hv : U s = v) : A.tmps[s]? = some v := by rw [hA,h,hv]
theorem StepsU.steps {P : Program} {ops : Array Oper} {Q : Exit → Act → World → Prop} {a : Act} {slots : List Nat} {F : (Nat → Bool) → (Nat → Value) → World → Prop} : ∀ {l : List Oper} {k : Nat}, StepsU P ops Q a slots F k l →
    StepsOK P ops Q (fun L a' w' => ∃ U, a' = putAll a slots U ∧ F L U w') k l
  | [], _, _ => trivial
  | o :: l, k, h => by
    refine ⟨?_, h.2.steps⟩
    rintro L _ w' ⟨U, rfl, hF⟩ hL haf K hK
    exact h.1 L U w' hF hL haf K (fun U' a' w'' e hF' => hK a' w'' ⟨U', e, hF'⟩)
theorem wp_region_U {P : Program} {ops : Array Oper} {Q : Exit → Act → World → Prop} {id : Nat} {a : Act} {w : World} (hm : P.follows .mixedOrders = true) (slots : List Nat) (F : (Nat → Bool) → (Nat → Value) → World → Prop)
  (hord : inOrder 0 ops.toList = true) (h0 : ∀ U,F (fun _ => false) U w.drew) (hs : StepsU P ops Q a slots F 0 ops.toList) (hd : ∀ L U w',(∀ i,i < ops.size → L i = true) → F L U w' → Q .normal (putAll a slots U) w') : (Code.region id ops true).wp P Q a w := by
 refine wp_region_inv hm (fun L a' w' => ∃ U,a' = putAll a slots U ∧ F L U w') hord ⟨_,(putAll_self a slots).symm,h0 _⟩ ?_ hs.steps
 rintro L _ w' ⟨U,rfl,hF⟩ hall;exact hd L U w' hall hF
def setM (U : Nat → Value) : List (Option Nat) → List Value → List Value
  | [], l => l
  | some s :: m, _ :: l => U s :: setM U m l
  | none :: m, v :: l => v :: setM U m l
  | _ :: _, [] => []
theorem setM_nil (U : Nat → Value) (l : List Value) : setM U [] l = l := by unfold setM;rfl
theorem setM_some (U : Nat → Value) (s : Nat) (m : List (Option Nat)) (v : Value) (l : List Value) : setM U (some s :: m) (v :: l) = U s :: setM U m l := by rw [setM]
theorem setM_none (U : Nat → Value) (m : List (Option Nat)) (v : Value) (l : List Value) : setM U (none :: m) (v :: l) = v :: setM U m l := by rw [setM]
theorem wp_region_M {P : Program} {ops : Array Oper} {Q : Exit → Act → World → Prop} {id : Nat} {l : List Value} {d : List Deferred} {w : World} (hm : P.follows .mixedOrders = true) (slots : List Nat) (mask : List (Option Nat)) (hmask : ∀ U,putAll ⟨l.toArray,d⟩ slots U = ⟨(setM U mask l).toArray,d⟩) (F : (Nat → Bool) → (Nat → Value) → World → Prop)
  (hord : inOrder 0 ops.toList = true) (h0 : ∀ U,F (fun _ => false) U w.drew) (hs : StepsU P ops Q ⟨l.toArray,d⟩ slots F 0 ops.toList) (hd : ∀ L U w',(∀ i,i < ops.size → L i = true) → F L U w' → Q .normal ⟨(setM U mask l).toArray,d⟩ w') : (Code.region id ops true).wp P Q ⟨l.toArray,d⟩ w := by
 refine wp_region_U hm slots F hord h0 hs (fun L U w' h1 h2 => ?_)
 rw [hmask];exact hd L U w' h1 h2
theorem wp_region_U2 {P : Program} {ops : Array Oper} {Q : Exit → Act → World → Prop} {id : Nat} {a : Act} {w : World} (hm : P.follows .mixedOrders = true) (slots : List Nat) (F : (Nat → Bool) → (Nat → Value) → World → Prop)
  (hord : inOrder 0 ops.toList = true) (h0 : F (fun _ => false) (fun s => a.tmps.getD s undef) w.drew) (hs : StepsU P ops Q a slots F 0 ops.toList) (hd : ∀ L U w',(∀ i,i < ops.size → L i = true) → F L U w' → Q .normal (putAll a slots U) w') : (Code.region id ops true).wp P Q a w := by
 refine wp_region_inv hm (fun L a' w' => ∃ U,a' = putAll a slots U ∧ F L U w') hord ⟨_,(putAll_self a slots).symm,h0⟩ ?_ hs.steps
 rintro L _ w' ⟨U,rfl,hF⟩ hall;exact hd L U w' hall hF
theorem wp_region_M2 {P : Program} {ops : Array Oper} {Q : Exit → Act → World → Prop} {id : Nat} {l : List Value} {d : List Deferred} {w : World} (hm : P.follows .mixedOrders = true) (slots : List Nat) (mask : List (Option Nat)) (hmask : ∀ U,putAll ⟨l.toArray,d⟩ slots U = ⟨(setM U mask l).toArray,d⟩) (F : (Nat → Bool) → (Nat → Value) → World → Prop)
  (hord : inOrder 0 ops.toList = true) (h0 : F (fun _ => false) (fun s => l.toArray.getD s undef) w.drew) (hs : StepsU P ops Q ⟨l.toArray,d⟩ slots F 0 ops.toList) (hd : ∀ L U w',(∀ i,i < ops.size → L i = true) → F L U w' → Q .normal ⟨(setM U mask l).toArray,d⟩ w') : (Code.region id ops true).wp P Q ⟨l.toArray,d⟩ w := by
 refine wp_region_U2 hm slots F hord h0 hs (fun L U w' h1 h2 => ?_)
 rw [hmask];exact hd L U w' h1 h2
open Rat
def aG (x y : Rat) : Int := (Int.gcd x.den y.den : Nat)
def aB (x y : Rat) : Int := (x.den : Int).fdiv (aG x y)
def aD (x y : Rat) : Int := (y.den : Int).fdiv (aG x y)
def aT (x y : Rat) : Int := x.num * aD x y + y.num * aB x y
open Go.RowKit
def Own (k : IntKind) (e : TypeId) (base : Nat) (w : World) (v : Value) (zs : List Nat) : Prop :=
  w.ownsRow base e 1 v zs.length (zs.map fun z => Value.int k ((z : Nat) : Int))
section
variable {k : IntKind} {e : TypeId} {base : Nat} {w w' : World} {v : Value} {zs : List Nat}
theorem Own.nil (k : IntKind) (e : TypeId) (base : Nat) (w : World) : Own k e base w (.slice none 0 0) [] := World.ownsRow_nil _ _ _ _
theorem Own.lt (h : Own k e base w v zs) : ∀ b, v.ownBlock = some b → base ≤ b ∧ b < w.heap.size := World.ownsRow.lt h
theorem Own.stay (h : Own k e base w v zs) (hb : ∀ b,v.ownBlock = some b → w'.heap[b]? = w.heap[b]?) : Own k e base w' v zs := by
 refine ⟨h.1,?_⟩;rcases h.2 with hn | ⟨g,cap,cur,rfl,hbg,hg,r⟩
 · exact Or.inl hn
 · exact Or.inr ⟨g,cap,cur,rfl,hbg,(hb g rfl).trans hg,r⟩
theorem Own.mono (h : Own k e base w v zs) {base' : Nat} (hb : base' ≤ base) : Own k e base' w v zs := by
 refine ⟨h.1,?_⟩;rcases h.2 with hn | ⟨g,cap,cur,rfl,hbg,r⟩
 · exact Or.inl hn
 · exact Or.inr ⟨g,cap,cur,rfl,Nat.le_trans hb hbg,r⟩
theorem Own.only (h : Own k e base w v zs) {g : Nat} (ho : Only g w w') (hg : g < base) : Own k e base w' v zs := h.stay fun b hv => ho.block b (by have := (h.lt b hv).1; omega)
theorem Own.open (h : Own k e base w v zs) : ∃ ao cap,v = .slice ao zs.length cap ∧ zs.length ≤ cap ∧ cap ≤ maxLen ∧ Seg k w ao zs ∧ (∀ a,ao = some a → base ≤ a.block ∧ a.off = 0 ∧ a.block < w.heap.size) := by
 rcases h.2 with ⟨rfl,hn⟩ | ⟨g,cap,cur,rfl,hbg,hg,h1,h2,h3,h4⟩
 · have : zs = [] := List.eq_nil_of_length_eq_zero hn;subst this;exact ⟨none,0,rfl,Nat.le_refl _,Nat.zero_le _,Seg.nil _ _ _,fun a ha => by cases ha⟩
 ·
  refine ⟨some ⟨g,0,none⟩,cap,rfl,h1,h2,Or.inr ⟨g,0,rfl,fun i hi => ?_⟩,fun a ha => ?_⟩
  ·
   rw [Nat.zero_add,cell_of_row w g i cur e (0,0) hg];have h5 := congrArg (fun l => l[i]?) h4
   simp only [Nat.mul_one,List.getElem?_take,if_pos hi,List.getElem?_map,List.getElem?_eq_getElem hi,Option.map_some] at h5;rw [← Array.getElem?_toList,h5,List.getD_eq_getElem?_getD,List.getElem?_eq_getElem hi];rfl
  ·
   cases ha
   exact ⟨hbg,rfl,(Array.getElem?_eq_some_iff.1 hg).1⟩
theorem Own.take {ao : Option Addr} {n cap : Nat} (h : Own k e base w (.slice ao n cap) zs) (m : Nat) (hm : m ≤ zs.length) (hne : ao ≠ none) : Own k e base w (.slice ao m cap) (zs.take m) := by
 rcases h.2 with ⟨h1,_⟩ | ⟨g,cap',cur,h1,hbg,hg,h2,h3,h4,h5⟩
 · cases h1;exact absurd rfl hne
 ·
  cases h1
  refine ⟨by simp,Or.inr ⟨g,cap,cur,?_,hbg,hg,?_,h3,h4,?_⟩⟩
  · rw [List.length_take,Nat.min_eq_left hm]
  · rw [List.length_take];omega
  · rw [List.map_take,← h5];simp only [Nat.mul_one,List.length_take,List.take_take]
theorem Own.set {g n cap : Nat} (h : Own k e base w (.slice (some ⟨g,0,none⟩) n cap) zs) (j : Nat) (X : Int) (x : Nat) (hX : X = (x : Int)) :
  Own k e base (w.setCell ⟨g,j,none⟩ (.int k X)) (.slice (some ⟨g,0,none⟩) n cap) (zs.set j x) := by
 subst hX;have hn : n = zs.length := by
  rcases h.2 with ⟨h1,_⟩ | ⟨g',cap',cur,h1,_⟩
  · cases h1
  · cases h1;rfl
 subst hn;have h1 := (World.ownsRow.stored h j (.int k (x : Int))).1;unfold Own;rw [List.length_set,List.map_set];exact h1
theorem Own.frozen {g n cap : Nat} (h : Own k e base w (.slice (some ⟨g,0,none⟩) n cap) zs) (j : Nat) : w.frozen? ⟨g,j,none⟩ = false := by
 rcases h.2 with ⟨h1,_⟩ | ⟨g',cap',cur,h1,_,hg,_⟩
 · cases h1
 · cases h1;exact frozen_of_row w g j cur e hg
theorem Own.cell {g n cap : Nat} (h : Own k e base w (.slice (some ⟨g,0,none⟩) n cap) zs) (i : Nat) (hi : i < zs.length) : w.cell? ⟨g,i,none⟩ = some (.int k (zs.getD i 0 : Nat)) := by
 obtain ⟨ao,cap',e1,_,_,hs,_⟩ := h.open;cases e1
 obtain ⟨b,off,e2,hc⟩ := hs.open i hi;cases e2
 simpa using hc i hi
theorem Own.shape (h : Own k e base w v zs) (hp : 0 < zs.length) : ∃ g cap,v = .slice (some ⟨g,0,none⟩) zs.length cap ∧ base ≤ g ∧ g < w.heap.size := by
 rcases h.2 with ⟨rfl,hn⟩ | ⟨g,cap,cur,rfl,hbg,hg,_⟩
 · omega
 · exact ⟨g,cap,rfl,hbg,(Array.getElem?_eq_some_iff.1 hg).1⟩
theorem Own.drew (h : Own k e base w v zs) : Own k e base w.drew v zs := h
theorem Only.drew {g : Nat} (h : Only g w w') : Only g w w'.drew := ⟨h.os, h.tape, h.output, h.size, h.block⟩
theorem Own.empty {ao : Option Addr} {n cap : Nat} (h : Own k e base w (.slice ao n cap) zs) : Own k e base w (.slice ao 0 cap) [] := by
 cases ao with
 | none =>
  rcases h.2 with ⟨h1,_⟩ | ⟨g,cap',cur,h1,_⟩
  · cases h1;exact Own.nil _ _ _ _
  · cases h1
 | some a => exact (by simpa using h.take 0 (Nat.zero_le _) (by simp))
end
theorem getD_set (l : List Nat) (i a p : Nat) (hi : i < l.length) : (l.set i a).getD p 0 = if p = i then a else l.getD p 0 := by
 rw [List.getD_eq_getElem?_getD,List.getElem?_set];by_cases h : p = i
 · subst h;simp [hi]
 · rw [if_neg (fun e => h e.symm),if_neg h,List.getD_eq_getElem?_getD]
theorem ext_getD {a b : List Nat} (hl : a.length = b.length) (h : ∀ p,p < a.length → a.getD p 0 = b.getD p 0) : a = b := by
 apply List.ext_getElem hl
 intro i h1 h2;have := h i h1;rw [List.getD_eq_getElem?_getD,List.getD_eq_getElem?_getD,List.getElem?_eq_getElem h1,List.getElem?_eq_getElem h2] at this;exact this
theorem getD_reverse (l : List Nat) (p : Nat) (hp : p < l.length) : l.reverse.getD p 0 = l.getD (l.length - 1 - p) 0 := by
 rw [List.getD_eq_getElem?_getD,List.getElem?_reverse hp,← List.getD_eq_getElem?_getD]
theorem wpList_append_num {P : Program} {W : World} {ops : Array Oper} {rest : List Oper} {o : Oper} {a : Act} {Q : Exit → Act → World → Prop} (hgd : o.guard = none) (s x : Operand) (t : TypeId)
  (ho : o.op = .call { callee := .builtin .append,args := #[s,x],argTypes := #[t,t] })
  (base : Nat) (e : TypeId) (k : IntKind) (bytes : Nat) (h1 : P.underlying t = some (.slice e)) (h2 : (P.info? e).map (fun i => (i.zero,i.size,i.bytes)) = some (some (.int k 0),1,bytes)) (hby : bytes ≤ 64)
  (v : Value) (zs : List Nat) (hs : a.eval s = v) (hown : Own k e base W v zs) (X : Int) (y : Nat) (hX : X = (y : Int)) (hx : a.eval x = .slice (some ⟨W.heap.size,0,none⟩) 1 1)
  (hlen : zs.length ≤ 100000) (hbase : base ≤ W.heap.size)
  (h : ∀ v' w',Own k e base w' v' (zs ++ [y]) → (∀ b,b < W.heap.size → v.ownBlock ≠ some b → w'.heap[b]? = W.heap[b]?) → Below base W w' → wpList P ops Q rest (a.put o.dst v') w') :
  wpList P ops Q (o :: rest) a (W.alloc (.cells #[.int k X] e (0,0))) := by
 subst hX;obtain ⟨i,hi,hz0,hz1,hz2⟩ := info_parts h2;have hb : (zs.length + 1) * bytes ≤ 100001 * 64 := Nat.mul_le_mul (by omega) hby
 refine wpList_append_own (W.alloc (.cells #[.int k (y : Int)] e (0,0))) hgd s x t ho base e i (.int k 0) 1 bytes h1 hi hz0 hz1 hz2 rfl (by decide) v zs.length _ hs (World.ownsRow.alloc hown _) ⟨W.heap.size,0,none⟩ 1 1 [.int k (y : Int)] hx rfl ?_ ?_ ?_ ?_ ?_ ?_
 ·
  intro j u hj;match j,hj with
  | 0,hj => simp at hj;subst hj;simp [Addr.add]
 · intro u hu;simp at hu;subst hu;rfl
 · unfold maxLen;omega
 · omega
 · simp;omega
 ·
  intro v' w' hown' hgrow _;have hblk : ∀ b,b < W.heap.size → v.ownBlock ≠ some b → w'.heap[b]? = W.heap[b]? := by
   intro b hb1 hb2;rw [hgrow.block b (by simp;omega) (fun e => hb2 e.symm),Below.heap_alloc W _ b hb1]
  refine h v' w' ?_ hblk ?_
  · unfold Own;simpa using hown'
  ·
   refine ⟨hgrow.os,hgrow.tape,hgrow.output,by have := hgrow.size;simp at this;omega,fun b hb1 => hblk b (by omega) (fun e => ?_)⟩
   have := (Own.lt hown b e).1;omega
theorem Own.lit (w : World) (k : IntKind) (e : TypeId) (zs : List Nat) (base : Nat) (hb : base ≤ w.heap.size) (hl : zs.length ≤ 100000) :
  Own k e base (w.alloc (.cells (zs.map fun z => Value.int k ((z : Nat) : Int)).toArray e (0,0))) (.slice (some ⟨w.heap.size,0,none⟩) zs.length zs.length) zs := by
 have h := World.ownsRow_lit (base := base) (e := e) (size := 1) w (zs.map fun z => Value.int k ((z : Nat) : Int)).toArray zs.length hb (by unfold maxLen;omega) (by simp)
 simpa [Own] using h
theorem wpList_append_seg {P : Program} {w : World} {ops : Array Oper} {rest : List Oper} {o : Oper} {a : Act} {Q : Exit → Act → World → Prop} (hgd : o.guard = none) (s x : Operand) (t : TypeId)
  (ho : o.op = .call { callee := .builtin .append,args := #[s,x],argTypes := #[t,t] })
  (base : Nat) (e : TypeId) (k : IntKind) (bytes : Nat) (h1 : P.underlying t = some (.slice e)) (h2 : (P.info? e).map (fun i => (i.zero,i.size,i.bytes)) = some (some (.int k 0),1,bytes)) (hby : bytes ≤ 64)
  (v : Value) (zs : List Nat) (hs : a.eval s = v) (hown : Own k e base w v zs) (ao : Option Addr) (m c : Nat) (hx : a.eval x = .slice ao m c) (hnone : ao = none → c = 0 ∧ m = 0) (ys : List Nat) (hm : ys.length = m) (hseg : Seg k w ao ys)
  (hlen : zs.length + m ≤ 100000) (hbase : base ≤ w.heap.size)
  (h : ∀ v' w',Own k e base w' v' (zs ++ ys) → (∀ b,b < w.heap.size → v.ownBlock ≠ some b → w'.heap[b]? = w.heap[b]?) → Below base w w' → wpList P ops Q rest (a.put o.dst v') w') :
  wpList P ops Q (o :: rest) a w := by
 subst hm;obtain ⟨i,hi,hz0,hz1,hz2⟩ := info_parts h2;have hb : (zs.length + ys.length) * bytes ≤ 100000 * 64 := Nat.mul_le_mul (by omega) hby
 cases ao with
 | none =>
  obtain ⟨rfl,hm⟩ := hnone rfl;obtain rfl : ys = [] := List.eq_nil_of_length_eq_zero hm;refine wpList_append_own_none hgd s x t ho base e i 1 h1 hi v zs.length _ hs hown (by simpa using hx) ?_
  exact h v w (by simpa using hown) (fun b _ _ => rfl) (Below.refl _ _)
 | some ad =>
  refine wpList_append_own w hgd s x t ho base e i (.int k 0) 1 bytes h1 hi hz0 hz1 hz2 rfl (by decide) v zs.length _ hs hown ad ys.length c (ys.map fun z => Value.int k ((z : Nat) : Int)) hx (by simp) ?_ ?_ ?_ ?_ hbase ?_
  ·
   intro j u hj;have hjl : j < ys.length := by simpa using (List.getElem?_eq_some_iff.1 hj).1
   obtain ⟨b,off,e1,hc⟩ := hseg.open j hjl;cases e1
   rw [Addr.add_lit,hc j hjl];simp only [List.getElem?_map,List.getElem?_eq_getElem hjl,Option.map_some,Option.some.injEq] at hj;rw [← hj,List.getD_eq_getElem?_getD,List.getElem?_eq_getElem hjl];rfl
  · intro u hu;obtain ⟨_,_,rfl⟩ := List.mem_map.1 hu;rfl
  · unfold maxLen;omega
  · omega
  ·
   intro v' w' hown' hgrow _;have hblk : ∀ b,b < w.heap.size → v.ownBlock ≠ some b → w'.heap[b]? = w.heap[b]? := fun b hb1 hb2 => hgrow.block b hb1 (fun e => hb2 e.symm)
   refine h v' w' ?_ hblk ?_
   · unfold Own;simpa using hown'
   ·
    refine ⟨hgrow.os,hgrow.tape,hgrow.output,hgrow.size,fun b hb1 => hblk b (by omega) (fun e => ?_)⟩
    have := (Own.lt hown b e).1;omega
theorem val_split (B : Nat) (xs : List Nat) (k : Nat) (hk : k ≤ xs.length) : val B xs = val B (xs.take k) + B ^ k * val B (xs.drop k) := by
 have h := val_append B (xs.take k) (xs.drop k);rw [List.take_append_drop,List.length_take,Nat.min_eq_left hk] at h;exact h
theorem val_lt_at {B : Nat} {xs ys : List Nat} (hx : Digs B xs) (hl : xs.length = ys.length) (j : Nat) (hj : j < xs.length) (ht : xs.drop (j + 1) = ys.drop (j + 1)) (h : xs.getD j 0 < ys.getD j 0) : val B xs < val B ys := by
 rw [val_split B xs (j + 1) (by omega),val_split B ys (j + 1) (by omega),ht,val_take_succ B xs j hj,val_take_succ B ys j (by omega)]
 have h1 := val_lt (hx.take j);rw [List.length_take,Nat.min_eq_left (by omega)] at h1
 have h2 : B ^ j * (xs.getD j 0 + 1) ≤ B ^ j * ys.getD j 0 := Nat.mul_le_mul_left _ h;rw [Nat.mul_add,Nat.mul_one] at h2;omega
def cmpL (B : Nat) (xs ys : List Nat) : Int :=
  if xs.length < ys.length then -1 else if ys.length < xs.length then 1 else if val B xs < val B ys then -1 else if val B ys < val B xs then 1 else 0
theorem cmpL_norm {B : Nat} {xs ys : List Nat} (hB : 0 < B) (hx : Digs B xs) (hy : Digs B ys) (nx : Norm xs) (ny : Norm ys) : cmpL B xs ys = ((val B xs : Int) - val B ys).sign := by
 unfold cmpL;by_cases h1 : xs.length < ys.length
 · rw [if_pos h1];have := val_lt_of_length hx ny hB h1;exact (Int.sign_eq_neg_one_of_neg (by omega)).symm
 ·
  rw [if_neg h1];by_cases h2 : ys.length < xs.length
  · rw [if_pos h2];have := val_lt_of_length hy nx hB h2;exact (Int.sign_eq_one_of_pos (by omega)).symm
  ·
   rw [if_neg h2];by_cases h3 : val B xs < val B ys
   · rw [if_pos h3];exact (Int.sign_eq_neg_one_of_neg (by omega)).symm
   ·
    rw [if_neg h3];by_cases h4 : val B ys < val B xs
    · rw [if_pos h4];exact (Int.sign_eq_one_of_pos (by omega)).symm
    ·
     rw [if_neg h4];have : (val B xs : Int) - val B ys = 0 := by omega
     rw [this];rfl
theorem cmpL_lt {B : Nat} {xs ys : List Nat} (hl : xs.length = ys.length) (h : val B xs < val B ys) : cmpL B xs ys = -1 := by
 unfold cmpL;rw [if_neg (by omega),if_neg (by omega),if_pos h]
theorem cmpL_gt {B : Nat} {xs ys : List Nat} (hl : xs.length = ys.length) (h : val B ys < val B xs) : cmpL B xs ys = 1 := by
 unfold cmpL;rw [if_neg (by omega),if_neg (by omega),if_neg (by omega),if_pos h]
theorem cmpL_eq (B : Nat) (xs : List Nat) : cmpL B xs xs = 0 := by
 unfold cmpL;simp
theorem drop_cons_getD (xs : List Nat) (j : Nat) (hj : j < xs.length) : xs.drop j = xs.getD j 0 :: xs.drop (j + 1) := by
 rw [List.drop_eq_getElem_cons hj,List.getD_eq_getElem?_getD,List.getElem?_eq_getElem hj];rfl
end Go.Proofs.YteefniagebcagaaGreatDoor
