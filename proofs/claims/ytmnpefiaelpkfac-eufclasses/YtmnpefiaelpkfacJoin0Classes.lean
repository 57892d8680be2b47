/- Joined: EufM, EufW, EufG, EufH: words and contracts; no statement of the seat is proved here. -/
import Derived.WalkKit
import Derived.WalkSpells
import Derived.WalkLawsBesides
import Derived.Handy
import Derived.Laws.CopyOwn
import Derived.Laws.OwnMore
import Derived.Maps.OwnSet
import Derived.Test.YtmnpefiaelpkfacChecked
import Derived.BigQuiet
import Derived.Deep.QuietTactic
import Derived.Deep.LoopGhost
/- Plain facts on terms that are the same by equations: classes, signatures, claims; no statement of the seat is proved here. -/
namespace Go.Proofs.Ytmnpefiaelpkfac
set_option linter.unusedVariables false
namespace Euf

/-- A function with one place changed. -/
def upd {α : Type} (f : Nat → α) (i : Nat) (x : α) : Nat → α := fun j => if j = i then x else f j
theorem upd_same {α : Type} (f : Nat → α) (i : Nat) (x : α) : upd f i x i = x := by simp [upd]
theorem upd_other {α : Type} (f : Nat → α) {i j : Nat} (x : α) (h : j ≠ i) : upd f i x j = f j := by simp [upd, h]

structure Part where
  front : Int
  arg : Int
  node : Int
structure Spot where
  cls : Nat
  next : Nat
  up : Int
  why : Int
  size : Nat
  least : Int
  uses : List Nat
structure Claim where
  a : Nat
  b : Nat
  why : Int

/-- The classes of which a part is made. -/
def sig (P : Nat → Part) (S : Nat → Spot) (i : Nat) : Nat × Nat := ((S (P i).front.toNat).cls, (S (P i).arg.toNat).cls)

/-- Parts are made of earlier ones. -/
def PartsOk (np : Nat) (P : Nat → Part) : Prop := ∀ i, i < np → ((P i).front = -1) ∨ (0 ≤ (P i).front ∧ (P i).front.toNat < i ∧ 0 ≤ (P i).arg ∧ (P i).arg.toNat < i)
/-- A part that is made of two others. -/
def Made (P : Nat → Part) (i : Nat) : Prop := (P i).front ≠ -1
theorem PartsOk.made {np : Nat} {P : Nat → Part} (h : PartsOk np P) {i : Nat} (hi : i < np) (hm : Made P i) : 0 ≤ (P i).front ∧ (P i).front.toNat < i ∧ 0 ≤ (P i).arg ∧ (P i).arg.toNat < i := by
  rcases h i hi with h | h
  · exact absurd h hm
  · exact h

/-- From a by 'next' over the list to b. -/
def Walk (S : Nat → Spot) : Nat → List Nat → Nat → Prop
  | a, [], b => a = b
  | a, x :: l, b => a = x ∧ Walk S (S x).next l b
theorem Walk.append {S : Nat → Spot} : ∀ {l m : List Nat} {a b c : Nat}, Walk S a l b → Walk S b m c → Walk S a (l ++ m) c
  | [], _, _, _, _, h, k => by cases h; exact k
  | x :: l, _, _, _, _, h, k => ⟨h.1, h.2.append k⟩
theorem Walk.congr {S T : Nat → Spot} : ∀ {l : List Nat} {a b : Nat}, Walk S a l b → (∀ i ∈ l, (T i).next = (S i).next) → Walk T a l b
  | [], _, _, h, _ => h
  | x :: l, _, _, h, hk => ⟨h.1, by rw [hk x (List.mem_cons_self ..)]; exact Walk.congr h.2 (fun i hi => hk i (List.mem_cons_of_mem _ hi))⟩

/-- The class of c lies in a ring. -/
structure Ring (ns : Nat) (S : Nat → Spot) (c : Nat) (l : List Nat) : Prop where
  walk : Walk S c l c
  len : l.length = (S c).size
  nodup : l.Nodup
  mem : ∀ i, i ∈ l ↔ i < ns ∧ (S i).cls = c
/-- From i upwards there are so many parts. -/
inductive Ups (S : Nat → Spot) : Int → Nat → Prop
  | top : Ups S (-1) 0
  | up {i : Nat} {n : Nat} : Ups S (S i).up n → Ups S (i : Int) (n + 1)
/-- The sum of the first numbers. -/
def total (f : Nat → Nat) : Nat → Nat
  | 0 => 0
  | n + 1 => total f n + f n
theorem total_congr {f g : Nat → Nat} : ∀ n, (∀ i, i < n → f i = g i) → total f n = total g n
  | 0, _ => rfl
  | n + 1, h => by rw [total, total, total_congr n (fun i hi => h i (by omega)), h n (by omega)]
theorem total_upd (f : Nat → Nat) (i x : Nat) : ∀ n, i < n → total (upd f i x) n + f i = total f n + x
  | 0, h => by omega
  | n + 1, h => by
    by_cases e : i = n
    · subst e
      rw [total, total, upd_same, total_congr (f := upd f i x) (g := f) i (fun j hj => upd_other f x (by omega))]; omega
    · have := total_upd f i x n (by omega)
      rw [total, total, upd_other f x (Ne.symm e)]; omega
theorem total_ge (f : Nat → Nat) (i : Nat) : ∀ n, i < n → f i ≤ total f n
  | 0, h => by omega
  | n + 1, h => by
    by_cases e : i = n
    · subst e; rw [total]; omega
    · have := total_ge f i n (by omega); rw [total]; omega
/-- How many classes there are. -/
def isRep (S : Nat → Spot) (i : Nat) : Nat := if (S i).cls = i then 1 else 0
def reps (S : Nat → Spot) (n : Nat) : Nat := total (isRep S) n
def useLen (S : Nat → Spot) (i : Nat) : Nat := (S i).uses.length

/-- What holds of the classes between the calls. Of the parts in 'out' nothing is asked of the signatures. -/
structure Inv (np : Nat) (P : Nat → Part) (ns : Nat) (S : Nat → Spot) (sg : Nat × Nat → Option Nat) (cl : List Claim) (out : List Nat) : Prop where
  parts : PartsOk np P
  le : ns ≤ np
  lt : ∀ i, i < ns → (S i).cls < ns
  rep : ∀ i, i < ns → (S (S i).cls).cls = (S i).cls
  ring : ∀ c, c < ns → (S c).cls = c → ∃ l, Ring ns S c l
  ups : ∀ i, i < ns → ∃ n, Ups S (i : Int) n
  upc : ∀ i, i < ns → (S i).up ≠ -1 → 0 ≤ (S i).up ∧ (S i).up.toNat < ns ∧ (S (S i).up.toNat).cls = (S i).cls
  use1 : ∀ p, p < ns → Made P p → p ∈ (S (sig P S p).1).uses ∧ p ∈ (S (sig P S p).2).uses
  use2 : ∀ c, c < ns → ∀ p, p ∈ (S c).uses → p < ns ∧ Made P p ∧ ((sig P S p).1 = c ∨ (sig P S p).2 = c)
  useN : total (useLen S) ns ≤ 2 * ns
  sg1 : ∀ k q, sg k = some q → q < ns ∧ Made P q ∧ sig P S q = k
  sg2 : ∀ p, p < ns → Made P p → p ∉ out → ∃ q, sg (sig P S p) = some q ∧ ((S p).cls = (S q).cls ∨ ∃ c ∈ cl, c.a = p ∧ c.b = q)
  cls : ∀ c ∈ cl, c.a < ns ∧ c.b < ns
/-- Values that keep to what parts are made of. -/
def Model (np : Nat) (P : Nat → Part) {D : Type} (val : Nat → D) : Prop := ∀ p q, p < np → q < np → Made P p → Made P q → val (P p).front.toNat = val (P q).front.toNat → val (P p).arg.toNat = val (P q).arg.toNat → val p = val q
/-- Classes and claims are true in a model. -/
structure Sound {D : Type} (val : Nat → D) (ns : Nat) (S : Nat → Spot) (cl : List Claim) : Prop where
  s : ∀ i, i < ns → val i = val (S i).cls
  c : ∀ c ∈ cl, val c.a = val c.b

section
variable {np ns : Nat} {P : Nat → Part} {S : Nat → Spot} {sg : Nat × Nat → Option Nat} {cl : List Claim} {out : List Nat}
theorem Inv.frontLt (h : Inv np P ns S sg cl out) {p : Nat} (hp : p < ns) (hm : Made P p) : (P p).front.toNat < ns ∧ (P p).arg.toNat < ns := by
  have := h.parts.made (Nat.lt_of_lt_of_le hp h.le) hm
  omega
/-- Settled: what is made of the same is the same. -/
theorem Inv.congr (h : Inv np P ns S sg [] []) {p q : Nat} (hp : p < ns) (hq : q < ns) (mp : Made P p) (mq : Made P q)
    (h1 : (S (P p).front.toNat).cls = (S (P q).front.toNat).cls) (h2 : (S (P p).arg.toNat).cls = (S (P q).arg.toNat).cls) : (S p).cls = (S q).cls := by
  obtain ⟨r, hr, e1⟩ := h.sg2 p hp mp (by simp)
  obtain ⟨r', hr', e2⟩ := h.sg2 q hq mq (by simp)
  have e : sig P S p = sig P S q := by simp [sig, h1, h2]
  rw [e, hr'] at hr
  cases hr
  rcases e1 with e1 | ⟨_, hc, _⟩
  · rcases e2 with e2 | ⟨_, hc, _⟩
    · exact e1.trans e2.symm
    · cases hc
  · cases hc

/-- A part is enrolled. -/
def enrolS (P : Nat → Part) (S : Nat → Spot) (sg : Nat × Nat → Option Nat) (cl : List Claim) (i : Nat) : (Nat × Nat → Option Nat) × List Claim :=
  match sg (sig P S i) with
  | some q => (sg, cl ++ [⟨i, q, -1⟩])
  | none => (fun k => if k = sig P S i then some i else sg k, cl)
theorem Inv.enrol (h : Inv np P ns S sg cl out) {i : Nat} (hi : i < ns) (hm : Made P i) (out' : List Nat) (ho : ∀ j, j ∉ out' → j ∉ out ∨ j = i) :
    Inv np P ns S (enrolS P S sg cl i).1 (enrolS P S sg cl i).2 out' := by
  unfold enrolS
  cases hs : sg (sig P S i) with
  | some q =>
    simp only []
    refine { h with sg2 := ?_, cls := ?_ }
    · intro p hp mp hout
      by_cases e : p = i
      · subst e
        exact ⟨q, hs, Or.inr ⟨⟨p, q, -1⟩, by simp, rfl, rfl⟩⟩
      · obtain ⟨r, hr, h1⟩ := h.sg2 p hp mp ((ho p hout).resolve_right e)
        refine ⟨r, hr, h1.imp id ?_⟩
        rintro ⟨c, hc, h2⟩
        exact ⟨c, by simp [hc], h2⟩
    · intro c hc
      simp at hc
      rcases hc with hc | rfl
      · exact h.cls c hc
      · exact ⟨hi, (h.sg1 _ _ hs).1⟩
  | none =>
    simp only []
    refine { h with sg1 := ?_, sg2 := ?_ }
    · intro k q hq
      by_cases e : k = sig P S i
      · simp [e] at hq; subst hq; exact ⟨hi, hm, e.symm⟩
      · simp [e] at hq; exact h.sg1 k q hq
    · intro p hp mp hout
      by_cases e : sig P S p = sig P S i
      · by_cases e2 : p = i
        · subst e2; exact ⟨p, by simp, Or.inl rfl⟩
        · obtain ⟨r, hr, _⟩ := h.sg2 p hp mp ((ho p hout).resolve_right e2)
          rw [e, hs] at hr; cases hr
      · obtain ⟨r, hr, h1⟩ := h.sg2 p hp mp ((ho p hout).resolve_right (fun e2 => e (by rw [e2])))
        exact ⟨r, by simp [e, hr], h1⟩
theorem Sound.enrol {D : Type} {val : Nat → D} (hs : Sound val ns S cl) (h : Inv np P ns S sg cl out) (hM : Model np P val) {i : Nat} (hi : i < ns) (hm : Made P i) :
    Sound val ns S (enrolS P S sg cl i).2 := by
  unfold enrolS
  cases hq : sg (sig P S i) with
  | none => exact hs
  | some q =>
    refine ⟨hs.s, fun c hc => ?_⟩
    simp at hc
    rcases hc with hc | rfl
    · exact hs.c c hc
    · obtain ⟨h1, h2, h3⟩ := h.sg1 _ _ hq
      simp only [sig, Prod.mk.injEq] at h3
      have fi := h.frontLt hi hm
      have fq := h.frontLt h1 h2
      refine hM i q (Nat.lt_of_lt_of_le hi h.le) (Nat.lt_of_lt_of_le h1 h.le) hm h2 ?_ ?_
      · rw [hs.s _ fi.1, hs.s _ fq.1, h3.1]
      · rw [hs.s _ fi.2, hs.s _ fq.2, h3.2]
end

/-! ## A class goes over to another one -/
/-- Two classes become one: rings, sizes, the least nodes, what is made of them. -/
def joinS (f t : Nat) (S : Nat → Spot) : Nat → Spot := fun i =>
  { S i with
    cls := if (S i).cls = f then t else (S i).cls
    next := if i = f then (S t).next else if i = t then (S f).next else (S i).next
    size := if i = t then (S t).size + (S f).size else (S i).size
    least := if i = t then min (S f).least (S t).least else (S i).least
    uses := if i = t then (S t).uses ++ (S f).uses else if i = f then [] else (S i).uses }
/-- .. without the uses. -/
def renameS (f t : Nat) (S : Nat → Spot) : Nat → Spot := fun i =>
  { S i with
    cls := if (S i).cls = f then t else (S i).cls
    next := if i = f then (S t).next else if i = t then (S f).next else (S i).next
    size := if i = t then (S t).size + (S f).size else (S i).size
    least := if i = t then min (S f).least (S t).least else (S i).least }
/-- The parts of a list are of the class t. -/
def tagS (l : List Nat) (t : Nat) (S : Nat → Spot) : Nat → Spot := fun i => if i ∈ l then { S i with cls := t } else S i
theorem tagS_rest (l : List Nat) (t : Nat) (S : Nat → Spot) (i : Nat) : (tagS l t S i).next = (S i).next ∧ (tagS l t S i).up = (S i).up ∧ (tagS l t S i).why = (S i).why ∧ (tagS l t S i).size = (S i).size ∧ (tagS l t S i).least = (S i).least ∧ (tagS l t S i).uses = (S i).uses := by
  unfold tagS; split <;> simp
theorem tagS_snoc (l : List Nat) (t : Nat) (S : Nat → Spot) (z : Nat) : tagS (l ++ [z]) t S = upd (tagS l t S) z { tagS l t S z with cls := t } := by
  funext i
  by_cases e : i = z
  · subst e; simp only [tagS, upd, List.mem_append, List.mem_singleton, or_true, if_true]; split <;> simp
  · simp [tagS, upd, e]
/-- The signatures without those of some parts. -/
def drop (P : Nat → Part) (S : Nat → Spot) (sg : Nat × Nat → Option Nat) (l : List Nat) : Nat × Nat → Option Nat := fun k => if k ∈ l.map (sig P S) then none else sg k

section
variable {np ns : Nat} {P : Nat → Part} {S : Nat → Spot} {sg : Nat × Nat → Option Nat} {cl : List Claim} {out : List Nat}
theorem joinS_cls (f t : Nat) (S : Nat → Spot) (i : Nat) : (joinS f t S i).cls = if (S i).cls = f then t else (S i).cls := rfl
theorem joinS_sig (f t : Nat) (S : Nat → Spot) (P : Nat → Part) (i : Nat) : sig P (joinS f t S) i = (if (sig P S i).1 = f then t else (sig P S i).1, if (sig P S i).2 = f then t else (sig P S i).2) := rfl
theorem ring_join {f t : Nat} {lf lt : List Nat} (hf : Ring ns S f lf) (ht : Ring ns S t lt) (hft : f ≠ t) (hfc : (S f).cls = f) (htc : (S t).cls = t) (hfn : f < ns) (htn : t < ns) :
    ∃ l, Ring ns (joinS f t S) t l := by
  have memf : f ∈ lf := (hf.mem f).2 ⟨hfn, hfc⟩
  have memt : t ∈ lt := (ht.mem t).2 ⟨htn, htc⟩
  cases lf with
  | nil => cases memf
  | cons x lf =>
  cases lt with
  | nil => cases memt
  | cons y lt =>
  obtain ⟨rfl, wf⟩ := hf.walk
  obtain ⟨rfl, wt⟩ := ht.walk
  have nf := List.nodup_cons.1 hf.nodup
  have nt := List.nodup_cons.1 ht.nodup
  have sep : ∀ i, i ∈ f :: lf → i ∈ t :: lt → False := by
    intro i h1 h2
    exact hft (((hf.mem i).1 h1).2.symm.trans ((ht.mem i).1 h2).2)
  have tnf : t ∉ lf := fun h => sep t (List.mem_cons_of_mem _ h) (List.mem_cons_self ..)
  have fnt : f ∉ lt := fun h => sep f (List.mem_cons_self ..) (List.mem_cons_of_mem _ h)
  have e1 : Walk (joinS f t S) (S f).next lf f := wf.congr (fun i hi => by
    have h1 : i ≠ f := fun e => nf.1 (e ▸ hi)
    have h2 : i ≠ t := fun e => tnf (e ▸ hi)
    simp [joinS, h1, h2])
  have e2 : Walk (joinS f t S) (S t).next lt t := wt.congr (fun i hi => by
    have h1 : i ≠ t := fun e => nt.1 (e ▸ hi)
    have h2 : i ≠ f := fun e => fnt (e ▸ hi)
    simp [joinS, h1, h2])
  refine ⟨t :: (lf ++ f :: lt), ⟨⟨rfl, ?_⟩, ?_, ?_, ?_⟩⟩
  · have n1 : (joinS f t S t).next = (S f).next := by simp [joinS, Ne.symm hft]
    rw [n1]
    refine e1.append ⟨rfl, ?_⟩
    have n2 : (joinS f t S f).next = (S t).next := by simp [joinS]
    rw [n2]; exact e2
  · have l1 := hf.len
    have l2 := ht.len
    simp only [List.length_cons, List.length_append] at l1 l2 ⊢
    simp [joinS]; omega
  · rw [List.nodup_cons]
    refine ⟨?_, ?_⟩
    · simp only [List.mem_append, List.mem_cons, not_or]
      exact ⟨tnf, fun e => hft e.symm, nt.1⟩
    · rw [List.nodup_append]
      refine ⟨nf.2, List.nodup_cons.2 ⟨fnt, nt.2⟩, ?_⟩
      intro a ha b hb e
      subst e
      rcases List.mem_cons.1 hb with e | hb
      · subst e; exact nf.1 ha
      · exact sep a (List.mem_cons_of_mem _ ha) (List.mem_cons_of_mem _ hb)
  · intro i
    have m1 := hf.mem i
    have m2 := ht.mem i
    have e : i ∈ t :: (lf ++ f :: lt) ↔ i ∈ f :: lf ∨ i ∈ t :: lt := by
      simp only [List.mem_cons, List.mem_append]
      constructor
      · rintro (h | h | h | h)
        · exact Or.inr (Or.inl h)
        · exact Or.inl (Or.inr h)
        · exact Or.inl (Or.inl h)
        · exact Or.inr (Or.inr h)
      · rintro ((h | h) | (h | h))
        · exact Or.inr (Or.inr (Or.inl h))
        · exact Or.inr (Or.inl h)
        · exact Or.inl h
        · exact Or.inr (Or.inr (Or.inr h))
    rw [e, m1, m2, joinS_cls]
    constructor
    · rintro (⟨h1, h2⟩ | ⟨h1, h2⟩)
      · exact ⟨h1, by simp [h2]⟩
      · refine ⟨h1, ?_⟩
        rw [h2]; simp [Ne.symm hft]
    · rintro ⟨h1, h2⟩
      by_cases h3 : (S i).cls = f
      · exact Or.inl ⟨h1, h3⟩
      · simp [h3] at h2; exact Or.inr ⟨h1, h2⟩
theorem ring_other {f t c : Nat} {l : List Nat} (hc : Ring ns S c l) (h1 : c ≠ f) (h2 : c ≠ t) (hfc : (S f).cls = f) (htc : (S t).cls = t) : Ring ns (joinS f t S) c l := by
  have hm : ∀ i ∈ l, i ≠ f ∧ i ≠ t := fun i hi => by
    have := ((hc.mem i).1 hi).2
    exact ⟨fun e => h1 (by rw [← this, e, hfc]), fun e => h2 (by rw [← this, e, htc])⟩
  refine ⟨hc.walk.congr (fun i hi => ?_), ?_, hc.nodup, fun i => ?_⟩
  · simp [joinS, (hm i hi).1, (hm i hi).2]
  · rw [hc.len]; simp [joinS, h2]
  · rw [hc.mem i, joinS_cls]
    constructor
    · rintro ⟨a, b⟩; exact ⟨a, by rw [b]; simp [h1]⟩
    · rintro ⟨a, b⟩
      by_cases h3 : (S i).cls = f
      · simp [h3] at b; exact absurd b.symm h2
      · simp [h3] at b; exact ⟨a, b⟩

theorem Ups.congr {S T : Nat → Spot} (h : ∀ i, (T i).up = (S i).up) {i : Int} {n : Nat} (hu : Ups S i n) : Ups T i n := by
  induction hu with
  | top => exact .top
  | up _ ih => exact .up (by rw [h]; exact ih)
theorem Ups.int {S : Nat → Spot} {i : Int} {n : Nat} (h : Ups S i n) : i = -1 ∧ n = 0 ∨ ∃ k m, i = ((k : Nat) : Int) ∧ n = m + 1 ∧ Ups S (S k).up m := by
  cases h with
  | top => exact Or.inl ⟨rfl, rfl⟩
  | up h => exact Or.inr ⟨_, _, rfl, rfl, h⟩
theorem Ups.nat {S : Nat → Spot} {k : Nat} {n : Nat} (h : Ups S (k : Int) n) : ∃ m, n = m + 1 ∧ Ups S (S k).up m := by
  rcases h.int with ⟨h1, _⟩ | ⟨k', m, h1, h2, h3⟩
  · omega
  · have : k = k' := by omega
    subst this; exact ⟨m, h2, h3⟩
theorem Ups.one {S : Nat → Spot} {i : Int} {n : Nat} (h : Ups S i n) : ∀ {m : Nat}, Ups S i m → n = m := by
  induction h with
  | top =>
    intro m h
    rcases h.int with ⟨_, h2⟩ | ⟨k, m', h1, _⟩
    · exact h2.symm
    · omega
  | up _ ih =>
    intro m h
    obtain ⟨m', h1, h2⟩ := h.nat
    rw [h1, ih h2]
/-- The way up from i. -/
inductive On (S : Nat → Spot) : Int → Nat → Prop
  | here {i : Nat} : On S (i : Int) i
  | up {i j : Nat} : On S (S i).up j → On S (i : Int) j
theorem On.short {S : Nat → Spot} {i : Int} {j : Nat} (h : On S i j) : ∀ {n : Nat}, Ups S i n → ∃ m, Ups S (j : Int) m ∧ m ≤ n := by
  induction h with
  | here => intro n hn; exact ⟨n, hn, Nat.le_refl _⟩
  | up _ ih =>
    intro n hn
    obtain ⟨m, h1, h2⟩ := hn.nat
    obtain ⟨k, h3, h4⟩ := ih h2
    exact ⟨k, h3, by omega⟩
theorem Ups.off {S T : Nat → Spot} {i : Int} {n : Nat} (hu : Ups S i n) : (∀ j, On S i j → (T j).up = (S j).up) → Ups T i n := by
  induction hu with
  | top => intro _; exact .top
  | @up k n h ih => intro hk; exact .up (by rw [hk k .here]; exact ih (fun j hj => hk j (.up hj)))

/-- 'hang': the way up from 'at' is turned round, below 'up'. -/
def hang : Nat → (Nat → Spot) → Int → Int → Int → (Nat → Spot)
  | 0, S, _, _, _ => S
  | n + 1, S, at_, up, why => hang n (upd S at_.toNat { S at_.toNat with up := up, why := why }) (S at_.toNat).up at_ (S at_.toNat).why
/-- All but the ways up is as it was. -/
def Alike (S T : Nat → Spot) : Prop := ∀ i, (T i).cls = (S i).cls ∧ (T i).next = (S i).next ∧ (T i).size = (S i).size ∧ (T i).least = (S i).least ∧ (T i).uses = (S i).uses
theorem Alike.refl (S : Nat → Spot) : Alike S S := fun _ => ⟨rfl, rfl, rfl, rfl, rfl⟩
theorem Alike.trans {S T U : Nat → Spot} (h : Alike S T) (k : Alike T U) : Alike S U := fun i => by
  obtain ⟨a, b, c, d, e⟩ := h i
  obtain ⟨a', b', c', d', e'⟩ := k i
  exact ⟨a'.trans a, b'.trans b, c'.trans c, d'.trans d, e'.trans e⟩
theorem alike_up (S : Nat → Spot) (i : Nat) (u y : Int) : Alike S (upd S i { S i with up := u, why := y }) := fun j => by
  by_cases h : j = i
  · subst h; simp [upd]
  · simp [upd, h]
theorem hang_alike : ∀ (n : Nat) (S : Nat → Spot) (a u y : Int), Alike S (hang n S a u y)
  | 0, S, _, _, _ => Alike.refl S
  | n + 1, S, a, u, y => (alike_up S a.toNat u y).trans (hang_alike n _ _ _ _)
/-- One step of turning round keeps the rest of the way. -/
theorem ups_step {S : Nat → Spot} {k n : Nat} (h : Ups S (k : Int) (n + 1)) (u y : Int) : Ups (upd S k { S k with up := u, why := y }) (S k).up n := by
  obtain ⟨m, h1, h2⟩ := h.nat
  obtain rfl : m = n := by omega
  refine h2.off (fun j hj => ?_)
  have : j ≠ k := by
    intro e
    subst e
    obtain ⟨m', h3, h4⟩ := hj.short h2
    have := h.one h3
    omega
  simp [upd, this]
/-- The rest of the way lay on the way. -/
theorem on_step {S : Nat → Spot} {k n : Nat} (h : Ups S (k : Int) (n + 1)) (u y : Int) {j : Nat} (hj : On (upd S k { S k with up := u, why := y }) (S k).up j) : On S (k : Int) j := by
  obtain ⟨m, h1, h2⟩ := h.nat
  have key : ∀ (x : Int) (nx : Nat), Ups S x nx → nx ≤ m → On (upd S k { S k with up := u, why := y }) x j → On S x j := by
    intro x nx hx
    induction hx with
    | top => intro _ h; cases h
    | @up i n' hh ih =>
      intro hle hq
      have hne : i ≠ k := by
        intro e; subst e
        have := h.one (Ups.up hh); omega
      generalize hi : ((i : Nat) : Int) = ii at hq
      cases hq with
      | here =>
        have : i = j := by omega
        subst this; exact .here
      | @up i' _ hq =>
        have : i = i' := by omega
        subst this
        rw [upd_other _ _ hne] at hq
        exact .up (ih (by omega) hq)
  exact .up (key _ _ h2 (Nat.le_refl _) hj)
/-- Turned round every way up still ends: those of the other class first, then those that come to the turned way. -/
theorem hang_ups : ∀ (n : Nat) (S : Nat → Spot) (a u y : Int) (Q : Nat → Prop), Ups S a n → (∃ m, Ups S u m) → (∀ i, Q i → ∃ m, Ups S (i : Int) m) →
    (∀ j, On S a j → ¬ On S u j) → ∀ i, Q i → ∃ m, Ups (hang n S a u y) (i : Int) m
  | 0, S, a, u, y, Q, ha, hu, hq, hs => hq
  | n + 1, S, a, u, y, Q, ha, hu, hq, hs => by
    rcases ha.int with ⟨_, h⟩ | ⟨k, m, rfl, h2, h3⟩
    · omega
    obtain rfl : m = n := by omega
    have hk : ((k : Nat) : Int).toNat = k := by omega
    rw [hang, hk]
    obtain ⟨mu, hu⟩ := hu
    have hu' : Ups (upd S k { S k with up := u, why := y }) u mu := hu.off (fun j hj => by
      have : j ≠ k := fun e => hs k .here (e ▸ hj)
      simp [upd, this])
    have hk' : Ups (upd S k { S k with up := u, why := y }) (k : Int) (mu + 1) := .up (by simp [upd]; exact hu')
    refine hang_ups m _ _ _ _ Q (ups_step ha u y) ⟨_, hk'⟩ ?_ ?_
    · intro i hi
      obtain ⟨mi, hi⟩ := hq i hi
      -- a way that meets k goes on below u
      have gen : ∀ (x : Int) (mx : Nat), Ups S x mx → ∃ m', Ups (upd S k { S k with up := u, why := y }) x m' := by
        intro x mx hx
        induction hx with
        | top => exact ⟨0, .top⟩
        | @up j n' _ ih =>
          by_cases e : j = k
          · subst e; exact ⟨_, hk'⟩
          · obtain ⟨m', h'⟩ := ih
            exact ⟨m' + 1, .up (by simp [upd, e]; exact h')⟩
      exact gen _ _ hi
    · -- the rest of the way and the way from k part
      intro j hj hj2
      have hs1 := ups_step ha u y
      -- j lies on the rest of the way: fewer above it than above k in S
      have onS : ∀ (x : Int) (nx : Nat), Ups S x nx → nx ≤ m → On (upd S k { S k with up := u, why := y }) x j → On S x j := by
        intro x nx hx
        induction hx with
        | top => intro _ h; cases h
        | @up i n' hh ih =>
          intro hle h
          have hne : i ≠ k := by
            intro e; subst e
            have := ha.one (Ups.up hh); omega
          generalize hi : ((i : Nat) : Int) = ii at h
          cases h with
          | here => 
            have : i = j := by omega
            subst this; exact .here
          | @up i' _ h =>
            have : i = i' := by omega
            subst this
            rw [upd_other _ _ hne] at h
            exact .up (ih (by omega) h)
      have o1 : On S (S k).up j := onS _ _ h3 (Nat.le_refl _) hj
      have jk : j ≠ k := by
        intro e; subst e
        obtain ⟨m', h4, h5⟩ := o1.short h3
        have := ha.one h4; omega
      -- from k the way goes to u
      generalize hkk : ((k : Nat) : Int) = kk at hj2
      cases hj2 with
      | here => exact jk (by omega)
      | @up i' _ h =>
        have : k = i' := by omega
        subst this
        rw [upd_same] at h
        simp only [] at h
        have o2 : ∀ (x : Int) (nx : Nat), Ups S x nx → (∀ i, On S x i → i ≠ k) → On (upd S k { S k with up := u, why := y }) x j → On S x j := by
          intro x nx hx
          induction hx with
          | top => intro _ h; cases h
          | @up i n' hh ih =>
            intro hno h
            have hne := hno i .here
            generalize hi : ((i : Nat) : Int) = ii at h
            cases h with
            | here =>
              have : i = j := by omega
              subst this; exact .here
            | @up i' _ h =>
              have : i = i' := by omega
              subst this
              rw [upd_other _ _ hne] at h
              exact .up (ih (fun i hi => hno i (.up hi)) h)
        exact hs j (.up o1) (o2 _ _ hu (fun i hi e => hs k .here (e ▸ hi)) h)
end

/-- Parts are enrolled one behind the other. -/
def enrolAll (P : Nat → Part) (S : Nat → Spot) : List Nat → (Nat × Nat → Option Nat) × List Claim → (Nat × Nat → Option Nat) × List Claim
  | [], x => x
  | i :: l, x => enrolAll P S l (enrolS P S x.1 x.2 i)
/-- The spots behind a merge: a's class goes over to b's; n: how long the way up from a is. -/
def mergeS (S : Nat → Spot) (a b : Nat) (why : Int) (n : Nat) : Nat → Spot := joinS (S a).cls (S b).cls (hang n S a b why)
def mergeX (P : Nat → Part) (S : Nat → Spot) (sg : Nat × Nat → Option Nat) (cl : List Claim) (a b : Nat) (why : Int) (n : Nat) : (Nat × Nat → Option Nat) × List Claim :=
  enrolAll P (mergeS S a b why n) (S (S a).cls).uses (drop P S sg (S (S a).cls).uses, cl)
theorem Alike.sig {S T : Nat → Spot} (h : Alike S T) (P : Nat → Part) (i : Nat) : sig P T i = sig P S i := by simp [Euf.sig, (h _).1]
section
variable {np ns : Nat} {P : Nat → Part} {S : Nat → Spot} {sg : Nat × Nat → Option Nat} {cl : List Claim} {out : List Nat}
/-- A way up stays in its class. -/
theorem Inv.on (h : Inv np P ns S sg cl out) {i : Int} {j : Nat} (ho : On S i j) : ∀ {k : Nat}, i = (k : Int) → k < ns → j < ns ∧ (S j).cls = (S k).cls := by
  induction ho with
  | @here i => intro k e hk; have : i = k := by omega
               subst this; exact ⟨hk, rfl⟩
  | @up i j ho ih =>
    intro k e hk
    have : i = k := by omega
    subst this
    have hu : (S i).up ≠ -1 := by
      intro e; rw [e] at ho; cases ho <;> omega
    obtain ⟨h1, h2, h3⟩ := h.upc i hk hu
    obtain ⟨h4, h5⟩ := ih (k := (S i).up.toNat) (by omega) h2
    exact ⟨h4, h5.trans h3⟩
theorem hang_up (Q : Nat → Prop) (R : Nat → Nat → Prop) (hs : ∀ x z, R x z → R z x) : ∀ (n : Nat) (S : Nat → Spot) (a u y : Int), Ups S a n → (∀ i : Nat, Q i → (S i).up ≠ -1 → 0 ≤ (S i).up ∧ Q (S i).up.toNat ∧ R i (S i).up.toNat) →
    (a ≠ -1 → Q a.toNat ∧ 0 ≤ u ∧ Q u.toNat ∧ R a.toNat u.toNat) → ∀ i : Nat, Q i → (hang n S a u y i).up ≠ -1 → 0 ≤ (hang n S a u y i).up ∧ Q (hang n S a u y i).up.toNat ∧ R i (hang n S a u y i).up.toNat
  | 0, S, a, u, y, ha, hR, hau => hR
  | n + 1, S, a, u, y, ha, hR, hau => by
    rcases ha.int with ⟨_, h⟩ | ⟨k, m, rfl, h2, h3⟩
    · omega
    obtain rfl : m = n := by omega
    have hk : ((k : Nat) : Int).toNat = k := by omega
    have hau := hau (by omega)
    rw [hk] at hau
    rw [hang, hk]
    refine hang_up Q R hs m _ _ _ _ (ups_step ha u y) ?_ ?_
    · intro i hQ hi
      by_cases e : i = k
      · subst e; rw [upd_same] at hi ⊢; exact hau.2
      · rw [upd_other _ _ e] at hi ⊢; exact hR i hQ hi
    · intro h
      obtain ⟨h4, h5, h6⟩ := hR k hau.1 h
      rw [hk]
      exact ⟨h5, by omega, hau.1, hs _ _ h6⟩
theorem joinS_mem_uses {f t : Nat} (c p : Nat) (h : p ∈ (joinS f t S c).uses) : c = t ∧ (p ∈ (S t).uses ∨ p ∈ (S f).uses) ∨ c ≠ t ∧ c ≠ f ∧ p ∈ (S c).uses := by
  unfold joinS at h
  by_cases e : c = t
  · simp [e] at h; exact Or.inl ⟨e, h⟩
  · by_cases e2 : c = f
    · subst e2; simp [e] at h
    · simp [e, e2] at h; exact Or.inr ⟨e, e2, h⟩
theorem joinS_uses {f t : Nat} (c p : Nat) (hc : c ≠ f) (h : p ∈ (S c).uses) : p ∈ (joinS f t S c).uses := by
  unfold joinS
  by_cases e : c = t
  · subst e; simp [h]
  · simp [e, hc, h]
theorem joinS_usesf {f t : Nat} (p : Nat) (h : p ∈ (S f).uses) : p ∈ (joinS f t S t).uses := by simp [joinS, h]
theorem total_join {f t : Nat} (hft : f ≠ t) (hf : f < ns) (ht : t < ns) : total (useLen (joinS f t S)) ns = total (useLen S) ns := by
  have h1 := total_upd (useLen S) t (useLen S t + useLen S f) ns ht
  have h2 := total_upd (upd (useLen S) t (useLen S t + useLen S f)) f 0 ns hf
  rw [upd_other _ _ hft] at h2
  have e : total (useLen (joinS f t S)) ns = total (upd (upd (useLen S) t (useLen S t + useLen S f)) f 0) ns := by
    refine total_congr ns (fun i _ => ?_)
    by_cases e1 : i = f
    · subst e1; rw [upd_same]; simp [useLen, joinS, hft]
    · rw [upd_other _ _ e1]
      by_cases e2 : i = t
      · subst e2; rw [upd_same]; simp [useLen, joinS]
      · rw [upd_other _ _ e2]; simp [useLen, joinS, e1, e2]
  omega
theorem Inv.enrolAll {out0 : List Nat} : ∀ (l : List Nat) (x : (Nat × Nat → Option Nat) × List Claim), Inv np P ns S x.1 x.2 l → (∀ i ∈ l, i < ns ∧ Made P i) →
    Inv np P ns S (Euf.enrolAll P S l x).1 (Euf.enrolAll P S l x).2 []
  | [], x, h, _ => h
  | i :: l, x, h, hl => Inv.enrolAll (out0 := out0) l _ (h.enrol (hl i (List.mem_cons_self ..)).1 (hl i (List.mem_cons_self ..)).2 l (fun j hj => by
      by_cases e : j = i
      · exact Or.inr e
      · exact Or.inl (by simp [e, hj]))) (fun j hj => hl j (List.mem_cons_of_mem _ hj))
theorem Sound.enrolAll {D : Type} {val : Nat → D} (hM : Model np P val) : ∀ (l : List Nat) (x : (Nat × Nat → Option Nat) × List Claim), Sound val ns S x.2 → Inv np P ns S x.1 x.2 l → (∀ i ∈ l, i < ns ∧ Made P i) →
    Sound val ns S (Euf.enrolAll P S l x).2
  | [], x, h, _, _ => h
  | i :: l, x, h, hI, hl => Sound.enrolAll hM l _ (h.enrol hI hM (hl i (List.mem_cons_self ..)).1 (hl i (List.mem_cons_self ..)).2) (hI.enrol (hl i (List.mem_cons_self ..)).1 (hl i (List.mem_cons_self ..)).2 l (fun j hj => by
      by_cases e : j = i
      · exact Or.inr e
      · exact Or.inl (by simp [e, hj]))) (fun j hj => hl j (List.mem_cons_of_mem _ hj))
theorem enrolAll_len : ∀ (l : List Nat) (x : (Nat × Nat → Option Nat) × List Claim), (Euf.enrolAll P S l x).2.length ≤ x.2.length + l.length
  | [], x => by simp [Euf.enrolAll]
  | i :: l, x => by
    refine Nat.le_trans (enrolAll_len l _) ?_
    have : (enrolS P S x.1 x.2 i).2.length ≤ x.2.length + 1 := by
      unfold enrolS
      cases x.1 (sig P S i) <;> simp
    simp only [List.length_cons]; omega
theorem enrolAll_mem : ∀ (l : List Nat) (x : (Nat × Nat → Option Nat) × List Claim) (c : Claim), c ∈ x.2 → c ∈ (Euf.enrolAll P S l x).2
  | [], x, c, h => h
  | i :: l, x, c, h => enrolAll_mem l _ c (by
      unfold enrolS
      cases x.1 (sig P S i) <;> simp [h])

/-- A claim whose two are of one class already. -/
theorem Inv.same {c : Claim} (h : Inv np P ns S sg (cl ++ [c]) []) (hc : (S c.a).cls = (S c.b).cls) : Inv np P ns S sg cl [] := by
  refine { h with sg2 := ?_, cls := fun d hd => h.cls d (by simp [hd]) }
  intro p hp mp ho
  obtain ⟨q, hq, h1⟩ := h.sg2 p hp mp ho
  refine ⟨q, hq, ?_⟩
  rcases h1 with h1 | ⟨d, hd, rfl, rfl⟩
  · exact Or.inl h1
  · simp at hd
    rcases hd with hd | rfl
    · exact Or.inr ⟨d, hd, rfl, rfl⟩
    · exact Or.inl hc
/-- The classes, rings and uses behind a merge, ahead of the enrolling. -/
theorem Inv.joined {c : Claim} (h : Inv np P ns S sg (cl ++ [c]) []) {a b n : Nat} (why : Int) (hab : (a = c.a ∧ b = c.b) ∨ (a = c.b ∧ b = c.a)) (hne : (S a).cls ≠ (S b).cls) (hn : Ups S (a : Int) n) :
    Inv np P ns (mergeS S a b why n) (drop P S sg (S (S a).cls).uses) cl (S (S a).cls).uses := by
  have hcc := h.cls c (by simp)
  have ha : a < ns := by rcases hab with ⟨rfl, rfl⟩ | ⟨rfl, rfl⟩ <;> omega
  have hb : b < ns := by rcases hab with ⟨rfl, rfl⟩ | ⟨rfl, rfl⟩ <;> omega
  have hal := hang_alike n S a b why
  obtain ⟨T, hT⟩ : ∃ T, T = hang n S (a : Int) (b : Int) why := ⟨_, rfl⟩
  obtain ⟨f, hf⟩ : ∃ f, f = (S a).cls := ⟨_, rfl⟩
  obtain ⟨t, ht⟩ : ∃ t, t = (S b).cls := ⟨_, rfl⟩
  have eM : mergeS S a b why n = joinS f t T := by rw [mergeS, hT, hf, ht]
  rw [← hT] at hal
  rw [eM, ← hf]
  have hft : f ≠ t := by rw [hf, ht]; exact hne
  have hfn : f < ns := hf ▸ h.lt a ha
  have htn : t < ns := ht ▸ h.lt b hb
  have hfc : (S f).cls = f := by rw [hf]; exact h.rep a ha
  have htc : (S t).cls = t := by rw [ht]; exact h.rep b hb
  have Tc : ∀ i, (T i).cls = (S i).cls := fun i => (hal i).1
  have Tn : ∀ i, (T i).next = (S i).next := fun i => (hal i).2.1
  have Tz : ∀ i, (T i).size = (S i).size := fun i => (hal i).2.2.1
  have Tu : ∀ i, (T i).uses = (S i).uses := fun i => (hal i).2.2.2.2
  have Tr : ∀ c l, Ring ns S c l → Ring ns T c l := fun c l hr => ⟨hr.walk.congr (fun i _ => Tn i), by rw [Tz]; exact hr.len, hr.nodup, fun i => by rw [Tc]; exact hr.mem i⟩
  have Tsig : ∀ i, sig P T i = sig P S i := hal.sig P
  have Jc : ∀ i, (joinS f t T i).cls = if (S i).cls = f then t else (S i).cls := fun i => by rw [joinS_cls, Tc]
  have Js : ∀ i, sig P (joinS f t T) i = (if (sig P S i).1 = f then t else (sig P S i).1, if (sig P S i).2 = f then t else (sig P S i).2) := fun i => by rw [joinS_sig, Tsig]
  have sigOk : ∀ p, p < ns → Made P p → (sig P S p).1 < ns ∧ (sig P S p).2 < ns ∧ (S (sig P S p).1).cls = (sig P S p).1 ∧ (S (sig P S p).2).cls = (sig P S p).2 := by
    intro p hp mp
    have hl := h.frontLt hp mp
    exact ⟨h.lt _ hl.1, h.lt _ hl.2, h.rep _ hl.1, h.rep _ hl.2⟩
  have useF : ∀ p, p ∈ (S f).uses ↔ p < ns ∧ Made P p ∧ ((sig P S p).1 = f ∨ (sig P S p).2 = f) := by
    intro p
    constructor
    · exact h.use2 f hfn p
    · rintro ⟨h1, h2, h3⟩
      have := h.use1 p h1 h2
      rcases h3 with h3 | h3
      · rw [h3] at this; exact this.1
      · rw [h3] at this; exact this.2
  have dropF : ∀ k q, drop P S sg (S f).uses k = some q → sg k = some q ∧ k.1 ≠ f ∧ k.2 ≠ f := by
    intro k q hq
    unfold drop at hq
    split at hq
    · cases hq
    · rename_i hk
      refine ⟨hq, ?_⟩
      obtain ⟨q1, q2, q3⟩ := h.sg1 k q hq
      have hno : q ∉ (S f).uses := fun hu => hk (List.mem_map.2 ⟨q, hu, q3⟩)
      rw [useF] at hno
      constructor
      · intro e; exact hno ⟨q1, q2, Or.inl (by rw [q3]; exact e)⟩
      · intro e; exact hno ⟨q1, q2, Or.inr (by rw [q3]; exact e)⟩
  refine { parts := h.parts, le := h.le, lt := ?_, rep := ?_, ring := ?_, ups := ?_, upc := ?_, use1 := ?_, use2 := ?_, useN := ?_, sg1 := ?_, sg2 := ?_, cls := fun d hd => h.cls d (by simp [hd]) }
  · intro i hi
    rw [Jc]; split
    · exact htn
    · exact h.lt i hi
  · intro i hi
    rw [Jc, Jc]
    split
    · rw [htc]; simp [Ne.symm hft]
    · rename_i hi2
      rw [h.rep i hi]; simp [hi2]
  · intro d hd hdc
    rw [Jc] at hdc
    by_cases e : d = t
    · subst e
      obtain ⟨l1, r1⟩ := h.ring f hfn hfc
      obtain ⟨l2, r2⟩ := h.ring d htn htc
      exact ring_join (Tr _ _ r1) (Tr _ _ r2) hft (by rw [Tc]; exact hfc) (by rw [Tc]; exact htc) hfn htn
    · have hdf : d ≠ f := by
        intro e2; subst e2; rw [hfc] at hdc; simp at hdc; exact hft hdc.symm
      have hdd : (S d).cls = d := by
        split at hdc
        · exact absurd hdc.symm e
        · exact hdc
      obtain ⟨l, r⟩ := h.ring d hd hdd
      exact ⟨l, ring_other (Tr _ _ r) hdf e (by rw [Tc]; exact hfc) (by rw [Tc]; exact htc)⟩
  · intro i hi
    have := hang_ups n S (a : Int) (b : Int) why (fun i => i < ns) hn (h.ups b hb) h.ups (fun j h1 h2 => by
      have e1 := (h.on h1 rfl ha).2
      have e2 := (h.on h2 rfl hb).2
      exact hne (e1.symm.trans e2)) i hi
    rw [← hT] at this
    obtain ⟨m, hm⟩ := this
    exact ⟨m, Ups.congr (S := T) (T := joinS f t T) (fun j => rfl) hm⟩
  · intro i hi hu
    have hu' : (T i).up ≠ -1 := hu
    have key := hang_up (fun i => i < ns) (fun x z => (joinS f t T x).cls = (joinS f t T z).cls) (fun _ _ e => e.symm) n S (a : Int) (b : Int) why hn (fun j hj hj2 => by
      obtain ⟨h1, h2, h3⟩ := h.upc j hj hj2
      exact ⟨h1, h2, by rw [Jc, Jc, h3]⟩) (fun _ => ⟨by simpa using ha, by omega, by simpa using hb, by
        have e1 : ((a : Nat) : Int).toNat = a := by omega
        have e2 : ((b : Nat) : Int).toNat = b := by omega
        rw [e1, e2, Jc, Jc, ← hf, ← ht]; simp [Ne.symm hft]⟩) i hi
    rw [← hT] at key
    obtain ⟨h1, h2, h3⟩ := key hu'
    exact ⟨h1, h2, h3.symm⟩
  · intro p hp mp
    rw [Js]
    obtain ⟨s1, s2, s3, s4⟩ := sigOk p hp mp
    have u := h.use1 p hp mp
    constructor
    · simp only []
      split
      · rename_i e; rw [e] at u; exact joinS_usesf (S := T) p (by rw [Tu]; exact u.1)
      · rename_i e; exact joinS_uses (S := T) _ p e (by rw [Tu]; exact u.1)
    · simp only []
      split
      · rename_i e; rw [e] at u; exact joinS_usesf (S := T) p (by rw [Tu]; exact u.2)
      · rename_i e; exact joinS_uses (S := T) _ p e (by rw [Tu]; exact u.2)
  · intro d hd p hp
    rw [Js]
    rcases joinS_mem_uses (S := T) d p hp with ⟨rfl, h1⟩ | ⟨h1, h2, h3⟩
    · rw [Tu, Tu] at h1
      rcases h1 with h1 | h1
      · obtain ⟨k1, k2, k3⟩ := h.use2 d hd p h1
        refine ⟨k1, k2, ?_⟩
        simp only []
        rcases k3 with k3 | k3
        · left; rw [k3]; simp
        · right; rw [k3]; simp
      · obtain ⟨k1, k2, k3⟩ := h.use2 f hfn p h1
        refine ⟨k1, k2, ?_⟩
        simp only []
        rcases k3 with k3 | k3
        · left; rw [k3]; simp
        · right; rw [k3]; simp
    · rw [Tu] at h3
      obtain ⟨k1, k2, k3⟩ := h.use2 d hd p h3
      refine ⟨k1, k2, ?_⟩
      simp only []
      rcases k3 with k3 | k3
      · left; rw [k3]; simp [h2]
      · right; rw [k3]; simp [h2]
  · have e1 := total_join (S := T) hft hfn htn
    have e2 : total (useLen T) ns = total (useLen S) ns := total_congr ns (fun i _ => by simp [useLen, Tu])
    have := h.useN
    omega
  · intro k q hq
    obtain ⟨h1, h2, h3⟩ := dropF k q hq
    obtain ⟨k1, k2, k3⟩ := h.sg1 k q h1
    refine ⟨k1, k2, ?_⟩
    rw [Js, k3]; simp [h2, h3]
  · intro p hp mp ho
    have hno := ho
    rw [useF] at hno
    have n1 : (sig P S p).1 ≠ f := fun e => hno ⟨hp, mp, Or.inl e⟩
    have n2 : (sig P S p).2 ≠ f := fun e => hno ⟨hp, mp, Or.inr e⟩
    obtain ⟨q, hq, h1⟩ := h.sg2 p hp mp (by simp)
    refine ⟨q, ?_, ?_⟩
    · rw [Js]; simp only [n1, n2, if_false]
      unfold drop
      rw [if_neg]
      · exact hq
      · intro hm
        obtain ⟨r, hr, hr2⟩ := List.mem_map.1 hm
        obtain ⟨_, _, k3⟩ := h.use2 f hfn r hr
        rw [hr2] at k3
        rcases k3 with k3 | k3
        · exact n1 k3
        · exact n2 k3
    · rw [Jc, Jc]
      rcases h1 with h1 | ⟨d, hd, rfl, rfl⟩
      · left; rw [h1]
      · simp at hd
        rcases hd with hd | rfl
        · exact Or.inr ⟨d, hd, rfl, rfl⟩
        · left
          rcases hab with ⟨rfl, rfl⟩ | ⟨rfl, rfl⟩
          · rw [← hf, ← ht]; simp [Ne.symm hft]
          · rw [← hf, ← ht]; simp [Ne.symm hft]
end

theorem drop_snoc (P : Nat → Part) (S : Nat → Spot) (sg : Nat × Nat → Option Nat) (l : List Nat) (i : Nat) : drop P S sg (l ++ [i]) = fun k => if k = sig P S i then none else drop P S sg l k := by
  funext k
  unfold drop
  by_cases e : k = sig P S i
  · simp [e]
  · by_cases e2 : k ∈ l.map (sig P S)
    · have : k ∈ (l ++ [i]).map (sig P S) := by rw [List.map_append]; exact List.mem_append_left _ e2
      rw [if_pos this, if_neg e, if_pos e2]
    · have : k ∉ (l ++ [i]).map (sig P S) := by
        rw [List.map_append, List.mem_append, not_or]
        exact ⟨e2, by simpa using e⟩
      rw [if_neg this, if_neg e, if_neg e2]
theorem drop_nil (P : Nat → Part) (S : Nat → Spot) (sg : Nat × Nat → Option Nat) : drop P S sg [] = sg := by funext k; simp [drop]
theorem renameS_sig (f t : Nat) (S : Nat → Spot) (P : Nat → Part) (i : Nat) : sig P (renameS f t S) i = sig P (joinS f t S) i := rfl
theorem enrolS_congr {P : Nat → Part} {S T : Nat → Spot} (h : ∀ i, sig P S i = sig P T i) (sg : Nat × Nat → Option Nat) (cl : List Claim) (i : Nat) : enrolS P S sg cl i = enrolS P T sg cl i := by unfold enrolS; rw [h i]
theorem enrolAll_snoc (P : Nat → Part) (S : Nat → Spot) (i : Nat) : ∀ (l : List Nat) (x : (Nat × Nat → Option Nat) × List Claim), enrolAll P S (l ++ [i]) x = enrolS P S (enrolAll P S l x).1 (enrolAll P S l x).2 i
  | [], x => rfl
  | j :: l, x => by rw [List.cons_append, enrolAll, enrolAll, enrolAll_snoc P S i l]
section
variable {np ns : Nat} {P : Nat → Part} {S : Nat → Spot} {sg : Nat × Nat → Option Nat} {cl : List Claim} {out : List Nat}
/-- Part of the way through the enrolling. -/
theorem Inv.enrolPart : ∀ (l r : List Nat) (x : (Nat × Nat → Option Nat) × List Claim), Inv np P ns S x.1 x.2 (l ++ r) → (∀ i ∈ l, i < ns ∧ Made P i) →
    Inv np P ns S (Euf.enrolAll P S l x).1 (Euf.enrolAll P S l x).2 r
  | [], r, x, h, _ => h
  | i :: l, r, x, h, hl => Inv.enrolPart l r _ (h.enrol (hl i (List.mem_cons_self ..)).1 (hl i (List.mem_cons_self ..)).2 (l ++ r) (fun j hj => by
      by_cases e : j = i
      · exact Or.inr e
      · exact Or.inl (by rw [List.cons_append, List.mem_cons, not_or]; exact ⟨e, hj⟩))) (fun j hj => hl j (List.mem_cons_of_mem _ hj))
theorem mergeS_cls (S : Nat → Spot) (a b : Nat) (why : Int) (n i : Nat) : (mergeS S a b why n i).cls = if (S i).cls = (S a).cls then (S b).cls else (S i).cls := by
  have hal := hang_alike n S a b why i
  rw [mergeS, joinS_cls, hal.1]
/-- What is the same stays the same. -/
def Coarser (ns : Nat) (S T : Nat → Spot) : Prop := ∀ i j, i < ns → j < ns → (S i).cls = (S j).cls → (T i).cls = (T j).cls
theorem Coarser.refl (ns : Nat) (S : Nat → Spot) : Coarser ns S S := fun _ _ _ _ h => h
theorem Coarser.trans {S T U : Nat → Spot} (h : Coarser ns S T) (k : Coarser ns T U) : Coarser ns S U := fun i j hi hj e => k i j hi hj (h i j hi hj e)
theorem coarser_merge (S : Nat → Spot) (a b : Nat) (why : Int) (n : Nat) : Coarser ns S (mergeS S a b why n) := fun i j _ _ e => by rw [mergeS_cls, mergeS_cls, e]
theorem merge_same (S : Nat → Spot) (a b : Nat) (why : Int) (n : Nat) : (mergeS S a b why n a).cls = (mergeS S a b why n b).cls := by
  rw [mergeS_cls, mergeS_cls]
  simp only [if_true]
  split
  · rfl
  · rfl
theorem Inv.usesOk (h : Inv np P ns S sg cl out) {c : Nat} (hc : c < ns) : ∀ i ∈ (S c).uses, i < ns ∧ Made P i := fun i hi => ⟨(h.use2 c hc i hi).1, (h.use2 c hc i hi).2.1⟩
/-- A merge. -/
theorem Inv.merge {c : Claim} (h : Inv np P ns S sg (cl ++ [c]) []) {a b n : Nat} (why : Int) (hab : (a = c.a ∧ b = c.b) ∨ (a = c.b ∧ b = c.a)) (hne : (S a).cls ≠ (S b).cls) (hn : Ups S (a : Int) n) :
    Inv np P ns (mergeS S a b why n) (mergeX P S sg cl a b why n).1 (mergeX P S sg cl a b why n).2 [] := by
  have hcc := h.cls c (by simp)
  have ha : a < ns := by rcases hab with ⟨rfl, rfl⟩ | ⟨rfl, rfl⟩ <;> omega
  exact Inv.enrolAll (out0 := []) _ _ (h.joined why hab hne hn) (h.usesOk (h.lt a ha))
theorem Sound.merge {D : Type} {val : Nat → D} (hM : Model np P val) {c : Claim} (hs : Sound val ns S (cl ++ [c])) (h : Inv np P ns S sg (cl ++ [c]) []) {a b n : Nat} (why : Int) (hab : (a = c.a ∧ b = c.b) ∨ (a = c.b ∧ b = c.a)) (hne : (S a).cls ≠ (S b).cls) (hn : Ups S (a : Int) n) :
    Sound val ns (mergeS S a b why n) (mergeX P S sg cl a b why n).2 := by
  have hcc := h.cls c (by simp)
  have ha : a < ns := by rcases hab with ⟨rfl, rfl⟩ | ⟨rfl, rfl⟩ <;> omega
  have hb : b < ns := by rcases hab with ⟨rfl, rfl⟩ | ⟨rfl, rfl⟩ <;> omega
  have hv : val a = val b := by
    have := hs.c c (by simp)
    rcases hab with ⟨rfl, rfl⟩ | ⟨rfl, rfl⟩
    · exact this
    · exact this.symm
  refine Sound.enrolAll hM _ _ ⟨fun i hi => ?_, fun d hd => hs.c d (by simp [hd])⟩ (h.joined why hab hne hn) (h.usesOk (h.lt a ha))
  rw [mergeS_cls]
  split
  · rename_i e
    rw [hs.s i hi, e, ← hs.s a ha, hv, hs.s b hb]
  · exact hs.s i hi
theorem reps_merge (h : Inv np P ns S sg cl out) {a b n : Nat} (why : Int) (ha : a < ns) (hb : b < ns) (hne : (S a).cls ≠ (S b).cls) : reps (mergeS S a b why n) ns + 1 = reps S ns := by
  have hf := h.lt a ha
  have h1 := total_upd (isRep S) (S a).cls 0 ns hf
  have e1 : isRep S (S a).cls = 1 := by simp [isRep, h.rep a ha]
  have e2 : total (isRep (mergeS S a b why n)) ns = total (upd (isRep S) (S a).cls 0) ns := by
    refine total_congr ns (fun i hi => ?_)
    by_cases e : i = (S a).cls
    · subst e
      rw [upd_same]
      simp [isRep, mergeS_cls, h.rep a ha, Ne.symm hne]
    · rw [upd_other _ _ e]
      unfold isRep
      rw [mergeS_cls]
      by_cases e3 : (S i).cls = (S a).cls
      · simp only [e3, if_true]
        have h5 : (S b).cls ≠ i ∨ (S b).cls = i := by omega
        rcases h5 with h5 | h5
        · simp [h5, Ne.symm e]
        · exfalso
          have := h.rep b hb
          rw [h5, e3] at this
          exact e this.symm
      · simp only [e3, if_false]
  unfold reps
  rw [e2]; omega
theorem reps_le (S : Nat → Spot) : ∀ n, reps S n ≤ n
  | 0 => by simp [reps, total]
  | n + 1 => by
    have := reps_le S n
    unfold reps at this ⊢
    rw [total]
    have : isRep S n ≤ 1 := by unfold isRep; split <;> omega
    omega
/-- What 'join' comes down by. -/
def mu (ns : Nat) (S : Nat → Spot) (cl : List Claim) : Nat := reps S ns * (2 * ns + 1) + cl.length
theorem mu_merge {c : Claim} (h : Inv np P ns S sg (cl ++ [c]) []) {a b n : Nat} (why : Int) (hab : (a = c.a ∧ b = c.b) ∨ (a = c.b ∧ b = c.a)) (hne : (S a).cls ≠ (S b).cls) :
    mu ns (mergeS S a b why n) (mergeX P S sg cl a b why n).2 < mu ns S (cl ++ [c]) := by
  have hcc := h.cls c (by simp)
  have ha : a < ns := by rcases hab with ⟨rfl, rfl⟩ | ⟨rfl, rfl⟩ <;> omega
  have hb : b < ns := by rcases hab with ⟨rfl, rfl⟩ | ⟨rfl, rfl⟩ <;> omega
  have h1 := reps_merge h (n := n) why ha hb hne
  have h2 := enrolAll_len (P := P) (S := mergeS S a b why n) (S (S a).cls).uses (drop P S sg (S (S a).cls).uses, cl)
  have h3 := total_ge (useLen S) (S a).cls ns (h.lt a ha)
  have h4 := h.useN
  have h5 : (S (S a).cls).uses.length ≤ 2 * ns := by
    have : useLen S (S a).cls = (S (S a).cls).uses.length := rfl
    omega
  unfold mu mergeX
  rw [← h1, Nat.add_mul, List.length_append]
  simp only [List.length_singleton] at *
  omega

/-! ## One part more -/
def fresh (i : Nat) (node : Int) : Spot := ⟨i, i, -1, -1, 1, node, []⟩
def useAt (S : Nat → Spot) (c p : Nat) : Nat → Spot := upd S c { S c with uses := (S c).uses ++ [p] }
/-- The spots with one part more, ahead of the enrolling. -/
def placeS (P : Nat → Part) (S : Nat → Spot) (n : Nat) : Nat → Spot :=
  if (P n).front = -1 then upd S n (fresh n (P n).node)
  else useAt (useAt (upd S n (fresh n (P n).node)) (S (P n).front.toNat).cls n) (S (P n).arg.toNat).cls n
def placeX (P : Nat → Part) (S : Nat → Spot) (sg : Nat × Nat → Option Nat) (cl : List Claim) (n : Nat) : (Nat × Nat → Option Nat) × List Claim :=
  if (P n).front = -1 then (sg, cl) else enrolS P (placeS P S n) sg cl n
theorem useAt_cls (S : Nat → Spot) (c p i : Nat) : (useAt S c p i).cls = (S i).cls ∧ (useAt S c p i).next = (S i).next ∧ (useAt S c p i).up = (S i).up ∧ (useAt S c p i).why = (S i).why ∧ (useAt S c p i).size = (S i).size ∧ (useAt S c p i).least = (S i).least := by
  unfold useAt
  by_cases e : i = c
  · subst e; simp [upd]
  · simp [upd, e]
theorem useAt_mem (S : Nat → Spot) (c p i q : Nat) : q ∈ (useAt S c p i).uses ↔ q ∈ (S i).uses ∨ i = c ∧ q = p := by
  unfold useAt
  by_cases e : i = c
  · subst e; simp [upd]
  · simp [upd, e]
theorem placeS_old (P : Nat → Part) (S : Nat → Spot) {n i : Nat} (hi : i ≠ n) : (placeS P S n i).cls = (S i).cls ∧ (placeS P S n i).next = (S i).next ∧ (placeS P S n i).up = (S i).up ∧ (placeS P S n i).why = (S i).why ∧ (placeS P S n i).size = (S i).size ∧ (placeS P S n i).least = (S i).least := by
  unfold placeS
  split
  · simp [upd, hi]
  · obtain ⟨a1, a2, a3, a4, a5, a6⟩ := useAt_cls (useAt (upd S n (fresh n (P n).node)) (S (P n).front.toNat).cls n) (S (P n).arg.toNat).cls n i
    obtain ⟨b1, b2, b3, b4, b5, b6⟩ := useAt_cls (upd S n (fresh n (P n).node)) (S (P n).front.toNat).cls n i
    rw [a1, a2, a3, a4, a5, a6, b1, b2, b3, b4, b5, b6]
    simp [upd, hi]
theorem placeS_new (P : Nat → Part) (S : Nat → Spot) (n : Nat) : (placeS P S n n).cls = n ∧ (placeS P S n n).next = n ∧ (placeS P S n n).up = -1 ∧ (placeS P S n n).why = -1 ∧ (placeS P S n n).size = 1 ∧ (placeS P S n n).least = (P n).node := by
  unfold placeS
  split
  · simp [upd, fresh]
  · obtain ⟨a1, a2, a3, a4, a5, a6⟩ := useAt_cls (useAt (upd S n (fresh n (P n).node)) (S (P n).front.toNat).cls n) (S (P n).arg.toNat).cls n n
    obtain ⟨b1, b2, b3, b4, b5, b6⟩ := useAt_cls (upd S n (fresh n (P n).node)) (S (P n).front.toNat).cls n n
    rw [a1, a2, a3, a4, a5, a6, b1, b2, b3, b4, b5, b6]
    simp [upd, fresh]
theorem placeS_uses (P : Nat → Part) (S : Nat → Spot) {n : Nat} (hm : Made P n) (i q : Nat) : q ∈ (placeS P S n i).uses ↔ (i ≠ n ∧ q ∈ (S i).uses) ∨ (i = (S (P n).front.toNat).cls ∧ q = n) ∨ (i = (S (P n).arg.toNat).cls ∧ q = n) := by
  unfold placeS
  rw [if_neg hm, useAt_mem, useAt_mem]
  by_cases e : i = n
  · subst e; simp [upd, fresh]
  · simp [upd, e, or_assoc]
theorem total_useAt (S : Nat → Spot) {c p n : Nat} (hc : c < n) : total (useLen (useAt S c p)) n = total (useLen S) n + 1 := by
  have h1 := total_upd (useLen S) c (useLen S c + 1) n hc
  have e : total (useLen (useAt S c p)) n = total (upd (useLen S) c (useLen S c + 1)) n := by
    refine total_congr n (fun i _ => ?_)
    by_cases e : i = c
    · subst e; simp [useLen, useAt, upd]
    · simp [useLen, useAt, upd, e]
  omega
theorem Inv.placed (h : Inv np P ns S sg cl []) (hn : ns < np) : Inv np P (ns + 1) (placeS P S ns) sg cl (if (P ns).front = -1 then [] else [ns]) := by
  have O := fun i (hi : i < ns) => placeS_old P S (n := ns) (i := i) (by omega)
  have N := placeS_new P S ns
  have cO : ∀ i, i < ns → (placeS P S ns i).cls = (S i).cls := fun i hi => (O i hi).1
  have pk := h.parts ns hn
  have sg_ : ∀ p, p < ns → Made P p → sig P (placeS P S ns) p = sig P S p := by
    intro p hp mp
    have := h.frontLt hp mp
    simp [sig, cO _ this.1, cO _ this.2]
  have U : ∀ c p, p ∈ (placeS P S ns c).uses ↔ (c ≠ ns ∧ p ∈ (S c).uses) ∨ (Made P ns ∧ p = ns ∧ (c = (S (P ns).front.toNat).cls ∨ c = (S (P ns).arg.toNat).cls)) := by
    intro c p
    by_cases hm : Made P ns
    · rw [placeS_uses P S hm]
      constructor
      · rintro (h1 | ⟨h1, h2⟩ | ⟨h1, h2⟩)
        · exact Or.inl h1
        · exact Or.inr ⟨hm, h2, Or.inl h1⟩
        · exact Or.inr ⟨hm, h2, Or.inr h1⟩
      · rintro (h1 | ⟨_, h2, h1 | h1⟩)
        · exact Or.inl h1
        · exact Or.inr (Or.inl ⟨h1, h2⟩)
        · exact Or.inr (Or.inr ⟨h1, h2⟩)
    · have e : (P ns).front = -1 := Classical.byContradiction hm
      unfold placeS
      rw [if_pos e]
      by_cases e2 : c = ns
      · subst e2; simp [upd, fresh, hm]
      · simp [upd, e2, hm]
  have sigN : Made P ns → sig P (placeS P S ns) ns = ((S (P ns).front.toNat).cls, (S (P ns).arg.toNat).cls) ∧ (S (P ns).front.toNat).cls < ns ∧ (S (P ns).arg.toNat).cls < ns := by
    intro hm
    have := h.parts.made hn hm
    exact ⟨by simp [sig, cO _ this.2.1, cO _ this.2.2.2], h.lt _ this.2.1, h.lt _ this.2.2.2⟩
  have upsO : ∀ (x : Int) (n : Nat), Ups S x n → (∀ j, On S x j → j < ns) → Ups (placeS P S ns) x n := fun x n hx hj => hx.off (fun j hh => (O j (hj j hh)).2.2.1)
  refine { parts := h.parts, le := hn, lt := ?_, rep := ?_, ring := ?_, ups := ?_, upc := ?_, use1 := ?_, use2 := ?_, useN := ?_, sg1 := ?_, sg2 := ?_, cls := fun d hd => ⟨Nat.lt_succ_of_lt (h.cls d hd).1, Nat.lt_succ_of_lt (h.cls d hd).2⟩ }
  · intro i hi
    by_cases e : i = ns
    · subst e; rw [N.1]; omega
    · rw [cO i (by omega)]; have := h.lt i (by omega); omega
  · intro i hi
    by_cases e : i = ns
    · subst e; rw [N.1, N.1]
    · have hi' : i < ns := by omega
      rw [cO i hi', cO _ (h.lt i hi'), h.rep i hi']
  · intro c hc hcc
    by_cases e : c = ns
    · subst e
      refine ⟨[c], ⟨⟨rfl, N.2.1⟩, by rw [N.2.2.2.2.1]; rfl, by simp, fun i => ?_⟩⟩
      simp only [List.mem_singleton]
      constructor
      · intro e; subst e; exact ⟨by omega, N.1⟩
      · rintro ⟨h1, h2⟩
        by_cases e2 : i = c
        · exact e2
        · rw [cO i (by omega)] at h2
          have := h.lt i (by omega); omega
    · have hc' : c < ns := by omega
      rw [cO c hc'] at hcc
      obtain ⟨l, r⟩ := h.ring c hc' hcc
      have ml : ∀ i ∈ l, i < ns := fun i hi => ((r.mem i).1 hi).1
      refine ⟨l, ⟨r.walk.congr (fun i hi => (O i (ml i hi)).2.1), by rw [(O c hc').2.2.2.2.1]; exact r.len, r.nodup, fun i => ?_⟩⟩
      rw [r.mem i]
      constructor
      · rintro ⟨h1, h2⟩; exact ⟨by omega, by rw [cO i h1]; exact h2⟩
      · rintro ⟨h1, h2⟩
        by_cases e2 : i = ns
        · subst e2; rw [N.1] at h2; omega
        · exact ⟨by omega, by rw [cO i (by omega)] at h2; exact h2⟩
  · intro i hi
    by_cases e : i = ns
    · subst e
      exact ⟨1, .up (by rw [N.2.2.1]; exact .top)⟩
    · obtain ⟨m, hm⟩ := h.ups i (by omega)
      exact ⟨m, upsO _ _ hm (fun j hj => (h.on hj rfl (by omega)).1)⟩
  · intro i hi hu
    by_cases e : i = ns
    · subst e; exact absurd N.2.2.1 hu
    · have hi' : i < ns := by omega
      rw [(O i hi').2.2.1] at hu ⊢
      obtain ⟨h1, h2, h3⟩ := h.upc i hi' hu
      exact ⟨h1, by omega, by rw [cO _ h2, cO i hi']; exact h3⟩
  · intro p hp mp
    by_cases e : p = ns
    · subst e
      obtain ⟨e1, e2, e3⟩ := sigN mp
      rw [e1]
      exact ⟨(U _ _).2 (Or.inr ⟨mp, rfl, Or.inl rfl⟩), (U _ _).2 (Or.inr ⟨mp, rfl, Or.inr rfl⟩)⟩
    · have hp' : p < ns := by omega
      rw [sg_ p hp' mp]
      have hl := h.frontLt hp' mp
      have u := h.use1 p hp' mp
      have l1 := h.lt _ hl.1
      have l2 := h.lt _ hl.2
      exact ⟨(U _ _).2 (Or.inl ⟨by simp only [sig]; omega, u.1⟩), (U _ _).2 (Or.inl ⟨by simp only [sig]; omega, u.2⟩)⟩
  · intro c hc p hp
    rcases (U c p).1 hp with ⟨h1, h2⟩ | ⟨h1, rfl, h3⟩
    · obtain ⟨k1, k2, k3⟩ := h.use2 c (by omega) p h2
      exact ⟨by omega, k2, by rw [sg_ p k1 k2]; exact k3⟩
    · obtain ⟨e1, e2, e3⟩ := sigN h1
      refine ⟨by omega, h1, ?_⟩
      rw [e1]
      rcases h3 with h3 | h3
      · exact Or.inl h3.symm
      · exact Or.inr h3.symm
  · have hN := h.useN
    have base : total (useLen (upd S ns (fresh ns (P ns).node))) (ns + 1) = total (useLen S) ns := by
      rw [total]
      have : total (useLen (upd S ns (fresh ns (P ns).node))) ns = total (useLen S) ns := total_congr ns (fun i hi => by simp [useLen, upd, Nat.ne_of_lt hi])
      rw [this]; simp [useLen, upd, fresh]
    unfold placeS
    split
    · rw [base]; omega
    · rename_i hm
      obtain ⟨_, e2, e3⟩ := sigN hm
      rw [total_useAt _ (by omega), total_useAt _ (by omega), base]; omega
  · intro k q hq
    obtain ⟨k1, k2, k3⟩ := h.sg1 k q hq
    exact ⟨by omega, k2, by rw [sg_ q k1 k2]; exact k3⟩
  · intro p hp mp ho
    have e : p ≠ ns := by
      intro e; subst e
      rw [if_neg mp] at ho; simp at ho
    have hp' : p < ns := by omega
    obtain ⟨q, hq, h1⟩ := h.sg2 p hp' mp (by simp)
    refine ⟨q, by rw [sg_ p hp' mp]; exact hq, ?_⟩
    rw [cO p hp', cO q (h.sg1 _ _ hq).1]
    exact h1
theorem Inv.place (h : Inv np P ns S sg cl []) (hn : ns < np) : Inv np P (ns + 1) (placeS P S ns) (placeX P S sg cl ns).1 (placeX P S sg cl ns).2 [] := by
  have h1 := h.placed hn
  unfold placeX
  by_cases e : (P ns).front = -1
  · rw [if_pos e] at h1 ⊢; exact h1
  · rw [if_neg e] at h1 ⊢
    exact h1.enrol (by omega) e [] (fun j _ => by
      by_cases e2 : j = ns
      · exact Or.inr e2
      · exact Or.inl (by simp [e2]))
theorem Sound.place {D : Type} {val : Nat → D} (hM : Model np P val) (hs : Sound val ns S cl) (h : Inv np P ns S sg cl []) (hn : ns < np) : Sound val (ns + 1) (placeS P S ns) (placeX P S sg cl ns).2 := by
  have h1 := h.placed hn
  have base : Sound val (ns + 1) (placeS P S ns) cl := ⟨fun i hi => by
    by_cases e : i = ns
    · subst e; rw [(placeS_new P S i).1]
    · rw [(placeS_old P S e).1]; exact hs.s i (by omega), hs.c⟩
  unfold placeX
  by_cases e : (P ns).front = -1
  · rw [if_pos e]; exact base
  · rw [if_neg e] at h1 ⊢
    exact base.enrol h1 hM (by omega) e
theorem coarser_place (P : Nat → Part) (S : Nat → Spot) (n : Nat) : Coarser n S (placeS P S n) := fun i j hi hj e => by
  rw [(placeS_old P S (by omega)).1, (placeS_old P S (by omega)).1]; exact e
end

/-! ## Till no claim is left -/
/-- What 'join' makes of the classes. -/
inductive Joins (np : Nat) (P : Nat → Part) (ns : Nat) : (Nat → Spot) → (Nat × Nat → Option Nat) → List Claim → (Nat → Spot) → (Nat × Nat → Option Nat) → Prop
  | done {S : Nat → Spot} {sg : Nat × Nat → Option Nat} : Joins np P ns S sg [] S sg
  | same {S T : Nat → Spot} {sg tg : Nat × Nat → Option Nat} {cl : List Claim} {c : Claim} : (S c.a).cls = (S c.b).cls → Joins np P ns S sg cl T tg → Joins np P ns S sg (cl ++ [c]) T tg
  | merge {S T : Nat → Spot} {sg tg : Nat × Nat → Option Nat} {cl : List Claim} {c : Claim} {a b n : Nat} : ((a = c.a ∧ b = c.b) ∨ (a = c.b ∧ b = c.a)) → (S a).cls ≠ (S b).cls → Ups S (a : Int) n →
      Joins np P ns (mergeS S a b c.why n) (mergeX P S sg cl a b c.why n).1 (mergeX P S sg cl a b c.why n).2 T tg → Joins np P ns S sg (cl ++ [c]) T tg
section
variable {np ns : Nat} {P : Nat → Part} {S T : Nat → Spot} {sg tg : Nat × Nat → Option Nat} {cl : List Claim}
theorem Joins.inv (h : Joins np P ns S sg cl T tg) : Inv np P ns S sg cl [] → Inv np P ns T tg [] [] := by
  induction h with
  | done => exact id
  | same hc _ ih => intro hI; exact ih (hI.same hc)
  | merge hab hne hn _ ih => intro hI; exact ih (hI.merge _ hab hne hn)
theorem Joins.sound {D : Type} {val : Nat → D} (hM : Model np P val) (h : Joins np P ns S sg cl T tg) : Inv np P ns S sg cl [] → Sound val ns S cl → Sound val ns T [] := by
  induction h with
  | done => exact fun _ h => h
  | same hc _ ih => intro hI hs; exact ih (hI.same hc) ⟨hs.s, fun d hd => hs.c d (by simp [hd])⟩
  | merge hab hne hn _ ih => intro hI hs; exact ih (hI.merge _ hab hne hn) (hs.merge hM hI _ hab hne hn)
theorem Joins.coarser (h : Joins np P ns S sg cl T tg) : Coarser ns S T := by
  induction h with
  | done => exact Coarser.refl _ _
  | same _ _ ih => exact ih
  | merge _ _ _ _ ih => exact (coarser_merge _ _ _ _ _).trans ih
theorem Joins.claims (h : Joins np P ns S sg cl T tg) : (∀ c ∈ cl, c.a < ns ∧ c.b < ns) → Inv np P ns S sg cl [] → ∀ c ∈ cl, (T c.a).cls = (T c.b).cls := by
  induction h with
  | done => intro _ _ c hc; cases hc
  | @same S T sg tg cl c hc hj ih =>
    intro hl hI d hd
    simp at hd
    rcases hd with hd | rfl
    · exact ih (fun e he => hl e (by simp [he])) (hI.same hc) d hd
    · have := hl d (by simp)
      exact hj.coarser _ _ this.1 this.2 hc
  | @merge S T sg tg cl c a b n hab hne hn hj ih =>
    intro hl hI d hd
    have hI2 := hI.merge c.why hab hne hn
    simp at hd
    rcases hd with hd | rfl
    · exact ih hI2.cls hI2 d (enrolAll_mem _ _ d hd)
    · have := hl d (by simp)
      refine hj.coarser _ _ this.1 this.2 ?_
      rcases hab with ⟨rfl, rfl⟩ | ⟨rfl, rfl⟩
      · exact merge_same _ _ _ _ _
      · exact (merge_same _ _ _ _ _).symm
end
end Euf
end Go.Proofs.Ytmnpefiaelpkfac
/- Words for lists that live behind a pointer: their cells by a function, writing one of them, append; no statement of the seat is proved here. -/
namespace Go.Proofs.Ytmnpefiaelpkfac
open Go.RowKit
set_option linter.unusedVariables false
namespace Euf

/-- The walk stops here. -/
def Stop (p : Prop) : Prop := p
theorem Stop.of {p : Prop} (h : Stop p) : p := h
/-- A slice of n structs of sz cells each: its cells are told by f. -/
def OL (sz : Nat) (e : TypeId) (w : World) (v : Value) (n : Nat) (f : Nat → List Value) : Prop :=
  (v = .slice none 0 0 ∧ n = 0) ∨ ∃ g cap cur, v = .slice (some ⟨g, 0, none⟩) n cap ∧ w.heap[g]? = some (.cells cur e (0, 0)) ∧ n ≤ cap ∧ cap ≤ maxLen ∧ cur.size = cap * sz ∧ ∀ i, i < n → ∀ j, j < sz → cur[i * sz + j]? = (f i)[j]?
section
variable {sz : Nat} {e : TypeId} {w w' : World} {v : Value} {n : Nat} {f : Nat → List Value}
theorem OL.nil (sz : Nat) (e : TypeId) (w : World) (f : Nat → List Value) : OL sz e w (.slice none 0 0) 0 f := Or.inl ⟨rfl, rfl⟩
theorem OL.lt (h : OL sz e w v n f) {b : Nat} (hb : v.ownBlock = some b) : b < w.heap.size := by
  rcases h with ⟨rfl, _⟩ | ⟨g, cap, cur, rfl, hg, _⟩
  · cases hb
  · have : g = b := by simpa [Value.ownBlock] using hb
    subst this; exact (Array.getElem?_eq_some_iff.1 hg).1
theorem OL.stay (h : OL sz e w v n f) (hb : ∀ b, v.ownBlock = some b → w'.heap[b]? = w.heap[b]?) : OL sz e w' v n f := by
  rcases h with h | ⟨g, cap, cur, rfl, hg, r⟩
  · exact Or.inl h
  · exact Or.inr ⟨g, cap, cur, rfl, (hb g rfl).trans hg, r⟩
theorem OL.congr (h : OL sz e w v n f) {f' : Nat → List Value} (hf : ∀ i, i < n → f' i = f i) : OL sz e w v n f' := by
  rcases h with h | ⟨g, cap, cur, rfl, hg, h1, h2, h3, h4⟩
  · exact Or.inl h
  · exact Or.inr ⟨g, cap, cur, rfl, hg, h1, h2, h3, fun i hi j hj => by rw [hf i hi]; exact h4 i hi j hj⟩
/-- The block is a row of that type. -/
theorem OL.elem (h : OL sz e w v n f) {b : Nat} (hb : v.ownBlock = some b) : ∃ cur, w.heap[b]? = some (.cells cur e (0, 0)) := by
  rcases h with ⟨rfl, _⟩ | ⟨g, cap, cur, rfl, hg, _⟩
  · cases hb
  · have : g = b := by simpa [Value.ownBlock] using hb
    subst this; exact ⟨cur, hg⟩
/-- A slice with an element has an address. -/
theorem OL.open (h : OL sz e w v n f) (i : Nat) (hi : i < n) : ∃ g cap, v = .slice (some ⟨g, 0, none⟩) n cap ∧ n ≤ cap ∧ cap ≤ maxLen := by
  rcases h with ⟨_, h⟩ | ⟨g, cap, cur, rfl, _, h1, h2, _⟩
  · omega
  · exact ⟨g, cap, rfl, h1, h2⟩
/-- It is a slice, in any case. -/
theorem OL.shape (h : OL sz e w v n f) : ∃ a cap, v = .slice a n cap ∧ n ≤ cap ∧ cap ≤ maxLen ∧ (a = none → n = 0 ∧ cap = 0) ∧ (∀ p, a = some p → p.off = 0 ∧ p.spot = none) := by
  rcases h with ⟨rfl, rfl⟩ | ⟨g, cap, cur, rfl, _, h1, h2, _⟩
  · exact ⟨none, 0, rfl, Nat.le_refl _, Nat.zero_le _, (fun _ => ⟨rfl, rfl⟩), (fun _ h => by cases h)⟩
  · exact ⟨_, cap, rfl, h1, h2, (fun h => by cases h), (fun p hp => by cases hp; exact ⟨rfl, rfl⟩)⟩
theorem OL.cell {g cap : Nat} (h : OL sz e w (.slice (some ⟨g, 0, none⟩) n cap) n f) {i j : Nat} (hi : i < n) (hj : j < sz) : w.cell? ⟨g, i * sz + j, none⟩ = (f i)[j]? := by
  rcases h with ⟨h, _⟩ | ⟨g', cap', cur, hv, hg, h1, h2, h3, h4⟩
  · cases h
  · simp only [Value.slice.injEq, Option.some.injEq, Addr.mk.injEq] at hv
    obtain ⟨⟨rfl, _⟩, _, rfl⟩ := hv
    rw [cell_of_row w g _ cur e (0, 0) hg]
    exact h4 i hi j hj
theorem OL.frozen {g cap : Nat} (h : OL sz e w (.slice (some ⟨g, 0, none⟩) n cap) n f) (o : Nat) : w.frozen? ⟨g, o, none⟩ = false := by
  rcases h with ⟨h, _⟩ | ⟨g', cap', cur, hv, hg, _⟩
  · cases h
  · simp only [Value.slice.injEq, Option.some.injEq, Addr.mk.injEq] at hv
    obtain ⟨⟨rfl, _⟩, _, rfl⟩ := hv
    exact frozen_of_row w g o cur e hg
/-- One cell is written. -/
theorem OL.set {g cap : Nat} (h : OL sz e w (.slice (some ⟨g, 0, none⟩) n cap) n f) {i j : Nat} (hi : i < n) (hj : j < sz) (x : Value) {f' : Nat → List Value} (hl : ∀ k, k < n → (f k).length = sz)
    (h1 : f' i = (f i).set j x) (h2 : ∀ k, k < n → k ≠ i → f' k = f k) : OL sz e (w.setCell ⟨g, i * sz + j, none⟩ x) (.slice (some ⟨g, 0, none⟩) n cap) n f' := by
  rcases h with ⟨h, _⟩ | ⟨g', cap', cur, hv, hg, k1, k2, k3, k4⟩
  · cases h
  · simp only [Value.slice.injEq, Option.some.injEq, Addr.mk.injEq] at hv
    obtain ⟨⟨rfl, _⟩, _, rfl⟩ := hv
    refine Or.inr ⟨g, cap, _, rfl, heap_setCell_same w g (i * sz + j) cur e x hg, k1, k2, by rw [Array.size_setIfInBounds]; exact k3, fun k hk m hm => ?_⟩
    rw [Array.getElem?_setIfInBounds]
    by_cases e1 : k = i
    · subst e1
      rw [h1]
      by_cases e2 : m = j
      · subst e2
        have : k * sz + m < cur.size := by
          have := Nat.mul_le_mul_right sz (show k + 1 ≤ cap by omega)
          rw [Nat.add_mul] at this
          omega
        simp [this, hl k hk, hm]
      · simp [Ne.symm e2, k4 k hk m hm]
    · rw [h2 k hk e1]
      have : ¬ (i * sz + j = k * sz + m) := by
        intro e2
        rcases Nat.lt_or_gt_of_ne e1 with e3 | e3
        · have := Nat.mul_le_mul_right sz (show k + 1 ≤ i by omega)
          rw [Nat.add_mul] at this
          omega
        · have := Nat.mul_le_mul_right sz (show i + 1 ≤ k by omega)
          rw [Nat.add_mul] at this
          omega
      simp [this, k4 k hk m hm]
/-- Fewer of them. -/
theorem OL.take {g cap : Nat} (h : OL sz e w (.slice (some ⟨g, 0, none⟩) n cap) n f) (m : Nat) (hm : m ≤ n) : OL sz e w (.slice (some ⟨g, 0, none⟩) m cap) m f := by
  rcases h with ⟨h, _⟩ | ⟨g', cap', cur, hv, hg, k1, k2, k3, k4⟩
  · cases h
  · simp only [Value.slice.injEq, Option.some.injEq, Addr.mk.injEq] at hv
    obtain ⟨⟨rfl, _⟩, _, rfl⟩ := hv
    exact Or.inr ⟨g, cap, cur, rfl, hg, by omega, k2, k3, fun i hi j hj => k4 i (by omega) j hj⟩
/-- As a list of all its cells. -/
def flat (f : Nat → List Value) : Nat → List Value
  | 0 => []
  | n + 1 => flat f n ++ f n
theorem flat_length (hl : ∀ k, k < n → (f k).length = sz) : ∀ m, m ≤ n → (flat f m).length = m * sz
  | 0, _ => by simp [flat]
  | m + 1, h => by rw [flat, List.length_append, flat_length hl m (by omega), hl m (by omega), Nat.add_mul, Nat.one_mul]
theorem flat_get (hl : ∀ k, k < n → (f k).length = sz) : ∀ m, m ≤ n → ∀ i j, i < m → j < sz → (flat f m)[i * sz + j]? = (f i)[j]?
  | 0, _, i, _, h, _ => by omega
  | m + 1, hm, i, j, hi, hj => by
    have fl := flat_length (f := f) hl m (by omega)
    rw [flat]
    by_cases e1 : i = m
    · subst e1
      rw [List.getElem?_append_right (by omega), fl]
      congr 1; omega
    · have := Nat.mul_le_mul_right sz (show i + 1 ≤ m by omega)
      rw [Nat.add_mul] at this
      rw [List.getElem?_append_left (by omega)]
      exact flat_get hl m (by omega) i j (by omega) hj
theorem OL.owns (h : OL sz e w v n f) (hl : ∀ k, k < n → (f k).length = sz) (hsz : 0 < sz) {base : Nat} (hb : ∀ b, v.ownBlock = some b → base ≤ b) : w.ownsRow base e sz v n (flat f n) := by
  refine ⟨flat_length hl n (Nat.le_refl _), ?_⟩
  rcases h with h | ⟨g, cap, cur, rfl, hg, k1, k2, k3, k4⟩
  · exact Or.inl h
  · refine Or.inr ⟨g, cap, cur, rfl, hb g rfl, hg, k1, k2, k3, ?_⟩
    apply List.ext_getElem?
    intro k
    have fl := flat_length (f := f) hl n (Nat.le_refl _)
    by_cases hk : k < n * sz
    · rw [List.getElem?_take, if_pos hk, Array.getElem?_toList]
      have e1 : k = (k / sz) * sz + k % sz := by rw [Nat.mul_comm]; exact (Nat.div_add_mod k sz).symm
      have hd : k / sz < n := (Nat.div_lt_iff_lt_mul hsz).2 hk
      have hr : k % sz < sz := Nat.mod_lt _ hsz
      rw [e1, k4 _ hd _ hr, flat_get hl n (Nat.le_refl _) _ _ hd hr]
    · rw [List.getElem?_take, if_neg hk, List.getElem?_eq_none (by omega)]
end
/-- What an append leaves. -/
structure App (v v' : Value) (w w' : World) : Prop where
  os : w'.os = w.os
  tape : w'.tape = w.tape
  output : w'.output = w.output
  size : w.heap.size ≤ w'.heap.size
  other : ∀ b, b < w.heap.size → v.ownBlock ≠ some b → w'.heap[b]? = w.heap[b]?
  at_ : v'.ownBlock = v.ownBlock ∨ ∃ b, v'.ownBlock = some b ∧ w.heap.size ≤ b
/-- The law of append: some elements that lie somewhere else. -/
theorem run_append {P : Program} (w : World) (sz : Nat) (t ty e : TypeId) (i : TypeInfo) (z : Value) (ht : P.underlying t = some (.slice e)) (hi : P.info? e = some i) (hz : i.zero = some z) (hsize : i.size = sz) (hby : i.bytes ≤ 1000) (hzs : z.cells.size = sz) (hsz : 0 < sz)
    (v : Value) (n : Nat) (f : Nat → List Value) (hown : OL sz e w v n f) (hlf : ∀ k, k < n → (f k).length = sz) (a : Addr) (m c : Nat) (news : List Value) (hl : news.length = m * sz) (hnews : ∀ j u, news[j]? = some u → w.cell? (a.add j) = some u) (ho : ∀ u ∈ news, u.oneCell' = true) (hm0 : 0 < m ∨ v ≠ .slice none 0 0) (hn : n + m ≤ 1000000000)
    (f' : Nat → List Value) (hf1 : ∀ k, k < n → f' k = f k) (hf2 : ∀ k, k < m → ∀ j, j < sz → (f' (n + k))[j]? = news[k * sz + j]?) :
    ∃ v' w', (Builtin.append_ #[t, t] ty #[v, .slice (some a) m c]).run P w = .ok v' w' ∧ OL sz e w' v' (n + m) f' ∧ App v v' w w' ∧ v' ≠ .slice none 0 0 := by
  have hl' : news.length = m * i.size := by rw [hsize]; exact hl
  have hmx : 2000000000 ≤ maxLen := by unfold maxLen; decide
  have hbytes : (n + m) * i.bytes ≤ 1000000000 * 1000 := Nat.mul_le_mul hn hby
  have fl := flat_length (f := f) hlf n (Nat.le_refl _)
  have hxs : ∀ k, k < n + m → ∀ j, j < sz → (flat f n ++ news)[k * sz + j]? = (f' k)[j]? := by
    intro k hk j hj
    by_cases e1 : k < n
    · have := Nat.mul_le_mul_right sz (show k + 1 ≤ n by omega)
      rw [Nat.add_mul] at this
      rw [List.getElem?_append_left (by omega), flat_get hlf n (Nat.le_refl _) k j e1 hj, hf1 k e1]
    · obtain ⟨d, rfl⟩ : ∃ d, k = n + d := ⟨k - n, by omega⟩
      rw [List.getElem?_append_right (by rw [fl, Nat.add_mul]; omega), hf2 d (by omega) j hj, fl]
      congr 1
      rw [Nat.add_mul]; omega
  have grown : ∀ (old : Nat), old < n + m →
      OL sz e (w.drew.alloc (.cells ((flat f n).toArray ++ news.toArray ++ Builtin.zeroCells z.cells (grownCap w (n + m) old e - (n + m))) e)) (.slice (some ⟨w.heap.size, 0, none⟩) (n + m) (grownCap w (n + m) old e)) (n + m) f' ∧
      App v (.slice (some ⟨w.heap.size, 0, none⟩) (n + m) (grownCap w (n + m) old e)) w (w.drew.alloc (.cells ((flat f n).toArray ++ news.toArray ++ Builtin.zeroCells z.cells (grownCap w (n + m) old e - (n + m))) e)) := by
    intro old ho'
    have hge := grownCap_ge w (n + m) old e
    have hcm : grownCap w (n + m) old e ≤ maxLen := grownCap_le_maxLen w (n + m) old e (by omega)
    refine ⟨Or.inr ⟨w.heap.size, _, _, rfl, heap_alloc_new w.drew _, hge, hcm, ?_, ?_⟩, ⟨rfl, rfl, rfl, by simp, fun b hb _ => Below.heap_alloc w.drew _ b hb, Or.inr ⟨_, rfl, Nat.le_refl _⟩⟩⟩
    · simp only [Array.size_append, List.size_toArray, size_zeroCells, hzs, fl, hl]
      rw [← Nat.add_mul, ← Nat.add_mul]
      congr 1
      omega
    · intro k hk j hj
      rw [← hxs k hk j hj]
      have h9 := Nat.mul_le_mul_right sz (show k + 1 ≤ n + m by omega)
      rw [Nat.add_mul k, Nat.add_mul n] at h9
      rw [Array.getElem?_append_left (by simp only [Array.size_append, List.size_toArray, fl, hl]; omega)]
      simp
  rcases hown with ⟨rfl, rfl⟩ | ⟨g, cap, cur, rfl, hg, hnc, hcm, hcs, hcell⟩
  · have hm1 : 0 < m := by
      rcases hm0 with k | k
      · exact k
      · exact absurd rfl k
    have hr := run_append_nil (P := P) w t ty e i z ht hi hz a m c news hl' hnews hm1 (by omega) (by rw [Nat.zero_add] at hbytes; omega)
    have hgr := grown 0 (by omega)
    simp only [Nat.zero_add, flat, Array.empty_append] at hgr ⊢
    exact ⟨_, _, hr, hgr.1, hgr.2, (fun h => by cases h)⟩
  · have hown : OL sz e w (.slice (some ⟨g, 0, none⟩) n cap) n f := Or.inr ⟨g, cap, cur, rfl, hg, hnc, hcm, hcs, hcell⟩
    by_cases hroom : n + m ≤ cap
    · have hfit : n * i.size + news.length ≤ cur.size := by rw [hsize, hcs, hl, ← Nat.add_mul]; exact Nat.mul_le_mul_right _ hroom
      have hr := run_append_room (P := P) w t ty e i ht hi g n cap cur hg a m c news hl' hnews ho hroom hfit
      rw [hsize] at hr hfit
      have ow := hown.owns hlf hsz (base := 0) (fun _ _ => Nat.zero_le _)
      have htake : cur.toList.take (n * sz) = flat f n := by
        rcases ow.2 with ⟨h, _⟩ | ⟨g', cap', cur', hv, _, hg', _, _, _, h4⟩
        · cases h
        · simp only [Value.slice.injEq, Option.some.injEq, Addr.mk.injEq] at hv
          obtain ⟨⟨rfl, _⟩, _, rfl⟩ := hv
          rw [hg] at hg'
          injection hg' with hg'
          injection hg' with hg' _ _
          rw [hg']; exact h4
      refine ⟨_, _, hr, Or.inr ⟨g, cap, _, rfl, setRow_heap w g cur _ e _ hg, hroom, hcm, ?_, ?_⟩, ⟨rfl, rfl, rfl, by simp, fun b hb hk => setRow_other w g b _ (fun e => hk (by simp [Value.ownBlock, e])), Or.inl rfl⟩, (fun h => by cases h)⟩
      · have ln : n * sz ≤ cur.size := by rw [hcs]; exact Nat.mul_le_mul_right _ hnc
        simp only [List.size_toArray, List.length_append, List.length_take, List.length_drop, Array.length_toList]
        omega
      · intro k hk j hj
        rw [← hxs k hk j hj, htake]
        have h9 := Nat.mul_le_mul_right sz (show k + 1 ≤ n + m by omega)
        rw [Nat.add_mul k, Nat.add_mul n] at h9
        rw [List.getElem?_toArray, List.getElem?_append_left (by rw [List.length_append, fl, hl]; omega)]
    · have holds : ∀ j u, (flat f n)[j]? = some u → w.cell? ((⟨g, 0, none⟩ : Addr).add j) = some u := (hown.owns hlf hsz (base := 0) (fun _ _ => Nat.zero_le _)).cells (g := g) rfl
      have hr := run_append_grow (P := P) w t ty e i z ht hi hz ⟨g, 0, none⟩ n cap (flat f n) (by rw [hsize]; exact fl) holds a m c news hl' hnews (by omega) (by omega) (growslice_fits (by omega) (by omega))
      have hgr := grown cap (by omega)
      exact ⟨_, _, hr, hgr.1, hgr.2, (fun h => by cases h)⟩
/-- .. in a row of operations. -/
theorem wp_append {P : Program} {w : World} {o : Oper} {act : Act} {K : Act → World → Prop} {Q : Exit → Act → World → Prop} (s x : Operand) (t : TypeId) (hop : o.op = .call { callee := .builtin .append, args := #[s, x], argTypes := #[t, t] })
    (sz : Nat) (e : TypeId) (z : Value) (bytes : Nat) (h1 : P.underlying t = some (.slice e)) (h2 : (P.info? e).map (fun i => (i.zero, i.size, i.bytes)) = some (some z, sz, bytes)) (hby : bytes ≤ 1000) (hzs : z.cells.size = sz) (hsz : 0 < sz)
    (v : Value) (n : Nat) (f : Nat → List Value) (hs : act.eval s = v) (hown : OL sz e w v n f) (hlf : ∀ k, k < n → (f k).length = sz) (a : Addr) (m c : Nat) (hx : act.eval x = .slice (some a) m c) (news : List Value) (hl : news.length = m * sz) (hnews : ∀ j u, news[j]? = some u → w.cell? (a.add j) = some u) (ho : ∀ u ∈ news, u.oneCell' = true) (hm0 : 0 < m ∨ v ≠ .slice none 0 0) (hn : n + m ≤ 1000000000)
    (f' : Nat → List Value) (hf1 : ∀ k, k < n → f' k = f k) (hf2 : ∀ k, k < m → ∀ j, j < sz → (f' (n + k))[j]? = news[k * sz + j]?)
    (h : ∀ v' w', OL sz e w' v' (n + m) f' → App v v' w w' → v' ≠ .slice none 0 0 → K (act.put o.dst v') w') : Oper.wp P o act w K Q := by
  obtain ⟨i, hi, hz0, hz1, hz2⟩ := info_parts h2
  obtain ⟨v', w', hr, k1, k2, k3⟩ := run_append (P := P) w sz t o.type e i z h1 hi hz0 hz1 (by omega) hzs hsz v n f hown hlf a m c news hl hnews ho hm0 hn f' hf1 hf2
  unfold Oper.wp execOp
  simp only [hop, resolve, invoke, builtin, Sem.run_bind, Sem.run_pure, Result.andThen_ok, List.map_toArray, List.map_cons, List.map_nil, hs, hx, hr]
  exact h v' w' k1 k2 k3
theorem App.ofBelow {v v' : Value} {w w1 w' : World} (h : App v v' w1 w') (hb : Below w.heap.size w w1) : App v v' w w' :=
  ⟨h.os.trans hb.os, h.tape.trans hb.tape, h.output.trans hb.output, Nat.le_trans hb.size h.size, fun b hlt hn => (h.other b (Nat.lt_of_lt_of_le hlt hb.size) hn).trans (hb.block b hlt), h.at_.imp id (fun ⟨b, k1, k2⟩ => ⟨b, k1, Nat.le_trans hb.size k2⟩)⟩
theorem App.refl (v : Value) (w : World) : App v v w w := ⟨rfl, rfl, rfl, Nat.le_refl _, fun _ _ _ => rfl, Or.inl rfl⟩
/-- A list is appended to another one. -/
theorem run_append_list {P : Program} (w : World) (sz : Nat) (t ty e : TypeId) (i : TypeInfo) (z : Value) (ht : P.underlying t = some (.slice e)) (hi : P.info? e = some i) (hz : i.zero = some z) (hsize : i.size = sz) (hby : i.bytes ≤ 1000) (hzs : z.cells.size = sz) (hsz : 0 < sz)
    (v : Value) (n : Nat) (f : Nat → List Value) (hown : OL sz e w v n f) (hlf : ∀ k, k < n → (f k).length = sz) (v2 : Value) (m : Nat) (f2 : Nat → List Value) (h2 : OL sz e w v2 m f2) (hl2 : ∀ k, k < m → (f2 k).length = sz) (ho2 : ∀ u ∈ flat f2 m, u.oneCell' = true) (hn : n + m ≤ 1000000000)
    (f' : Nat → List Value) (hf1 : ∀ k, k < n → f' k = f k) (hf2 : ∀ k, k < m → f' (n + k) = f2 k) :
    ∃ v' w', (Builtin.append_ #[t, t] ty #[v, v2]).run P w = .ok v' w' ∧ OL sz e w' v' (n + m) f' ∧ App v v' w w' := by
  rcases h2 with ⟨rfl, rfl⟩ | ⟨g, cap, cur, rfl, hg, k1, k2, k3, k4⟩
  · refine ⟨v, w, run_append_owned_none (P := P) (w := w) 0 t ty e i sz ht hi v n (flat f n) (hown.owns hlf hsz (fun _ _ => Nat.zero_le _)), ?_, App.refl v w⟩
    rw [Nat.add_zero]; exact hown.congr hf1
  · have h2 : OL sz e w (.slice (some ⟨g, 0, none⟩) m cap) m f2 := Or.inr ⟨g, cap, cur, rfl, hg, k1, k2, k3, k4⟩
    have hcells : ∀ j u, (flat f2 m)[j]? = some u → w.cell? ((⟨g, 0, none⟩ : Addr).add j) = some u := (h2.owns hl2 hsz (base := 0) (fun _ _ => Nat.zero_le _)).cells (g := g) rfl
    by_cases hc : 0 < m ∨ v ≠ .slice none 0 0
    · obtain ⟨v', w', r1, r2, r3, _⟩ := run_append (P := P) w sz t ty e i z ht hi hz hsize hby hzs hsz v n f hown hlf ⟨g, 0, none⟩ m cap (flat f2 m) (flat_length hl2 m (Nat.le_refl _)) hcells ho2 hc hn f' hf1 (fun k hk j hj => by
        rw [hf2 k hk, flat_get hl2 m (Nat.le_refl _) k j hk hj])
      exact ⟨v', w', r1, r2, r3⟩
    · obtain ⟨c1, c2⟩ := not_or.1 hc
      obtain rfl : m = 0 := by omega
      have hv : v = .slice none 0 0 := Classical.byContradiction c2
      subst hv
      obtain rfl : n = 0 := by
        rcases hown with ⟨_, h⟩ | ⟨g', cap', cur', h, _⟩
        · exact h
        · cases h
      obtain ⟨v', w', r1, r2, r3, r4⟩ := run_append_own (P := P) (w := w) 0 t ty e i z sz i.bytes ht hi hz hsize rfl hzs hsz (.slice none 0 0) 0 [] (OL.nil sz e w f |>.owns (fun k hk => by omega) hsz (fun _ _ => Nat.zero_le _)) ⟨g, 0, none⟩ 0 cap [] (by simp) (by simp) (by simp) (by unfold maxLen; decide) (by simp) (Nat.zero_le _)
      obtain rfl : v' = .slice none 0 0 := r4.2 ⟨rfl, rfl⟩
      exact ⟨_, w', r1, OL.nil _ _ _ _, ⟨r3.os, r3.tape, r3.output, r3.size, fun b hb _ => r3.block b hb (by simp [Value.ownBlock]), Or.inl rfl⟩⟩
theorem wp_append_list {P : Program} {w : World} {o : Oper} {act : Act} {K : Act → World → Prop} {Q : Exit → Act → World → Prop} (s x : Operand) (t : TypeId) (hop : o.op = .call { callee := .builtin .append, args := #[s, x], argTypes := #[t, t] })
    (sz : Nat) (e : TypeId) (z : Value) (bytes : Nat) (h1 : P.underlying t = some (.slice e)) (h2 : (P.info? e).map (fun i => (i.zero, i.size, i.bytes)) = some (some z, sz, bytes)) (hby : bytes ≤ 1000) (hzs : z.cells.size = sz) (hsz : 0 < sz)
    (v : Value) (n : Nat) (f : Nat → List Value) (hs : act.eval s = v) (hown : OL sz e w v n f) (hlf : ∀ k, k < n → (f k).length = sz) (v2 : Value) (m : Nat) (f2 : Nat → List Value) (hx : act.eval x = v2) (h3 : OL sz e w v2 m f2) (hl2 : ∀ k, k < m → (f2 k).length = sz) (ho2 : ∀ u ∈ flat f2 m, u.oneCell' = true) (hn : n + m ≤ 1000000000)
    (f' : Nat → List Value) (hf1 : ∀ k, k < n → f' k = f k) (hf2 : ∀ k, k < m → f' (n + k) = f2 k)
    (h : ∀ v' w', OL sz e w' v' (n + m) f' → App v v' w w' → K (act.put o.dst v') w') : Oper.wp P o act w K Q := by
  obtain ⟨i, hi, hz0, hz1, hz2⟩ := info_parts h2
  obtain ⟨v', w', hr, k1, k2⟩ := run_append_list (P := P) w sz t o.type e i z h1 hi hz0 hz1 (by omega) hzs hsz v n f hown hlf v2 m f2 h3 hl2 ho2 hn f' hf1 hf2
  unfold Oper.wp execOp
  simp only [hop, resolve, invoke, builtin, Sem.run_bind, Sem.run_pure, Result.andThen_ok, List.map_toArray, List.map_cons, List.map_nil, hs, hx, hr]
  exact h v' w' k1 k2
theorem cell_new_list (w : World) (cs : List Value) (t : TypeId) (j : Nat) (u : Value) (h : cs[j]? = some u) : (w.alloc (.cells cs.toArray t (0, 0))).cell? ((⟨w.heap.size, 0, none⟩ : Addr).add j) = some u := by
  have e : ((⟨w.heap.size, 0, none⟩ : Addr).add j) = ⟨w.heap.size, j, none⟩ := by
    unfold Addr.add
    split
    · rename_i h; subst h; rfl
    · simp
  rw [e, cell_of_row _ w.heap.size j cs.toArray t (0, 0) (heap_alloc_new w _)]
  simpa using h
/-- One element that was just laid down is appended. -/
theorem wp_push {P : Program} {w : World} {o : Oper} {act : Act} {K : Act → World → Prop} {Q : Exit → Act → World → Prop} (s x : Operand) (t : TypeId) (hop : o.op = .call { callee := .builtin .append, args := #[s, x], argTypes := #[t, t] })
    (sz : Nat) (e : TypeId) (z : Value) (bytes : Nat) (h1 : P.underlying t = some (.slice e)) (h2 : (P.info? e).map (fun i => (i.zero, i.size, i.bytes)) = some (some z, sz, bytes)) (hby : bytes ≤ 1000) (hzs : z.cells.size = sz) (hsz : 0 < sz)
    (v : Value) (n : Nat) (f : Nat → List Value) (hs : act.eval s = v) (news : List Value) (te : TypeId) (hown : OL sz e (w.alloc (.cells news.toArray te (0, 0))) v n f) (hlf : ∀ k, k < n → (f k).length = sz) (c : Nat) (hx : act.eval x = .slice (some ⟨w.heap.size, 0, none⟩) 1 c) (hl : news.length = sz) (ho : ∀ u ∈ news, u.oneCell' = true) (hn : n + 1 ≤ 1000000000)
    (f' : Nat → List Value) (hf1 : ∀ k, k < n → f' k = f k) (hf2 : f' n = news)
    (h : ∀ v' w', OL sz e w' v' (n + 1) f' → App v v' (w.alloc (.cells news.toArray te (0, 0))) w' → v' ≠ .slice none 0 0 → K (act.put o.dst v') w') : Oper.wp P o act (w.alloc (.cells news.toArray te (0, 0))) K Q :=
  wp_append s x t hop sz e z bytes h1 h2 hby hzs hsz v n f hs hown hlf ⟨w.heap.size, 0, none⟩ 1 c hx news (by rw [hl, Nat.one_mul]) (cell_new_list w news te) ho (Or.inl (by decide)) hn f' hf1 (fun k hk j hj => by
    obtain rfl : k = 0 := by omega
    rw [Nat.add_zero, hf2, Nat.zero_mul, Nat.zero_add]) h
theorem wpList_push {P : Program} {w : World} {ops : Array Oper} {rest : List Oper} {o : Oper} {act : Act} {Q : Exit → Act → World → Prop} (hgd : o.guard = none) (s x : Operand) (t : TypeId) (hop : o.op = .call { callee := .builtin .append, args := #[s, x], argTypes := #[t, t] })
    (sz : Nat) (e : TypeId) (z : Value) (bytes : Nat) (h1 : P.underlying t = some (.slice e)) (h2 : (P.info? e).map (fun i => (i.zero, i.size, i.bytes)) = some (some z, sz, bytes)) (hby : bytes ≤ 1000) (hzs : z.cells.size = sz) (hsz : 0 < sz)
    (v : Value) (n : Nat) (f : Nat → List Value) (hs : act.eval s = v) (news : List Value) (te : TypeId) (hown : OL sz e (w.alloc (.cells news.toArray te (0, 0))) v n f) (hlf : ∀ k, k < n → (f k).length = sz) (c : Nat) (hx : act.eval x = .slice (some ⟨w.heap.size, 0, none⟩) 1 c) (hl : news.length = sz) (ho : ∀ u ∈ news, u.oneCell' = true) (hn : n + 1 ≤ 1000000000)
    (f' : Nat → List Value) (hf1 : ∀ k, k < n → f' k = f k) (hf2 : f' n = news)
    (h : ∀ v' w', OL sz e w' v' (n + 1) f' → App v v' (w.alloc (.cells news.toArray te (0, 0))) w' → v' ≠ .slice none 0 0 → wpList P ops Q rest (act.put o.dst v') w') : wpList P ops Q (o :: rest) act (w.alloc (.cells news.toArray te (0, 0))) :=
  wpList_plain hgd fun _ hK => wp_push s x t hop sz e z bytes h1 h2 hby hzs hsz v n f hs news te hown hlf c hx hl ho hn f' hf1 hf2 fun v' w' k1 k2 k3 => hK _ _ (h v' w' k1 k2 k3)
/-- A slice of one element that lies by itself. -/
def ONE5 (et : TypeId) (news : List Value) (v : Value) (w : World) : Prop := ∃ b, v = .slice (some ⟨b, 0, none⟩) 1 1 ∧ w.heap[b]? = some (.cells news.toArray et (0, 0))
theorem wp_push1 {P : Program} {w : World} {o : Oper} {act : Act} {K : Act → World → Prop} {Q : Exit → Act → World → Prop} (s x : Operand) (t : TypeId) (hop : o.op = .call { callee := .builtin .append, args := #[s, x], argTypes := #[t, t] })
    (sz : Nat) (e : TypeId) (z : Value) (bytes : Nat) (h1 : P.underlying t = some (.slice e)) (h2 : (P.info? e).map (fun i => (i.zero, i.size, i.bytes)) = some (some z, sz, bytes)) (hby : bytes ≤ 1000) (hzs : z.cells.size = sz) (hsz : 0 < sz)
    (v : Value) (n : Nat) (f : Nat → List Value) (hs : act.eval s = v) (hown : OL sz e w v n f) (hlf : ∀ k, k < n → (f k).length = sz) (news : List Value) (te : TypeId) (v1 : Value) (hone : ONE5 te news v1 w) (hx : act.eval x = v1) (hl : news.length = sz) (ho : ∀ u ∈ news, u.oneCell' = true) (hn : n + 1 ≤ 1000000000)
    (f' : Nat → List Value) (hf1 : ∀ k, k < n → f' k = f k) (hf2 : f' n = news)
    (h : ∀ v' w', OL sz e w' v' (n + 1) f' → App v v' w w' → v' ≠ .slice none 0 0 → K (act.put o.dst v') w') : Oper.wp P o act w K Q := by
  obtain ⟨b, rfl, hb⟩ := hone
  refine wp_append s x t hop sz e z bytes h1 h2 hby hzs hsz v n f hs hown hlf ⟨b, 0, none⟩ 1 1 hx news (by rw [hl, Nat.one_mul]) (fun j u hj => ?_) ho (Or.inl (by decide)) hn f' hf1 (fun k hk j hj => by
    obtain rfl : k = 0 := by omega
    rw [Nat.add_zero, hf2, Nat.zero_mul, Nat.zero_add]) h
  have e9 : ((⟨b, 0, none⟩ : Addr).add j) = ⟨b, j, none⟩ := by
    unfold Addr.add
    split
    · rename_i h; subst h; rfl
    · simp
  rw [e9, cell_of_row _ b j news.toArray te (0, 0) hb]
  simpa using hj
theorem App.of_alloc {v v' : Value} {w w' : World} {o : Obj} (h : App v v' (w.alloc o) w') (hv : ∀ b, v.ownBlock = some b → b < w.heap.size) : App v v' w w' :=
  ⟨h.os, h.tape, h.output, by have := h.size; simp at this; omega, fun b hb hn => (h.other b (by simp; omega) hn).trans (Below.heap_alloc w o b hb), by
    rcases h.at_ with k | ⟨b, k, k2⟩
    · exact Or.inl k
    · exact Or.inr ⟨b, k, by simp at k2; omega⟩⟩

/-! ## Maps to ints -/
/-- Block b is a map of at most n entries: at each key what m tells. -/
def MapF (P : Program) (K E : TypeId) (w : World) (b n : Nat) (m : Value → Option Int) : Prop :=
  ∃ D : DataW Unit, w.ownsMap P K (plainElem P E) b n D ∧ (∀ key kl, keyOf P K key = some kl → Maps.has D kl = (m key).isSome ∧ D.atKey kl (.lit (.int .i64 0)) = .lit (.int .i64 ((m key).getD 0)))
section
variable {P : Program} {K E : TypeId} {w w' : World} {b n : Nat} {m : Value → Option Int}
theorem MapF.lt (h : MapF P K E w b n m) : b < w.heap.size := by obtain ⟨D, h, _⟩ := h; exact h.lt
theorem MapF.stay (h : MapF P K E w b n m) (hb : w'.heap[b]? = w.heap[b]?) : MapF P K E w' b n m := by
  obtain ⟨D, ⟨es, clock, h1, h2⟩, h3⟩ := h
  exact ⟨D, ⟨es, clock, hb.trans h1, h2⟩, h3⟩
theorem MapF.isMap (h : MapF P K E w b n m) : ∃ es clock, w.heap[b]? = some (.map es clock) := by
  obtain ⟨D, ⟨es, clock, h1, _⟩, _⟩ := h
  exact ⟨es, clock, h1⟩
theorem MapF.look {t : TypeId} (h : MapF P K E w b n m) (KL : Maps.Keyed P K) (ht : P.underlying t = some (.map K E)) (he : P.underlying E = some (.int .i64)) (hz : (zeroValue E).run P w = .ok (.int .i64 0) w) {key : Value} {kl : Lit} (hkey : keyOf P K key = some kl) :
    (Instr.lookup t (.map (some b)) key true).run P w = .ok (.tuple #[.int .i64 ((m key).getD 0), .bool (m key).isSome]) w := by
  obtain ⟨D, ho, hD⟩ := h
  obtain ⟨v, ps, hrun, hv⟩ := ho.look_ok KL ht hz (plainElem_int he (by decide)) hkey
  obtain ⟨c, rfl, hc, _⟩ := plainElem_int_inv he hv
  rw [hrun, (hD key kl hkey).1]
  have := (congrArg Prod.fst hc).symm.trans (hD key kl hkey).2
  injection this with this
  injection this with _ this
  rw [this]
theorem MapF.put {t : TypeId} (h : MapF P K E w b n m) (KL : Maps.Keyed P K) (ht : P.underlying t = some (.map K E)) (he : P.underlying E = some (.int .i64)) (hn : n < maxLen) {key : Value} {kl : Lit} (hkey : keyOf P K key = some kl) {x : Int} (hx : (Lit.int .i64 x).wf = true)
    (m' : Value → Option Int) (h1 : m' key = some x) (h2 : ∀ k, k ≠ key → m' k = m k) :
    ∃ w', (Instr.mapUpdate t (.map (some b)) key (.int .i64 x)).run P w = .ok () w' ∧ MapF P K E w' b (n + 1) m' ∧ w.mapTurned w' b := by
  obtain ⟨D, ho, hD⟩ := h
  obtain ⟨w', hrun, r1, r2⟩ := ho.store KL ht hn hkey (plainElem_int (H := Unit) he hx)
  have hK : WideAt.IsKeyLit kl := KL.key hkey
  refine ⟨w', hrun, ⟨_, r1, fun key' kl' hk' => ?_⟩, r2⟩
  by_cases e : key' = key
  · subst e
    rw [hkey] at hk'
    cases hk'
    rw [Maps.has_put_same ho.isMap hK, Maps.atKey_put_same ho.isMap hK, h1]
    exact ⟨rfl, rfl⟩
  · have hne : kl' ≠ kl := fun e2 => e (KL.inj hk' (by rw [hkey, e2]))
    rw [Maps.has_put_other hne, Maps.atKey_put_other hne, h2 key' e]
    exact hD key' kl' hk'
theorem MapF.del {t : TypeId} (h : MapF P K E w b n m) (KL : Maps.Keyed P K) (ht : P.underlying t = some (.map K E)) {key : Value} {kl : Lit} (hkey : keyOf P K key = some kl) (ty : TypeId)
    (m' : Value → Option Int) (h1 : m' key = none) (h2 : ∀ k, k ≠ key → m' k = m k) :
    ∃ w', (Builtin.delete_ #[t, K] ty #[.map (some b), key]).run P w = .ok (.tuple #[]) w' ∧ MapF P K E w' b n m' ∧ w.mapTurned w' b := by
  obtain ⟨D, ho, hD⟩ := h
  obtain ⟨w', hrun, r1, r2⟩ := ho.drop KL ht hkey ty
  refine ⟨w', hrun, ⟨_, r1, fun key' kl' hk' => ?_⟩, r2⟩
  by_cases e : key' = key
  · subst e
    rw [hkey] at hk'
    cases hk'
    rw [Maps.has_del_same, Maps.atKey_del_same, h1]
    exact ⟨rfl, rfl⟩
  · have hne : kl' ≠ kl := fun e2 => e (KL.inj hk' (by rw [hkey, e2]))
    rw [Maps.has_del_other hne, Maps.atKey_del_other hne, h2 key' e]
    exact hD key' kl' hk'
theorem wp_del {o : Oper} {act : Act} {Kc : Act → World → Prop} {Q : Exit → Act → World → Prop} (mo xo : Operand) (t : TypeId) (hop : o.op = .call { callee := .builtin .delete, args := #[mo, xo], argTypes := #[t, K] }) (h : MapF P K E w b n m) (KL : Maps.Keyed P K) (ht : P.underlying t = some (.map K E)) {key : Value} {kl : Lit} (hkey : keyOf P K key = some kl)
    (hm : act.eval mo = .map (some b)) (hx : act.eval xo = key) (m' : Value → Option Int) (h1 : m' key = none) (h2 : ∀ k, k ≠ key → m' k = m k)
    (hK : ∀ w', MapF P K E w' b n m' → w.mapTurned w' b → Kc (act.put o.dst (.tuple #[])) w') : Oper.wp P o act w Kc Q := by
  obtain ⟨w', hrun, k1, k2⟩ := h.del KL ht hkey o.type m' h1 h2
  unfold Oper.wp
  simp [execOp, hop, resolve, invoke, builtin, hm, hx, hrun, Result.andThen]
  exact hK w' k1 k2
theorem MapF.made (w : World) (P : Program) (K E : TypeId) : MapF P K E (w.alloc (.map #[] 0)) w.heap.size 0 (fun _ => none) :=
  ⟨_, World.ownsMap_made w P K _, fun _ _ _ => ⟨rfl, rfl⟩⟩
theorem nodup_le : ∀ (N : Nat) (l : List Nat), l.Nodup → (∀ x ∈ l, x < N) → l.length ≤ N
  | 0, l, _, h => by
    cases l with
    | nil => simp
    | cons x _ => exact absurd (h x (List.mem_cons_self ..)) (by omega)
  | N + 1, l, hn, h => by
    have h1 := nodup_le N (l.filter (fun x => x != N)) (hn.sublist List.filter_sublist) (fun x hx => by
      obtain ⟨k1, k2⟩ := List.mem_filter.1 hx
      have := h x k1
      simp at k2; omega)
    have h2 : l.length ≤ (l.filter (fun x => x != N)).length + 1 := by
      have : ∀ (l : List Nat), l.Nodup → l.length ≤ (l.filter (fun x => x != N)).length + 1 := by
        intro l
        induction l with
        | nil => intro _; simp
        | cons x l ih =>
          intro hn
          obtain ⟨n1, n2⟩ := List.nodup_cons.1 hn
          by_cases e : x = N
          · subst e
            have : l.filter (fun y => y != x) = l := List.filter_eq_self.2 (fun y hy => by simp; exact fun e => n1 (e ▸ hy))
            simp [this]
          · have := ih n2
            simp [e]; omega
      exact this l hn
    omega
/-- Where each number stands at one key alone there are no more entries than numbers. -/
theorem MapF.tight (h : MapF P K E w b n m) (KL : Maps.Keyed P K) (N : Nat) (hN : ∀ k x, m k = some x → 0 ≤ x ∧ x < N) (hi : ∀ k k' x, m k = some x → m k' = some x → k = k') : MapF P K E w b N m := by
  obtain ⟨D, ⟨es, clock, hb, F, hs, rfl⟩, hD⟩ := h
  refine ⟨_, ⟨es, clock, hb, F, ?_, rfl⟩, hD⟩
  have some_ : ∀ e ∈ es.toList, ∃ x, m e.key = some x := by
    intro e he
    obtain ⟨y, hy⟩ := F.reads e he
    have hk := WideElems.rd_key hy
    have h1 := (hD e.key y.1 hk).1
    have hin : y ∈ (es.toList.map (WideElems.rg P K (plainElem P E))).foldr DataW.insert [] := (WideShapes.sorted_perm _).mem_iff.2 (List.mem_map.2 ⟨e, he, WideElems.rg_of hy⟩)
    have h2 : Maps.has (DataW.map ((es.toList.map (WideElems.rg (H := Unit) P K (plainElem P E))).foldr DataW.insert [])) y.1 = true := by
      rw [Maps.has_eq, List.any_eq_true]
      exact ⟨y, hin, WideAt.sameKey_self (KL.key hk)⟩
    rw [h2] at h1
    exact Option.isSome_iff_exists.1 h1.symm
  have hn : es.toList.Pairwise (fun x y => x.key ≠ y.key) := ((MapKept.stamped_iff es clock).1 F.stamped).2.2
  have key : (es.toList.map (fun e => ((m e.key).getD 0).toNat)).Nodup := by
    rw [List.Nodup, List.pairwise_map]
    have : es.toList.Pairwise (fun x y => x ∈ es.toList ∧ y ∈ es.toList ∧ x.key ≠ y.key) := List.Pairwise.imp_of_mem (fun ha hb h => ⟨ha, hb, h⟩) hn
    refine this.imp (fun {a b'} hab e => ?_)
    obtain ⟨x, hx⟩ := some_ a hab.1
    obtain ⟨y, hy⟩ := some_ b' hab.2.1
    have b1 := hN _ _ hx
    have b2 := hN _ _ hy
    rw [hx, hy] at e
    simp only [Option.getD_some] at e
    have : x = y := by omega
    subst this
    exact hab.2.2 (hi _ _ _ hx hy)
  have := nodup_le N _ key (fun x hx => by
    obtain ⟨e, he, rfl⟩ := List.mem_map.1 hx
    obtain ⟨x, hx⟩ := some_ e he
    have := hN _ _ hx
    rw [hx]; simp only [Option.getD_some]; omega)
  simpa using this
end
end Euf
end Go.Proofs.Ytmnpefiaelpkfac
/- The graph in the machine: what lies behind its pointer; no statement of the seat is proved here. -/
namespace Go.Proofs.Ytmnpefiaelpkfac
open Go.RowKit
set_option linter.unusedVariables false
namespace Euf

/-- What doesn't change while classes are made. -/
structure Fx where
  np : Nat
  P : Nat → Part
  nw : Nat
  W : Nat → Nat
  ne : Nat
  E : Nat → Nat × Nat × Nat
/-- The classes. -/
structure Sx where
  ns : Nat
  S : Nat → Spot
  sg : Nat × Nat → Option Nat
  cl : List Claim
/-- Where it lies. -/
structure Lx where
  c0 : Value
  c1 : Value
  c2 : Value
  c3 : Value
  vP : Value
  vW : Value
  bG : Nat
structure Ly where
  vS : Value
  vC : Value
  au : Nat → Value
def partC (P : Nat → Part) (i : Nat) : List Value := [.int .i64 (P i).front, .int .i64 (P i).arg, .int .i64 (P i).node]
def spotC (S : Nat → Spot) (au : Nat → Value) (i : Nat) : List Value := [.int .i64 ((S i).cls : Nat), .int .i64 ((S i).next : Nat), .int .i64 (S i).up, .int .i64 (S i).why, .int .i64 ((S i).size : Nat), .int .i64 (S i).least, au i]
def claimC (c : Claim) : List Value := [.int .i64 (c.a : Nat), .int .i64 (c.b : Nat), .int .i64 c.why]
def natC (l : List Nat) (j : Nat) : List Value := [.int .i64 (l.getD j 0 : Nat)]
def sgF (sg : Nat × Nat → Option Nat) : Value → Option Int
  | .agg cs => match cs.toList with
    | [.int .i64 x, .int .i64 y] => if 0 ≤ x ∧ 0 ≤ y then Option.map Int.ofNat (sg (x.toNat, y.toNat)) else none
    | _ => none
  | _ => none
theorem sgF_at (sg : Nat × Nat → Option Nat) (x y : Nat) : sgF sg (.agg #[.int .i64 (x : Nat), .int .i64 (y : Nat)]) = Option.map Int.ofNat (sg (x, y)) := by simp [sgF]
theorem sgF_some {sg : Nat × Nat → Option Nat} {v : Value} {z : Int} (h : sgF sg v = some z) : ∃ a b q : Nat, v = .agg #[.int .i64 (a : Nat), .int .i64 (b : Nat)] ∧ sg (a, b) = some q ∧ z = (q : Nat) := by
  unfold sgF at h
  split at h
  · rename_i cs
    split at h
    · rename_i p q hcs
      split at h
      · rename_i hpq
        obtain ⟨r, hr, rfl⟩ := Option.map_eq_some_iff.1 h
        refine ⟨p.toNat, q.toNat, r, ?_, hr, rfl⟩
        have : cs = #[.int .i64 p, .int .i64 q] := by
          apply Array.toList_inj.1; rw [hcs]
        rw [this, Int.toNat_of_nonneg hpq.1, Int.toNat_of_nonneg hpq.2]
      · cases h
    · cases h
  · cases h
/-- Where two tables agree but at one key. -/
theorem sgF_other {sg sg' : Nat × Nat → Option Nat} {a b : Nat} (h : ∀ k, k ≠ (a, b) → sg' k = sg k) : ∀ v, v ≠ Value.agg #[.int .i64 (a : Nat), .int .i64 (b : Nat)] → sgF sg' v = sgF sg v := by
  intro v hv
  have one : ∀ (s t : Nat × Nat → Option Nat), (∀ k, k ≠ (a, b) → s k = t k) → ∀ z, sgF s v = some z → sgF t v = some z := by
    intro s t hst z hz
    obtain ⟨p, q, r, rfl, h1, rfl⟩ := sgF_some hz
    have hne : (p, q) ≠ (a, b) := by
      intro e
      injection e with e1 e2
      subst e1 e2
      exact hv rfl
    rw [sgF_at, ← hst _ hne, h1]; rfl
  cases h1 : sgF sg' v with
  | some z => exact (one _ _ h z h1).symm
  | none =>
    cases h2 : sgF sg v with
    | none => rfl
    | some z => rw [one _ _ (fun k hk => (h k hk).symm) z h2] at h1; cases h1
theorem MapF.sgTight {w : World} {b n : Nat} {sg : Nat × Nat → Option Nat} (h : MapF Try.prog 51 3 w b n (sgF sg)) (KL : Maps.Keyed Try.prog 51) (N : Nat) (sn : Nat → Nat × Nat) (h1 : ∀ k q, sg k = some q → q < N ∧ sn q = k) : MapF Try.prog 51 3 w b N (sgF sg) := by
  refine h.tight KL N (fun k z hz => ?_) (fun k k' z hz hz' => ?_)
  · obtain ⟨p, q, r, rfl, h2, rfl⟩ := sgF_some hz
    have := (h1 _ _ h2).1
    omega
  · obtain ⟨p, q, r, rfl, h2, rfl⟩ := sgF_some hz
    obtain ⟨p', q', r', rfl, h2', e⟩ := sgF_some hz'
    have : r = r' := by omega
    subst this
    have e1 := (h1 _ _ h2).2
    have e2 := (h1 _ _ h2').2
    have := e1.symm.trans e2
    injection this with e3 e4
    rw [e3, e4]
def noClaim : Claim := ⟨0, 0, 0⟩
/-- The classes' world. -/
structure CW (w : World) (g : Nat) (x : Lx) (f : Fx) (m : Nat) (y : Ly) (s : Sx) : Prop where
  blk : w.heap[g]? = some (.cells #[x.c0, x.c1, x.c2, x.c3, x.vP, x.vW, .int .i64 (m : Nat), y.vS, .map (some x.bG), y.vC] 73 (0, 0))
  parts : OL 3 96 w x.vP f.np (partC f.P)
  whole : OL 1 3 w x.vW f.nw (fun i => [.int .i64 (f.W i : Nat)])
  eqs : OL 3 88 w x.c1 f.ne (fun i => [.int .i64 ((f.E i).1 : Nat), .int .i64 ((f.E i).2.1 : Nat), .int .i64 ((f.E i).2.2 : Nat)])
  spots : OL 7 86 w y.vS s.ns (spotC s.S y.au)
  uses : ∀ i, i < s.ns → OL 1 3 w (y.au i) (s.S i).uses.length (natC (s.S i).uses)
  claims : OL 3 91 w y.vC s.cl.length (fun i => claimC (s.cl.getD i noClaim))
  sig : MapF Try.prog 51 3 w x.bG s.ns (sgF s.sg)
  apart : ∀ i j, i < s.ns → j < s.ns → i ≠ j → ∀ b, (y.au i).ownBlock = some b → (y.au j).ownBlock ≠ some b
  apartW : ∀ i, i < s.ns → ∀ b, (y.au i).ownBlock = some b → x.vW.ownBlock ≠ some b
  small : f.np ≤ 10000 ∧ s.ns ≤ f.np
/-- The blocks that the making of classes may write. -/
def Ft (g : Nat) (x : Lx) (y : Ly) (n : Nat) (b : Nat) : Prop := b = g ∨ b = x.bG ∨ y.vS.ownBlock = some b ∨ y.vC.ownBlock = some b ∨ ∃ i, i < n ∧ (y.au i).ownBlock = some b
/-- All but some blocks is as it was. -/
structure Mv (F : Nat → Prop) (w w' : World) : Prop where
  os : w'.os = w.os
  tape : w'.tape = w.tape
  output : w'.output = w.output
  size : w.heap.size ≤ w'.heap.size
  other : ∀ b, b < w.heap.size → ¬ F b → w'.heap[b]? = w.heap[b]?
theorem Mv.refl (F : Nat → Prop) (w : World) : Mv F w w := ⟨rfl, rfl, rfl, Nat.le_refl _, fun _ _ _ => rfl⟩
theorem Mv.trans {F G : Nat → Prop} {w w' w'' : World} (h : Mv F w w') (k : Mv G w' w'') (hs : ∀ b, G b → F b ∨ w.heap.size ≤ b) : Mv F w w'' :=
  ⟨k.os.trans h.os, k.tape.trans h.tape, k.output.trans h.output, Nat.le_trans h.size k.size, fun b hb hn => (k.other b (Nat.lt_of_lt_of_le hb h.size) (fun hg => by
    rcases hs b hg with h1 | h1
    · exact hn h1
    · omega)).trans (h.other b hb hn)⟩
theorem Mv.below {F : Nat → Prop} {w w' : World} (h : Below w.heap.size w w') : Mv F w w' := ⟨h.os, h.tape, h.output, h.size, fun b hb _ => h.block b hb⟩
theorem Mv.drew {F : Nat → Prop} {w w' : World} (h : Mv F w w') : Mv F w w'.drew := ⟨h.os, h.tape, h.output, h.size, h.other⟩
theorem Mv.drewN {F : Nat → Prop} {w w' : World} (h : Mv F w w') (n : Nat) : Mv F w (w'.drewN n) := ⟨h.os, h.tape, h.output, h.size, h.other⟩
theorem Mv.set {F : Nat → Prop} {w w' : World} (h : Mv F w w') {a : Addr} (ha : F a.block ∨ w.heap.size ≤ a.block) (v : Value) : Mv F w (w'.setCell a v) :=
  ⟨h.os, h.tape, h.output, by simp; exact h.size, fun b hb hn => (heap_setCell_other w' a b v (fun e => by
    rcases ha with h1 | h1
    · exact hn (e ▸ h1)
    · omega)).trans (h.other b hb hn)⟩
theorem Mv.alloc {F : Nat → Prop} {w w' : World} (h : Mv F w w') (o : Obj) : Mv F w (w'.alloc o) :=
  ⟨h.os, h.tape, h.output, by simp; exact Nat.le_succ_of_le h.size, fun b hb hn => (Below.heap_alloc w' o b (Nat.lt_of_lt_of_le hb h.size)).trans (h.other b hb hn)⟩

theorem OL.ne {sz sz' : Nat} {e e' : TypeId} {w : World} {v v' : Value} {n n' : Nat} {f f' : Nat → List Value} (h : OL sz e w v n f) (h' : OL sz' e' w v' n' f') (he : e ≠ e') {b : Nat} (hb : v.ownBlock = some b) : v'.ownBlock ≠ some b := by
  intro hb'
  obtain ⟨c, hc⟩ := h.elem hb
  obtain ⟨c', hc'⟩ := h'.elem hb'
  rw [hc] at hc'
  injection hc' with hc'
  injection hc' with _ h2 _
  exact he h2
theorem OL.neB {sz : Nat} {e e' : TypeId} {w : World} {v : Value} {n : Nat} {f : Nat → List Value} (h : OL sz e w v n f) {g : Nat} {cs : Array Value} (hg : w.heap[g]? = some (.cells cs e' (0, 0))) (he : e ≠ e') : v.ownBlock ≠ some g := by
  intro hb'
  obtain ⟨c', hc'⟩ := h.elem hb'
  rw [hg] at hc'
  injection hc' with hc'
  injection hc' with _ h2 _
  exact he h2.symm
theorem OL.neM {sz : Nat} {e : TypeId} {w : World} {v : Value} {n : Nat} {f : Nat → List Value} (h : OL sz e w v n f) {P : Program} {K E : TypeId} {b k : Nat} {m : Value → Option Int} (hm : MapF P K E w b k m) : v.ownBlock ≠ some b := by
  intro hb'
  obtain ⟨c', hc'⟩ := h.elem hb'
  obtain ⟨es, cl, he⟩ := hm.isMap
  rw [he] at hc'
  cases hc'
section
variable {w w' : World} {g : Nat} {x : Lx} {f : Fx} {m : Nat} {y : Ly} {s : Sx}
theorem CW.lt (h : CW w g x f m y s) : g < w.heap.size := (Array.getElem?_eq_some_iff.1 h.blk).1
/-- Nothing of it is written. -/
theorem CW.stay (h : CW w g x f m y s) (hb : ∀ b, b < w.heap.size → w'.heap[b]? = w.heap[b]?) : CW w' g x f m y s :=
  { blk := (hb _ h.lt).trans h.blk
    parts := h.parts.stay fun b e => hb b (h.parts.lt e)
    whole := h.whole.stay fun b e => hb b (h.whole.lt e)
    eqs := h.eqs.stay fun b e => hb b (h.eqs.lt e)
    spots := h.spots.stay fun b e => hb b (h.spots.lt e)
    uses := fun i hi => (h.uses i hi).stay fun b e => hb b ((h.uses i hi).lt e)
    claims := h.claims.stay fun b e => hb b (h.claims.lt e)
    sig := h.sig.stay (hb _ h.sig.lt)
    apart := h.apart, apartW := h.apartW, small := h.small }
theorem CW.below (h : CW w g x f m y s) (hb : Below w.heap.size w w') : CW w' g x f m y s := h.stay fun b hlt => hb.block b hlt
theorem CW.alloc (h : CW w g x f m y s) (o : Obj) : CW (w.alloc o) g x f m y s := h.stay fun b hlt => Below.heap_alloc w o b hlt
theorem CW.drew (h : CW w g x f m y s) : CW w.drew g x f m y s := h.stay fun _ _ => rfl
theorem CW.drewN (h : CW w g x f m y s) (n : Nat) : CW (w.drewN n) g x f m y s := h.stay fun _ _ => rfl
theorem spotC_len (S : Nat → Spot) (au : Nat → Value) (i : Nat) : (spotC S au i).length = 7 := rfl
/-- A number of a spot is written. -/
theorem CW.setSpot (h : CW w g x f m y s) {gs cap i j : Nat} {z : Int} (hv : y.vS = .slice (some ⟨gs, 0, none⟩) s.ns cap) (hi : i < s.ns) (hj : j < 6) {S' : Nat → Spot} (h1 : spotC S' y.au i = (spotC s.S y.au i).set j (.int .i64 z)) (h2 : ∀ k, k ≠ i → S' k = s.S k) (h3 : (S' i).uses = (s.S i).uses) :
    CW (w.setCell ⟨gs, i * 7 + j, none⟩ (.int .i64 z)) g x f m y { s with S := S' } := by
  have hs := h.spots
  rw [hv] at hs
  obtain ⟨cs, hcs⟩ := hs.elem (b := gs) rfl
  have key : ∀ b, b ≠ gs → (w.setCell ⟨gs, i * 7 + j, none⟩ (.int .i64 z)).heap[b]? = w.heap[b]? := fun b hb => heap_setCell_other w ⟨gs, i * 7 + j, none⟩ b _ hb
  have hu : ∀ k, (S' k).uses = (s.S k).uses := fun k => by
    by_cases e : k = i
    · subst e; exact h3
    · rw [h2 k e]
  refine { blk := (key _ ?_).trans h.blk, parts := h.parts.stay fun b e => key b ?_, whole := h.whole.stay fun b e => key b ?_, eqs := h.eqs.stay fun b e => key b ?_, spots := ?_, uses := fun k hk => ?_, claims := h.claims.stay fun b e => key b ?_, sig := h.sig.stay (key _ ?_), apart := h.apart, apartW := h.apartW, small := h.small }
  · intro e; have := h.blk; rw [e, hcs] at this; injection this with this; injection this with _ h9 _; exact absurd h9 (by decide)
  · intro e'; subst e'; exact h.parts.neB hcs (by decide) e
  · intro e'; subst e'; exact h.whole.neB hcs (by decide) e
  · intro e'; subst e'; exact h.eqs.neB hcs (by decide) e
  · rw [hv]
    exact hs.set hi (by omega) _ (fun k _ => spotC_len _ _ k) h1 (fun k _ hk => by show spotC S' y.au k = spotC s.S y.au k; unfold spotC; rw [h2 k hk])
  · show OL 1 3 _ (y.au k) (S' k).uses.length (natC (S' k).uses)
    rw [hu]
    exact (h.uses k hk).stay fun b e => key b (fun e' => by subst e'; exact (h.uses k hk).neB hcs (by decide) e)
  · intro e'; subst e'; exact h.claims.neB hcs (by decide) e
  · intro e'; obtain ⟨es, cl, he⟩ := h.sig.isMap; rw [e', hcs] at he; cases he
/-- What lies beyond the spots doesn't count. -/
theorem CW.congr (h : CW w g x f m y s) {S' : Nat → Spot} (hS : ∀ i, i < s.ns → S' i = s.S i) : CW w g x f m y { s with S := S' } :=
  { h with
    spots := h.spots.congr fun i hi => by show spotC S' y.au i = spotC s.S y.au i; unfold spotC; rw [hS i hi]
    uses := fun i hi => by show OL 1 3 w (y.au i) (S' i).uses.length (natC (S' i).uses); rw [hS i hi]; exact h.uses i hi }
theorem CW.neS (h : CW w g x f m y s) {gs cap : Nat} (hv : y.vS = .slice (some ⟨gs, 0, none⟩) s.ns cap) : g ≠ gs := fun e => h.spots.neB h.blk (by decide) (by rw [hv, ← e]; rfl)
/-- What a spot's cells hold. -/
theorem CW.spot (h : CW w g x f m y s) {gs cap i : Nat} (hv : y.vS = .slice (some ⟨gs, 0, none⟩) s.ns cap) (hi : i < s.ns) :
    w.cell? ⟨gs, i * 7, none⟩ = some (.int .i64 ((s.S i).cls : Nat)) ∧ w.cell? ⟨gs, i * 7 + 1, none⟩ = some (.int .i64 ((s.S i).next : Nat)) ∧ w.cell? ⟨gs, i * 7 + 2, none⟩ = some (.int .i64 (s.S i).up) ∧ w.cell? ⟨gs, i * 7 + 3, none⟩ = some (.int .i64 (s.S i).why) ∧
    w.cell? ⟨gs, i * 7 + 4, none⟩ = some (.int .i64 ((s.S i).size : Nat)) ∧ w.cell? ⟨gs, i * 7 + 5, none⟩ = some (.int .i64 (s.S i).least) ∧ w.cell? ⟨gs, i * 7 + 6, none⟩ = some (y.au i) := by
  have hs := h.spots
  rw [hv] at hs
  exact ⟨hs.cell hi (j := 0) (by omega), hs.cell hi (j := 1) (by omega), hs.cell hi (j := 2) (by omega), hs.cell hi (j := 3) (by omega), hs.cell hi (j := 4) (by omega), hs.cell hi (j := 5) (by omega), hs.cell hi (j := 6) (by omega)⟩
theorem CW.spotFrozen (h : CW w g x f m y s) {gs cap : Nat} (hv : y.vS = .slice (some ⟨gs, 0, none⟩) s.ns cap) (o : Nat) : w.frozen? ⟨gs, o, none⟩ = false := by
  have hs := h.spots
  rw [hv] at hs
  exact hs.frozen o
/-- A part's cells. -/
theorem CW.part (h : CW w g x f m y s) {i : Nat} (hi : i < f.np) : ∃ gp cap, x.vP = .slice (some ⟨gp, 0, none⟩) f.np cap ∧ gp < w.heap.size ∧ w.cell? ⟨gp, i * 3, none⟩ = some (.int .i64 (f.P i).front) ∧ w.cell? ⟨gp, i * 3 + 1, none⟩ = some (.int .i64 (f.P i).arg) ∧ w.cell? ⟨gp, i * 3 + 2, none⟩ = some (.int .i64 (f.P i).node) := by
  obtain ⟨gp, cap, hv, _, _⟩ := h.parts.open i hi
  have hs := h.parts
  rw [hv] at hs
  exact ⟨gp, cap, hv, hs.lt rfl, hs.cell hi (j := 0) (by omega), hs.cell hi (j := 1) (by omega), hs.cell hi (j := 2) (by omega)⟩
theorem CW.wholeAt (h : CW w g x f m y s) {i : Nat} (hi : i < f.nw) : ∃ gp cap, x.vW = .slice (some ⟨gp, 0, none⟩) f.nw cap ∧ gp < w.heap.size ∧ w.cell? ⟨gp, i, none⟩ = some (.int .i64 (f.W i : Nat)) := by
  obtain ⟨gp, cap, hv, _, _⟩ := h.whole.open i hi
  have hs := h.whole
  rw [hv] at hs
  have := hs.cell hi (j := 0) (by omega)
  rw [Nat.mul_one] at this
  exact ⟨gp, cap, hv, hs.lt rfl, this⟩
theorem CW.ltS (h : CW w g x f m y s) {gs cap : Nat} (hv : y.vS = .slice (some ⟨gs, 0, none⟩) s.ns cap) : gs < w.heap.size := h.spots.lt (by rw [hv]; rfl)
/-- The graph's own cells. -/
theorem CW.cells (h : CW w g x f m y s) : w.cell? ⟨g, 0, none⟩ = some x.c0 ∧ w.cell? ⟨g, 1, none⟩ = some x.c1 ∧ w.cell? ⟨g, 2, none⟩ = some x.c2 ∧ w.cell? ⟨g, 3, none⟩ = some x.c3 ∧ w.cell? ⟨g, 4, none⟩ = some x.vP ∧ w.cell? ⟨g, 5, none⟩ = some x.vW ∧ w.cell? ⟨g, 6, none⟩ = some (.int .i64 (m : Nat)) ∧
    w.cell? ⟨g, 7, none⟩ = some y.vS ∧ w.cell? ⟨g, 8, none⟩ = some (.map (some x.bG)) ∧ w.cell? ⟨g, 9, none⟩ = some y.vC := by
  have c := fun i => cell_of_row w g i _ 73 (0, 0) h.blk
  exact ⟨c 0, c 1, c 2, c 3, c 4, c 5, c 6, c 7, c 8, c 9⟩
theorem CW.frozen (h : CW w g x f m y s) (o : Nat) : w.frozen? ⟨g, o, none⟩ = false := frozen_of_row w g o _ 73 h.blk
theorem CW.spotsAt (h : CW w g x f m y s) {i : Nat} (hi : i < s.ns) : ∃ gs cap, y.vS = .slice (some ⟨gs, 0, none⟩) s.ns cap ∧ s.ns ≤ cap ∧ cap ≤ maxLen := h.spots.open i hi
end
end Euf
end Go.Proofs.Ytmnpefiaelpkfac
/- The contract of hang; it proves no statement of the seat. -/
namespace Go.Proofs.Ytmnpefiaelpkfac
open Go.RowKit
set_option linter.unusedVariables false
namespace Euf
theorem Try.underlying70 : Try.prog.underlying 70 = some (.slice 86) := by kernel_rfl

set_option maxRecDepth 20000 in
set_option maxHeartbeats 4000000 in
theorem hang_any (g : Nat) (x : Lx) (f : Fx) (m : Nat) (y : Ly) (s : Sx) (a b : Nat) (why : Int) (n : Nat) (w : World) (h : CW w g x f m y s) (hn : Ups s.S (a : Int) n) (hin : ∀ j, On s.S (a : Int) j → j < s.ns) :
    Calls Try.prog 59 #[.pointer (some ⟨g, 0, none⟩), .agg #[.int .i64 (a : Nat), .int .i64 (b : Nat), .int .i64 why]] w fun e w' => e = .returned (.tuple #[]) ∧
      CW w' g x f m y { s with S := hang n s.S (a : Int) (b : Int) why } ∧ Mv (Ft g x y s.ns) w w' := by
  have ha : a < s.ns := hin a .here
  obtain ⟨gs, cap, hv, hc1, hc2⟩ := h.spotsAt ha
  have HV : Hid (y.vS = .slice (some ⟨gs, 0, none⟩) s.ns cap) := hv
  have h1 := h.alloc (.cells #[.int .i64 (a : Nat), .int .i64 (b : Nat), .int .i64 why] 91 (0, 0))
  have hm1 : Mv (Ft g x y s.ns) w (w.alloc (.cells #[.int .i64 (a : Nat), .int .i64 (b : Nat), .int .i64 why] 91 (0, 0))) := (Mv.refl _ w).alloc _
  have k0 : (w.alloc (.cells #[.int .i64 (a : Nat), .int .i64 (b : Nat), .int .i64 why] 91 (0, 0))).heap[w.heap.size]? = _ := heap_alloc_new w _
  have d0 : (w.alloc (.cells #[.int .i64 (a : Nat), .int .i64 (b : Nat), .int .i64 why] 91 (0, 0))).cell? ⟨w.heap.size, 0, none⟩ = some (.int .i64 (a : Nat)) := cell_of_row _ w.heap.size 0 _ 91 (0, 0) k0
  have d1 : (w.alloc (.cells #[.int .i64 (a : Nat), .int .i64 (b : Nat), .int .i64 why] 91 (0, 0))).cell? ⟨w.heap.size, 1, none⟩ = some (.int .i64 (b : Nat)) := cell_of_row _ w.heap.size 1 _ 91 (0, 0) k0
  have d2 : (w.alloc (.cells #[.int .i64 (a : Nat), .int .i64 (b : Nat), .int .i64 why] 91 (0, 0))).cell? ⟨w.heap.size, 2, none⟩ = some (.int .i64 why) := cell_of_row _ w.heap.size 2 _ 91 (0, 0) k0
  have HN : Hid (Ups s.S (a : Int) n ∧ ∀ j, On s.S (a : Int) j → j < s.ns) := ⟨hn, hin⟩
  clear hn hin hv k0 h
  go_enter Try.func59, Try.ntmps59
  go_wp2
  generalize (w.alloc (.cells #[.int .i64 (a : Nat), .int .i64 (b : Nat), .int .i64 why] 91 (0, 0))) = w1 at h1 hm1 d0 d1 d2 ⊢
  go_quiet (fail)
  go_wp2
  go_loopg [4, 5, 6] n (fun gk v4 v5 v6 wr => ∃ (T : Nat → Spot) (at_ up wy : Int), v4 = .int .i64 at_ ∧ v5 = .int .i64 up ∧ v6 = .int .i64 wy ∧ Hid (Ups T at_ gk ∧ (∀ j, On T at_ j → j < s.ns) ∧ hang gk T at_ up wy = hang n s.S (a : Int) (b : Int) why) ∧ CW wr g x f m y { s with S := T } ∧ Mv (Ft g x y s.ns) w wr)
  case atStart => exact ⟨s.S, _, _, _, rfl, rfl, rfl, ⟨HN.out.1, HN.out.2, rfl⟩, h1.drewN _, hm1.drewN _⟩
  case round =>
    clear d0 d1 d2 h1 hm1
    obtain ⟨T, at_, up, wy, rfl, rfl, rfl, HR, hC, hM⟩ := hrel
    obtain ⟨r1, r2, r3⟩ := HR.out
    rcases r1.int with ⟨e1, e2⟩ | ⟨k, gm, e1, e2, r4⟩
    · subst e1 e2
      go_wp2
      go_end0
      refine ⟨rfl, ?_, hM⟩
      rw [← r3]
      exact hC
    · subst e1 e2
      have hk : k < s.ns := r2 k .here
      have HS : Hid (hang gm (upd T k { T k with up := up, why := wy }) (T k).up k (T k).why = hang n s.S (a : Int) (b : Int) why) := by
        show _ = _
        rw [← r3, hang]
        have : ((k : Nat) : Int).toNat = k := by omega
        rw [this]
      have HU : Hid (Ups (upd T k { T k with up := up, why := wy }) (T k).up gm) := ups_step r1 up wy
      have HON : Hid (∀ j, On (upd T k { T k with up := up, why := wy }) (T k).up j → j < s.ns) := fun j hj => r2 j (on_step r1 up wy hj)
      clear r1 r2 r3 r4 HR
      obtain ⟨-, -, -, -, -, -, -, c7, -, -⟩ := hC.cells
      rw [HV.out] at c7
      obtain ⟨-, -, s2, s3, -, -, -⟩ := hC.spot HV.out hk
      have q2 := hC.spotFrozen HV.out (k * 7 + 2)
      have q3 := hC.spotFrozen HV.out (k * 7 + 3)
      go_wp2
      go_quiet (fail)
      go_wp2
      have hC1 := (hC.drewN nq).setSpot (z := up) (S' := upd T k { T k with up := up }) HV.out hk (j := 2) (by omega) (by simp [spotC, upd]) (fun i hi => by simp [upd, hi]) (by simp [upd])
      have hC2 := hC1.setSpot (z := wy) (S' := upd T k { T k with up := up, why := wy }) HV.out hk (j := 3) (by omega) (by simp [spotC, upd]) (fun i hi => by simp [upd, hi]) (by simp [upd])
      have hgs : Ft g x y s.ns gs := Or.inr (Or.inr (Or.inl (by rw [HV.out]; rfl)))
      go_roundg gm
      case measure => omega
      case rel => exact ⟨_, _, _, _, rfl, rfl, rfl, ⟨HU.out, HON.out, HS.out⟩, hC2, ((hM.drewN nq).set (a := ⟨gs, k * 7 + 2, none⟩) (Or.inl hgs) _).set (a := ⟨gs, k * 7 + 3, none⟩) (Or.inl hgs) _⟩
end Euf
end Go.Proofs.Ytmnpefiaelpkfac
