/- What the classes mean: two nodes are the same just if that follows from the equations; no statement of the seat is proved here. -/
import Derived.Test.YtlonnhnfmcndfadJoin6Turned
import Derived.Test.YtlonnhnfmcndfadEufHiJTurned
namespace Go.Proofs.Ytlonnhnfmcndfad
open Go.RowKit
set_option linter.unusedVariables false
namespace Euf
/-- What follows from equations. -/
inductive Cong (nn : Nat) (N : Nat → ByteArray × List Nat) (E : Nat → Nat → Prop) : Nat → Nat → Prop
  | refl (a : Nat) : Cong nn N E a a
  | symm {a b : Nat} : Cong nn N E a b → Cong nn N E b a
  | trans {a b c : Nat} : Cong nn N E a b → Cong nn N E b c → Cong nn N E a c
  | eq {a b : Nat} : E a b → Cong nn N E a b
  | args {a b : Nat} : a < nn → b < nn → (N a).1 = (N b).1 → (N a).2.length = (N b).2.length → (∀ i, i < (N a).2.length → Cong nn N E ((N a).2.getD i 0) ((N b).2.getD i 0)) → Cong nn N E a b
theorem Cong.val {nn : Nat} {N : Nat → ByteArray × List Nat} {E : Nat → Nat → Prop} {D : Type} {val : Nat → D} (hE : ∀ a b, E a b → val a = val b)
    (hN : ∀ a b, a < nn → b < nn → (N a).1 = (N b).1 → (N a).2.length = (N b).2.length → (∀ i, i < (N a).2.length → val ((N a).2.getD i 0) = val ((N b).2.getD i 0)) → val a = val b) {a b : Nat} (h : Cong nn N E a b) : val a = val b := by
  induction h with
  | refl => rfl
  | symm _ ih => exact ih.symm
  | trans _ _ ih1 ih2 => exact ih1.trans ih2
  | eq h => exact hE _ _ h
  | args ha hb h1 h2 _ ih => exact hN _ _ ha hb h1 h2 ih
/-- The least node of each class is what its spot tells. -/
def LeastOk (P : Nat → Part) (ns : Nat) (S : Nat → Spot) : Prop := ∀ c, c < ns → (S c).cls = c → (∃ i, i < ns ∧ (S i).cls = c ∧ (P i).node = (S c).least) ∧ ∀ j, j < ns → (S j).cls = c → (S c).least ≤ (P j).node
theorem mergeS_least (S : Nat → Spot) (a b : Nat) (why : Int) (n i : Nat) : (mergeS S a b why n i).least = if i = (S b).cls then min (S (S a).cls).least (S (S b).cls).least else (S i).least := by
  have h := hang_alike n S (a : Int) (b : Int) why
  show (if i = (S b).cls then min (hang n S a b why (S a).cls).least (hang n S a b why (S b).cls).least else (hang n S a b why i).least) = _
  rw [(h i).2.2.2.1, (h (S a).cls).2.2.2.1, (h (S b).cls).2.2.2.1]
theorem LeastOk.merge {np ns : Nat} {P : Nat → Part} {S : Nat → Spot} {sg : Nat × Nat → Option Nat} {cl : List Claim} {out : List Nat} (h : LeastOk P ns S) (hI : Inv np P ns S sg cl out) {a b : Nat} (why : Int) (n : Nat) (ha : a < ns) (hb : b < ns) (hne : (S a).cls ≠ (S b).cls) : LeastOk P ns (mergeS S a b why n) := by
  have ra := hI.rep a ha
  have rb := hI.rep b hb
  have la := hI.lt a ha
  have lb := hI.lt b hb
  intro c hc hcc
  have hcf : (S c).cls ≠ (S a).cls := by
    intro e
    rw [mergeS_cls, if_pos e] at hcc
    subst hcc
    rw [rb] at e
    exact hne e.symm
  rw [mergeS_cls, if_neg hcf] at hcc
  by_cases e : c = (S b).cls
  · have q1 := h (S a).cls la ra
    have q2 := h (S b).cls lb rb
    rw [mergeS_least, if_pos e]
    obtain ⟨⟨i, i1, i2, i3⟩, m1⟩ := q1
    obtain ⟨⟨j, j1, j2, j3⟩, m2⟩ := q2
    refine ⟨?_, ?_⟩
    · by_cases hmin : (S (S a).cls).least ≤ (S (S b).cls).least
      · exact ⟨i, i1, by rw [mergeS_cls, if_pos i2]; exact e.symm, by rw [i3]; omega⟩
      · exact ⟨j, j1, by rw [mergeS_cls, if_neg (by rw [j2]; exact fun e2 => hne e2.symm), j2]; exact e.symm, by rw [j3]; omega⟩
    · intro k hk hkc
      rw [mergeS_cls] at hkc
      split at hkc
      · rename_i e2
        have := m1 k hk e2
        omega
      · have := m2 k hk (hkc.trans e)
        omega
  · obtain ⟨⟨i, i1, i2, i3⟩, m1⟩ := h c hc hcc
    rw [mergeS_least, if_neg e]
    refine ⟨⟨i, i1, ?_, i3⟩, fun k hk hkc => m1 k hk ?_⟩
    · rw [mergeS_cls, if_neg (by rw [i2, ← hcc]; exact hcf)]; exact i2
    · rw [mergeS_cls] at hkc
      split at hkc
      · exact absurd hkc.symm e
      · exact hkc
theorem LeastOk.place {P : Nat → Part} {ns : Nat} {S : Nat → Spot} (h : LeastOk P ns S) (hlt : ∀ i, i < ns → (S i).cls < ns) : LeastOk P (ns + 1) (placeS P S ns) := by
  have O := fun i (hi : i < ns) => placeS_old P S (n := ns) (i := i) (by omega)
  have N := placeS_new P S ns
  intro c hc hcc
  by_cases e : c = ns
  · subst e
    refine ⟨⟨c, hc, N.1, N.2.2.2.2.2.symm⟩, fun j hj hjc => ?_⟩
    by_cases e2 : j = c
    · subst e2; rw [N.2.2.2.2.2]; exact Int.le_refl _
    · have := hlt j (by omega)
      rw [(O j (by omega)).1] at hjc; omega
  · have hc' : c < ns := by omega
    rw [(O c hc').1] at hcc
    obtain ⟨⟨i, i1, i2, i3⟩, m1⟩ := h c hc' hcc
    rw [(O c hc').2.2.2.2.2]
    refine ⟨⟨i, by omega, by rw [(O i i1).1]; exact i2, i3⟩, fun j hj hjc => ?_⟩
    by_cases e2 : j = ns
    · subst e2; rw [N.1] at hjc; exact absurd hjc.symm e
    · rw [(O j (by omega)).1] at hjc; exact m1 j (by omega) hjc
theorem Joins.least {np ns : Nat} {P : Nat → Part} {S T : Nat → Spot} {sg tg : Nat × Nat → Option Nat} {cl : List Claim} (h : Joins np P ns S sg cl T tg) : Inv np P ns S sg cl [] → LeastOk P ns S → LeastOk P ns T := by
  induction h with
  | done => exact fun _ h => h
  | same hc _ ih => intro hI hs; exact ih (hI.same hc) hs
  | @merge S T sg tg cl c a b n hab hne hn _ ih =>
    intro hI hs
    have hcc := hI.cls c (by simp)
    have ha : a < ns := by rcases hab with ⟨rfl, rfl⟩ | ⟨rfl, rfl⟩ <;> omega
    have hb : b < ns := by rcases hab with ⟨rfl, rfl⟩ | ⟨rfl, rfl⟩ <;> omega
    exact ih (hI.merge _ hab hne hn) (hs.merge hI _ _ ha hb hne)
/-- What the classes know. -/
structure Sem (f : Fx) (m : Nat) (s : Sx) : Prop where
  le : m ≤ f.ne
  eqs : ∀ k, k < m → (f.E k).2.2 ≤ s.ns ∧ (s.S (f.W (f.E k).1)).cls = (s.S (f.W (f.E k).2.1)).cls
  sound : ∀ (D : Type) (val : Nat → D), Model f.np f.P val → (∀ k, k < m → val (f.W (f.E k).1) = val (f.W (f.E k).2.1)) → Sound val s.ns s.S []
  least : LeastOk f.P s.ns s.S
  hist : ∃ H, Hist f m s.ns s.S [] H
theorem Sem.none (f : Fx) (s : Sx) (h : s.ns = 0) : Sem f 0 s :=
  ⟨Nat.zero_le _, fun k hk => absurd hk (Nat.not_lt_zero _), fun D val _ _ => ⟨fun i hi => by omega, fun c hc => by cases hc⟩, fun c hc => by omega, [], { edge := (fun x z w hx => by omega), conn := (fun i j hi => by omega), ok := trivial, lt := (fun c hc => by cases hc), clm := (fun c hc => by cases hc), lab := List.nodup_nil }⟩
theorem Run.sem {f : Fx} (hf : FOk f) {m m' : Nat} {s s' : Sx} (h : Run f m s m' s') : s.cl = [] → Inv f.np f.P s.ns s.S s.sg [] [] → Sem f m s → Sem f m' s' := by
  induction h with
  | refl => exact fun _ _ h => h
  | @place m' s0 s1 T tg hr h1 h2 h3 ih =>
    intro k1 k2 k3
    have hS := ih k1 k2 k3
    have hI := (hr.ok hf k1 k2).2
    have hJ := hI.place h2
    obtain ⟨H, hH⟩ := hS.hist
    refine ⟨hS.le, fun k hk => ?_, fun D val hM hE => ?_, h3.least hJ (hS.least.place hI.lt), h3.hist hJ (hH.place hI h2)⟩
    · obtain ⟨e1, e2⟩ := hS.eqs k hk
      have hq := hf.eqs k (Nat.lt_of_lt_of_le hk hS.le)
      refine ⟨Nat.le_succ_of_le e1, ?_⟩
      refine h3.coarser _ _ (by omega) (by omega) ?_
      exact coarser_place f.P _ _ _ _ (by omega) (by omega) e2
    · exact h3.sound hM hJ ((hS.sound D val hM hE).place hM hI h2)
  | @eq m' s0 s1 T tg hr h1 h2 h3 h4 ih =>
    intro k1 k2 k3
    have hS := ih k1 k2 k3
    have hI := (hr.ok hf k1 k2).2
    have he := hf.eqs m' h2
    have hJ := hI.addClaim ⟨f.W (f.E m').1, f.W (f.E m').2.1, (m' : Int)⟩ (by show f.W (f.E m').1 < _; omega) (by show f.W (f.E m').2.1 < _; omega)
    obtain ⟨H, hH⟩ := hS.hist
    refine ⟨h2, fun k hk => ?_, fun D val hM hE => ?_, h4.least hJ hS.least, h4.hist hJ hH.addEq⟩
    · by_cases e : k = m'
      · subst e
        exact ⟨h3, h4.claims hJ.cls hJ _ (List.mem_singleton.2 rfl)⟩
      · obtain ⟨e1, e2⟩ := hS.eqs k (by omega)
        have hq := hf.eqs k (by omega)
        exact ⟨e1, h4.coarser _ _ (by omega) (by omega) e2⟩
    · refine h4.sound hM hJ ⟨(hS.sound D val hM (fun k hk => hE k (by omega))).s, fun c hc => ?_⟩
      rw [List.mem_singleton.1 hc]
      exact hE m' (by omega)
/-- More parts, nodes and equations. -/
theorem Sem.grow {f f' : Fx} {m : Nat} {s : Sx} (h : Sem f m s) (hf : FOk f) (hns : s.ns ≤ f.np) (hnp : f.np ≤ f'.np) (hP : ∀ i, i < f.np → f'.P i = f.P i) (hW : ∀ i, i < f.nw → f'.W i = f.W i) (hne : f.ne ≤ f'.ne) (hE : ∀ k, k < f.ne → f'.E k = f.E k) : Sem f' m s := by
  have hle := h.le
  have e : ∀ k, k < m → f'.E k = f.E k ∧ f'.W (f.E k).1 = f.W (f.E k).1 ∧ f'.W (f.E k).2.1 = f.W (f.E k).2.1 := fun k hk => ⟨hE k (by omega), hW _ (hf.eqs k (by omega)).1, hW _ (hf.eqs k (by omega)).2.1⟩
  obtain ⟨H, hH⟩ := h.hist
  refine ⟨by omega, fun k hk => ?_, fun D val hM hV => ?_, fun c hc hcc => ?_, H, hH.grow hf hle hns hP hW hE⟩
  · obtain ⟨e1, e2, e3⟩ := e k hk
    rw [e1, e2, e3]; exact h.eqs k hk
  · refine h.sound D val (fun p q hp hq mp mq h1 h2 => ?_) (fun k hk => ?_)
    · have m1 : ∀ p, p < f.np → Made f.P p → Made f'.P p := fun p hp h => by unfold Made; rw [hP p hp]; exact h
      exact hM p q (by omega) (by omega) (m1 p hp mp) (m1 q hq mq) (by rw [hP p hp, hP q hq]; exact h1) (by rw [hP p hp, hP q hq]; exact h2)
    · obtain ⟨e1, e2, e3⟩ := e k hk
      have := hV k hk
      rw [e1, e2, e3] at this; exact this
  · obtain ⟨⟨i, i1, i2, i3⟩, m1⟩ := h.least c hc hcc
    exact ⟨⟨i, i1, i2, by rw [hP i (by omega)]; exact i3⟩, fun j hj hjc => by rw [hP j (by omega)]; exact m1 j hj hjc⟩
/-- The equations as a relation. -/
def EqOf (f : Fx) (a b : Nat) : Prop := ∃ k, k < f.ne ∧ (f.E k).1 = a ∧ (f.E k).2.1 = b
/-- What a part is worth: what follows to be the same. -/
def cval (f : Fx) (t : Tx) (E : Nat → Nat → Prop) (p : Nat) : (Nat → Prop) ⊕ (ByteArray × Nat × Nat × (Nat → Nat → Prop)) :=
  if (t.lab p).2.2.length = (t.lab p).2.1 then .inl (fun b => Cong t.nn t.N E (f.P p).node.toNat b) else .inr ((t.lab p).1, (t.lab p).2.1, (t.lab p).2.2.length, fun i b => i < (t.lab p).2.2.length ∧ Cong t.nn t.N E ((t.lab p).2.2.getD i 0) b)
section
variable {f : Fx} {t : Tx} {E : Nat → Nat → Prop}
theorem TOk.split (h : TOk f t none) {p : Nat} (hp : p < f.np) (hm : Made f.P p) : ∃ s n l a, t.lab p = (s, n, l ++ [a]) ∧ a < t.nn ∧ (l ++ [a]).length ≤ n ∧ ∃ q, q < p ∧ t.lab q = (s, n, l) ∧ (f.P p).front = (q : Nat) ∧ (f.P p).arg = (f.W a : Nat) := by
  generalize hl : t.lab p = lb
  obtain ⟨s, n, l⟩ := lb
  rcases List.eq_nil_or_concat l with e | ⟨l', a, e⟩
  · subst e; exact absurd (h.root p s n hp hl) hm
  · rw [List.concat_eq_append] at e; subst e
    obtain ⟨h1, h2, q, h3, h4, h5, h6⟩ := h.pre p s n l' a hp hl
    exact ⟨s, n, l', a, rfl, h1, (h.node p s n _ hp hl).1, q, h3, h4, h5, h6⟩
theorem cval_whole (h : TOk f t none) {a : Nat} (ha : a < t.nn) : cval f t E (f.W a) = .inl (fun b => Cong t.nn t.N E a b) := by
  obtain ⟨h1, h2, h3⟩ := h.whole a ha
  unfold cval
  rw [h2, h3]
  simp [fullLab]
theorem cval_part {p : Nat} {s : ByteArray} {n : Nat} {l : List Nat} (hl : t.lab p = (s, n, l)) (hn : l.length < n) : cval f t E p = .inr (s, n, l.length, fun i b => i < l.length ∧ Cong t.nn t.N E (l.getD i 0) b) := by
  unfold cval
  rw [hl]
  simp only []
  rw [if_neg (by omega)]
theorem getD_snoc (l : List Nat) (a i : Nat) : (l ++ [a]).getD i 0 = if i < l.length then l.getD i 0 else if i = l.length then a else 0 := by
  by_cases h : i < l.length
  · simp [h, List.getElem?_append_left]
  · by_cases e : i = l.length
    · subst e; simp
    · have : (l ++ [a]).length ≤ i := by simp; omega
      simp [h, e, List.getElem?_eq_none this]
theorem getD_lt (l : List Nat) (a : Nat) {i : Nat} (h : i < l.length) : (l ++ [a]).getD i 0 = l.getD i 0 := by rw [getD_snoc, if_pos h]
theorem getD_eq (l : List Nat) (a : Nat) {i : Nat} (h : i = l.length) : (l ++ [a]).getD i 0 = a := by rw [getD_snoc, if_neg (by omega), if_pos h]
theorem cval_model (h : TOk f t none) : Model f.np f.P (cval f t E) := by
  intro p q hp hq mp mq h1 h2
  obtain ⟨s, n, l, a, pl, pa, pn, p', pp, pl', pf, pg⟩ := h.split hp mp
  obtain ⟨s', n', l', a', ql, qa, qn, q', qp, ql', qf, qg⟩ := h.split hq mq
  simp only [List.length_append, List.length_singleton] at pn qn
  rw [pf, qf, Int.toNat_natCast, Int.toNat_natCast, cval_part pl' (by omega), cval_part ql' (by omega)] at h1
  rw [pg, qg, Int.toNat_natCast, Int.toNat_natCast, cval_whole h pa, cval_whole h qa] at h2
  injection h1 with h1
  injection h2 with h2
  simp only [Prod.mk.injEq] at h1
  obtain ⟨rfl, rfl, hlen, hfun⟩ := h1
  have ca : Cong t.nn t.N E a a' := by
    have := congrFun h2 a'
    rw [this]; exact .refl _
  have cl : ∀ i, i < l.length → Cong t.nn t.N E (l.getD i 0) (l'.getD i 0) := by
    intro i hi
    have := congrFun (congrFun hfun i) (l'.getD i 0)
    have h9 : i < l'.length ∧ Cong t.nn t.N E (l'.getD i 0) (l'.getD i 0) := ⟨by omega, .refl _⟩
    rw [← this] at h9
    exact h9.2
  have call : ∀ i, i < (l ++ [a]).length → Cong t.nn t.N E ((l ++ [a]).getD i 0) ((l' ++ [a']).getD i 0) := by
    intro i hi
    simp only [List.length_append, List.length_singleton] at hi
    rw [getD_snoc, getD_snoc, ← hlen]
    by_cases e : i < l.length
    · rw [if_pos e, if_pos e]; exact cl i e
    · rw [if_neg e, if_neg e, if_pos (by omega), if_pos (by omega)]; exact ca
  have hlen2 : (l ++ [a]).length = (l' ++ [a']).length := by simp [hlen]
  have both : ∀ {x y : Nat}, Cong t.nn t.N E x y → (fun b => Cong t.nn t.N E x b) = fun b => Cong t.nn t.N E y b := fun hxy => funext fun b => propext ⟨fun h => (hxy.symm).trans h, fun h => hxy.trans h⟩
  by_cases e : (l ++ [a]).length = n
  · have pl2 : t.lab p = (s, (l ++ [a]).length, l ++ [a]) := by rw [pl, e]
    have ql2 : t.lab q = (s, (l' ++ [a']).length, l' ++ [a']) := by rw [ql, ← hlen2, e]
    obtain ⟨x, hx, hxw, hxn, hxp⟩ := h.same hp pl2
    obtain ⟨y, hy, hyw, hyn, hyp⟩ := h.same hq ql2
    rw [← hxw, ← hyw, cval_whole h hx, cval_whole h hy]
    congr 1
    refine both (.args hx hy (by rw [hxn, hyn]) (by rw [hxn, hyn]; exact hlen2) ?_)
    rw [hxn, hyn]; exact call
  · have e2 : (l ++ [a]).length < n := by simp only [List.length_append, List.length_singleton] at e ⊢; omega
    rw [cval_part pl e2, cval_part ql (by rw [← hlen2]; exact e2), ← hlen2]
    congr 4
    funext i b
    refine propext ⟨fun h9 => ⟨h9.1, ?_⟩, fun h9 => ⟨h9.1, ?_⟩⟩
    · exact (call i h9.1).symm.trans h9.2
    · exact (call i h9.1).trans h9.2
/-- What is made of the same by all arguments is the same. -/
theorem same_up {s : Sx} (ht : TOk f t none) (hI : Inv f.np f.P s.ns s.S s.sg [] []) (hn : s.ns = f.np) {sn : ByteArray} {n : Nat} : ∀ (l l' : List Nat) (p q : Nat), p < f.np → q < f.np → t.lab p = (sn, n, l) → t.lab q = (sn, n, l') → l.length = l'.length →
    (∀ i, i < l.length → (s.S (f.W (l.getD i 0))).cls = (s.S (f.W (l'.getD i 0))).cls) → (s.S p).cls = (s.S q).cls := by
  intro l
  induction hk : l.length generalizing l with
  | zero =>
    intro l' p q hp hq hl hl' hlen _
    have e1 : l = [] := List.eq_nil_of_length_eq_zero hk
    have e2 : l' = [] := List.eq_nil_of_length_eq_zero (by omega)
    subst e1 e2
    rw [ht.inj p q hp hq (hl.trans hl'.symm)]
  | succ k ih =>
    intro l' p q hp hq hl hl' hlen hall
    rcases List.eq_nil_or_concat l with e | ⟨m, a, e⟩
    · subst e; simp at hk
    rcases List.eq_nil_or_concat l' with e' | ⟨m', a', e'⟩
    · subst e'; simp at hlen
    rw [List.concat_eq_append] at e e'
    subst e e'
    simp only [List.length_append, List.length_singleton] at hk hlen
    obtain ⟨_, pw, p', h1, h2, h3, h4⟩ := ht.pre p sn n m a hp hl
    obtain ⟨_, qw, q', h1', h2', h3', h4'⟩ := ht.pre q sn n m' a' hq hl'
    refine hI.congr (by omega) (by omega) (by unfold Made; rw [h3]; omega) (by unfold Made; rw [h3']; omega) ?_ ?_
    · rw [h3, h3', Int.toNat_natCast, Int.toNat_natCast]
      refine ih m (by omega) m' p' q' (by omega) (by omega) h2 h2' (by omega) (fun i hi => ?_)
      have := hall i (by omega)
      rw [getD_lt m a (show i < m.length by omega), getD_lt m' a' (show i < m'.length by omega)] at this
      exact this
    · rw [h4, h4', Int.toNat_natCast, Int.toNat_natCast]
      have := hall k (by omega)
      rw [getD_eq m a (show k = m.length by omega), getD_eq m' a' (show k = m'.length by omega)] at this
      exact this
theorem same_iff {s : Sx} (ht : TOk f t none) (hf : FOk f) (hs : Sem f f.ne s) (hI : Inv f.np f.P s.ns s.S s.sg [] []) (hn : s.ns = f.np) {a b : Nat} (ha : a < t.nn) (hb : b < t.nn) :
    (s.S (f.W a)).cls = (s.S (f.W b)).cls ↔ Cong t.nn t.N (EqOf f) a b := by
  constructor
  · intro h
    have hS := hs.sound _ _ (cval_model (E := EqOf f) ht) (fun k hk => by
      have he := hf.eqs k hk
      rw [ht.nw] at he
      rw [cval_whole ht he.1, cval_whole ht he.2.1]
      congr 1
      have c : Cong t.nn t.N (EqOf f) (f.E k).1 (f.E k).2.1 := .eq ⟨k, hk, rfl, rfl⟩
      exact funext fun b => propext ⟨fun h => (c.symm).trans h, fun h => c.trans h⟩)
    have h1 := hS.s (f.W a) (by rw [hn]; exact (ht.whole a ha).1)
    have h2 := hS.s (f.W b) (by rw [hn]; exact (ht.whole b hb).1)
    rw [h, ← h2, cval_whole ht ha, cval_whole ht hb] at h1
    injection h1 with h1
    rw [congrFun h1 b]; exact .refl _
  · intro h
    refine h.val (val := fun a => (s.S (f.W a)).cls) ?_ ?_
    · rintro a b ⟨k, hk, rfl, rfl⟩
      exact (hs.eqs k hk).2
    · intro a b ha hb h1 h2 h3
      obtain ⟨w1, w2, _⟩ := ht.whole a ha
      obtain ⟨v1, v2, _⟩ := ht.whole b hb
      refine same_up ht hI hn (t.N a).2 (t.N b).2 _ _ w1 v1 w2 ?_ h2 h3
      rw [v2, h1, h2]; rfl
end
end Euf
end Go.Proofs.Ytlonnhnfmcndfad
