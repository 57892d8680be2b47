/- Going after why two parts are the same: the ways up, where they meet, what was gone; no statement of the seat is proved here. -/
import Derived.Test.YtlonnhnfmcndfacEufExJTrue
namespace Go.Proofs.Ytlonnhnfmcndfac
open Go.RowKit
set_option linter.unusedVariables false
namespace Euf
/-- The parts whose way up was gone. -/
def AbG (ab : Nat → Option Nat) (i : Nat) : Prop := (ab i).isSome = true
structure AbOk (ns : Nat) (S : Nat → Spot) (ab : Nat → Option Nat) : Prop where
  up : ∀ i j, ab i = some j → i < ns ∧ j < ns ∧ ∃ y : Nat, (S i).up = (y : Int) ∧ y < ns ∧ Up S (AbG ab) y j
section
variable {ns : Nat} {S : Nat → Spot} {ab : Nat → Option Nat}
theorem AbOk.start (ns : Nat) (S : Nat → Spot) : AbOk ns S (fun _ => none) := ⟨fun i j h => by cases h⟩
theorem AbOk.path (h : AbOk ns S ab) {i j : Nat} (hij : ab i = some j) : Up S (AbG ab) i j := by
  obtain ⟨_, _, y, h1, _, h2⟩ := h.up i j hij
  exact .step (by unfold AbG; rw [hij]; rfl) h1 h2
theorem abG_upd (ab : Nat → Option Nat) (i j k : Nat) : AbG (upd ab i (some j)) k ↔ k = i ∨ AbG ab k := by
  unfold AbG
  by_cases e : k = i
  · subst e; simp [upd]
  · simp [upd, e]
/-- A part is set higher. -/
theorem AbOk.higher (h : AbOk ns S ab) {i j k : Nat} (h1 : ab i = some j) (h2 : ab j = some k) : AbOk ns S (upd ab i (some k)) ∧ ∀ x, AbG (upd ab i (some k)) x ↔ AbG ab x := by
  have hG : ∀ x, AbG (upd ab i (some k)) x ↔ AbG ab x := fun x => by
    rw [abG_upd]
    constructor
    · rintro (rfl | h9)
      · unfold AbG; rw [h1]; rfl
      · exact h9
    · exact Or.inr
  refine ⟨⟨fun x y hxy => ?_⟩, hG⟩
  have mono : ∀ {a b : Nat}, Up S (AbG ab) a b → Up S (AbG (upd ab i (some k))) a b := fun hu => hu.mono (fun x hx => (hG x).2 hx)
  by_cases e : x = i
  · subst e
    rw [upd_same] at hxy
    injection hxy with hxy
    subst hxy
    obtain ⟨a1, a2, y, a3, a4, a5⟩ := h.up _ _ h1
    obtain ⟨b1, b2, _⟩ := h.up _ _ h2
    exact ⟨a1, b2, y, a3, a4, mono (a5.trans (h.path h2))⟩
  · rw [upd_other _ _ e] at hxy
    obtain ⟨a1, a2, z, a3, a4, a5⟩ := h.up _ _ hxy
    exact ⟨a1, a2, z, a3, a4, mono a5⟩
/-- A part's way up is gone now. -/
theorem AbOk.mark (h : AbOk ns S ab) {i y : Nat} (hi : i < ns) (hy : y < ns) (hu : (S i).up = (y : Int)) : AbOk ns S (upd ab i (some y)) := by
  refine ⟨fun x z hxz => ?_⟩
  by_cases e : x = i
  · subst e
    rw [upd_same] at hxz
    injection hxz with hxz
    subst hxz
    exact ⟨hi, hy, y, hu, hy, .refl _⟩
  · rw [upd_other _ _ e] at hxz
    obtain ⟨a1, a2, q, a3, a4, a5⟩ := h.up _ _ hxz
    exact ⟨a1, a2, q, a3, a4, a5.mono (fun k hk => (abG_upd ab i y k).2 (Or.inr hk))⟩
theorem AbOk.first (h : AbOk ns S ab) : ∀ (n i : Nat), i < ns → Ups S (i : Int) n → ∃ R, R < ns ∧ Up S (AbG ab) i R ∧ ¬ AbG ab R
  | 0, i, _, hu => by obtain ⟨m, h1, _⟩ := hu.nat; omega
  | n + 1, i, hi, hu => by
    cases hab : ab i with
    | none => exact ⟨i, hi, .refl _, by unfold AbG; rw [hab]; simp⟩
    | some j =>
      obtain ⟨_, hj, y, h1, h2, h3⟩ := h.up i j hab
      obtain ⟨m, e, hm⟩ := hu.nat
      rw [h1] at hm
      obtain rfl : m = n := by omega
      obtain ⟨R, r1, r2, r3⟩ := h.first m y h2 hm
      exact ⟨R, r1, .step (by unfold AbG; rw [hab]; rfl) h1 r2, r3⟩
/-- What lies above. -/
abbrev Anc (S : Nat → Spot) (x r : Nat) : Prop := Up S (fun _ => True) x r
theorem Up.anc {A : Nat → Prop} {x r : Nat} (h : Up S A x r) : Anc S x r := h.mono (fun _ _ => trivial)
theorem anc_anti {x y : Nat} (hx : ∃ n, Ups S (x : Int) n) (h : Anc S x y) (k : Anc S y x) : x = y := by
  obtain ⟨n, hn⟩ := hx
  obtain ⟨m, hm, h1, h2⟩ := h.short hn
  obtain ⟨m', hm', h3, h4⟩ := k.short hm
  have := hn.one hm'
  exact h2 (by omega)
theorem anc_ups {x r : Nat} (h : Anc S x r) (hx : ∃ n, Ups S (x : Int) n) : ∃ n, Ups S (r : Int) n := by
  obtain ⟨n, hn⟩ := hx
  obtain ⟨m, hm, _⟩ := h.short hn
  exact ⟨m, hm⟩
def Strict (S : Nat → Spot) (i : Nat) (c : Int) : Prop := c = -1 ∨ ∃ k : Nat, c = (k : Int) ∧ Anc S i k ∧ i ≠ k
/-- On the way to where two ways up meet. -/
structure Mt (ns : Nat) (S : Nat → Spot) (G : Nat → Prop) (A B : Nat) (a b : Int) (Ps : Nat → Prop) : Prop where
  ca : a = -1 ∨ ∃ k : Nat, a = (k : Int) ∧ k < ns ∧ Anc S A k ∧ ¬ G k
  cb : b = -1 ∨ ∃ k : Nat, b = (k : Int) ∧ k < ns ∧ Anc S B k ∧ ¬ G k
  sub : ∀ i, Ps i → i < ns ∧ ¬ G i ∧ ((Anc S A i ∧ Strict S i a) ∨ (Anc S B i ∧ Strict S i b))
  covA : ∀ i, ¬ G i → Anc S A i → Strict S i a → Ps i
  covB : ∀ i, ¬ G i → Anc S B i → Strict S i b → Ps i
  dis : ∀ i, ¬ G i → Anc S A i → Strict S i a → Anc S B i → Strict S i b → False
variable {G : Nat → Prop} {A B : Nat} {a b : Int} {Ps : Nat → Prop}
theorem Mt.swap (h : Mt ns S G A B a b Ps) : Mt ns S G B A b a Ps :=
  ⟨h.cb, h.ca, fun i hi => ⟨(h.sub i hi).1, (h.sub i hi).2.1, (h.sub i hi).2.2.symm⟩, h.covB, h.covA, fun i h1 h2 h3 h4 h5 => h.dis i h1 h4 h5 h2 h3⟩
/-- What 'step' tells. -/
def Next (ns : Nat) (S : Nat → Spot) (G : Nat → Prop) (k : Nat) (a : Int) : Prop := (a = -1 ∧ (S k).up = -1) ∨ ∃ k' y : Nat, a = (k' : Int) ∧ k' < ns ∧ (S k).up = (y : Int) ∧ Up S G y k' ∧ ¬ G k'
theorem Mt.start (hu : ∀ i, i < ns → ∃ n, Ups S (i : Int) n) {ra rb : Nat} (hA : A < ns) (hB : B < ns) (h1 : Up S G A ra) (h2 : ¬ G ra) (h3 : ra < ns) (k1 : Up S G B rb) (k2 : ¬ G rb) (k3 : rb < ns) : Mt ns S G A B (ra : Int) (rb : Int) (fun _ => False) := by
  have no : ∀ {A ra : Nat}, A < ns → Up S G A ra → ¬ G ra → ∀ i, ¬ G i → Anc S A i → Strict S i (ra : Int) → False := by
    intro A ra hA h1 h2 i hi hai hs
    rcases hs with h9 | ⟨k, e, h8, h9⟩
    · omega
    · obtain rfl : k = ra := by omega
      rcases hai.both h1 h2 with ⟨q1, q2⟩ | ⟨q1, q2⟩
      · cases q2 with
        | refl => exact h9 rfl
        | step q3 => exact hi q3
      · exact h9 (anc_anti (anc_ups hai (hu A hA)) h8 q2)
  exact ⟨Or.inr ⟨ra, rfl, h3, h1.anc, h2⟩, Or.inr ⟨rb, rfl, k3, k1.anc, k2⟩, fun i h => h.elim, fun i h4 h5 h6 => no hA h1 h2 i h4 h5 h6, fun i h4 h5 h6 => no hB k1 k2 i h4 h5 h6, fun i h4 h5 h6 _ _ => no hA h1 h2 i h4 h5 h6⟩
theorem Mt.visit (hu : ∀ i, i < ns → ∃ n, Ups S (i : Int) n) (hA : A < ns) {k : Nat} (h : Mt ns S G A B (k : Int) b Ps) (hk : ¬ Ps k) {a' : Int} (hn : Next ns S G k a') : Mt ns S G A B a' b (fun i => i = k ∨ Ps i) := by
  obtain ⟨k0, e0, hkn, hAk, hGk⟩ : ∃ k0 : Nat, (k : Int) = (k0 : Int) ∧ k0 < ns ∧ Anc S A k0 ∧ ¬ G k0 := by
    rcases h.ca with h9 | h9
    · omega
    · exact h9
  obtain rfl : k = k0 := by omega
  have kk' : Strict S k a' := by
    rcases hn with ⟨rfl, _⟩ | ⟨k', y, rfl, h1, h2, h3, h4⟩
    · exact Or.inl rfl
    · refine Or.inr ⟨k', rfl, .step trivial h2 h3.anc, fun e => ?_⟩
      obtain ⟨n, hn⟩ := hu k hkn
      obtain ⟨m, e1, hm⟩ := hn.nat
      rw [h2] at hm
      obtain ⟨q, hq, h5, _⟩ := h3.short hm
      rw [← e] at hq
      have := hn.one hq
      omega
  have up : ∀ i, Strict S i (k : Int) → Strict S i a' := by
    rintro i (h9 | ⟨q, e, h8, h9⟩)
    · omega
    · obtain rfl : k = q := by omega
      rcases kk' with h7 | ⟨k', e', h6, h7⟩
      · exact Or.inl h7
      · refine Or.inr ⟨k', e', h8.trans h6, fun e2 => ?_⟩
        subst e2
        exact h9 (anc_anti (anc_ups h6 (hu k hkn)) h8 h6)
  have key : ∀ i, ¬ G i → Anc S A i → Strict S i a' → i = k ∨ Strict S i (k : Int) := by
    intro i hi hAi hs
    by_cases e : i = k
    · exact Or.inl e
    · right
      rcases hAi.either hAk with h9 | h9
      · -- k below i
        exfalso
        cases h9 with
        | refl => exact e rfl
        | @step _ y _ _ q2 q3 =>
          rcases hn with ⟨rfl, q4⟩ | ⟨k', y', rfl, q4, q5, q6, q7⟩
          · omega
          · obtain rfl : y = y' := by omega
            rcases hs with h8 | ⟨k2, e2, h7, h8⟩
            · omega
            · obtain rfl : k' = k2 := by omega
              rcases q3.both q6 q7 with ⟨p1, p2⟩ | ⟨p1, p2⟩
              · cases p2 with
                | refl => exact h8 rfl
                | step p3 => exact hi p3
              · exact h8 (anc_anti (anc_ups hAi (hu A hA)) h7 p2)
      · exact Or.inr ⟨k, rfl, h9, e⟩
  refine ⟨?_, h.cb, ?_, fun i h1 h2 h3 => (key i h1 h2 h3).imp id (fun h9 => h.covA i h1 h2 h9), fun i h1 h2 h3 => Or.inr (h.covB i h1 h2 h3), fun i h1 h2 h3 h4 h5 => ?_⟩
  · rcases hn with ⟨rfl, _⟩ | ⟨k', y, rfl, h1, h2, h3, h4⟩
    · exact Or.inl rfl
    · exact Or.inr ⟨k', rfl, h1, hAk.trans (.step trivial h2 h3.anc), h4⟩
  · rintro i (rfl | hi)
    · exact ⟨hkn, hGk, Or.inl ⟨hAk, kk'⟩⟩
    · obtain ⟨q1, q2, q3⟩ := h.sub i hi
      exact ⟨q1, q2, q3.imp (fun ⟨p1, p2⟩ => ⟨p1, up i p2⟩) id⟩
  · rcases key i h1 h2 h3 with rfl | h9
    · exact hk (h.covB i h1 h4 h5)
    · exact h.dis i h1 h2 h9 h4 h5
theorem Mt.found {k : Nat} (h : Mt ns S G A B (k : Int) b Ps) (hk : Ps k) : Anc S A k ∧ Anc S B k ∧ ¬ G k ∧ k < ns := by
  obtain ⟨q1, q2, q3⟩ := h.sub k hk
  have hAk : Anc S A k := by
    rcases h.ca with h9 | ⟨k0, e, _, h9, _⟩
    · omega
    · obtain rfl : k = k0 := by omega
      exact h9
  rcases q3 with ⟨_, h9 | ⟨k0, e, _, h9⟩⟩ | ⟨h9, _⟩
  · omega
  · exact absurd (by omega) h9
  · exact ⟨hAk, h9, q2, q1⟩
theorem Mt.more (h : Mt ns S G A B (-1) b Ps) {R : Nat} (h1 : Anc S A R) (h2 : Anc S B R) (h3 : ¬ G R) : b ≠ -1 := fun e => h.dis R h3 h1 (Or.inl rfl) h2 (Or.inl e)
/-- The first part that isn't gone lies below another such one above. -/
theorem first_below {x R M : Nat} (hu : ∃ n, Ups S (x : Int) n) (h : Anc S x M) (hM : ¬ G M) (h1 : Up S G x R) (hR : ¬ G R) : Anc S R M := by
  rcases h.both h1 hR with ⟨q1, q2⟩ | ⟨q1, q2⟩
  · cases q2 with
    | refl => exact .refl _
    | step q3 => exact absurd q3 hM
  · exact q2
end
/-- Two parts were asked for, or are one. -/
def Asked (se : Nat × Nat → Bool) (x y : Nat) : Prop := x = y ∨ se (min x y, max x y) = true
/-- What is known of why. -/
structure Acc (f : Fx) (S : Nat → Spot) (G : Nat → Prop) (se : Nat × Nat → Bool) (eq : List Int) : Prop where
  eqs : ∀ i, G i → (S i).why ≠ -1 → (S i).why ∈ eq
  mem : ∀ z ∈ eq, ∃ i, G i ∧ (S i).why = z ∧ z ≠ -1
  nodup : eq.Nodup
  made : ∀ i, G i → (S i).why = -1 → Asked se (f.P i).front.toNat (f.P (S i).up.toNat).front.toNat ∧ Asked se (f.P i).arg.toNat (f.P (S i).up.toNat).arg.toNat
section
variable {f : Fx} {m ns : Nat} {S : Nat → Spot} {H : List Claim}
theorem two_same {c : Claim} {i y j z : Nat} (h1 : Two c i y) (h2 : Two c j z) : (i = j ∧ y = z) ∨ (i = z ∧ y = j) := by
  rcases h1 with ⟨a1, a2⟩ | ⟨a1, a2⟩ <;> rcases h2 with ⟨b1, b2⟩ | ⟨b1, b2⟩
  · exact Or.inl ⟨by omega, by omega⟩
  · exact Or.inr ⟨by omega, by omega⟩
  · exact Or.inr ⟨by omega, by omega⟩
  · exact Or.inl ⟨by omega, by omega⟩
theorem labs_inj : ∀ {H : List Claim}, (labs H).Nodup → ∀ c ∈ H, ∀ d ∈ H, c.why ≠ -1 → c.why = d.why → c = d
  | [], _, c, hc, _, _, _, _ => by cases hc
  | e :: H, hn, c, hc, d, hd, hw, hcd => by
    have el : labs (e :: H) = labs [e] ++ labs H := labs_append [e] H
    rw [el] at hn
    have hin : ∀ {c : Claim}, c ∈ H → c.why ≠ -1 → c.why ∈ labs H := fun {c} hc hw => by
      unfold labs
      rw [List.mem_filter]
      exact ⟨List.mem_map.2 ⟨c, hc, rfl⟩, by simpa using hw⟩
    have hone : ∀ {c : Claim}, c.why ≠ -1 → labs [c] = [c.why] := fun {c} hw => by simp [labs, hw]
    rcases List.mem_cons.1 hc with rfl | hc'
    · rcases List.mem_cons.1 hd with rfl | hd'
      · rfl
      · rw [hone hw] at hn
        exact absurd (hcd ▸ hin hd' (hcd ▸ hw)) (List.nodup_cons.1 hn).1
    · rcases List.mem_cons.1 hd with rfl | hd'
      · rw [hone (hcd ▸ hw)] at hn
        exact absurd (hcd ▸ hin hc' hw) (List.nodup_cons.1 hn).1
      · have hn' : (labs H).Nodup := (List.nodup_append.1 hn).2.1
        exact labs_inj hn' c hc' d hd' hw hcd
/-- An equation leads to one edge alone. -/
theorem why_inj (hs : Hist f m ns S [] H) (hu : ∀ i, i < ns → ∃ n, Ups S (i : Int) n) {i j y z : Nat} (hi : i < ns) (hj : j < ns) (hy : y < ns) (hz : z < ns) (h1 : (S i).up = (y : Int)) (h2 : (S j).up = (z : Int)) (hw : (S i).why ≠ -1) (he : (S i).why = (S j).why) : i = j := by
  obtain ⟨c, hc, t1, w1⟩ := (hs.edge i y _ hi hy).1 (Or.inl ⟨h1, rfl⟩)
  obtain ⟨d, hd, t2, w2⟩ := (hs.edge j z _ hj hz).1 (Or.inl ⟨h2, rfl⟩)
  have hl : (labs H).Nodup := hs.lab
  have := labs_inj hl c hc d hd (by rw [w1]; exact hw) (by rw [w1, w2, he])
  subst this
  rcases two_same t1 t2 with ⟨e1, _⟩ | ⟨e1, e2⟩
  · exact e1
  · subst e1 e2
    obtain ⟨n, hn⟩ := hu i hi
    obtain ⟨n', a1, a2⟩ := hn.nat
    rw [h1] at a2
    obtain ⟨n'', b1, b2⟩ := a2.nat
    rw [h2] at b2
    have := hn.one b2
    omega
/-- The edge of two parts that are made of the same. -/
theorem edge_made (hs : Hist f m ns S [] H) {i y : Nat} (hi : i < ns) (hy : y < ns) (h1 : (S i).up = (y : Int)) (hw : (S i).why = -1) :
    Made f.P i ∧ Made f.P y ∧ (∃ r, Anc S (f.P i).front.toNat r ∧ Anc S (f.P y).front.toNat r) ∧ ∃ r, Anc S (f.P i).arg.toNat r ∧ Anc S (f.P y).arg.toNat r := by
  obtain ⟨c, hc, t1, w1⟩ := (hs.edge i y _ hi hy).1 (Or.inl ⟨h1, rfl⟩)
  have key : ∀ (K : List Claim), HOk f m K → c ∈ K → ∃ K', (∀ d ∈ K', d ∈ K) ∧ ClaimOk f m K' c := by
    intro K
    induction K with
    | nil => intro _ h; cases h
    | cons d K ih =>
      intro hok hin
      rcases List.mem_cons.1 hin with rfl | hin
      · exact ⟨K, fun d hd => List.mem_cons_of_mem _ hd, hok.1⟩
      · obtain ⟨K', k1, k2⟩ := ih hok.2 hin
        exact ⟨K', fun d hd => List.mem_cons_of_mem _ (k1 d hd), k2⟩
  obtain ⟨K', k1, k2⟩ := key H hs.ok hc
  have com : ∀ {x z : Nat}, Conn K' x z → ∃ r, Anc S x r ∧ Anc S z r := fun h => by
    obtain ⟨r, r1, r2⟩ := h.up hs k1
    exact ⟨r, r1.anc, r2.anc⟩
  rcases k2 with ⟨_, q1, q2, q3, q4⟩ | ⟨k, _, q1, _⟩
  · rcases t1 with ⟨rfl, rfl⟩ | ⟨rfl, rfl⟩
    · exact ⟨q1, q2, com q3, com q4⟩
    · exact ⟨q2, q1, com q3.symm, com q4.symm⟩
  · rw [w1, hw] at q1; omega
end
end Euf
end Go.Proofs.Ytlonnhnfmcndfac
