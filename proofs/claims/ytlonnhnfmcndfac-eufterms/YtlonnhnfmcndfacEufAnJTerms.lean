/- What is known while one goes after why, step by step; no statement of the seat is proved here. -/
import Derived.Test.YtlonnhnfmcndfacEufAkJTerms
namespace Go.Proofs.Ytlonnhnfmcndfac
open Go.RowKit
set_option linter.unusedVariables false
namespace Euf
/-- How many ways up were gone. -/
def gone1 (ab : Nat → Option Nat) (i : Nat) : Nat := if (ab i).isSome = true then 1 else 0
def gc (ns : Nat) (ab : Nat → Option Nat) : Nat := total (gone1 ab) ns
theorem gc_le (ab : Nat → Option Nat) : ∀ n, gc n ab ≤ n
  | 0 => Nat.le_refl _
  | n + 1 => by
    have := gc_le ab n
    unfold gc at this ⊢
    rw [total]
    have : gone1 ab n ≤ 1 := by unfold gone1; split <;> omega
    omega
theorem gc_congr {ab ab' : Nat → Option Nat} (h : ∀ k, AbG ab' k ↔ AbG ab k) (n : Nat) : gc n ab' = gc n ab := by
  refine total_congr n (fun i _ => ?_)
  unfold gone1
  have := h i
  unfold AbG at this
  by_cases e : (ab i).isSome = true
  · rw [if_pos e, if_pos (this.2 e)]
  · rw [if_neg e, if_neg (fun h9 => e (this.1 h9))]
theorem gc_mark {ab : Nat → Option Nat} {n i y : Nat} (hi : i < n) (h : ¬ AbG ab i) : gc n (upd ab i (some y)) = gc n ab + 1 := by
  have h1 := total_upd (gone1 ab) i 1 n hi
  have e0 : gone1 ab i = 0 := by unfold gone1; exact if_neg h
  have e : gc n (upd ab i (some y)) = total (upd (gone1 ab) i 1) n := by
    refine total_congr n (fun j _ => ?_)
    by_cases e2 : j = i
    · subst e2; simp [gone1, upd]
    · simp [gone1, upd, e2]
  unfold gc at *
  omega
def mes (ns : Nat) (c : Ac) : Nat := c.wt.length + 2 * (ns - gc ns c.ab)
structure Know (f : Fx) (s : Sx) (c : Ac) (ex : Nat × Nat → Prop) : Prop where
  ab : AbOk s.ns s.S c.ab
  acc : Acc f s.S (AbG c.ab) c.se c.eq
  pairs : ∀ x y, c.se (x, y) = true → x < s.ns ∧ y < s.ns ∧ (∃ r, Anc s.S x r ∧ Anc s.S y r) ∧ ((x, y) ∈ c.wt ∨ Meet s.S (AbG c.ab) x y ∨ ex (x, y))
  wts : ∀ q ∈ c.wt, c.se q = true
  len : c.eq.length ≤ gc s.ns c.ab
section
variable {f : Fx} {s : Sx} {c : Ac} {ex : Nat × Nat → Prop}
theorem up_lt (hI : Inv f.np f.P s.ns s.S s.sg [] []) {A : Nat → Prop} {x r : Nat} (h : Up s.S A x r) : x < s.ns → r < s.ns := by
  induction h with
  | refl => exact id
  | step _ e _ ih =>
    intro hy
    have h9 := hI.upc _ hy (by omega)
    rw [e] at h9
    exact ih (by simpa using h9.2.1)
theorem meet_more (hI : Inv f.np f.P s.ns s.S s.sg [] []) {G : Nat → Prop} {ab : Nat → Option Nat} (h2 : AbOk s.ns s.S ab) (hs : ∀ i, G i → AbG ab i) {x y : Nat} (hx : x < s.ns) (h : Meet s.S G x y) : Meet s.S (AbG ab) x y := by
  obtain ⟨R, r1, r2, r3⟩ := h
  have hR := up_lt hI r1 hx
  obtain ⟨n, hn⟩ := hI.ups R hR
  obtain ⟨R', k0, k1, k2⟩ := h2.first n R hR hn
  exact ⟨R', (r1.mono hs).trans k1, (r2.mono hs).trans k1, k2⟩
/-- Another table of the same ways. -/
theorem Know.table (h : Know f s c ex) {ab : Nat → Option Nat} (h1 : AbOk s.ns s.S ab) (h2 : ∀ k, AbG ab k ↔ AbG c.ab k) : Know f s { c with ab := ab } ex := by
  have e : AbG ab = AbG c.ab := funext fun k => propext (h2 k)
  refine ⟨h1, ?_, ?_, h.wts, by show c.eq.length ≤ gc s.ns ab; rw [gc_congr h2]; exact h.len⟩
  · show Acc f s.S (AbG ab) c.se c.eq
    rw [e]; exact h.acc
  · show ∀ x y, c.se (x, y) = true → x < s.ns ∧ y < s.ns ∧ (∃ r, Anc s.S x r ∧ Anc s.S y r) ∧ ((x, y) ∈ c.wt ∨ Meet s.S (AbG ab) x y ∨ ex (x, y))
    rw [e]; exact h.pairs
theorem askC_asked (c : Ac) (a b : Nat) : Asked (askC c a b).se a b := by
  unfold askC
  split
  · rename_i h
    rcases h with h | h
    · exact Or.inr h
    · exact Or.inl h
  · exact Or.inr (by simp)
theorem askC_mono (c : Ac) (a b : Nat) : (∀ q, c.se q = true → (askC c a b).se q = true) ∧ (∀ q ∈ c.wt, q ∈ (askC c a b).wt) ∧ (askC c a b).ab = c.ab ∧ (askC c a b).eq = c.eq ∧ (askC c a b).wt.length ≤ c.wt.length + 1 := by
  unfold askC
  split
  · exact ⟨fun _ h => h, fun _ h => h, rfl, rfl, by omega⟩
  · exact ⟨fun q h => by simp [h], fun q h => by simp [h], rfl, rfl, by simp⟩
theorem askC_new (c : Ac) (a b : Nat) {q : Nat × Nat} (h : (askC c a b).se q = true) : c.se q = true ∨ (q = (min a b, max a b) ∧ q ∈ (askC c a b).wt) := by
  unfold askC at h ⊢
  split at h
  · exact Or.inl h
  · rename_i hn
    rw [if_neg hn]
    simp at h
    rcases h with h | h
    · exact Or.inr ⟨h, by simp [h]⟩
    · exact Or.inl h
theorem askC_wts (c : Ac) (a b : Nat) (h : ∀ q ∈ c.wt, c.se q = true) : ∀ q ∈ (askC c a b).wt, (askC c a b).se q = true := by
  unfold askC
  split
  · exact h
  · intro q hq
    simp at hq ⊢
    rcases hq with hq | hq
    · exact Or.inr (h q hq)
    · exact Or.inl hq
theorem Asked.mono {se se' : Nat × Nat → Bool} (hs : ∀ q, se q = true → se' q = true) {x y : Nat} (h : Asked se x y) : Asked se' x y := h.imp id (hs _)
/-- More is asked for. -/
theorem Know.ask (h : Know f s c ex) {a b : Nat} (ha : a < s.ns) (hb : b < s.ns) (hr : ∃ r, Anc s.S a r ∧ Anc s.S b r) : Know f s (askC c a b) ex := by
  obtain ⟨m1, m2, m3, m4, m5⟩ := askC_mono c a b
  refine ⟨by rw [m3]; exact h.ab, ⟨?_, ?_, ?_, ?_⟩, fun x y hxy => ?_, askC_wts c a b h.wts, by rw [m3, m4]; exact h.len⟩
  · rw [m3, m4]; exact h.acc.eqs
  · rw [m3, m4]; exact h.acc.mem
  · rw [m4]; exact h.acc.nodup
  · rw [m3]; exact fun i hi hw => ⟨(h.acc.made i hi hw).1.mono m1, (h.acc.made i hi hw).2.mono m1⟩
  · rw [m3]
    rcases askC_new c a b hxy with h9 | ⟨h9, h8⟩
    · obtain ⟨k1, k2, k3, k4⟩ := h.pairs x y h9
      exact ⟨k1, k2, k3, k4.imp (m2 _) id⟩
    · injection h9 with e1 e2
      obtain ⟨r, r1, r2⟩ := hr
      refine ⟨by omega, by omega, ⟨r, ?_⟩, Or.inl h8⟩
      rcases Nat.le_total a b with g | g
      · rw [e1, e2, Nat.min_eq_left g, Nat.max_eq_right g]; exact ⟨r1, r2⟩
      · rw [e1, e2, Nat.min_eq_right g, Nat.max_eq_left g]; exact ⟨r2, r1⟩
/-- A way up is gone: what it says is asked for, or written down. -/
theorem Know.mark (h : Know f s c ex) (hI : Inv f.np f.P s.ns s.S s.sg [] []) {m : Nat} {H : List Claim} (hH : Hist f m s.ns s.S [] H) {R y : Nat} (hR : R < s.ns) (hy : y < s.ns) (hu : (s.S R).up = (y : Int)) (hG : ¬ AbG c.ab R)
    {c2 : Ac} (h2 : (∀ q, c.se q = true → c2.se q = true) ∧ (∀ q ∈ c.wt, q ∈ c2.wt) ∧ c2.ab = c.ab ∧ (∀ q, c2.se q = true → c.se q = true ∨ (q.1 < s.ns ∧ q.2 < s.ns ∧ (∃ r, Anc s.S q.1 r ∧ Anc s.S q.2 r) ∧ q ∈ c2.wt)) ∧ (∀ q ∈ c2.wt, c2.se q = true))
    (h3 : ((s.S R).why = -1 ∧ c2.eq = c.eq ∧ Asked c2.se (f.P R).front.toNat (f.P y).front.toNat ∧ Asked c2.se (f.P R).arg.toNat (f.P y).arg.toNat) ∨ ((s.S R).why ≠ -1 ∧ c2.eq = c.eq ++ [(s.S R).why])) :
    Know f s { c2 with ab := upd c2.ab R (some y) } ex := by
  obtain ⟨m1, m2, m3, m4, m5⟩ := h2
  have hab : AbOk s.ns s.S (upd c2.ab R (some y)) := by rw [m3]; exact h.ab.mark hR hy hu
  have gm : ∀ k, AbG (upd c2.ab R (some y)) k ↔ k = R ∨ AbG c.ab k := fun k => by rw [m3]; exact abG_upd c.ab R y k
  have upT : (s.S R).up.toNat = y := by rw [hu]; simp
  have memq : ∀ z, z ∈ c2.eq ↔ z ∈ c.eq ∨ ((s.S R).why ≠ -1 ∧ z = (s.S R).why) := by
    intro z
    rcases h3 with ⟨e1, e2, _⟩ | ⟨e1, e2⟩
    · rw [e2]; simp [e1]
    · rw [e2]; simp [e1]
  refine ⟨hab, ⟨fun i hi hw => ?_, fun z hz => ?_, ?_, fun i hi hw => ?_⟩, fun x z hxz => ?_, m5, ?_⟩
  · show _ ∈ c2.eq
    rw [memq]
    rcases (gm i).1 hi with rfl | h9
    · exact Or.inr ⟨hw, rfl⟩
    · exact Or.inl (h.acc.eqs i h9 hw)
  · replace hz : z ∈ c2.eq := hz
    rw [memq] at hz
    rcases hz with hz | ⟨h9, rfl⟩
    · obtain ⟨i, k1, k2, k3⟩ := h.acc.mem z hz
      exact ⟨i, (gm i).2 (Or.inr k1), k2, k3⟩
    · exact ⟨R, (gm R).2 (Or.inl rfl), rfl, h9⟩
  · show c2.eq.Nodup
    rcases h3 with ⟨e1, e2, _⟩ | ⟨e1, e2⟩
    · rw [e2]; exact h.acc.nodup
    · rw [e2, List.nodup_append]
      refine ⟨h.acc.nodup, by simp, fun u hu' v hv e => ?_⟩
      simp at hv
      subst hv
      obtain ⟨i, k1, k2, k3⟩ := h.acc.mem u hu'
      obtain ⟨j, hj⟩ := Option.isSome_iff_exists.1 k1
      obtain ⟨i1, _, yi, i2, i3, _⟩ := h.ab.up i j hj
      have := why_inj hH hI.ups i1 hR i3 hy i2 hu (by rw [k2]; exact k3) (by rw [k2, e])
      subst this
      exact hG k1
  · rcases (gm i).1 hi with rfl | h9
    · rcases h3 with ⟨e1, e2, e3, e4⟩ | ⟨e1, _⟩
      · rw [upT]; exact ⟨e3, e4⟩
      · exact absurd hw e1
    · exact ⟨(h.acc.made i h9 hw).1.mono m1, (h.acc.made i h9 hw).2.mono m1⟩
  · rcases m4 (x, z) hxz with h9 | ⟨k1, k2, k3, k4⟩
    · obtain ⟨k1, k2, k3, k4⟩ := h.pairs x z h9
      refine ⟨k1, k2, k3, ?_⟩
      rcases k4 with k4 | k4 | k4
      · exact Or.inl (m2 _ k4)
      · exact Or.inr (Or.inl (meet_more hI hab (fun i hi => (gm i).2 (Or.inr hi)) k1 k4))
      · exact Or.inr (Or.inr k4)
    · exact ⟨k1, k2, k3, Or.inl k4⟩
  · show c2.eq.length ≤ gc s.ns (upd c2.ab R (some y))
    rw [m3, gc_mark hR hG]
    have := h.len
    rcases h3 with ⟨_, e2, _⟩ | ⟨_, e2⟩
    · rw [e2]; omega
    · rw [e2, List.length_append, List.length_singleton]; omega
/-- What two asks make. -/
theorem two_asks (c : Ac) {ns : Nat} {S : Nat → Spot} (hw : ∀ q ∈ c.wt, c.se q = true) {a b a' b' : Nat} (ha : a < ns) (hb : b < ns) (hr : ∃ r, Anc S a r ∧ Anc S b r) (ha' : a' < ns) (hb' : b' < ns) (hr' : ∃ r, Anc S a' r ∧ Anc S b' r) :
    ((∀ q, c.se q = true → (askC (askC c a b) a' b').se q = true) ∧ (∀ q ∈ c.wt, q ∈ (askC (askC c a b) a' b').wt) ∧ (askC (askC c a b) a' b').ab = c.ab ∧ (∀ q, (askC (askC c a b) a' b').se q = true → c.se q = true ∨ (q.1 < ns ∧ q.2 < ns ∧ (∃ r, Anc S q.1 r ∧ Anc S q.2 r) ∧ q ∈ (askC (askC c a b) a' b').wt)) ∧ (∀ q ∈ (askC (askC c a b) a' b').wt, (askC (askC c a b) a' b').se q = true)) ∧
    (askC (askC c a b) a' b').eq = c.eq ∧ Asked (askC (askC c a b) a' b').se a b ∧ Asked (askC (askC c a b) a' b').se a' b' ∧ (askC (askC c a b) a' b').wt.length ≤ c.wt.length + 2 := by
  obtain ⟨m1, m2, m3, m4, m5⟩ := askC_mono c a b
  obtain ⟨n1, n2, n3, n4, n5⟩ := askC_mono (askC c a b) a' b'
  have one : ∀ {a b : Nat} {q : Nat × Nat}, a < ns → b < ns → (∃ r, Anc S a r ∧ Anc S b r) → q = (min a b, max a b) → q.1 < ns ∧ q.2 < ns ∧ ∃ r, Anc S q.1 r ∧ Anc S q.2 r := by
    intro a b q ha hb hr e
    obtain ⟨r, r1, r2⟩ := hr
    subst e
    refine ⟨by show min a b < ns; omega, by show max a b < ns; omega, r, ?_⟩
    show Anc S (min a b) r ∧ Anc S (max a b) r
    rcases Nat.le_total a b with g | g
    · rw [Nat.min_eq_left g, Nat.max_eq_right g]; exact ⟨r1, r2⟩
    · rw [Nat.min_eq_right g, Nat.max_eq_left g]; exact ⟨r2, r1⟩
  refine ⟨⟨fun q h => n1 q (m1 q h), fun q h => n2 q (m2 q h), n3.trans m3, fun q h => ?_, askC_wts _ _ _ (askC_wts _ _ _ hw)⟩, n4.trans m4, (askC_asked c a b).mono n1, askC_asked _ _ _, by omega⟩
  rcases askC_new _ _ _ h with h9 | ⟨h9, h8⟩
  · rcases askC_new _ _ _ h9 with h7 | ⟨h7, h6⟩
    · exact Or.inl h7
    · obtain ⟨k1, k2, k3⟩ := one ha hb hr h7
      exact Or.inr ⟨k1, k2, k3, n2 _ h6⟩
  · obtain ⟨k1, k2, k3⟩ := one ha' hb' hr' h9
    exact Or.inr ⟨k1, k2, k3, h8⟩
/-- When nothing waits the equations suffice. -/
theorem Know.done (h : Know f s c (fun _ => False)) (hI : Inv f.np f.P s.ns s.S s.sg [] []) (hns : s.ns ≤ f.np) {m : Nat} {H : List Claim} (hH : Hist f m s.ns s.S [] H) (hw : c.wt = []) : Gone f s.S (AbG c.ab) c.eq ∧ ∀ x y, x < s.ns → Asked c.se x y → Meet s.S (AbG c.ab) x y := by
  have key : ∀ x y, x < s.ns → Asked c.se x y → Meet s.S (AbG c.ab) x y := by
    intro x y hx ha
    rcases ha with rfl | ha
    · obtain ⟨n, hn⟩ := hI.ups x hx
      obtain ⟨R, _, k1, k2⟩ := h.ab.first n x hx hn
      exact ⟨R, k1, k1, k2⟩
    · obtain ⟨k1, k2, k3, k4⟩ := h.pairs _ _ ha
      rcases k4 with k4 | k4 | k4
      · rw [hw] at k4; cases k4
      · rcases Nat.le_total x y with g | g
        · rw [Nat.min_eq_left g, Nat.max_eq_right g] at k4; exact k4
        · rw [Nat.min_eq_right g, Nat.max_eq_left g] at k4; exact k4.symm
      · exact k4.elim
  refine ⟨⟨h.acc.eqs, fun i hi hwh => ?_⟩, key⟩
  obtain ⟨j, hj⟩ := Option.isSome_iff_exists.1 hi
  obtain ⟨i1, _, y, i2, i3, _⟩ := h.ab.up i j hj
  obtain ⟨q1, q2⟩ := h.acc.made i hi hwh
  obtain ⟨e1, e2, _⟩ := edge_made hH i1 i3 i2 hwh
  have fi := hI.frontLt i1 e1
  exact ⟨key _ _ fi.1 q1, key _ _ fi.2 q2⟩
end
end Euf
end Go.Proofs.Ytlonnhnfmcndfac
