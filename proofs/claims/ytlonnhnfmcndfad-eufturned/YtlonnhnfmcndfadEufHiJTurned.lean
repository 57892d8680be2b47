/- Why parts are the same: the trees' edges, in the order in which they were made; no statement of the seat is proved here. -/
import Derived.Test.YtlonnhnfmcndfadJoin3Turned
namespace Go.Proofs.Ytlonnhnfmcndfad
open Go.RowKit
set_option linter.unusedVariables false
namespace Euf
/-- An edge of the trees, either way. -/
def Edge (S : Nat → Spot) (x z : Nat) (w : Int) : Prop := ((S x).up = (z : Int) ∧ (S x).why = w) ∨ ((S z).up = (x : Int) ∧ (S z).why = w)
theorem hang_edge : ∀ (n : Nat) (S : Nat → Spot) (a : Int) (u : Nat) (y : Int), Ups S a n → ∀ (x z : Nat) (w : Int), Edge (hang n S a u y) x z w ↔ Edge S x z w ∨ (((x : Int) = a ∧ z = u ∨ x = u ∧ (z : Int) = a) ∧ w = y)
  | 0, S, a, u, y, ha, x, z, w => by
    rcases ha.int with ⟨rfl, _⟩ | ⟨k, m, _, h, _⟩
    · constructor
      · exact Or.inl
      · rintro (h | ⟨(⟨h, _⟩ | ⟨_, h⟩), _⟩)
        · exact h
        · omega
        · omega
    · omega
  | n + 1, S, a, u, y, ha, x, z, w => by
    rcases ha.int with ⟨_, h⟩ | ⟨k, m, rfl, h2, h3⟩
    · omega
    have ih := hang_edge n (upd S k { S k with up := u, why := y }) (S k).up k (S k).why (ups_step ha u y) x z w
    have hh : hang (n + 1) S (k : Int) u y = hang n (upd S k { S k with up := u, why := y }) (S k).up (k : Int) (S k).why := rfl
    rw [hh, ih]
    have D : ∀ (x z : Nat), ((upd S k { S k with up := (u : Int), why := y } x).up = (z : Int) ∧ (upd S k { S k with up := (u : Int), why := y } x).why = w) ↔ (x = k ∧ z = u ∧ w = y) ∨ (x ≠ k ∧ (S x).up = (z : Int) ∧ (S x).why = w) := by
      intro x z
      by_cases e : x = k
      · subst e; rw [upd_same]
        simp only [true_and, ne_eq, not_true_eq_false, false_and, or_false]
        constructor
        · rintro ⟨h4, h5⟩; exact ⟨by omega, h5.symm⟩
        · rintro ⟨h4, h5⟩; exact ⟨by rw [h4], h5.symm⟩
      · rw [upd_other _ _ e]
        simp [e]
    unfold Edge
    rw [D x z, D z x]
    constructor
    · rintro (((⟨rfl, rfl, rfl⟩ | ⟨_, h4, h5⟩) | (⟨rfl, rfl, rfl⟩ | ⟨_, h4, h5⟩)) | ⟨(⟨h4, rfl⟩ | ⟨rfl, h4⟩), rfl⟩)
      · exact Or.inr ⟨Or.inl ⟨rfl, rfl⟩, rfl⟩
      · exact Or.inl (Or.inl ⟨h4, h5⟩)
      · exact Or.inr ⟨Or.inr ⟨rfl, rfl⟩, rfl⟩
      · exact Or.inl (Or.inr ⟨h4, h5⟩)
      · exact Or.inl (Or.inr ⟨h4.symm, rfl⟩)
      · exact Or.inl (Or.inl ⟨h4.symm, rfl⟩)
    · rintro ((⟨h4, h5⟩ | ⟨h4, h5⟩) | ⟨(⟨h4, rfl⟩ | ⟨rfl, h4⟩), rfl⟩)
      · by_cases e : x = k
        · subst e; exact Or.inr ⟨Or.inr ⟨rfl, h4.symm⟩, h5.symm⟩
        · exact Or.inl (Or.inl (Or.inr ⟨e, h4, h5⟩))
      · by_cases e : z = k
        · subst e; exact Or.inr ⟨Or.inl ⟨h4.symm, rfl⟩, h5.symm⟩
        · exact Or.inl (Or.inr (Or.inr ⟨e, h4, h5⟩))
      · exact Or.inl (Or.inl (Or.inl ⟨by omega, rfl, rfl⟩))
      · exact Or.inl (Or.inr (Or.inl ⟨by omega, rfl, rfl⟩))
/-- The two of a claim. -/
def Two (c : Claim) (x z : Nat) : Prop := (c.a = x ∧ c.b = z) ∨ (c.a = z ∧ c.b = x)
theorem Two.symm {c : Claim} {x z : Nat} (h : Two c x z) : Two c z x := h.elim Or.inr Or.inl
/-- Led from one part to another by claims. -/
inductive Conn (H : List Claim) : Nat → Nat → Prop
  | refl (x : Nat) : Conn H x x
  | step {x y z : Nat} {c : Claim} : c ∈ H → Two c x y → Conn H y z → Conn H x z
theorem Conn.trans {H : List Claim} {x y z : Nat} (h : Conn H x y) (k : Conn H y z) : Conn H x z := by
  induction h with
  | refl => exact k
  | step h1 h2 _ ih => exact .step h1 h2 (ih k)
theorem Conn.symm {H : List Claim} {x y : Nat} (h : Conn H x y) : Conn H y x := by
  induction h with
  | refl => exact .refl _
  | step h1 h2 _ ih => exact ih.trans (.step h1 h2.symm (.refl _))
theorem Conn.mono {H H' : List Claim} (hs : ∀ c ∈ H, c ∈ H') {x y : Nat} (h : Conn H x y) : Conn H' x y := by
  induction h with
  | refl => exact .refl _
  | step h1 h2 _ ih => exact .step (hs _ h1) h2 ih
/-- What a claim rests on: an equation, or what its two are made of. -/
def ClaimOk (f : Fx) (m : Nat) (H : List Claim) (c : Claim) : Prop :=
  (c.why = -1 ∧ Made f.P c.a ∧ Made f.P c.b ∧ Conn H (f.P c.a).front.toNat (f.P c.b).front.toNat ∧ Conn H (f.P c.a).arg.toNat (f.P c.b).arg.toNat) ∨
  ∃ k : Nat, k < m ∧ c.why = (k : Int) ∧ c.a = f.W (f.E k).1 ∧ c.b = f.W (f.E k).2.1
theorem ClaimOk.mono {f : Fx} {m : Nat} {H H' : List Claim} {c : Claim} (hs : ∀ c ∈ H, c ∈ H') (h : ClaimOk f m H c) : ClaimOk f m H' c :=
  h.imp (fun ⟨h1, h2, h3, h4, h5⟩ => ⟨h1, h2, h3, h4.mono hs, h5.mono hs⟩) id
theorem ClaimOk.more {f : Fx} {m m' : Nat} {H : List Claim} {c : Claim} (hm : m ≤ m') (h : ClaimOk f m H c) : ClaimOk f m' H c :=
  h.imp id (fun ⟨k, h1, h2⟩ => ⟨k, by omega, h2⟩)
/-- All claims that were made, the newest first: each rests on the elder ones. -/
def HOk (f : Fx) (m : Nat) : List Claim → Prop
  | [] => True
  | c :: H => ClaimOk f m H c ∧ HOk f m H
theorem HOk.more {f : Fx} {m m' : Nat} (hm : m ≤ m') : ∀ {H : List Claim}, HOk f m H → HOk f m' H
  | [], _ => trivial
  | _ :: _, h => ⟨h.1.more hm, h.2.more hm⟩
def labs (H : List Claim) : List Int := (H.map (·.why)).filter (fun z => decide (z ≠ -1))
theorem labs_append (H K : List Claim) : labs (H ++ K) = labs H ++ labs K := by simp [labs]
theorem labs_free {c : Claim} (h : c.why = -1) : labs [c] = [] := by simp [labs, h]
structure Hist (f : Fx) (m ns : Nat) (S : Nat → Spot) (cl H : List Claim) : Prop where
  edge : ∀ x z w, x < ns → z < ns → (Edge S x z w ↔ ∃ c ∈ H, Two c x z ∧ c.why = w)
  conn : ∀ i j, i < ns → j < ns → (S i).cls = (S j).cls → Conn H i j
  ok : HOk f m H
  lt : ∀ c ∈ H, c.a < ns ∧ c.b < ns
  clm : ∀ c ∈ cl, ClaimOk f m H c
  lab : (labs (cl ++ H)).Nodup
section
variable {np m ns : Nat} {f : Fx} {S : Nat → Spot} {sg : Nat × Nat → Option Nat} {cl H : List Claim} {out : List Nat}
theorem Hist.enrol (h : Hist f m ns S cl H) (hI : Inv np f.P ns S sg cl out) {i : Nat} (hi : i < ns) (hm : Made f.P i) : Hist f m ns S (enrolS f.P S sg cl i).2 H := by
  unfold enrolS
  cases hq : sg (sig f.P S i) with
  | none => exact h
  | some q =>
    simp only []
    obtain ⟨h1, h2, h3⟩ := hI.sg1 _ _ hq
    simp only [sig, Prod.mk.injEq] at h3
    have fi := hI.frontLt hi hm
    have fq := hI.frontLt h1 h2
    refine { h with clm := fun c hc => ?_, lab := ?_ }
    · simp at hc
      rcases hc with hc | rfl
      · exact h.clm c hc
      · exact Or.inl ⟨rfl, hm, h2, h.conn _ _ fi.1 fq.1 h3.1.symm, h.conn _ _ fi.2 fq.2 h3.2.symm⟩
    · have := h.lab
      rw [labs_append] at this
      rw [labs_append, labs_append, labs_free rfl, List.append_nil]
      exact this
theorem Hist.enrolAll : ∀ (l : List Nat) (x : (Nat × Nat → Option Nat) × List Claim), Hist f m ns S x.2 H → Inv np f.P ns S x.1 x.2 l → (∀ i ∈ l, i < ns ∧ Made f.P i) → Hist f m ns S (Euf.enrolAll f.P S l x).2 H
  | [], x, h, _, _ => h
  | i :: l, x, h, hI, hl => Hist.enrolAll l _ (h.enrol hI (hl i (List.mem_cons_self ..)).1 (hl i (List.mem_cons_self ..)).2) (hI.enrol (hl i (List.mem_cons_self ..)).1 (hl i (List.mem_cons_self ..)).2 l (fun j hj => by
      by_cases e : j = i
      · exact Or.inr e
      · exact Or.inl (by simp [e, hj]))) (fun j hj => hl j (List.mem_cons_of_mem _ hj))
theorem Hist.same {c : Claim} (h : Hist f m ns S (cl ++ [c]) H) : Hist f m ns S cl H := by
  refine { h with clm := fun d hd => h.clm d (by simp [hd]), lab := ?_ }
  have := h.lab
  rw [labs_append, labs_append] at this
  rw [labs_append]
  exact this.sublist (List.Sublist.append (List.sublist_append_left _ _) (List.Sublist.refl _))
theorem Hist.merge {c : Claim} (h : Hist f m ns S (cl ++ [c]) H) (hI : Inv np f.P ns S sg (cl ++ [c]) []) {a b n : Nat} (hab : (a = c.a ∧ b = c.b) ∨ (a = c.b ∧ b = c.a)) (hne : (S a).cls ≠ (S b).cls) (hn : Ups S (a : Int) n) :
    Hist f m ns (mergeS S a b c.why n) (mergeX f.P S sg cl a b c.why n).2 (c :: H) := by
  have hcc := hI.cls c (by simp)
  have ha : a < ns := by rcases hab with ⟨rfl, rfl⟩ | ⟨rfl, rfl⟩ <;> omega
  have hb : b < ns := by rcases hab with ⟨rfl, rfl⟩ | ⟨rfl, rfl⟩ <;> omega
  have htw : Two c a b := by
    rcases hab with ⟨rfl, rfl⟩ | ⟨rfl, rfl⟩
    · exact Or.inl ⟨rfl, rfl⟩
    · exact Or.inr ⟨rfl, rfl⟩
  have sub : ∀ d ∈ H, d ∈ c :: H := fun d hd => List.mem_cons_of_mem _ hd
  refine Hist.enrolAll _ _ ?_ (hI.joined c.why hab hne hn) (hI.usesOk (hI.lt a ha))
  refine { edge := fun x z w hx hz => ?_, conn := fun i j hi hj hij => ?_, ok := ⟨h.clm c (by simp), h.ok⟩, lt := fun d hd => ?_, clm := fun d hd => (h.clm d (by simp [hd])).mono sub, lab := ?_ }
  · have e : Edge (mergeS S a b c.why n) x z w ↔ Edge (hang n S (a : Int) b c.why) x z w := Iff.rfl
    rw [e, hang_edge n S a b c.why hn, h.edge x z w hx hz]
    constructor
    · rintro (⟨d, hd, h1, h2⟩ | ⟨h1, h2⟩)
      · exact ⟨d, sub d hd, h1, h2⟩
      · refine ⟨c, List.mem_cons_self .., ?_, h2.symm⟩
        rcases h1 with ⟨h1, rfl⟩ | ⟨rfl, h1⟩
        · have : x = a := by omega
          subst this; exact htw
        · have : z = a := by omega
          subst this; exact htw.symm
    · rintro ⟨d, hd, h1, h2⟩
      rcases List.mem_cons.1 hd with rfl | hd
      · refine Or.inr ⟨?_, h2.symm⟩
        rcases htw with ⟨t1, t2⟩ | ⟨t1, t2⟩ <;> rcases h1 with ⟨u1, u2⟩ | ⟨u1, u2⟩
        · exact Or.inl ⟨by omega, by omega⟩
        · exact Or.inr ⟨by omega, by omega⟩
        · exact Or.inr ⟨by omega, by omega⟩
        · exact Or.inl ⟨by omega, by omega⟩
      · exact Or.inl ⟨d, hd, h1, h2⟩
  · have ab : Conn (c :: H) a b := .step (List.mem_cons_self ..) htw (.refl _)
    have C := fun i j hi hj e => (h.conn i j hi hj e).mono sub
    simp only [mergeS_cls] at hij
    split at hij
    · rename_i e1
      split at hij
      · rename_i e2
        exact C i j hi hj (e1.trans e2.symm)
      · exact (C i a hi ha e1).trans (ab.trans (C b j hb hj hij))
    · split at hij
      · rename_i e1 e2
        exact (C i b hi hb hij).trans (ab.symm.trans (C a j ha hj e2.symm))
      · exact C i j hi hj hij
  · rcases List.mem_cons.1 hd with rfl | hd
    · exact hcc
    · exact h.lt d hd
  · have := h.lab
    rw [List.append_assoc] at this
    exact this
theorem Hist.place (h : Hist f m ns S cl H) (hI : Inv f.np f.P ns S sg cl []) (hn : ns < f.np) : Hist f m (ns + 1) (placeS f.P S ns) (placeX f.P S sg cl ns).2 H := by
  have O := fun i (hi : i < ns) => placeS_old f.P S (n := ns) (i := i) (by omega)
  have N := placeS_new f.P S ns
  have h1 := hI.placed hn
  have base : Hist f m (ns + 1) (placeS f.P S ns) cl H := by
    refine { h with edge := fun x z w hx hz => ?_, conn := fun i j hi hj hij => ?_, lt := fun c hc => ⟨Nat.lt_succ_of_lt (h.lt c hc).1, Nat.lt_succ_of_lt (h.lt c hc).2⟩ }
    · have noUp : ∀ y, y < ns → (S y).up ≠ (ns : Int) := fun y hy e => by
        have := (hI.upc y hy (by omega)).2.1
        omega
      by_cases e : x = ns
      · subst e
        constructor
        · rintro (⟨h2, _⟩ | ⟨h2, _⟩)
          · rw [N.2.2.1] at h2; omega
          · exfalso
            by_cases e2 : z = x
            · subst e2; rw [N.2.2.1] at h2; omega
            · rw [(O z (by omega)).2.2.1] at h2
              exact noUp z (by omega) h2
        · rintro ⟨c, hc, h2, _⟩
          have := h.lt c hc
          rcases h2 with ⟨h2, _⟩ | ⟨_, h2⟩ <;> omega
      · by_cases e2 : z = ns
        · subst e2
          constructor
          · rintro (⟨h2, _⟩ | ⟨h2, _⟩)
            · exfalso
              rw [(O x (by omega)).2.2.1] at h2
              exact noUp x (by omega) h2
            · rw [N.2.2.1] at h2; omega
          · rintro ⟨c, hc, h2, _⟩
            have := h.lt c hc
            rcases h2 with ⟨_, h2⟩ | ⟨h2, _⟩ <;> omega
        · have := h.edge x z w (by omega) (by omega)
          unfold Edge at this ⊢
          rw [(O x (by omega)).2.2.1, (O x (by omega)).2.2.2.1, (O z (by omega)).2.2.1, (O z (by omega)).2.2.2.1]
          exact this
    · by_cases e : i = ns
      · subst e
        by_cases e2 : j = i
        · subst e2; exact .refl _
        · rw [N.1, (O j (by omega)).1] at hij
          have := hI.lt j (by omega); omega
      · by_cases e2 : j = ns
        · subst e2
          rw [N.1, (O i (by omega)).1] at hij
          have := hI.lt i (by omega); omega
        · rw [(O i (by omega)).1, (O j (by omega)).1] at hij
          exact h.conn i j (by omega) (by omega) hij
  unfold placeX
  by_cases e : (f.P ns).front = -1
  · rw [if_pos e]; exact base
  · rw [if_neg e] at h1 ⊢
    exact base.enrol h1 (by omega) e
theorem Joins.hist {T : Nat → Spot} {tg : Nat × Nat → Option Nat} (h : Joins np f.P ns S sg cl T tg) : Inv np f.P ns S sg cl [] → ∀ {H : List Claim}, Hist f m ns S cl H → ∃ H', Hist f m ns T [] H' := by
  induction h with
  | done => exact fun _ H h => ⟨H, h⟩
  | same hc _ ih => intro hI H hs; exact ih (hI.same hc) hs.same
  | merge hab hne hn _ ih => intro hI H hs; exact ih (hI.merge _ hab hne hn) (hs.merge hI hab hne hn)
end
theorem labs_lt {f : Fx} {m : Nat} : ∀ {H : List Claim}, HOk f m H → ∀ z ∈ labs H, z < (m : Int)
  | [], _, z, hz => by simp [labs] at hz
  | c :: H, h, z, hz => by
    have e : labs (c :: H) = labs [c] ++ labs H := labs_append [c] H
    rw [e, List.mem_append] at hz
    rcases hz with hz | hz
    · simp [labs] at hz
      obtain ⟨rfl, hz⟩ := hz
      rcases h.1 with ⟨h1, _⟩ | ⟨k, h1, h2, _⟩
      · exact absurd h1 hz
      · omega
    · exact labs_lt h.2 z hz
theorem Hist.addEq {f : Fx} {m ns : Nat} {S : Nat → Spot} {H : List Claim} (h : Hist f m ns S [] H) : Hist f (m + 1) ns S [⟨f.W (f.E m).1, f.W (f.E m).2.1, (m : Int)⟩] H := by
  refine { h with ok := h.ok.more (by omega), clm := fun c hc => ?_, lab := ?_ }
  · rw [List.mem_singleton] at hc; subst hc
    exact Or.inr ⟨m, by omega, rfl, rfl, rfl⟩
  · rw [labs_append]
    have e : labs [(⟨f.W (f.E m).1, f.W (f.E m).2.1, (m : Int)⟩ : Claim)] = [(m : Int)] := by
      have : ¬ ((m : Int) = -1) := by omega
      simp [labs, this]
    have hl : (labs H).Nodup := h.lab
    rw [e]
    refine List.nodup_cons.2 ⟨fun hm => ?_, hl⟩
    have := labs_lt h.ok _ hm
    omega
/-- More parts, nodes and equations. -/
theorem ClaimOk.grow {f f' : Fx} {m ns : Nat} {H : List Claim} {c : Claim} (hf : FOk f) (hm : m ≤ f.ne) (hc : c.a < f.np ∧ c.b < f.np) (hP : ∀ i, i < f.np → f'.P i = f.P i) (hW : ∀ i, i < f.nw → f'.W i = f.W i) (hE : ∀ k, k < f.ne → f'.E k = f.E k) (h : ClaimOk f m H c) : ClaimOk f' m H c := by
  rcases h with ⟨h1, h2, h3, h4, h5⟩ | ⟨k, h1, h2, h3, h4⟩
  · left
    unfold Made at *
    rw [hP _ hc.1, hP _ hc.2]
    exact ⟨h1, h2, h3, h4, h5⟩
  · right
    refine ⟨k, h1, h2, ?_⟩
    rw [hE k (by omega), hW _ (hf.eqs k (by omega)).1, hW _ (hf.eqs k (by omega)).2.1]
    exact ⟨h3, h4⟩
theorem HOk.grow {f f' : Fx} {m : Nat} (hf : FOk f) (hm : m ≤ f.ne) (hP : ∀ i, i < f.np → f'.P i = f.P i) (hW : ∀ i, i < f.nw → f'.W i = f.W i) (hE : ∀ k, k < f.ne → f'.E k = f.E k) : ∀ {H : List Claim}, (∀ c ∈ H, c.a < f.np ∧ c.b < f.np) → HOk f m H → HOk f' m H
  | [], _, _ => trivial
  | c :: H, hl, h => ⟨ClaimOk.grow (ns := 0) hf hm (hl c (List.mem_cons_self ..)) hP hW hE h.1, HOk.grow hf hm hP hW hE (fun d hd => hl d (List.mem_cons_of_mem _ hd)) h.2⟩
theorem Hist.grow {f f' : Fx} {m ns : Nat} {S : Nat → Spot} {H : List Claim} (h : Hist f m ns S [] H) (hf : FOk f) (hm : m ≤ f.ne) (hns : ns ≤ f.np) (hP : ∀ i, i < f.np → f'.P i = f.P i) (hW : ∀ i, i < f.nw → f'.W i = f.W i) (hE : ∀ k, k < f.ne → f'.E k = f.E k) : Hist f' m ns S [] H :=
  { h with ok := HOk.grow hf hm hP hW hE (fun c hc => by have := h.lt c hc; omega) h.ok, clm := fun c hc => by cases hc }
end Euf
end Go.Proofs.Ytlonnhnfmcndfad
