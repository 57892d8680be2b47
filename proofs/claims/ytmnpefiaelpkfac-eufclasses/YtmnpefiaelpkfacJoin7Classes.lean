/- Joined: EufHi, EufY, EufCl, EufJo: words and contracts; no statement of the seat is proved here. -/
import Derived.Test.YtmnpefiaelpkfacJoin3Classes
import Derived.Test.YtmnpefiaelpkfacJoin6Classes
import Derived.BigRegion
import Derived.Deep.DeepCutAuto
/- Why parts are the same: the trees' edges, in the order in which they were made; no statement of the seat is proved here. -/
namespace Go.Proofs.Ytmnpefiaelpkfac
open Go.RowKit
set_option linter.unusedVariables false
namespace Euf
/-- An edge of the trees, either way. -/
def Edge (S : Nat → Spot) (x z : Nat) (w : Int) : Prop := ((S x).up = (z : Int) ∧ (S x).why = w) ∨ ((S z).up = (x : Int) ∧ (S z).why = w)
theorem hang_edge : ∀ (n : Nat) (S : Nat → Spot) (a : Int) (u : Nat) (y : Int), Ups S a n → ∀ (x z : Nat) (w : Int), Edge (hang n S a u y) x z w ↔ Edge S x z w ∨ (((x : Int) = a ∧ z = u ∨ x = u ∧ (z : Int) = a) ∧ w = y)
  | 0, S, a, u, y, ha, x, z, w => by
    rcases ha.int with ⟨rfl, _⟩ | ⟨k, m, _, h, _⟩
    · constructor
      · exact Or.inl
      · rintro (h | ⟨(⟨h, _⟩ | ⟨_, h⟩), _⟩)
        · exact h
        · omega
        · omega
    · omega
  | n + 1, S, a, u, y, ha, x, z, w => by
    rcases ha.int with ⟨_, h⟩ | ⟨k, m, rfl, h2, h3⟩
    · omega
    have ih := hang_edge n (upd S k { S k with up := u, why := y }) (S k).up k (S k).why (ups_step ha u y) x z w
    have hh : hang (n + 1) S (k : Int) u y = hang n (upd S k { S k with up := u, why := y }) (S k).up (k : Int) (S k).why := rfl
    rw [hh, ih]
    have D : ∀ (x z : Nat), ((upd S k { S k with up := (u : Int), why := y } x).up = (z : Int) ∧ (upd S k { S k with up := (u : Int), why := y } x).why = w) ↔ (x = k ∧ z = u ∧ w = y) ∨ (x ≠ k ∧ (S x).up = (z : Int) ∧ (S x).why = w) := by
      intro x z
      by_cases e : x = k
      · subst e; rw [upd_same]
        simp only [true_and, ne_eq, not_true_eq_false, false_and, or_false]
        constructor
        · rintro ⟨h4, h5⟩; exact ⟨by omega, h5.symm⟩
        · rintro ⟨h4, h5⟩; exact ⟨by rw [h4], h5.symm⟩
      · rw [upd_other _ _ e]
        simp [e]
    unfold Edge
    rw [D x z, D z x]
    constructor
    · rintro (((⟨rfl, rfl, rfl⟩ | ⟨_, h4, h5⟩) | (⟨rfl, rfl, rfl⟩ | ⟨_, h4, h5⟩)) | ⟨(⟨h4, rfl⟩ | ⟨rfl, h4⟩), rfl⟩)
      · exact Or.inr ⟨Or.inl ⟨rfl, rfl⟩, rfl⟩
      · exact Or.inl (Or.inl ⟨h4, h5⟩)
      · exact Or.inr ⟨Or.inr ⟨rfl, rfl⟩, rfl⟩
      · exact Or.inl (Or.inr ⟨h4, h5⟩)
      · exact Or.inl (Or.inr ⟨h4.symm, rfl⟩)
      · exact Or.inl (Or.inl ⟨h4.symm, rfl⟩)
    · rintro ((⟨h4, h5⟩ | ⟨h4, h5⟩) | ⟨(⟨h4, rfl⟩ | ⟨rfl, h4⟩), rfl⟩)
      · by_cases e : x = k
        · subst e; exact Or.inr ⟨Or.inr ⟨rfl, h4.symm⟩, h5.symm⟩
        · exact Or.inl (Or.inl (Or.inr ⟨e, h4, h5⟩))
      · by_cases e : z = k
        · subst e; exact Or.inr ⟨Or.inl ⟨h4.symm, rfl⟩, h5.symm⟩
        · exact Or.inl (Or.inr (Or.inr ⟨e, h4, h5⟩))
      · exact Or.inl (Or.inl (Or.inl ⟨by omega, rfl, rfl⟩))
      · exact Or.inl (Or.inr (Or.inl ⟨by omega, rfl, rfl⟩))
/-- The two of a claim. -/
def Two (c : Claim) (x z : Nat) : Prop := (c.a = x ∧ c.b = z) ∨ (c.a = z ∧ c.b = x)
theorem Two.symm {c : Claim} {x z : Nat} (h : Two c x z) : Two c z x := h.elim Or.inr Or.inl
/-- Led from one part to another by claims. -/
inductive Conn (H : List Claim) : Nat → Nat → Prop
  | refl (x : Nat) : Conn H x x
  | step {x y z : Nat} {c : Claim} : c ∈ H → Two c x y → Conn H y z → Conn H x z
theorem Conn.trans {H : List Claim} {x y z : Nat} (h : Conn H x y) (k : Conn H y z) : Conn H x z := by
  induction h with
  | refl => exact k
  | step h1 h2 _ ih => exact .step h1 h2 (ih k)
theorem Conn.symm {H : List Claim} {x y : Nat} (h : Conn H x y) : Conn H y x := by
  induction h with
  | refl => exact .refl _
  | step h1 h2 _ ih => exact ih.trans (.step h1 h2.symm (.refl _))
theorem Conn.mono {H H' : List Claim} (hs : ∀ c ∈ H, c ∈ H') {x y : Nat} (h : Conn H x y) : Conn H' x y := by
  induction h with
  | refl => exact .refl _
  | step h1 h2 _ ih => exact .step (hs _ h1) h2 ih
/-- What a claim rests on: an equation, or what its two are made of. -/
def ClaimOk (f : Fx) (m : Nat) (H : List Claim) (c : Claim) : Prop :=
  (c.why = -1 ∧ Made f.P c.a ∧ Made f.P c.b ∧ Conn H (f.P c.a).front.toNat (f.P c.b).front.toNat ∧ Conn H (f.P c.a).arg.toNat (f.P c.b).arg.toNat) ∨
  ∃ k : Nat, k < m ∧ c.why = (k : Int) ∧ c.a = f.W (f.E k).1 ∧ c.b = f.W (f.E k).2.1
theorem ClaimOk.mono {f : Fx} {m : Nat} {H H' : List Claim} {c : Claim} (hs : ∀ c ∈ H, c ∈ H') (h : ClaimOk f m H c) : ClaimOk f m H' c :=
  h.imp (fun ⟨h1, h2, h3, h4, h5⟩ => ⟨h1, h2, h3, h4.mono hs, h5.mono hs⟩) id
theorem ClaimOk.more {f : Fx} {m m' : Nat} {H : List Claim} {c : Claim} (hm : m ≤ m') (h : ClaimOk f m H c) : ClaimOk f m' H c :=
  h.imp id (fun ⟨k, h1, h2⟩ => ⟨k, by omega, h2⟩)
/-- All claims that were made, the newest first: each rests on the elder ones. -/
def HOk (f : Fx) (m : Nat) : List Claim → Prop
  | [] => True
  | c :: H => ClaimOk f m H c ∧ HOk f m H
theorem HOk.more {f : Fx} {m m' : Nat} (hm : m ≤ m') : ∀ {H : List Claim}, HOk f m H → HOk f m' H
  | [], _ => trivial
  | _ :: _, h => ⟨h.1.more hm, h.2.more hm⟩
def labs (H : List Claim) : List Int := (H.map (·.why)).filter (fun z => decide (z ≠ -1))
theorem labs_append (H K : List Claim) : labs (H ++ K) = labs H ++ labs K := by simp [labs]
theorem labs_free {c : Claim} (h : c.why = -1) : labs [c] = [] := by simp [labs, h]
structure Hist (f : Fx) (m ns : Nat) (S : Nat → Spot) (cl H : List Claim) : Prop where
  edge : ∀ x z w, x < ns → z < ns → (Edge S x z w ↔ ∃ c ∈ H, Two c x z ∧ c.why = w)
  conn : ∀ i j, i < ns → j < ns → (S i).cls = (S j).cls → Conn H i j
  ok : HOk f m H
  lt : ∀ c ∈ H, c.a < ns ∧ c.b < ns
  clm : ∀ c ∈ cl, ClaimOk f m H c
  lab : (labs (cl ++ H)).Nodup
section
variable {np m ns : Nat} {f : Fx} {S : Nat → Spot} {sg : Nat × Nat → Option Nat} {cl H : List Claim} {out : List Nat}
theorem Hist.enrol (h : Hist f m ns S cl H) (hI : Inv np f.P ns S sg cl out) {i : Nat} (hi : i < ns) (hm : Made f.P i) : Hist f m ns S (enrolS f.P S sg cl i).2 H := by
  unfold enrolS
  cases hq : sg (sig f.P S i) with
  | none => exact h
  | some q =>
    simp only []
    obtain ⟨h1, h2, h3⟩ := hI.sg1 _ _ hq
    simp only [sig, Prod.mk.injEq] at h3
    have fi := hI.frontLt hi hm
    have fq := hI.frontLt h1 h2
    refine { h with clm := fun c hc => ?_, lab := ?_ }
    · simp at hc
      rcases hc with hc | rfl
      · exact h.clm c hc
      · exact Or.inl ⟨rfl, hm, h2, h.conn _ _ fi.1 fq.1 h3.1.symm, h.conn _ _ fi.2 fq.2 h3.2.symm⟩
    · have := h.lab
      rw [labs_append] at this
      rw [labs_append, labs_append, labs_free rfl, List.append_nil]
      exact this
theorem Hist.enrolAll : ∀ (l : List Nat) (x : (Nat × Nat → Option Nat) × List Claim), Hist f m ns S x.2 H → Inv np f.P ns S x.1 x.2 l → (∀ i ∈ l, i < ns ∧ Made f.P i) → Hist f m ns S (Euf.enrolAll f.P S l x).2 H
  | [], x, h, _, _ => h
  | i :: l, x, h, hI, hl => Hist.enrolAll l _ (h.enrol hI (hl i (List.mem_cons_self ..)).1 (hl i (List.mem_cons_self ..)).2) (hI.enrol (hl i (List.mem_cons_self ..)).1 (hl i (List.mem_cons_self ..)).2 l (fun j hj => by
      by_cases e : j = i
      · exact Or.inr e
      · exact Or.inl (by simp [e, hj]))) (fun j hj => hl j (List.mem_cons_of_mem _ hj))
theorem Hist.same {c : Claim} (h : Hist f m ns S (cl ++ [c]) H) : Hist f m ns S cl H := by
  refine { h with clm := fun d hd => h.clm d (by simp [hd]), lab := ?_ }
  have := h.lab
  rw [labs_append, labs_append] at this
  rw [labs_append]
  exact this.sublist (List.Sublist.append (List.sublist_append_left _ _) (List.Sublist.refl _))
theorem Hist.merge {c : Claim} (h : Hist f m ns S (cl ++ [c]) H) (hI : Inv np f.P ns S sg (cl ++ [c]) []) {a b n : Nat} (hab : (a = c.a ∧ b = c.b) ∨ (a = c.b ∧ b = c.a)) (hne : (S a).cls ≠ (S b).cls) (hn : Ups S (a : Int) n) :
    Hist f m ns (mergeS S a b c.why n) (mergeX f.P S sg cl a b c.why n).2 (c :: H) := by
  have hcc := hI.cls c (by simp)
  have ha : a < ns := by rcases hab with ⟨rfl, rfl⟩ | ⟨rfl, rfl⟩ <;> omega
  have hb : b < ns := by rcases hab with ⟨rfl, rfl⟩ | ⟨rfl, rfl⟩ <;> omega
  have htw : Two c a b := by
    rcases hab with ⟨rfl, rfl⟩ | ⟨rfl, rfl⟩
    · exact Or.inl ⟨rfl, rfl⟩
    · exact Or.inr ⟨rfl, rfl⟩
  have sub : ∀ d ∈ H, d ∈ c :: H := fun d hd => List.mem_cons_of_mem _ hd
  refine Hist.enrolAll _ _ ?_ (hI.joined c.why hab hne hn) (hI.usesOk (hI.lt a ha))
  refine { edge := fun x z w hx hz => ?_, conn := fun i j hi hj hij => ?_, ok := ⟨h.clm c (by simp), h.ok⟩, lt := fun d hd => ?_, clm := fun d hd => (h.clm d (by simp [hd])).mono sub, lab := ?_ }
  · have e : Edge (mergeS S a b c.why n) x z w ↔ Edge (hang n S (a : Int) b c.why) x z w := Iff.rfl
    rw [e, hang_edge n S a b c.why hn, h.edge x z w hx hz]
    constructor
    · rintro (⟨d, hd, h1, h2⟩ | ⟨h1, h2⟩)
      · exact ⟨d, sub d hd, h1, h2⟩
      · refine ⟨c, List.mem_cons_self .., ?_, h2.symm⟩
        rcases h1 with ⟨h1, rfl⟩ | ⟨rfl, h1⟩
        · have : x = a := by omega
          subst this; exact htw
        · have : z = a := by omega
          subst this; exact htw.symm
    · rintro ⟨d, hd, h1, h2⟩
      rcases List.mem_cons.1 hd with rfl | hd
      · refine Or.inr ⟨?_, h2.symm⟩
        rcases htw with ⟨t1, t2⟩ | ⟨t1, t2⟩ <;> rcases h1 with ⟨u1, u2⟩ | ⟨u1, u2⟩
        · exact Or.inl ⟨by omega, by omega⟩
        · exact Or.inr ⟨by omega, by omega⟩
        · exact Or.inr ⟨by omega, by omega⟩
        · exact Or.inl ⟨by omega, by omega⟩
      · exact Or.inl ⟨d, hd, h1, h2⟩
  · have ab : Conn (c :: H) a b := .step (List.mem_cons_self ..) htw (.refl _)
    have C := fun i j hi hj e => (h.conn i j hi hj e).mono sub
    simp only [mergeS_cls] at hij
    split at hij
    · rename_i e1
      split at hij
      · rename_i e2
        exact C i j hi hj (e1.trans e2.symm)
      · exact (C i a hi ha e1).trans (ab.trans (C b j hb hj hij))
    · split at hij
      · rename_i e1 e2
        exact (C i b hi hb hij).trans (ab.symm.trans (C a j ha hj e2.symm))
      · exact C i j hi hj hij
  · rcases List.mem_cons.1 hd with rfl | hd
    · exact hcc
    · exact h.lt d hd
  · have := h.lab
    rw [List.append_assoc] at this
    exact this
theorem Hist.place (h : Hist f m ns S cl H) (hI : Inv f.np f.P ns S sg cl []) (hn : ns < f.np) : Hist f m (ns + 1) (placeS f.P S ns) (placeX f.P S sg cl ns).2 H := by
  have O := fun i (hi : i < ns) => placeS_old f.P S (n := ns) (i := i) (by omega)
  have N := placeS_new f.P S ns
  have h1 := hI.placed hn
  have base : Hist f m (ns + 1) (placeS f.P S ns) cl H := by
    refine { h with edge := fun x z w hx hz => ?_, conn := fun i j hi hj hij => ?_, lt := fun c hc => ⟨Nat.lt_succ_of_lt (h.lt c hc).1, Nat.lt_succ_of_lt (h.lt c hc).2⟩ }
    · have noUp : ∀ y, y < ns → (S y).up ≠ (ns : Int) := fun y hy e => by
        have := (hI.upc y hy (by omega)).2.1
        omega
      by_cases e : x = ns
      · subst e
        constructor
        · rintro (⟨h2, _⟩ | ⟨h2, _⟩)
          · rw [N.2.2.1] at h2; omega
          · exfalso
            by_cases e2 : z = x
            · subst e2; rw [N.2.2.1] at h2; omega
            · rw [(O z (by omega)).2.2.1] at h2
              exact noUp z (by omega) h2
        · rintro ⟨c, hc, h2, _⟩
          have := h.lt c hc
          rcases h2 with ⟨h2, _⟩ | ⟨_, h2⟩ <;> omega
      · by_cases e2 : z = ns
        · subst e2
          constructor
          · rintro (⟨h2, _⟩ | ⟨h2, _⟩)
            · exfalso
              rw [(O x (by omega)).2.2.1] at h2
              exact noUp x (by omega) h2
            · rw [N.2.2.1] at h2; omega
          · rintro ⟨c, hc, h2, _⟩
            have := h.lt c hc
            rcases h2 with ⟨_, h2⟩ | ⟨h2, _⟩ <;> omega
        · have := h.edge x z w (by omega) (by omega)
          unfold Edge at this ⊢
          rw [(O x (by omega)).2.2.1, (O x (by omega)).2.2.2.1, (O z (by omega)).2.2.1, (O z (by omega)).2.2.2.1]
          exact this
    · by_cases e : i = ns
      · subst e
        by_cases e2 : j = i
        · subst e2; exact .refl _
        · rw [N.1, (O j (by omega)).1] at hij
          have := hI.lt j (by omega); omega
      · by_cases e2 : j = ns
        · subst e2
          rw [N.1, (O i (by omega)).1] at hij
          have := hI.lt i (by omega); omega
        · rw [(O i (by omega)).1, (O j (by omega)).1] at hij
          exact h.conn i j (by omega) (by omega) hij
  unfold placeX
  by_cases e : (f.P ns).front = -1
  · rw [if_pos e]; exact base
  · rw [if_neg e] at h1 ⊢
    exact base.enrol h1 (by omega) e
theorem Joins.hist {T : Nat → Spot} {tg : Nat × Nat → Option Nat} (h : Joins np f.P ns S sg cl T tg) : Inv np f.P ns S sg cl [] → ∀ {H : List Claim}, Hist f m ns S cl H → ∃ H', Hist f m ns T [] H' := by
  induction h with
  | done => exact fun _ H h => ⟨H, h⟩
  | same hc _ ih => intro hI H hs; exact ih (hI.same hc) hs.same
  | merge hab hne hn _ ih => intro hI H hs; exact ih (hI.merge _ hab hne hn) (hs.merge hI hab hne hn)
end
theorem labs_lt {f : Fx} {m : Nat} : ∀ {H : List Claim}, HOk f m H → ∀ z ∈ labs H, z < (m : Int)
  | [], _, z, hz => by simp [labs] at hz
  | c :: H, h, z, hz => by
    have e : labs (c :: H) = labs [c] ++ labs H := labs_append [c] H
    rw [e, List.mem_append] at hz
    rcases hz with hz | hz
    · simp [labs] at hz
      obtain ⟨rfl, hz⟩ := hz
      rcases h.1 with ⟨h1, _⟩ | ⟨k, h1, h2, _⟩
      · exact absurd h1 hz
      · omega
    · exact labs_lt h.2 z hz
theorem Hist.addEq {f : Fx} {m ns : Nat} {S : Nat → Spot} {H : List Claim} (h : Hist f m ns S [] H) : Hist f (m + 1) ns S [⟨f.W (f.E m).1, f.W (f.E m).2.1, (m : Int)⟩] H := by
  refine { h with ok := h.ok.more (by omega), clm := fun c hc => ?_, lab := ?_ }
  · rw [List.mem_singleton] at hc; subst hc
    exact Or.inr ⟨m, by omega, rfl, rfl, rfl⟩
  · rw [labs_append]
    have e : labs [(⟨f.W (f.E m).1, f.W (f.E m).2.1, (m : Int)⟩ : Claim)] = [(m : Int)] := by
      have : ¬ ((m : Int) = -1) := by omega
      simp [labs, this]
    have hl : (labs H).Nodup := h.lab
    rw [e]
    refine List.nodup_cons.2 ⟨fun hm => ?_, hl⟩
    have := labs_lt h.ok _ hm
    omega
/-- More parts, nodes and equations. -/
theorem ClaimOk.grow {f f' : Fx} {m ns : Nat} {H : List Claim} {c : Claim} (hf : FOk f) (hm : m ≤ f.ne) (hc : c.a < f.np ∧ c.b < f.np) (hP : ∀ i, i < f.np → f'.P i = f.P i) (hW : ∀ i, i < f.nw → f'.W i = f.W i) (hE : ∀ k, k < f.ne → f'.E k = f.E k) (h : ClaimOk f m H c) : ClaimOk f' m H c := by
  rcases h with ⟨h1, h2, h3, h4, h5⟩ | ⟨k, h1, h2, h3, h4⟩
  · left
    unfold Made at *
    rw [hP _ hc.1, hP _ hc.2]
    exact ⟨h1, h2, h3, h4, h5⟩
  · right
    refine ⟨k, h1, h2, ?_⟩
    rw [hE k (by omega), hW _ (hf.eqs k (by omega)).1, hW _ (hf.eqs k (by omega)).2.1]
    exact ⟨h3, h4⟩
theorem HOk.grow {f f' : Fx} {m : Nat} (hf : FOk f) (hm : m ≤ f.ne) (hP : ∀ i, i < f.np → f'.P i = f.P i) (hW : ∀ i, i < f.nw → f'.W i = f.W i) (hE : ∀ k, k < f.ne → f'.E k = f.E k) : ∀ {H : List Claim}, (∀ c ∈ H, c.a < f.np ∧ c.b < f.np) → HOk f m H → HOk f' m H
  | [], _, _ => trivial
  | c :: H, hl, h => ⟨ClaimOk.grow (ns := 0) hf hm (hl c (List.mem_cons_self ..)) hP hW hE h.1, HOk.grow hf hm hP hW hE (fun d hd => hl d (List.mem_cons_of_mem _ hd)) h.2⟩
theorem Hist.grow {f f' : Fx} {m ns : Nat} {S : Nat → Spot} {H : List Claim} (h : Hist f m ns S [] H) (hf : FOk f) (hm : m ≤ f.ne) (hns : ns ≤ f.np) (hP : ∀ i, i < f.np → f'.P i = f.P i) (hW : ∀ i, i < f.nw → f'.W i = f.W i) (hE : ∀ k, k < f.ne → f'.E k = f.E k) : Hist f' m ns S [] H :=
  { h with ok := HOk.grow hf hm hP hW hE (fun c hc => by have := h.lt c hc; omega) h.ok, clm := fun c hc => by cases hc }
end Euf
end Go.Proofs.Ytmnpefiaelpkfac
/- What the classes mean: two nodes are the same just if that follows from the equations; no statement of the seat is proved here. -/
namespace Go.Proofs.Ytmnpefiaelpkfac
open Go.RowKit
set_option linter.unusedVariables false
namespace Euf
/-- What follows from equations. -/
inductive Cong (nn : Nat) (N : Nat → ByteArray × List Nat) (E : Nat → Nat → Prop) : Nat → Nat → Prop
  | refl (a : Nat) : Cong nn N E a a
  | symm {a b : Nat} : Cong nn N E a b → Cong nn N E b a
  | trans {a b c : Nat} : Cong nn N E a b → Cong nn N E b c → Cong nn N E a c
  | eq {a b : Nat} : E a b → Cong nn N E a b
  | args {a b : Nat} : a < nn → b < nn → (N a).1 = (N b).1 → (N a).2.length = (N b).2.length → (∀ i, i < (N a).2.length → Cong nn N E ((N a).2.getD i 0) ((N b).2.getD i 0)) → Cong nn N E a b
theorem Cong.val {nn : Nat} {N : Nat → ByteArray × List Nat} {E : Nat → Nat → Prop} {D : Type} {val : Nat → D} (hE : ∀ a b, E a b → val a = val b)
    (hN : ∀ a b, a < nn → b < nn → (N a).1 = (N b).1 → (N a).2.length = (N b).2.length → (∀ i, i < (N a).2.length → val ((N a).2.getD i 0) = val ((N b).2.getD i 0)) → val a = val b) {a b : Nat} (h : Cong nn N E a b) : val a = val b := by
  induction h with
  | refl => rfl
  | symm _ ih => exact ih.symm
  | trans _ _ ih1 ih2 => exact ih1.trans ih2
  | eq h => exact hE _ _ h
  | args ha hb h1 h2 _ ih => exact hN _ _ ha hb h1 h2 ih
/-- The least node of each class is what its spot tells. -/
def LeastOk (P : Nat → Part) (ns : Nat) (S : Nat → Spot) : Prop := ∀ c, c < ns → (S c).cls = c → (∃ i, i < ns ∧ (S i).cls = c ∧ (P i).node = (S c).least) ∧ ∀ j, j < ns → (S j).cls = c → (S c).least ≤ (P j).node
theorem mergeS_least (S : Nat → Spot) (a b : Nat) (why : Int) (n i : Nat) : (mergeS S a b why n i).least = if i = (S b).cls then min (S (S a).cls).least (S (S b).cls).least else (S i).least := by
  have h := hang_alike n S (a : Int) (b : Int) why
  show (if i = (S b).cls then min (hang n S a b why (S a).cls).least (hang n S a b why (S b).cls).least else (hang n S a b why i).least) = _
  rw [(h i).2.2.2.1, (h (S a).cls).2.2.2.1, (h (S b).cls).2.2.2.1]
theorem LeastOk.merge {np ns : Nat} {P : Nat → Part} {S : Nat → Spot} {sg : Nat × Nat → Option Nat} {cl : List Claim} {out : List Nat} (h : LeastOk P ns S) (hI : Inv np P ns S sg cl out) {a b : Nat} (why : Int) (n : Nat) (ha : a < ns) (hb : b < ns) (hne : (S a).cls ≠ (S b).cls) : LeastOk P ns (mergeS S a b why n) := by
  have ra := hI.rep a ha
  have rb := hI.rep b hb
  have la := hI.lt a ha
  have lb := hI.lt b hb
  intro c hc hcc
  have hcf : (S c).cls ≠ (S a).cls := by
    intro e
    rw [mergeS_cls, if_pos e] at hcc
    subst hcc
    rw [rb] at e
    exact hne e.symm
  rw [mergeS_cls, if_neg hcf] at hcc
  by_cases e : c = (S b).cls
  · have q1 := h (S a).cls la ra
    have q2 := h (S b).cls lb rb
    rw [mergeS_least, if_pos e]
    obtain ⟨⟨i, i1, i2, i3⟩, m1⟩ := q1
    obtain ⟨⟨j, j1, j2, j3⟩, m2⟩ := q2
    refine ⟨?_, ?_⟩
    · by_cases hmin : (S (S a).cls).least ≤ (S (S b).cls).least
      · exact ⟨i, i1, by rw [mergeS_cls, if_pos i2]; exact e.symm, by rw [i3]; omega⟩
      · exact ⟨j, j1, by rw [mergeS_cls, if_neg (by rw [j2]; exact fun e2 => hne e2.symm), j2]; exact e.symm, by rw [j3]; omega⟩
    · intro k hk hkc
      rw [mergeS_cls] at hkc
      split at hkc
      · rename_i e2
        have := m1 k hk e2
        omega
      · have := m2 k hk (hkc.trans e)
        omega
  · obtain ⟨⟨i, i1, i2, i3⟩, m1⟩ := h c hc hcc
    rw [mergeS_least, if_neg e]
    refine ⟨⟨i, i1, ?_, i3⟩, fun k hk hkc => m1 k hk ?_⟩
    · rw [mergeS_cls, if_neg (by rw [i2, ← hcc]; exact hcf)]; exact i2
    · rw [mergeS_cls] at hkc
      split at hkc
      · exact absurd hkc.symm e
      · exact hkc
theorem LeastOk.place {P : Nat → Part} {ns : Nat} {S : Nat → Spot} (h : LeastOk P ns S) (hlt : ∀ i, i < ns → (S i).cls < ns) : LeastOk P (ns + 1) (placeS P S ns) := by
  have O := fun i (hi : i < ns) => placeS_old P S (n := ns) (i := i) (by omega)
  have N := placeS_new P S ns
  intro c hc hcc
  by_cases e : c = ns
  · subst e
    refine ⟨⟨c, hc, N.1, N.2.2.2.2.2.symm⟩, fun j hj hjc => ?_⟩
    by_cases e2 : j = c
    · subst e2; rw [N.2.2.2.2.2]; exact Int.le_refl _
    · have := hlt j (by omega)
      rw [(O j (by omega)).1] at hjc; omega
  · have hc' : c < ns := by omega
    rw [(O c hc').1] at hcc
    obtain ⟨⟨i, i1, i2, i3⟩, m1⟩ := h c hc' hcc
    rw [(O c hc').2.2.2.2.2]
    refine ⟨⟨i, by omega, by rw [(O i i1).1]; exact i2, i3⟩, fun j hj hjc => ?_⟩
    by_cases e2 : j = ns
    · subst e2; rw [N.1] at hjc; exact absurd hjc.symm e
    · rw [(O j (by omega)).1] at hjc; exact m1 j (by omega) hjc
theorem Joins.least {np ns : Nat} {P : Nat → Part} {S T : Nat → Spot} {sg tg : Nat × Nat → Option Nat} {cl : List Claim} (h : Joins np P ns S sg cl T tg) : Inv np P ns S sg cl [] → LeastOk P ns S → LeastOk P ns T := by
  induction h with
  | done => exact fun _ h => h
  | same hc _ ih => intro hI hs; exact ih (hI.same hc) hs
  | @merge S T sg tg cl c a b n hab hne hn _ ih =>
    intro hI hs
    have hcc := hI.cls c (by simp)
    have ha : a < ns := by rcases hab with ⟨rfl, rfl⟩ | ⟨rfl, rfl⟩ <;> omega
    have hb : b < ns := by rcases hab with ⟨rfl, rfl⟩ | ⟨rfl, rfl⟩ <;> omega
    exact ih (hI.merge _ hab hne hn) (hs.merge hI _ _ ha hb hne)
/-- What the classes know. -/
structure Sem (f : Fx) (m : Nat) (s : Sx) : Prop where
  le : m ≤ f.ne
  eqs : ∀ k, k < m → (f.E k).2.2 ≤ s.ns ∧ (s.S (f.W (f.E k).1)).cls = (s.S (f.W (f.E k).2.1)).cls
  sound : ∀ (D : Type) (val : Nat → D), Model f.np f.P val → (∀ k, k < m → val (f.W (f.E k).1) = val (f.W (f.E k).2.1)) → Sound val s.ns s.S []
  least : LeastOk f.P s.ns s.S
  hist : ∃ H, Hist f m s.ns s.S [] H
theorem Sem.none (f : Fx) (s : Sx) (h : s.ns = 0) : Sem f 0 s :=
  ⟨Nat.zero_le _, fun k hk => absurd hk (Nat.not_lt_zero _), fun D val _ _ => ⟨fun i hi => by omega, fun c hc => by cases hc⟩, fun c hc => by omega, [], { edge := (fun x z w hx => by omega), conn := (fun i j hi => by omega), ok := trivial, lt := (fun c hc => by cases hc), clm := (fun c hc => by cases hc), lab := List.nodup_nil }⟩
theorem Run.sem {f : Fx} (hf : FOk f) {m m' : Nat} {s s' : Sx} (h : Run f m s m' s') : s.cl = [] → Inv f.np f.P s.ns s.S s.sg [] [] → Sem f m s → Sem f m' s' := by
  induction h with
  | refl => exact fun _ _ h => h
  | @place m' s0 s1 T tg hr h1 h2 h3 ih =>
    intro k1 k2 k3
    have hS := ih k1 k2 k3
    have hI := (hr.ok hf k1 k2).2
    have hJ := hI.place h2
    obtain ⟨H, hH⟩ := hS.hist
    refine ⟨hS.le, fun k hk => ?_, fun D val hM hE => ?_, h3.least hJ (hS.least.place hI.lt), h3.hist hJ (hH.place hI h2)⟩
    · obtain ⟨e1, e2⟩ := hS.eqs k hk
      have hq := hf.eqs k (Nat.lt_of_lt_of_le hk hS.le)
      refine ⟨Nat.le_succ_of_le e1, ?_⟩
      refine h3.coarser _ _ (by omega) (by omega) ?_
      exact coarser_place f.P _ _ _ _ (by omega) (by omega) e2
    · exact h3.sound hM hJ ((hS.sound D val hM hE).place hM hI h2)
  | @eq m' s0 s1 T tg hr h1 h2 h3 h4 ih =>
    intro k1 k2 k3
    have hS := ih k1 k2 k3
    have hI := (hr.ok hf k1 k2).2
    have he := hf.eqs m' h2
    have hJ := hI.addClaim ⟨f.W (f.E m').1, f.W (f.E m').2.1, (m' : Int)⟩ (by show f.W (f.E m').1 < _; omega) (by show f.W (f.E m').2.1 < _; omega)
    obtain ⟨H, hH⟩ := hS.hist
    refine ⟨h2, fun k hk => ?_, fun D val hM hE => ?_, h4.least hJ hS.least, h4.hist hJ hH.addEq⟩
    · by_cases e : k = m'
      · subst e
        exact ⟨h3, h4.claims hJ.cls hJ _ (List.mem_singleton.2 rfl)⟩
      · obtain ⟨e1, e2⟩ := hS.eqs k (by omega)
        have hq := hf.eqs k (by omega)
        exact ⟨e1, h4.coarser _ _ (by omega) (by omega) e2⟩
    · refine h4.sound hM hJ ⟨(hS.sound D val hM (fun k hk => hE k (by omega))).s, fun c hc => ?_⟩
      rw [List.mem_singleton.1 hc]
      exact hE m' (by omega)
/-- More parts, nodes and equations. -/
theorem Sem.grow {f f' : Fx} {m : Nat} {s : Sx} (h : Sem f m s) (hf : FOk f) (hns : s.ns ≤ f.np) (hnp : f.np ≤ f'.np) (hP : ∀ i, i < f.np → f'.P i = f.P i) (hW : ∀ i, i < f.nw → f'.W i = f.W i) (hne : f.ne ≤ f'.ne) (hE : ∀ k, k < f.ne → f'.E k = f.E k) : Sem f' m s := by
  have hle := h.le
  have e : ∀ k, k < m → f'.E k = f.E k ∧ f'.W (f.E k).1 = f.W (f.E k).1 ∧ f'.W (f.E k).2.1 = f.W (f.E k).2.1 := fun k hk => ⟨hE k (by omega), hW _ (hf.eqs k (by omega)).1, hW _ (hf.eqs k (by omega)).2.1⟩
  obtain ⟨H, hH⟩ := h.hist
  refine ⟨by omega, fun k hk => ?_, fun D val hM hV => ?_, fun c hc hcc => ?_, H, hH.grow hf hle hns hP hW hE⟩
  · obtain ⟨e1, e2, e3⟩ := e k hk
    rw [e1, e2, e3]; exact h.eqs k hk
  · refine h.sound D val (fun p q hp hq mp mq h1 h2 => ?_) (fun k hk => ?_)
    · have m1 : ∀ p, p < f.np → Made f.P p → Made f'.P p := fun p hp h => by unfold Made; rw [hP p hp]; exact h
      exact hM p q (by omega) (by omega) (m1 p hp mp) (m1 q hq mq) (by rw [hP p hp, hP q hq]; exact h1) (by rw [hP p hp, hP q hq]; exact h2)
    · obtain ⟨e1, e2, e3⟩ := e k hk
      have := hV k hk
      rw [e1, e2, e3] at this; exact this
  · obtain ⟨⟨i, i1, i2, i3⟩, m1⟩ := h.least c hc hcc
    exact ⟨⟨i, i1, i2, by rw [hP i (by omega)]; exact i3⟩, fun j hj hjc => by rw [hP j (by omega)]; exact m1 j hj hjc⟩
/-- The equations as a relation. -/
def EqOf (f : Fx) (a b : Nat) : Prop := ∃ k, k < f.ne ∧ (f.E k).1 = a ∧ (f.E k).2.1 = b
/-- What a part is worth: what follows to be the same. -/
def cval (f : Fx) (t : Tx) (E : Nat → Nat → Prop) (p : Nat) : (Nat → Prop) ⊕ (ByteArray × Nat × Nat × (Nat → Nat → Prop)) :=
  if (t.lab p).2.2.length = (t.lab p).2.1 then .inl (fun b => Cong t.nn t.N E (f.P p).node.toNat b) else .inr ((t.lab p).1, (t.lab p).2.1, (t.lab p).2.2.length, fun i b => i < (t.lab p).2.2.length ∧ Cong t.nn t.N E ((t.lab p).2.2.getD i 0) b)
section
variable {f : Fx} {t : Tx} {E : Nat → Nat → Prop}
theorem TOk.split (h : TOk f t none) {p : Nat} (hp : p < f.np) (hm : Made f.P p) : ∃ s n l a, t.lab p = (s, n, l ++ [a]) ∧ a < t.nn ∧ (l ++ [a]).length ≤ n ∧ ∃ q, q < p ∧ t.lab q = (s, n, l) ∧ (f.P p).front = (q : Nat) ∧ (f.P p).arg = (f.W a : Nat) := by
  generalize hl : t.lab p = lb
  obtain ⟨s, n, l⟩ := lb
  rcases List.eq_nil_or_concat l with e | ⟨l', a, e⟩
  · subst e; exact absurd (h.root p s n hp hl) hm
  · rw [List.concat_eq_append] at e; subst e
    obtain ⟨h1, h2, q, h3, h4, h5, h6⟩ := h.pre p s n l' a hp hl
    exact ⟨s, n, l', a, rfl, h1, (h.node p s n _ hp hl).1, q, h3, h4, h5, h6⟩
theorem cval_whole (h : TOk f t none) {a : Nat} (ha : a < t.nn) : cval f t E (f.W a) = .inl (fun b => Cong t.nn t.N E a b) := by
  obtain ⟨h1, h2, h3⟩ := h.whole a ha
  unfold cval
  rw [h2, h3]
  simp [fullLab]
theorem cval_part {p : Nat} {s : ByteArray} {n : Nat} {l : List Nat} (hl : t.lab p = (s, n, l)) (hn : l.length < n) : cval f t E p = .inr (s, n, l.length, fun i b => i < l.length ∧ Cong t.nn t.N E (l.getD i 0) b) := by
  unfold cval
  rw [hl]
  simp only []
  rw [if_neg (by omega)]
theorem getD_snoc (l : List Nat) (a i : Nat) : (l ++ [a]).getD i 0 = if i < l.length then l.getD i 0 else if i = l.length then a else 0 := by
  by_cases h : i < l.length
  · simp [h, List.getElem?_append_left]
  · by_cases e : i = l.length
    · subst e; simp
    · have : (l ++ [a]).length ≤ i := by simp; omega
      simp [h, e, List.getElem?_eq_none this]
theorem getD_lt (l : List Nat) (a : Nat) {i : Nat} (h : i < l.length) : (l ++ [a]).getD i 0 = l.getD i 0 := by rw [getD_snoc, if_pos h]
theorem getD_eq (l : List Nat) (a : Nat) {i : Nat} (h : i = l.length) : (l ++ [a]).getD i 0 = a := by rw [getD_snoc, if_neg (by omega), if_pos h]
theorem cval_model (h : TOk f t none) : Model f.np f.P (cval f t E) := by
  intro p q hp hq mp mq h1 h2
  obtain ⟨s, n, l, a, pl, pa, pn, p', pp, pl', pf, pg⟩ := h.split hp mp
  obtain ⟨s', n', l', a', ql, qa, qn, q', qp, ql', qf, qg⟩ := h.split hq mq
  simp only [List.length_append, List.length_singleton] at pn qn
  rw [pf, qf, Int.toNat_natCast, Int.toNat_natCast, cval_part pl' (by omega), cval_part ql' (by omega)] at h1
  rw [pg, qg, Int.toNat_natCast, Int.toNat_natCast, cval_whole h pa, cval_whole h qa] at h2
  injection h1 with h1
  injection h2 with h2
  simp only [Prod.mk.injEq] at h1
  obtain ⟨rfl, rfl, hlen, hfun⟩ := h1
  have ca : Cong t.nn t.N E a a' := by
    have := congrFun h2 a'
    rw [this]; exact .refl _
  have cl : ∀ i, i < l.length → Cong t.nn t.N E (l.getD i 0) (l'.getD i 0) := by
    intro i hi
    have := congrFun (congrFun hfun i) (l'.getD i 0)
    have h9 : i < l'.length ∧ Cong t.nn t.N E (l'.getD i 0) (l'.getD i 0) := ⟨by omega, .refl _⟩
    rw [← this] at h9
    exact h9.2
  have call : ∀ i, i < (l ++ [a]).length → Cong t.nn t.N E ((l ++ [a]).getD i 0) ((l' ++ [a']).getD i 0) := by
    intro i hi
    simp only [List.length_append, List.length_singleton] at hi
    rw [getD_snoc, getD_snoc, ← hlen]
    by_cases e : i < l.length
    · rw [if_pos e, if_pos e]; exact cl i e
    · rw [if_neg e, if_neg e, if_pos (by omega), if_pos (by omega)]; exact ca
  have hlen2 : (l ++ [a]).length = (l' ++ [a']).length := by simp [hlen]
  have both : ∀ {x y : Nat}, Cong t.nn t.N E x y → (fun b => Cong t.nn t.N E x b) = fun b => Cong t.nn t.N E y b := fun hxy => funext fun b => propext ⟨fun h => (hxy.symm).trans h, fun h => hxy.trans h⟩
  by_cases e : (l ++ [a]).length = n
  · have pl2 : t.lab p = (s, (l ++ [a]).length, l ++ [a]) := by rw [pl, e]
    have ql2 : t.lab q = (s, (l' ++ [a']).length, l' ++ [a']) := by rw [ql, ← hlen2, e]
    obtain ⟨x, hx, hxw, hxn, hxp⟩ := h.same hp pl2
    obtain ⟨y, hy, hyw, hyn, hyp⟩ := h.same hq ql2
    rw [← hxw, ← hyw, cval_whole h hx, cval_whole h hy]
    congr 1
    refine both (.args hx hy (by rw [hxn, hyn]) (by rw [hxn, hyn]; exact hlen2) ?_)
    rw [hxn, hyn]; exact call
  · have e2 : (l ++ [a]).length < n := by simp only [List.length_append, List.length_singleton] at e ⊢; omega
    rw [cval_part pl e2, cval_part ql (by rw [← hlen2]; exact e2), ← hlen2]
    congr 4
    funext i b
    refine propext ⟨fun h9 => ⟨h9.1, ?_⟩, fun h9 => ⟨h9.1, ?_⟩⟩
    · exact (call i h9.1).symm.trans h9.2
    · exact (call i h9.1).trans h9.2
/-- What is made of the same by all arguments is the same. -/
theorem same_up {s : Sx} (ht : TOk f t none) (hI : Inv f.np f.P s.ns s.S s.sg [] []) (hn : s.ns = f.np) {sn : ByteArray} {n : Nat} : ∀ (l l' : List Nat) (p q : Nat), p < f.np → q < f.np → t.lab p = (sn, n, l) → t.lab q = (sn, n, l') → l.length = l'.length →
    (∀ i, i < l.length → (s.S (f.W (l.getD i 0))).cls = (s.S (f.W (l'.getD i 0))).cls) → (s.S p).cls = (s.S q).cls := by
  intro l
  induction hk : l.length generalizing l with
  | zero =>
    intro l' p q hp hq hl hl' hlen _
    have e1 : l = [] := List.eq_nil_of_length_eq_zero hk
    have e2 : l' = [] := List.eq_nil_of_length_eq_zero (by omega)
    subst e1 e2
    rw [ht.inj p q hp hq (hl.trans hl'.symm)]
  | succ k ih =>
    intro l' p q hp hq hl hl' hlen hall
    rcases List.eq_nil_or_concat l with e | ⟨m, a, e⟩
    · subst e; simp at hk
    rcases List.eq_nil_or_concat l' with e' | ⟨m', a', e'⟩
    · subst e'; simp at hlen
    rw [List.concat_eq_append] at e e'
    subst e e'
    simp only [List.length_append, List.length_singleton] at hk hlen
    obtain ⟨_, pw, p', h1, h2, h3, h4⟩ := ht.pre p sn n m a hp hl
    obtain ⟨_, qw, q', h1', h2', h3', h4'⟩ := ht.pre q sn n m' a' hq hl'
    refine hI.congr (by omega) (by omega) (by unfold Made; rw [h3]; omega) (by unfold Made; rw [h3']; omega) ?_ ?_
    · rw [h3, h3', Int.toNat_natCast, Int.toNat_natCast]
      refine ih m (by omega) m' p' q' (by omega) (by omega) h2 h2' (by omega) (fun i hi => ?_)
      have := hall i (by omega)
      rw [getD_lt m a (show i < m.length by omega), getD_lt m' a' (show i < m'.length by omega)] at this
      exact this
    · rw [h4, h4', Int.toNat_natCast, Int.toNat_natCast]
      have := hall k (by omega)
      rw [getD_eq m a (show k = m.length by omega), getD_eq m' a' (show k = m'.length by omega)] at this
      exact this
theorem same_iff {s : Sx} (ht : TOk f t none) (hf : FOk f) (hs : Sem f f.ne s) (hI : Inv f.np f.P s.ns s.S s.sg [] []) (hn : s.ns = f.np) {a b : Nat} (ha : a < t.nn) (hb : b < t.nn) :
    (s.S (f.W a)).cls = (s.S (f.W b)).cls ↔ Cong t.nn t.N (EqOf f) a b := by
  constructor
  · intro h
    have hS := hs.sound _ _ (cval_model (E := EqOf f) ht) (fun k hk => by
      have he := hf.eqs k hk
      rw [ht.nw] at he
      rw [cval_whole ht he.1, cval_whole ht he.2.1]
      congr 1
      have c : Cong t.nn t.N (EqOf f) (f.E k).1 (f.E k).2.1 := .eq ⟨k, hk, rfl, rfl⟩
      exact funext fun b => propext ⟨fun h => (c.symm).trans h, fun h => c.trans h⟩)
    have h1 := hS.s (f.W a) (by rw [hn]; exact (ht.whole a ha).1)
    have h2 := hS.s (f.W b) (by rw [hn]; exact (ht.whole b hb).1)
    rw [h, ← h2, cval_whole ht ha, cval_whole ht hb] at h1
    injection h1 with h1
    rw [congrFun h1 b]; exact .refl _
  · intro h
    refine h.val (val := fun a => (s.S (f.W a)).cls) ?_ ?_
    · rintro a b ⟨k, hk, rfl, rfl⟩
      exact (hs.eqs k hk).2
    · intro a b ha hb h1 h2 h3
      obtain ⟨w1, w2, _⟩ := ht.whole a ha
      obtain ⟨v1, v2, _⟩ := ht.whole b hb
      refine same_up ht hI hn (t.N a).2 (t.N b).2 _ _ w1 v1 w2 ?_ h2 h3
      rw [v2, h1, h2]; rfl
end
end Euf
end Go.Proofs.Ytmnpefiaelpkfac
/- The document's closing of equations, as a function: its least nodes are those of what follows; no statement of the seat is proved here. -/
namespace Go.Proofs.Ytmnpefiaelpkfac
open Go.RowKit
set_option linter.unusedVariables false
namespace Euf
/-- r is the least node that is the same as a. -/
def Least (nn : Nat) (N : Nat → ByteArray × List Nat) (E : Nat → Nat → Prop) (a r : Nat) : Prop := r < nn ∧ Cong nn N E r a ∧ ∀ b, b < nn → Cong nn N E b a → r ≤ b
section
variable {nn : Nat} {N : Nat → ByteArray × List Nat} {E : Nat → Nat → Prop}
theorem Least.one {a r r' : Nat} (h : Least nn N E a r) (h' : Least nn N E a r') : r = r' := Nat.le_antisymm (h.2.2 r' h'.1 h'.2.1) (h'.2.2 r h.1 h.2.1)
theorem Least.le {a r : Nat} (h : Least nn N E a r) (ha : a < nn) : r ≤ a := h.2.2 a ha (.refl _)
theorem Least.same {a b r r' : Nat} (h : Least nn N E a r) (h' : Least nn N E b r') : r = r' ↔ Cong nn N E a b := by
  constructor
  · intro e; subst e; exact h.2.1.symm.trans h'.2.1
  · intro hc
    exact h.one ⟨h'.1, h'.2.1.trans hc.symm, fun x hx hxa => h'.2.2 x hx (hxa.trans hc)⟩
end
/-- The least node that the classes tell. -/
theorem find_least {f : Fx} {t : Tx} {s : Sx} (ht : TOk f t none) (hf : FOk f) (hs : Sem f f.ne s) (hI : Inv f.np f.P s.ns s.S s.sg [] []) (hn : s.ns = f.np) {a : Nat} (ha : a < t.nn) :
    ∃ r : Nat, (s.S (s.S (f.W a)).cls).least = (r : Int) ∧ Least t.nn t.N (EqOf f) a r := by
  have wa := (ht.whole a ha).1
  have hc := hI.lt (f.W a) (by omega)
  have hr := hI.rep (f.W a) (by omega)
  obtain ⟨⟨i, i1, i2, i3⟩, hmin⟩ := hs.least _ hc hr
  have hS := hs.sound _ _ (cval_model (E := EqOf f) ht) (fun k hk => by
      have he := hf.eqs k hk
      rw [ht.nw] at he
      rw [cval_whole ht he.1, cval_whole ht he.2.1]
      congr 1
      have c : Cong t.nn t.N (EqOf f) (f.E k).1 (f.E k).2.1 := .eq ⟨k, hk, rfl, rfl⟩
      exact funext fun b => propext ⟨fun h => (c.symm).trans h, fun h => c.trans h⟩)
  have h1 := hS.s (f.W a) (by omega)
  have h2 := hS.s i i1
  rw [i2, ← h1, cval_whole ht ha] at h2
  have hw : ∃ b, b < t.nn ∧ f.W b = i := by
    generalize hl : t.lab i = lb
    obtain ⟨sn, n, l⟩ := lb
    by_cases e : l.length = n
    · exact (ht.node i sn n l (by omega) hl).2.1 (by simp) e
    · have := (ht.node i sn n l (by omega) hl).1
      rw [cval_part hl (by omega)] at h2
      cases h2
  obtain ⟨b, hb, hwb⟩ := hw
  have hnb : (f.P i).node = (b : Int) := by rw [← hwb]; exact (ht.whole b hb).2.2
  refine ⟨b, by rw [← i3, hnb], hb, ?_, fun x hx hxa => ?_⟩
  · rw [← hwb, cval_whole ht hb] at h2
    injection h2 with h2
    rw [congrFun h2 a]; exact .refl _
  · have hcx := (same_iff ht hf hs hI hn hx ha).2 hxa
    have := hmin (f.W x) (by have := (ht.whole x hx).1; omega) hcx
    rw [← i3, hnb, (ht.whole x hx).2.2] at this
    omega
/-! ## The document's way -/
def joinC (c : Nat → Nat) (a b : Nat) : Nat → Nat := fun i => if c i = max (c a) (c b) then min (c a) (c b) else c i
structure COk (nn : Nat) (N : Nat → ByteArray × List Nat) (E : Nat → Nat → Prop) (c : Nat → Nat) : Prop where
  le : ∀ i, i < nn → c i ≤ i
  rep : ∀ i, i < nn → c (c i) = c i
  snd : ∀ i, i < nn → Cong nn N E i (c i)
section
variable {nn : Nat} {N : Nat → ByteArray × List Nat} {E : Nat → Nat → Prop} {c : Nat → Nat}
theorem COk.start (nn : Nat) (N : Nat → ByteArray × List Nat) (E : Nat → Nat → Prop) : COk nn N E (fun i => i) := ⟨fun _ _ => Nat.le_refl _, fun _ _ => rfl, fun i _ => .refl _⟩
theorem joinC_coarse (c : Nat → Nat) (a b i j : Nat) (h : c i = c j) : joinC c a b i = joinC c a b j := by unfold joinC; rw [h]
theorem joinC_same (c : Nat → Nat) (a b : Nat) : joinC c a b a = joinC c a b b := by
  unfold joinC
  split <;> split <;> omega
theorem COk.join (h : COk nn N E c) {a b : Nat} (ha : a < nn) (hb : b < nn) (hab : Cong nn N E a b) : COk nn N E (joinC c a b) := by
  have la := h.le a ha
  have lb := h.le b hb
  have ra := h.rep a ha
  have rb := h.rep b hb
  have hx : c (min (c a) (c b)) = min (c a) (c b) := by
    rcases Nat.le_total (c a) (c b) with e | e
    · rw [Nat.min_eq_left e]; exact ra
    · rw [Nat.min_eq_right e]; exact rb
  have hxy : Cong nn N E (c a) (c b) := ((h.snd a ha).symm.trans hab).trans (h.snd b hb)
  have hmm : Cong nn N E (max (c a) (c b)) (min (c a) (c b)) := by
    rcases Nat.le_total (c a) (c b) with e | e
    · rw [Nat.min_eq_left e, Nat.max_eq_right e]; exact hxy.symm
    · rw [Nat.min_eq_right e, Nat.max_eq_left e]; exact hxy
  refine ⟨fun i hi => ?_, fun i hi => ?_, fun i hi => ?_⟩
  · have := h.le i hi
    unfold joinC
    split <;> omega
  · have := h.rep i hi
    unfold joinC
    by_cases e : c i = max (c a) (c b)
    · rw [if_pos e, hx]; split <;> rfl
    · rw [if_neg e, this, if_neg e]
  · unfold joinC
    split
    · rename_i e
      have := h.snd i hi
      rw [e] at this
      exact this.trans hmm
    · exact h.snd i hi
def isRepC (c : Nat → Nat) (i : Nat) : Nat := if c i = i then 1 else 0
theorem repsC_join (h : COk nn N E c) {a b : Nat} (ha : a < nn) (hb : b < nn) (hne : c a ≠ c b) : total (isRepC (joinC c a b)) nn + 1 = total (isRepC c) nn := by
  have la := h.le a ha
  have lb := h.le b hb
  have ra := h.rep a ha
  have rb := h.rep b hb
  have hy : c (max (c a) (c b)) = max (c a) (c b) := by
    rcases Nat.le_total (c a) (c b) with e | e
    · rw [Nat.max_eq_right e]; exact rb
    · rw [Nat.max_eq_left e]; exact ra
  have h1 := total_upd (isRepC c) (max (c a) (c b)) 0 nn (by omega)
  have e1 : isRepC c (max (c a) (c b)) = 1 := by unfold isRepC; rw [if_pos hy]
  have e2 : total (isRepC (joinC c a b)) nn = total (upd (isRepC c) (max (c a) (c b)) 0) nn := by
    refine total_congr nn (fun i hi => ?_)
    by_cases e : i = max (c a) (c b)
    · subst e
      rw [upd_same]
      unfold isRepC joinC
      rw [if_pos hy, if_neg (by omega)]
    · rw [upd_other _ _ e]
      unfold isRepC joinC
      by_cases e3 : c i = max (c a) (c b)
      · rw [if_pos e3, if_neg (fun e4 => by
          rw [← e4] at e3
          have hx : c (min (c a) (c b)) = min (c a) (c b) := by
            rcases Nat.le_total (c a) (c b) with e | e
            · rw [Nat.min_eq_left e]; exact ra
            · rw [Nat.min_eq_right e]; exact rb
          omega), if_neg (by omega)]
      · rw [if_neg e3]
  omega
def LikeC (N : Nat → ByteArray × List Nat) (c : Nat → Nat) (i k : Nat) : Prop := (N i).1 = (N k).1 ∧ (N i).2.length = (N k).2.length ∧ (N i).2.length ≠ 0 ∧ ∀ j, j < (N i).2.length → c ((N i).2.getD j 0) = c ((N k).2.getD j 0)
theorem LikeC.cong (h : COk nn N E c) {i k : Nat} (hi : i < nn) (hk : k < nn) (hin : ∀ a, a < nn → ∀ b ∈ (N a).2, b < nn) (hl : LikeC N c i k) : Cong nn N E i k := by
  obtain ⟨h1, h2, h3, h4⟩ := hl
  refine .args hi hk h1 h2 (fun j hj => ?_)
  have m1 : (N i).2.getD j 0 ∈ (N i).2 := by rw [List.getD_eq_getElem?_getD, List.getElem?_eq_getElem hj]; exact List.getElem_mem hj
  have m2 : (N k).2.getD j 0 ∈ (N k).2 := by rw [List.getD_eq_getElem?_getD, List.getElem?_eq_getElem (h2 ▸ hj)]; exact List.getElem_mem _
  have s1 := h.snd _ (hin i hi _ m1)
  have s2 := h.snd _ (hin k hk _ m2)
  rw [h4 j hj] at s1
  exact s1.trans s2.symm
theorem closed_iff (h : COk nn N E c) (hE : ∀ a b, E a b → c a = c b) (hL : ∀ i k, i < nn → k < i → LikeC N c i k → c i = c k) (h1 : ∀ a b, a < nn → b < nn → N a = N b → a = b) {a b : Nat} (ha : a < nn) (hb : b < nn) : c a = c b ↔ Cong nn N E a b := by
  constructor
  · intro e
    have s1 := h.snd a ha
    rw [e] at s1
    exact s1.trans (h.snd b hb).symm
  · intro hc
    refine hc.val (val := c) hE (fun a b ha hb k1 k2 k3 => ?_)
    by_cases e : (N a).2.length = 0
    · have e1 : (N a).2 = [] := List.eq_nil_of_length_eq_zero e
      have e2 : (N b).2 = [] := List.eq_nil_of_length_eq_zero (by omega)
      have : N a = N b := Prod.ext k1 (by rw [e1, e2])
      rw [h1 a b ha hb this]
    · rcases Nat.lt_trichotomy a b with g | g | g
      · exact (hL b a hb g ⟨k1.symm, k2.symm, by omega, fun j hj => (k3 j (by omega)).symm⟩).symm
      · rw [g]
      · exact hL a b ha g ⟨k1, k2, e, k3⟩
theorem closed_least (h : COk nn N E c) (hE : ∀ a b, E a b → c a = c b) (hL : ∀ i k, i < nn → k < i → LikeC N c i k → c i = c k) (h1 : ∀ a b, a < nn → b < nn → N a = N b → a = b) {a : Nat} (ha : a < nn) : Least nn N E a (c a) := by
  have hle := h.le a ha
  refine ⟨by omega, (h.snd a ha).symm, fun b hb hba => ?_⟩
  have := (closed_iff h hE hL h1 hb ha).2 hba
  have := h.le b hb
  omega
end
end Euf
end Go.Proofs.Ytmnpefiaelpkfac
/- The document's join of two classes; no statement of the seat is proved here. -/
namespace Go.Proofs.Ytmnpefiaelpkfac
open Go.RowKit
set_option linter.unusedVariables false
namespace Euf
def OneB (bC b : Nat) : Prop := b = bC
/-- The first i of a list have gone over. -/
def joinK (c : Nat → Nat) (x y i : Nat) : Nat → Nat := fun j => if j < i then (if c j = y then x else c j) else c j
theorem joinK_all (c : Nat → Nat) (a b n : Nat) {i : Nat} (hi : i < n) : joinK c (min (c a) (c b)) (max (c a) (c b)) n i = joinC c a b i := by unfold joinK joinC; rw [if_pos hi]
theorem joinK_yes {c : Nat → Nat} {x y i : Nat} (h : c i = y) : joinK c x y (i + 1) = upd (joinK c x y i) i x := by
  funext j
  by_cases e : j = i
  · subst e; rw [upd_same]; unfold joinK; rw [if_pos (by omega), if_pos h]
  · rw [upd_other _ _ e]
    unfold joinK
    by_cases e2 : j < i
    · rw [if_pos e2, if_pos (show j < i + 1 by omega)]
    · rw [if_neg e2, if_neg (show ¬ j < i + 1 by omega)]
theorem joinK_no {c : Nat → Nat} {x y i : Nat} (h : c i ≠ y) : joinK c x y (i + 1) = joinK c x y i := by
  funext j
  unfold joinK
  by_cases e : j = i
  · subst e; rw [if_pos (by omega), if_neg h, if_neg (by omega)]
  · by_cases e2 : j < i
    · rw [if_pos e2, if_pos (show j < i + 1 by omega)]
    · rw [if_neg e2, if_neg (show ¬ j < i + 1 by omega)]
abbrev CI (w : World) (bC n cap : Nat) (c : Nat → Nat) : Prop := OL 1 3 w (.slice (some ⟨bC, 0, none⟩) n cap) n (fun i => [.int .i64 (c i : Nat)])
set_option maxRecDepth 20000 in
set_option maxHeartbeats 16000000 in
theorem rjoin_core (bC n cap : Nat) (c : Nat → Nat) (a b mn mx : Nat) (w : World) (h : CI w bC n cap c) (ha : a < n) (hb : b < n) (hn : n ≤ 1000) (hmn : mn = min (c a) (c b)) (hmx : mx = max (c a) (c b)) :
    Calls Try.prog 15 #[.slice (some ⟨bC, 0, none⟩) n cap, .int .i64 (a : Nat), .int .i64 (b : Nat)] w fun e w' => e = .returned (.tuple #[]) ∧ CI w' bC n cap (joinC c a b) ∧ Mv (OneB bC) w w' := by
  have HC : Hid (CI w bC n cap c) := h
  have HE : Hid (mn = min (c a) (c b) ∧ mx = max (c a) (c b)) := ⟨hmn, hmx⟩
  have haI : (a : Int) < (n : Int) := by omega
  have hbI : (b : Int) < (n : Int) := by omega
  have hbC : bC < w.heap.size := h.lt rfl
  have l0 := h.cell (i := a) ha (j := 0) (by omega)
  have l1 := h.cell (i := b) hb (j := 0) (by omega)
  simp only [Nat.add_zero, Nat.mul_one, List.getElem?_cons_zero] at l0 l1
  clear h
  go_enter Try.func15, Try.ntmps15
  go_wp2
  go_cut [6, 7] (fun v6 v7 wx => v6 = .int .i64 (mn : Nat) ∧ v7 = .int .i64 (mx : Nat) ∧ Hid (Below w.heap.size w wx))
  case first =>
    rcases Nat.lt_trichotomy (c a) (c b) with e | e | e
    · obtain rfl : mn = c a := by omega
      obtain rfl : mx = c b := by omega
      have e1 : ((c a : Nat) : Int) < ((c b : Nat) : Int) := by omega
      have e2 : ¬ (((c b : Nat) : Int) < ((c a : Nat) : Int)) := by omega
      have e3 : ¬ (c b < c a) := by omega
      clear hmn hmx
      go_quiet (fail)
      go_wp2_with fail
      go_meet
      exact ⟨rfl, rfl, ⟨rfl, rfl, rfl, Nat.le_refl _, fun _ _ => rfl⟩⟩
    · rw [← e] at l1
      obtain rfl : mn = c a := by omega
      obtain rfl : mx = c a := by omega
      have e1 : ¬ (((c a : Nat) : Int) < ((c a : Nat) : Int)) := by omega
      clear hmn hmx HE HC e
      go_quiet (fail)
      go_wp2_with fail
      go_meet
      exact ⟨rfl, rfl, ⟨rfl, rfl, rfl, Nat.le_refl _, fun _ _ => rfl⟩⟩
    · obtain rfl : mn = c b := by omega
      obtain rfl : mx = c a := by omega
      have e1 : ((c b : Nat) : Int) < ((c a : Nat) : Int) := by omega
      have e2 : ¬ (((c a : Nat) : Int) < ((c b : Nat) : Int)) := by omega
      have e3 : ¬ (c a < c b) := by omega
      clear hmn hmx HE
      go_quiet (fail)
      go_wp2_with fail
      go_meet
      exact ⟨rfl, rfl, ⟨rfl, rfl, rfl, Nat.le_refl _, fun _ _ => rfl⟩⟩
  case rest =>
    obtain ⟨rfl, rfl, HB⟩ := hcut
    clear l0 l1 hbC hmn hmx
    have HC2 : Hid (CI wc bC n cap (joinK c mn mx 0) ∧ Mv (OneB bC) w wc) := by
      refine ⟨?_, Mv.below HB.out⟩
      have e : joinK c mn mx 0 = c := by funext j; unfold joinK; rw [if_neg (Nat.not_lt_zero _)]
      rw [e]
      exact HC.out.stay fun b hb => HB.out.block b (HC.out.lt hb)
    clear HB HC
    go_wp2
    go_loopw [8] (fun v8 wr => ∃ (i : Nat), v8 = .int .i64 (i : Nat) ∧ i ≤ n ∧ Hid (CI wr bC n cap (joinK c mn mx i) ∧ Mv (OneB bC) w wr)) (fun v _ => n - (intOf v).toNat)
    case atStart => exact ⟨0, rfl, Nat.zero_le _, HC2.out⟩
    case round =>
      rename World => wl
      clear HC2
      obtain ⟨i, rfl, hi, HR⟩ := hrel
      by_cases hlt : i < n
      · have hltI : (i : Int) < (n : Int) := by omega
        have l0 := HR.out.1.cell (i := i) hlt (j := 0) (by omega)
        have hfz := HR.out.1.frozen i
        have hbC : bC < wl.heap.size := HR.out.1.lt rfl
        have ei : joinK c mn mx i i = c i := by unfold joinK; rw [if_neg (by omega)]
        simp only [Nat.add_zero, Nat.mul_one, List.getElem?_cons_zero, ei] at l0
        clear ei
        by_cases he : c i = mx
        · have heI : ((c i : Nat) : Int) = ((mx : Nat) : Int) := by omega
          have HN : Hid (CI (wl.setCell ⟨bC, i, none⟩ (.int .i64 (mn : Nat))) bC n cap (joinK c mn mx (i + 1)) ∧ Mv (OneB bC) w (wl.setCell ⟨bC, i, none⟩ (.int .i64 (mn : Nat)))) := by
            refine ⟨?_, HR.out.2.set (a := ⟨bC, i, none⟩) (Or.inl rfl) _⟩
            rw [joinK_yes he]
            have := HR.out.1.set (i := i) (j := 0) hlt (by omega) (.int .i64 (mn : Nat)) (f' := fun k => [.int .i64 (upd (joinK c mn mx i) i mn k : Nat)]) (fun _ _ => rfl) (by rw [upd_same]; rfl) (fun k _ hk => by rw [upd_other _ _ hk])
            simpa using this
          clear HR
          rw [he] at l0
          go_wp2
          go_roundw
          case rel => exact ⟨i + 1, by go_num, by omega, HN.out⟩
          case measure => simp [intOf]; omega
        · have heI : ¬ (((c i : Nat) : Int) = ((mx : Nat) : Int)) := by omega
          have HN : Hid (CI wl bC n cap (joinK c mn mx (i + 1)) ∧ Mv (OneB bC) w wl) := by
            rw [joinK_no he]; exact HR.out
          clear HR
          go_wp2
          go_roundw
          case rel => exact ⟨i + 1, by go_num, by omega, HN.out⟩
          case measure => simp [intOf]; omega
      · have hltI : ¬ ((i : Int) < (n : Int)) := by omega
        obtain rfl : i = n := by omega
        have HN : Hid (CI wl bC i cap (joinC c a b) ∧ Mv (OneB bC) w wl) := by
          refine ⟨HR.out.1.congr fun j hj => ?_, HR.out.2⟩
          rw [HE.out.1, HE.out.2, joinK_all c a b i hj]
        clear HR
        go_wp2
        refine bodyPost_end (v := .tuple #[]) (by simp [results, Try.results15, go_sem]) rfl ?_
        exact ⟨rfl, HN.out⟩
theorem rjoin_any (bC n cap : Nat) (c : Nat → Nat) (a b : Nat) (w : World) (h : CI w bC n cap c) (ha : a < n) (hb : b < n) (hn : n ≤ 1000) :
    Calls Try.prog 15 #[.slice (some ⟨bC, 0, none⟩) n cap, .int .i64 (a : Nat), .int .i64 (b : Nat)] w fun e w' => e = .returned (.tuple #[]) ∧ CI w' bC n cap (joinC c a b) ∧ Mv (OneB bC) w w' :=
  rjoin_core bC n cap c a b _ _ w h ha hb hn rfl rfl
end Euf
end Go.Proofs.Ytmnpefiaelpkfac
