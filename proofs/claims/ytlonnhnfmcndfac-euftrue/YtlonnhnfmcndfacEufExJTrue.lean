/- Why two parts are the same: the ways up that were gone suffice; no statement of the seat is proved here. -/
import Derived.Test.YtlonnhnfmcndfacJoin7True
namespace Go.Proofs.Ytlonnhnfmcndfac
open Go.RowKit
set_option linter.unusedVariables false
namespace Euf
/-- Upwards from x to r, over parts of A alone. -/
inductive Up (S : Nat → Spot) (A : Nat → Prop) : Nat → Nat → Prop
  | refl (x : Nat) : Up S A x x
  | step {x y r : Nat} : A x → (S x).up = (y : Int) → Up S A y r → Up S A x r
section
variable {S : Nat → Spot} {A G : Nat → Prop}
theorem Up.trans {x y z : Nat} (h : Up S A x y) (k : Up S A y z) : Up S A x z := by
  induction h with
  | refl => exact k
  | step h1 h2 _ ih => exact .step h1 h2 (ih k)
theorem Up.mono {B : Nat → Prop} (hs : ∀ i, A i → B i) {x y : Nat} (h : Up S A x y) : Up S B x y := by
  induction h with
  | refl => exact .refl _
  | step h1 h2 _ ih => exact .step (hs _ h1) h2 ih
/-- Two ways up from one part: one goes on where the other ends. -/
theorem Up.either {B : Nat → Prop} {x r : Nat} (h : Up S A x r) : ∀ {r' : Nat}, Up S B x r' → Up S A r' r ∨ Up S B r r' := by
  induction h with
  | refl => intro r' h; exact Or.inr h
  | @step x y r h1 h2 h3 ih =>
    intro r' h
    cases h with
    | refl => exact Or.inl (.step h1 h2 h3)
    | @step _ y' _ k1 k2 k3 =>
      have : y' = y := by omega
      subst this
      exact ih k3
theorem Up.short {x r : Nat} (h : Up S A x r) : ∀ {n : Nat}, Ups S (x : Int) n → ∃ m, Ups S (r : Int) m ∧ m ≤ n ∧ (m = n → x = r) := by
  induction h with
  | refl => intro n hn; exact ⟨n, hn, Nat.le_refl _, fun _ => rfl⟩
  | @step x y r h1 h2 h3 ih =>
    intro n hn
    obtain ⟨m, rfl, k2⟩ := hn.nat
    rw [h2] at k2
    obtain ⟨k, h4, h5, h6⟩ := ih k2
    exact ⟨k, h4, by omega, fun e => by omega⟩
/-- A way over A up to r and one over G up to R, which isn't of G: the lower one is reached over both. -/
theorem Up.both {x r R : Nat} (h : Up S A x r) : Up S G x R → ¬ G R → (Up S (fun i => A i ∧ G i) x r ∧ Up S G r R) ∨ (Up S (fun i => A i ∧ G i) x R ∧ Up S A R r) := by
  induction h with
  | refl => intro h _; exact Or.inl ⟨.refl _, h⟩
  | @step x y r h1 h2 h3 ih =>
    intro h hR
    cases h with
    | refl => exact Or.inr ⟨.refl _, .step h1 h2 h3⟩
    | @step _ y' _ k1 k2 k3 =>
      have : y' = y := by omega
      subst this
      rcases ih k3 hR with ⟨q1, q2⟩ | ⟨q1, q2⟩
      · exact Or.inl ⟨.step ⟨h1, k1⟩ h2 q1, q2⟩
      · exact Or.inr ⟨.step ⟨h1, k1⟩ h2 q1, q2⟩
/-- The first part that isn't gone lies above both. -/
def Meet (S : Nat → Spot) (G : Nat → Prop) (x y : Nat) : Prop := ∃ R, Up S G x R ∧ Up S G y R ∧ ¬ G R
theorem Meet.symm {x y : Nat} (h : Meet S G x y) : Meet S G y x := by
  obtain ⟨R, h1, h2, h3⟩ := h
  exact ⟨R, h2, h1, h3⟩
theorem Up.meet {x y r : Nat} (hx : Up S A x r) (hy : Up S A y r) (hm : Meet S G x y) (hu : ∃ n, Ups S (r : Int) n) : ∃ p, Up S (fun i => A i ∧ G i) x p ∧ Up S (fun i => A i ∧ G i) y p := by
  obtain ⟨R, h1, h2, h3⟩ := hm
  obtain ⟨n, hn⟩ := hu
  have key : Up S G r R → Up S A R r → r = R := by
    intro k1 k2
    obtain ⟨m, m1, m2, m3⟩ := k1.short hn
    obtain ⟨m', q1, q2, q3⟩ := k2.short m1
    have := hn.one q1
    exact m3 (by omega)
  rcases hx.both h1 h3 with ⟨a1, a2⟩ | ⟨a1, a2⟩ <;> rcases hy.both h2 h3 with ⟨b1, b2⟩ | ⟨b1, b2⟩
  · exact ⟨r, a1, b1⟩
  · have := key a2 b2; subst this; exact ⟨r, a1, b1⟩
  · have := key b2 a2; subst this; exact ⟨r, a1, b1⟩
  · exact ⟨R, a1, b1⟩
end
section
variable {f : Fx} {m ns : Nat} {S : Nat → Spot} {H : List Claim}
/-- The edges that some claims made. -/
def Of (S : Nat → Spot) (K : List Claim) (i : Nat) : Prop := ∃ c ∈ K, ∃ z : Nat, (S i).up = (z : Int) ∧ Two c i z ∧ c.why = (S i).why
theorem Conn.up (h : Hist f m ns S [] H) {K : List Claim} (hK : ∀ c ∈ K, c ∈ H) {x y : Nat} (hc : Conn K x y) : ∃ r, Up S (Of S K) x r ∧ Up S (Of S K) y r := by
  induction hc with
  | refl x => exact ⟨x, .refl _, .refl _⟩
  | @step x y z c hcK ht _ ih =>
    obtain ⟨r, h1, h2⟩ := ih
    have hl := h.lt c (hK c hcK)
    have hxy : x < ns ∧ y < ns := by rcases ht with ⟨rfl, rfl⟩ | ⟨rfl, rfl⟩ <;> omega
    have he := (h.edge x y c.why hxy.1 hxy.2).2 ⟨c, hK c hcK, ht, rfl⟩
    rcases he with ⟨e1, e2⟩ | ⟨e1, e2⟩
    · exact ⟨r, .step ⟨c, hcK, y, e1, ht, e2.symm⟩ e1 h1, h2⟩
    · have s1 : Up S (Of S K) y x := .step ⟨c, hcK, x, e1, ht.symm, e2.symm⟩ e1 (.refl _)
      rcases s1.either h1 with h3 | h3
      · exact ⟨x, .refl _, h2.trans h3⟩
      · exact ⟨r, h3, h2⟩
/-- What was gone after. -/
structure Gone (f : Fx) (S : Nat → Spot) (G : Nat → Prop) (L : List Int) : Prop where
  eq : ∀ i, G i → (S i).why ≠ -1 → (S i).why ∈ L
  made : ∀ i, G i → (S i).why = -1 → Meet S G (f.P i).front.toNat (f.P (S i).up.toNat).front.toNat ∧ Meet S G (f.P i).arg.toNat (f.P (S i).up.toNat).arg.toNat
theorem gone_val (hs : Hist f m ns S [] H) (hnp : ns ≤ f.np) (hu : ∀ i, i < ns → ∃ n, Ups S (i : Int) n) (hlt : ∀ c ∈ H, ∀ x, (x = c.a ∨ x = c.b) → Made f.P x → (f.P x).front.toNat < ns ∧ (f.P x).arg.toNat < ns)
    {G : Nat → Prop} {L : List Int} (hg : Gone f S G L) {D : Type} {val : Nat → D} (hM : Model f.np f.P val) (hE : ∀ k : Nat, (k : Int) ∈ L → val (f.W (f.E k).1) = val (f.W (f.E k).2.1)) :
    ∀ (n : Nat) (K : List Claim), K.length ≤ n → (∃ K', H = K' ++ K) → HOk f m K → ∀ x y, x < ns → Conn K x y → Meet S G x y → val x = val y
  | 0, K, hn, hK, hok, x, y, hx, hc, hm => by
    have : K = [] := List.eq_nil_of_length_eq_zero (by omega)
    subst this
    cases hc with
    | refl => rfl
    | step h1 => cases h1
  | n + 1, K, hn, hK, hok, x, y, hx, hc, hm => by
    have hsub : ∀ c ∈ K, c ∈ H := fun c hc => by obtain ⟨K', e⟩ := hK; rw [e]; exact List.mem_append_right _ hc
    obtain ⟨r, h1, h2⟩ := hc.up hs hsub
    have step1 : ∀ i, Of S K i ∧ G i → ∀ z : Nat, (S i).up = (z : Int) → val i = val z := by
      rintro i ⟨⟨c, hcK, z, e1, e2, e3⟩, hGi⟩ z' hz'
      have : z' = z := by omega
      subst this
      obtain ⟨K1, K2, rfl⟩ := List.append_of_mem hcK
      have hokc : ClaimOk f m K2 c ∧ HOk f m K2 := by
        have key : ∀ (K1 : List Claim), HOk f m (K1 ++ c :: K2) → ClaimOk f m K2 c ∧ HOk f m K2 := by
          intro K1
          induction K1 with
          | nil => exact id
          | cons d K1 ih => exact fun h => ih h.2
        exact key K1 hok
      have hcv : val c.a = val c.b := by
        rcases hokc.1 with ⟨q1, q2, q3, q4, q5⟩ | ⟨k, q1, q2, q3, q4⟩
        · have hmd := hg.made i hGi (by rw [← e3]; exact q1)
          rw [hz', Int.toNat_natCast] at hmd
          have hca := hlt c (hsub c hcK) c.a (Or.inl rfl) q2
          have hlen : K2.length ≤ n := by simp at hn; omega
          have hex : ∃ K', H = K' ++ K2 := by
            obtain ⟨K', e⟩ := hK
            exact ⟨K' ++ (K1 ++ [c]), by rw [e]; simp⟩
          have mf : Meet S G (f.P c.a).front.toNat (f.P c.b).front.toNat ∧ Meet S G (f.P c.a).arg.toNat (f.P c.b).arg.toNat := by
            rcases e2 with ⟨rfl, rfl⟩ | ⟨rfl, rfl⟩
            · exact hmd
            · exact ⟨hmd.1.symm, hmd.2.symm⟩
          have hl := hs.lt c (hsub c hcK)
          refine hM c.a c.b (by omega) (by omega) q2 q3 ?_ ?_
          · exact gone_val hs hnp hu hlt hg hM hE n K2 hlen hex hokc.2 _ _ hca.1 q4 mf.1
          · exact gone_val hs hnp hu hlt hg hM hE n K2 hlen hex hokc.2 _ _ hca.2 q5 mf.2
        · have := hg.eq i hGi (by rw [← e3, q2]; omega)
          rw [← e3, q2] at this
          rw [q3, q4]; exact hE k this
      rcases e2 with ⟨rfl, rfl⟩ | ⟨rfl, rfl⟩
      · exact hcv
      · exact hcv.symm
    have hrn : ∃ n, Ups S (r : Int) n := by
      obtain ⟨n0, hn0⟩ := hu x hx
      obtain ⟨m0, h3, _⟩ := h1.short hn0
      exact ⟨m0, h3⟩
    obtain ⟨p, p1, p2⟩ := h1.meet h2 hm hrn
    have go : ∀ {x p : Nat}, Up S (fun i => Of S K i ∧ G i) x p → val x = val p := by
      intro x p h
      induction h with
      | refl => rfl
      | step a1 a2 _ ih => exact (step1 _ a1 _ a2).trans ih
    exact (go p1).trans (go p2).symm
end
/-- The equations of a list. -/
def EqIn (f : Fx) (L : List Int) (a b : Nat) : Prop := ∃ k : Nat, k < f.ne ∧ (k : Int) ∈ L ∧ (f.E k).1 = a ∧ (f.E k).2.1 = b
theorem explained {f : Fx} {t : Tx} {s : Sx} (ht : TOk f t none) (hf : FOk f) (hs : Sem f f.ne s) (hI : Inv f.np f.P s.ns s.S s.sg [] []) (hn : s.ns = f.np) {G : Nat → Prop} {L : List Int} (hg : Gone f s.S G L) (hL : ∀ z ∈ L, ∃ k : Nat, k < f.ne ∧ z = (k : Int))
    {a b : Nat} (ha : a < t.nn) (hb : b < t.nn) (hab : (s.S (f.W a)).cls = (s.S (f.W b)).cls) (hm : Meet s.S G (f.W a) (f.W b)) : Cong t.nn t.N (EqIn f L) a b := by
  obtain ⟨H, hH⟩ := hs.hist
  have wa := (ht.whole a ha).1
  have wb := (ht.whole b hb).1
  have hv := gone_val hH (by omega) hI.ups (fun c hc x hx hmx => by
    have := hH.lt c hc
    exact hI.frontLt (by rcases hx with rfl | rfl <;> omega) hmx) hg (cval_model (E := EqIn f L) ht) (fun k hk => by
      obtain ⟨k', hk', e⟩ := hL _ hk
      have : k = k' := by omega
      subst this
      have he := hf.eqs k hk'
      rw [ht.nw] at he
      rw [cval_whole ht he.1, cval_whole ht he.2.1]
      congr 1
      have c : Cong t.nn t.N (EqIn f L) (f.E k).1 (f.E k).2.1 := .eq ⟨k, hk', hk, rfl, rfl⟩
      exact funext fun b => propext ⟨fun h => (c.symm).trans h, fun h => c.trans h⟩)
    H.length H (Nat.le_refl _) ⟨[], rfl⟩ hH.ok (f.W a) (f.W b) (by omega) (hH.conn _ _ (by omega) (by omega) hab) hm
  rw [cval_whole ht ha, cval_whole ht hb] at hv
  injection hv with hv
  rw [congrFun hv b]; exact .refl _
end Euf
end Go.Proofs.Ytlonnhnfmcndfac
