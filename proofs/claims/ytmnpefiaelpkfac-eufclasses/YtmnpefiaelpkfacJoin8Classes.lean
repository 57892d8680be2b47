/- Joined: EufWh, EufEx, EufAc, EufSt: words and contracts; no statement of the seat is proved here. -/
import Derived.Test.YtmnpefiaelpkfacJoin7Classes
import Derived.Test.YtmnpefiaelpkfacJoin0Classes
/- All blocks of the graph, and what the calls make of them; no statement of the seat is proved here. -/
namespace Go.Proofs.Ytmnpefiaelpkfac
open Go.RowKit
set_option linter.unusedVariables false
namespace Euf
/-- All blocks of the graph, those of the nodes' arguments too. -/
def Fh (g : Nat) (d : Gd) (b : Nat) : Prop := Fg g d b ∨ ∃ i, i < d.t.nn ∧ (d.ag i).ownBlock = some b
section
variable {w w' : World} {g : Nat} {d d' : Gd}
theorem GW.hlt (h : GW w g d) {b : Nat} (hb : Fh g d b) : b < w.heap.size := by
  rcases hb with hb | ⟨i, hi, hb⟩
  · exact h.lt hb
  · exact (h.args i hi).lt hb
/-- Nothing of the graph's blocks is written. -/
theorem GW.keep (h : GW w g d) (hb : ∀ b, Fh g d b → w'.heap[b]? = w.heap[b]?) : GW w' g d := by
  have G : ∀ b, Fg g d b → w'.heap[b]? = w.heap[b]? := fun b hb' => hb b (Or.inl hb')
  have T : ∀ b, Ft g d.x d.y d.s.ns b → w'.heap[b]? = w.heap[b]? := fun b hb' => G b (Or.inr (Or.inr hb'))
  have A : ∀ b, Fa g d b → w'.heap[b]? = w.heap[b]? := fun b hb' => G b (Or.inl (Or.inr hb'))
  refine { h with cw := { blk := (T g (Or.inl rfl)).trans h.cw.blk, parts := h.cw.parts.stay fun b e => A b (Or.inr (Or.inl e)), whole := h.cw.whole.stay fun b e => A b (Or.inr (Or.inr (Or.inl e))), eqs := h.cw.eqs.stay fun b e => G b (Or.inr (Or.inl e)), spots := h.cw.spots.stay fun b e => T b (Or.inr (Or.inr (Or.inl e))), uses := fun i hi => (h.cw.uses i hi).stay fun b e => T b (Or.inr (Or.inr (Or.inr (Or.inr ⟨i, hi, e⟩)))), claims := h.cw.claims.stay fun b e => T b (Or.inr (Or.inr (Or.inr (Or.inl e)))), sig := h.cw.sig.stay (T _ (Or.inr (Or.inl rfl))), apart := h.cw.apart, apartW := h.cw.apartW, small := h.cw.small }, nodes := h.nodes.stay fun b e => G b (Or.inl (Or.inl e)), args := fun i hi => (h.args i hi).stay fun b e => hb b (Or.inr ⟨i, hi, e⟩), heads := h.heads.stay (A _ (Or.inr (Or.inr (Or.inr (Or.inl rfl))))), pairs := h.pairs.stay (A _ (Or.inr (Or.inr (Or.inr (Or.inr rfl))))) }
theorem Grown.fh {s : ByteArray} {l : List Nat} {n : Nat} (h : Grown d s l d') (h1 : ∀ b, Fn g d' b → Fn g d b ∨ n ≤ b) (h2 : ∃ u b, d'.ag = upd d.ag d.t.nn u ∧ u.ownBlock = some b ∧ n ≤ b) : ∀ b, Fh g d' b → Fh g d b ∨ n ≤ b := by
  rintro b ((hb | hb | hb) | ⟨i, hi, hb⟩)
  · exact (h1 b hb).imp (fun h9 => Or.inl (Or.inl h9)) id
  · exact Or.inl (Or.inl (Or.inr (Or.inl (h.r.2.2.2.2.2.1 ▸ hb))))
  · left; left; right; right
    obtain ⟨_, r2, r3, _, _, _, r7⟩ := h.r
    unfold Ft at hb ⊢
    rw [r2, r3, r7] at hb
    exact hb
  · obtain ⟨u, b', e1, e2, e3⟩ := h2
    rw [e1] at hb
    by_cases e : i = d.t.nn
    · subst e; rw [upd_same] at hb
      right
      rw [e2] at hb; injection hb with hb
      omega
    · rw [upd_other _ _ e] at hb
      rw [h.nn] at hi
      exact Or.inl (Or.inr ⟨i, by omega, hb⟩)
theorem dNew_fh {n b : Nat} (h : Fh (n + 3) (dNew n) b) : n ≤ b := by
  rcases h with h | ⟨i, hi, _⟩
  · exact dNew_fg h
  · exact absurd hi (Nat.not_lt_zero _)
/-- What holds of the graph between calls, with what its classes mean. -/
structure GSem (d : Gd) : Prop where
  ok : GOk d
  sem : Sem d.f d.m d.s
theorem dNew_sem (n : Nat) : GSem (dNew n) := by
  refine ⟨{ t := dNew_ok n, f := ⟨(dNew_ok n).partsOk, fun i hi => absurd hi (Nat.not_lt_zero _), fun k hk => absurd hk (Nat.not_lt_zero _)⟩, cl := rfl, inv := ?_, m := Nat.le_refl _ }, Sem.none _ _ rfl⟩
  exact { parts := (dNew_ok n).partsOk, le := Nat.le_refl _, lt := fun i hi => absurd hi (Nat.not_lt_zero _), rep := fun i hi => absurd hi (Nat.not_lt_zero _), ring := fun i hi => absurd hi (Nat.not_lt_zero _), ups := fun i hi => absurd hi (Nat.not_lt_zero _), upc := fun i hi => absurd hi (Nat.not_lt_zero _), use1 := fun i hi => absurd hi (Nat.not_lt_zero _), use2 := fun i hi => absurd hi (Nat.not_lt_zero _), useN := Nat.le_refl _, sg1 := fun k q h => (by cases h), sg2 := fun i hi => absurd hi (Nat.not_lt_zero _), cls := fun c hc => (by cases hc) }
theorem Inv.more {np np' ns : Nat} {P P' : Nat → Part} {S : Nat → Spot} {sg : Nat × Nat → Option Nat} (h : Inv np P ns S sg [] []) (hp : PartsOk np' P') (hnp : np ≤ np') (hP : ∀ i, i < np → P' i = P i) : Inv np' P' ns S sg [] [] := by
  have hle := h.le
  have sg_ : ∀ p, p < ns → sig P' S p = sig P S p := fun p hp => by unfold sig; rw [hP p (by omega)]
  have md : ∀ p, p < ns → (Made P' p ↔ Made P p) := fun p hp => by unfold Made; rw [hP p (by omega)]
  refine { h with parts := hp, le := by omega, use1 := fun p h1 h2 => ?_, use2 := fun c h1 p h2 => ?_, sg1 := fun k q h1 => ?_, sg2 := fun p h1 h2 h3 => ?_ }
  · rw [sg_ p h1]; exact h.use1 p h1 ((md p h1).1 h2)
  · obtain ⟨k1, k2, k3⟩ := h.use2 c h1 p h2
    exact ⟨k1, (md p k1).2 k2, by rw [sg_ p k1]; exact k3⟩
  · obtain ⟨k1, k2, k3⟩ := h.sg1 k q h1
    exact ⟨k1, (md q k1).2 k2, by rw [sg_ q k1]; exact k3⟩
  · obtain ⟨q, k1, k2⟩ := h.sg2 p h1 ((md p h1).1 h2) h3
    exact ⟨q, by rw [sg_ p h1]; exact k1, k2⟩
theorem Grown.sem {s : ByteArray} {l : List Nat} (h : Grown d s l d') (hs : GSem d) : GSem d' := by
  obtain ⟨r1, r2, r3, _⟩ := h.r
  have nw := hs.ok.t.nw
  have hf : FOk d'.f := by
    refine ⟨h.ok.partsOk, fun i hi => (h.ok.whole i (by rw [← h.ok.nw]; exact hi)).1, fun k hk => ?_⟩
    rw [h.ne.1] at hk
    rw [h.ne.2]
    obtain ⟨e1, e2, e3, e4, e5⟩ := hs.ok.f.eqs k hk
    rw [h.W _ (by omega), h.W _ (by omega), h.ok.nw, h.nn]
    have := h.np.1
    exact ⟨by omega, by omega, e3, e4, by omega⟩
  refine ⟨{ t := h.ok, f := hf, cl := by rw [r3]; exact hs.ok.cl, inv := ?_, m := by rw [r1, h.ne.1]; exact hs.ok.m }, ?_⟩
  · rw [r3]; exact hs.ok.inv.more h.ok.partsOk h.np.1 h.P
  · rw [r1, r3]
    exact hs.sem.grow hs.ok.f hs.ok.inv.le h.np.1 h.P (fun i hi => h.W i (by omega)) (by rw [h.ne.1]; exact Nat.le_refl _) (fun k _ => by rw [h.ne.2])
theorem dE_sem {v : Value} {a b : Nat} (hs : GSem d) (ha : a < d.t.nn) (hb : b < d.t.nn) : GSem (dE d v (a, b, d.f.np)) := by
  have nw := hs.ok.t.nw
  have t' : TOk (dE d v (a, b, d.f.np)).f d.t none := { hs.ok.t with }
  refine ⟨{ t := t', f := ⟨hs.ok.f.parts, hs.ok.f.whole, fun k hk => ?_⟩, cl := hs.ok.cl, inv := hs.ok.inv, m := Nat.le_succ_of_le hs.ok.m }, ?_⟩
  · replace hk : k < d.f.ne + 1 := hk
    show (upd d.f.E d.f.ne (a, b, d.f.np) k).1 < d.f.nw ∧ (upd d.f.E d.f.ne (a, b, d.f.np) k).2.1 < d.f.nw ∧ d.f.W (upd d.f.E d.f.ne (a, b, d.f.np) k).1 < (upd d.f.E d.f.ne (a, b, d.f.np) k).2.2 ∧ d.f.W (upd d.f.E d.f.ne (a, b, d.f.np) k).2.1 < (upd d.f.E d.f.ne (a, b, d.f.np) k).2.2 ∧ (upd d.f.E d.f.ne (a, b, d.f.np) k).2.2 ≤ d.f.np
    by_cases e : k = d.f.ne
    · subst e; rw [upd_same]
      exact ⟨by rw [nw]; exact ha, by rw [nw]; exact hb, (hs.ok.t.whole a ha).1, (hs.ok.t.whole b hb).1, Nat.le_refl _⟩
    · rw [upd_other _ _ e]; exact hs.ok.f.eqs k (by omega)
  · exact hs.sem.grow (f' := (dE d v (a, b, d.f.np)).f) hs.ok.f hs.ok.inv.le (Nat.le_refl _) (fun _ _ => rfl) (fun _ _ => rfl) (Nat.le_succ _) (fun k hk => upd_other _ _ (by omega))
theorem dR_sem {y : Ly} {s : Sx} (hs : GSem d) (hr : Run d.f d.m d.s d.f.ne s) : GSem (dR d d.f.ne y s) := by
  obtain ⟨k1, k2⟩ := hr.ok hs.ok.f hs.ok.cl hs.ok.inv
  exact ⟨{ t := hs.ok.t, f := hs.ok.f, cl := k1, inv := k2, m := Nat.le_refl _ }, hr.sem hs.ok.f hs.ok.cl hs.ok.inv hs.sem⟩
end
end Euf
end Go.Proofs.Ytmnpefiaelpkfac
/- Why two parts are the same: the ways up that were gone suffice; no statement of the seat is proved here. -/
namespace Go.Proofs.Ytmnpefiaelpkfac
open Go.RowKit
set_option linter.unusedVariables false
namespace Euf
/-- Upwards from x to r, over parts of A alone. -/
inductive Up (S : Nat → Spot) (A : Nat → Prop) : Nat → Nat → Prop
  | refl (x : Nat) : Up S A x x
  | step {x y r : Nat} : A x → (S x).up = (y : Int) → Up S A y r → Up S A x r
section
variable {S : Nat → Spot} {A G : Nat → Prop}
theorem Up.trans {x y z : Nat} (h : Up S A x y) (k : Up S A y z) : Up S A x z := by
  induction h with
  | refl => exact k
  | step h1 h2 _ ih => exact .step h1 h2 (ih k)
theorem Up.mono {B : Nat → Prop} (hs : ∀ i, A i → B i) {x y : Nat} (h : Up S A x y) : Up S B x y := by
  induction h with
  | refl => exact .refl _
  | step h1 h2 _ ih => exact .step (hs _ h1) h2 ih
/-- Two ways up from one part: one goes on where the other ends. -/
theorem Up.either {B : Nat → Prop} {x r : Nat} (h : Up S A x r) : ∀ {r' : Nat}, Up S B x r' → Up S A r' r ∨ Up S B r r' := by
  induction h with
  | refl => intro r' h; exact Or.inr h
  | @step x y r h1 h2 h3 ih =>
    intro r' h
    cases h with
    | refl => exact Or.inl (.step h1 h2 h3)
    | @step _ y' _ k1 k2 k3 =>
      have : y' = y := by omega
      subst this
      exact ih k3
theorem Up.short {x r : Nat} (h : Up S A x r) : ∀ {n : Nat}, Ups S (x : Int) n → ∃ m, Ups S (r : Int) m ∧ m ≤ n ∧ (m = n → x = r) := by
  induction h with
  | refl => intro n hn; exact ⟨n, hn, Nat.le_refl _, fun _ => rfl⟩
  | @step x y r h1 h2 h3 ih =>
    intro n hn
    obtain ⟨m, rfl, k2⟩ := hn.nat
    rw [h2] at k2
    obtain ⟨k, h4, h5, h6⟩ := ih k2
    exact ⟨k, h4, by omega, fun e => by omega⟩
/-- A way over A up to r and one over G up to R, which isn't of G: the lower one is reached over both. -/
theorem Up.both {x r R : Nat} (h : Up S A x r) : Up S G x R → ¬ G R → (Up S (fun i => A i ∧ G i) x r ∧ Up S G r R) ∨ (Up S (fun i => A i ∧ G i) x R ∧ Up S A R r) := by
  induction h with
  | refl => intro h _; exact Or.inl ⟨.refl _, h⟩
  | @step x y r h1 h2 h3 ih =>
    intro h hR
    cases h with
    | refl => exact Or.inr ⟨.refl _, .step h1 h2 h3⟩
    | @step _ y' _ k1 k2 k3 =>
      have : y' = y := by omega
      subst this
      rcases ih k3 hR with ⟨q1, q2⟩ | ⟨q1, q2⟩
      · exact Or.inl ⟨.step ⟨h1, k1⟩ h2 q1, q2⟩
      · exact Or.inr ⟨.step ⟨h1, k1⟩ h2 q1, q2⟩
/-- The first part that isn't gone lies above both. -/
def Meet (S : Nat → Spot) (G : Nat → Prop) (x y : Nat) : Prop := ∃ R, Up S G x R ∧ Up S G y R ∧ ¬ G R
theorem Meet.symm {x y : Nat} (h : Meet S G x y) : Meet S G y x := by
  obtain ⟨R, h1, h2, h3⟩ := h
  exact ⟨R, h2, h1, h3⟩
theorem Up.meet {x y r : Nat} (hx : Up S A x r) (hy : Up S A y r) (hm : Meet S G x y) (hu : ∃ n, Ups S (r : Int) n) : ∃ p, Up S (fun i => A i ∧ G i) x p ∧ Up S (fun i => A i ∧ G i) y p := by
  obtain ⟨R, h1, h2, h3⟩ := hm
  obtain ⟨n, hn⟩ := hu
  have key : Up S G r R → Up S A R r → r = R := by
    intro k1 k2
    obtain ⟨m, m1, m2, m3⟩ := k1.short hn
    obtain ⟨m', q1, q2, q3⟩ := k2.short m1
    have := hn.one q1
    exact m3 (by omega)
  rcases hx.both h1 h3 with ⟨a1, a2⟩ | ⟨a1, a2⟩ <;> rcases hy.both h2 h3 with ⟨b1, b2⟩ | ⟨b1, b2⟩
  · exact ⟨r, a1, b1⟩
  · have := key a2 b2; subst this; exact ⟨r, a1, b1⟩
  · have := key b2 a2; subst this; exact ⟨r, a1, b1⟩
  · exact ⟨R, a1, b1⟩
end
section
variable {f : Fx} {m ns : Nat} {S : Nat → Spot} {H : List Claim}
/-- The edges that some claims made. -/
def Of (S : Nat → Spot) (K : List Claim) (i : Nat) : Prop := ∃ c ∈ K, ∃ z : Nat, (S i).up = (z : Int) ∧ Two c i z ∧ c.why = (S i).why
theorem Conn.up (h : Hist f m ns S [] H) {K : List Claim} (hK : ∀ c ∈ K, c ∈ H) {x y : Nat} (hc : Conn K x y) : ∃ r, Up S (Of S K) x r ∧ Up S (Of S K) y r := by
  induction hc with
  | refl x => exact ⟨x, .refl _, .refl _⟩
  | @step x y z c hcK ht _ ih =>
    obtain ⟨r, h1, h2⟩ := ih
    have hl := h.lt c (hK c hcK)
    have hxy : x < ns ∧ y < ns := by rcases ht with ⟨rfl, rfl⟩ | ⟨rfl, rfl⟩ <;> omega
    have he := (h.edge x y c.why hxy.1 hxy.2).2 ⟨c, hK c hcK, ht, rfl⟩
    rcases he with ⟨e1, e2⟩ | ⟨e1, e2⟩
    · exact ⟨r, .step ⟨c, hcK, y, e1, ht, e2.symm⟩ e1 h1, h2⟩
    · have s1 : Up S (Of S K) y x := .step ⟨c, hcK, x, e1, ht.symm, e2.symm⟩ e1 (.refl _)
      rcases s1.either h1 with h3 | h3
      · exact ⟨x, .refl _, h2.trans h3⟩
      · exact ⟨r, h3, h2⟩
/-- What was gone after. -/
structure Gone (f : Fx) (S : Nat → Spot) (G : Nat → Prop) (L : List Int) : Prop where
  eq : ∀ i, G i → (S i).why ≠ -1 → (S i).why ∈ L
  made : ∀ i, G i → (S i).why = -1 → Meet S G (f.P i).front.toNat (f.P (S i).up.toNat).front.toNat ∧ Meet S G (f.P i).arg.toNat (f.P (S i).up.toNat).arg.toNat
theorem gone_val (hs : Hist f m ns S [] H) (hnp : ns ≤ f.np) (hu : ∀ i, i < ns → ∃ n, Ups S (i : Int) n) (hlt : ∀ c ∈ H, ∀ x, (x = c.a ∨ x = c.b) → Made f.P x → (f.P x).front.toNat < ns ∧ (f.P x).arg.toNat < ns)
    {G : Nat → Prop} {L : List Int} (hg : Gone f S G L) {D : Type} {val : Nat → D} (hM : Model f.np f.P val) (hE : ∀ k : Nat, (k : Int) ∈ L → val (f.W (f.E k).1) = val (f.W (f.E k).2.1)) :
    ∀ (n : Nat) (K : List Claim), K.length ≤ n → (∃ K', H = K' ++ K) → HOk f m K → ∀ x y, x < ns → Conn K x y → Meet S G x y → val x = val y
  | 0, K, hn, hK, hok, x, y, hx, hc, hm => by
    have : K = [] := List.eq_nil_of_length_eq_zero (by omega)
    subst this
    cases hc with
    | refl => rfl
    | step h1 => cases h1
  | n + 1, K, hn, hK, hok, x, y, hx, hc, hm => by
    have hsub : ∀ c ∈ K, c ∈ H := fun c hc => by obtain ⟨K', e⟩ := hK; rw [e]; exact List.mem_append_right _ hc
    obtain ⟨r, h1, h2⟩ := hc.up hs hsub
    have step1 : ∀ i, Of S K i ∧ G i → ∀ z : Nat, (S i).up = (z : Int) → val i = val z := by
      rintro i ⟨⟨c, hcK, z, e1, e2, e3⟩, hGi⟩ z' hz'
      have : z' = z := by omega
      subst this
      obtain ⟨K1, K2, rfl⟩ := List.append_of_mem hcK
      have hokc : ClaimOk f m K2 c ∧ HOk f m K2 := by
        have key : ∀ (K1 : List Claim), HOk f m (K1 ++ c :: K2) → ClaimOk f m K2 c ∧ HOk f m K2 := by
          intro K1
          induction K1 with
          | nil => exact id
          | cons d K1 ih => exact fun h => ih h.2
        exact key K1 hok
      have hcv : val c.a = val c.b := by
        rcases hokc.1 with ⟨q1, q2, q3, q4, q5⟩ | ⟨k, q1, q2, q3, q4⟩
        · have hmd := hg.made i hGi (by rw [← e3]; exact q1)
          rw [hz', Int.toNat_natCast] at hmd
          have hca := hlt c (hsub c hcK) c.a (Or.inl rfl) q2
          have hlen : K2.length ≤ n := by simp at hn; omega
          have hex : ∃ K', H = K' ++ K2 := by
            obtain ⟨K', e⟩ := hK
            exact ⟨K' ++ (K1 ++ [c]), by rw [e]; simp⟩
          have mf : Meet S G (f.P c.a).front.toNat (f.P c.b).front.toNat ∧ Meet S G (f.P c.a).arg.toNat (f.P c.b).arg.toNat := by
            rcases e2 with ⟨rfl, rfl⟩ | ⟨rfl, rfl⟩
            · exact hmd
            · exact ⟨hmd.1.symm, hmd.2.symm⟩
          have hl := hs.lt c (hsub c hcK)
          refine hM c.a c.b (by omega) (by omega) q2 q3 ?_ ?_
          · exact gone_val hs hnp hu hlt hg hM hE n K2 hlen hex hokc.2 _ _ hca.1 q4 mf.1
          · exact gone_val hs hnp hu hlt hg hM hE n K2 hlen hex hokc.2 _ _ hca.2 q5 mf.2
        · have := hg.eq i hGi (by rw [← e3, q2]; omega)
          rw [← e3, q2] at this
          rw [q3, q4]; exact hE k this
      rcases e2 with ⟨rfl, rfl⟩ | ⟨rfl, rfl⟩
      · exact hcv
      · exact hcv.symm
    have hrn : ∃ n, Ups S (r : Int) n := by
      obtain ⟨n0, hn0⟩ := hu x hx
      obtain ⟨m0, h3, _⟩ := h1.short hn0
      exact ⟨m0, h3⟩
    obtain ⟨p, p1, p2⟩ := h1.meet h2 hm hrn
    have go : ∀ {x p : Nat}, Up S (fun i => Of S K i ∧ G i) x p → val x = val p := by
      intro x p h
      induction h with
      | refl => rfl
      | step a1 a2 _ ih => exact (step1 _ a1 _ a2).trans ih
    exact (go p1).trans (go p2).symm
end
/-- The equations of a list. -/
def EqIn (f : Fx) (L : List Int) (a b : Nat) : Prop := ∃ k : Nat, k < f.ne ∧ (k : Int) ∈ L ∧ (f.E k).1 = a ∧ (f.E k).2.1 = b
theorem explained {f : Fx} {t : Tx} {s : Sx} (ht : TOk f t none) (hf : FOk f) (hs : Sem f f.ne s) (hI : Inv f.np f.P s.ns s.S s.sg [] []) (hn : s.ns = f.np) {G : Nat → Prop} {L : List Int} (hg : Gone f s.S G L) (hL : ∀ z ∈ L, ∃ k : Nat, k < f.ne ∧ z = (k : Int))
    {a b : Nat} (ha : a < t.nn) (hb : b < t.nn) (hab : (s.S (f.W a)).cls = (s.S (f.W b)).cls) (hm : Meet s.S G (f.W a) (f.W b)) : Cong t.nn t.N (EqIn f L) a b := by
  obtain ⟨H, hH⟩ := hs.hist
  have wa := (ht.whole a ha).1
  have wb := (ht.whole b hb).1
  have hv := gone_val hH (by omega) hI.ups (fun c hc x hx hmx => by
    have := hH.lt c hc
    exact hI.frontLt (by rcases hx with rfl | rfl <;> omega) hmx) hg (cval_model (E := EqIn f L) ht) (fun k hk => by
      obtain ⟨k', hk', e⟩ := hL _ hk
      have : k = k' := by omega
      subst this
      have he := hf.eqs k hk'
      rw [ht.nw] at he
      rw [cval_whole ht he.1, cval_whole ht he.2.1]
      congr 1
      have c : Cong t.nn t.N (EqIn f L) (f.E k).1 (f.E k).2.1 := .eq ⟨k, hk', hk, rfl, rfl⟩
      exact funext fun b => propext ⟨fun h => (c.symm).trans h, fun h => c.trans h⟩)
    H.length H (Nat.le_refl _) ⟨[], rfl⟩ hH.ok (f.W a) (f.W b) (by omega) (hH.conn _ _ (by omega) (by omega) hab) hm
  rw [cval_whole ht ha, cval_whole ht hb] at hv
  injection hv with hv
  rw [congrFun hv b]; exact .refl _
end Euf
end Go.Proofs.Ytmnpefiaelpkfac
/- Going after why two parts are the same: the ways up, where they meet, what was gone; no statement of the seat is proved here. -/
namespace Go.Proofs.Ytmnpefiaelpkfac
open Go.RowKit
set_option linter.unusedVariables false
namespace Euf
/-- The parts whose way up was gone. -/
def AbG (ab : Nat → Option Nat) (i : Nat) : Prop := (ab i).isSome = true
structure AbOk (ns : Nat) (S : Nat → Spot) (ab : Nat → Option Nat) : Prop where
  up : ∀ i j, ab i = some j → i < ns ∧ j < ns ∧ ∃ y : Nat, (S i).up = (y : Int) ∧ y < ns ∧ Up S (AbG ab) y j
section
variable {ns : Nat} {S : Nat → Spot} {ab : Nat → Option Nat}
theorem AbOk.start (ns : Nat) (S : Nat → Spot) : AbOk ns S (fun _ => none) := ⟨fun i j h => by cases h⟩
theorem AbOk.path (h : AbOk ns S ab) {i j : Nat} (hij : ab i = some j) : Up S (AbG ab) i j := by
  obtain ⟨_, _, y, h1, _, h2⟩ := h.up i j hij
  exact .step (by unfold AbG; rw [hij]; rfl) h1 h2
theorem abG_upd (ab : Nat → Option Nat) (i j k : Nat) : AbG (upd ab i (some j)) k ↔ k = i ∨ AbG ab k := by
  unfold AbG
  by_cases e : k = i
  · subst e; simp [upd]
  · simp [upd, e]
/-- A part is set higher. -/
theorem AbOk.higher (h : AbOk ns S ab) {i j k : Nat} (h1 : ab i = some j) (h2 : ab j = some k) : AbOk ns S (upd ab i (some k)) ∧ ∀ x, AbG (upd ab i (some k)) x ↔ AbG ab x := by
  have hG : ∀ x, AbG (upd ab i (some k)) x ↔ AbG ab x := fun x => by
    rw [abG_upd]
    constructor
    · rintro (rfl | h9)
      · unfold AbG; rw [h1]; rfl
      · exact h9
    · exact Or.inr
  refine ⟨⟨fun x y hxy => ?_⟩, hG⟩
  have mono : ∀ {a b : Nat}, Up S (AbG ab) a b → Up S (AbG (upd ab i (some k))) a b := fun hu => hu.mono (fun x hx => (hG x).2 hx)
  by_cases e : x = i
  · subst e
    rw [upd_same] at hxy
    injection hxy with hxy
    subst hxy
    obtain ⟨a1, a2, y, a3, a4, a5⟩ := h.up _ _ h1
    obtain ⟨b1, b2, _⟩ := h.up _ _ h2
    exact ⟨a1, b2, y, a3, a4, mono (a5.trans (h.path h2))⟩
  · rw [upd_other _ _ e] at hxy
    obtain ⟨a1, a2, z, a3, a4, a5⟩ := h.up _ _ hxy
    exact ⟨a1, a2, z, a3, a4, mono a5⟩
/-- A part's way up is gone now. -/
theorem AbOk.mark (h : AbOk ns S ab) {i y : Nat} (hi : i < ns) (hy : y < ns) (hu : (S i).up = (y : Int)) : AbOk ns S (upd ab i (some y)) := by
  refine ⟨fun x z hxz => ?_⟩
  by_cases e : x = i
  · subst e
    rw [upd_same] at hxz
    injection hxz with hxz
    subst hxz
    exact ⟨hi, hy, y, hu, hy, .refl _⟩
  · rw [upd_other _ _ e] at hxz
    obtain ⟨a1, a2, q, a3, a4, a5⟩ := h.up _ _ hxz
    exact ⟨a1, a2, q, a3, a4, a5.mono (fun k hk => (abG_upd ab i y k).2 (Or.inr hk))⟩
theorem AbOk.first (h : AbOk ns S ab) : ∀ (n i : Nat), i < ns → Ups S (i : Int) n → ∃ R, R < ns ∧ Up S (AbG ab) i R ∧ ¬ AbG ab R
  | 0, i, _, hu => by obtain ⟨m, h1, _⟩ := hu.nat; omega
  | n + 1, i, hi, hu => by
    cases hab : ab i with
    | none => exact ⟨i, hi, .refl _, by unfold AbG; rw [hab]; simp⟩
    | some j =>
      obtain ⟨_, hj, y, h1, h2, h3⟩ := h.up i j hab
      obtain ⟨m, e, hm⟩ := hu.nat
      rw [h1] at hm
      obtain rfl : m = n := by omega
      obtain ⟨R, r1, r2, r3⟩ := h.first m y h2 hm
      exact ⟨R, r1, .step (by unfold AbG; rw [hab]; rfl) h1 r2, r3⟩
/-- What lies above. -/
abbrev Anc (S : Nat → Spot) (x r : Nat) : Prop := Up S (fun _ => True) x r
theorem Up.anc {A : Nat → Prop} {x r : Nat} (h : Up S A x r) : Anc S x r := h.mono (fun _ _ => trivial)
theorem anc_anti {x y : Nat} (hx : ∃ n, Ups S (x : Int) n) (h : Anc S x y) (k : Anc S y x) : x = y := by
  obtain ⟨n, hn⟩ := hx
  obtain ⟨m, hm, h1, h2⟩ := h.short hn
  obtain ⟨m', hm', h3, h4⟩ := k.short hm
  have := hn.one hm'
  exact h2 (by omega)
theorem anc_ups {x r : Nat} (h : Anc S x r) (hx : ∃ n, Ups S (x : Int) n) : ∃ n, Ups S (r : Int) n := by
  obtain ⟨n, hn⟩ := hx
  obtain ⟨m, hm, _⟩ := h.short hn
  exact ⟨m, hm⟩
def Strict (S : Nat → Spot) (i : Nat) (c : Int) : Prop := c = -1 ∨ ∃ k : Nat, c = (k : Int) ∧ Anc S i k ∧ i ≠ k
/-- On the way to where two ways up meet. -/
structure Mt (ns : Nat) (S : Nat → Spot) (G : Nat → Prop) (A B : Nat) (a b : Int) (Ps : Nat → Prop) : Prop where
  ca : a = -1 ∨ ∃ k : Nat, a = (k : Int) ∧ k < ns ∧ Anc S A k ∧ ¬ G k
  cb : b = -1 ∨ ∃ k : Nat, b = (k : Int) ∧ k < ns ∧ Anc S B k ∧ ¬ G k
  sub : ∀ i, Ps i → i < ns ∧ ¬ G i ∧ ((Anc S A i ∧ Strict S i a) ∨ (Anc S B i ∧ Strict S i b))
  covA : ∀ i, ¬ G i → Anc S A i → Strict S i a → Ps i
  covB : ∀ i, ¬ G i → Anc S B i → Strict S i b → Ps i
  dis : ∀ i, ¬ G i → Anc S A i → Strict S i a → Anc S B i → Strict S i b → False
variable {G : Nat → Prop} {A B : Nat} {a b : Int} {Ps : Nat → Prop}
theorem Mt.swap (h : Mt ns S G A B a b Ps) : Mt ns S G B A b a Ps :=
  ⟨h.cb, h.ca, fun i hi => ⟨(h.sub i hi).1, (h.sub i hi).2.1, (h.sub i hi).2.2.symm⟩, h.covB, h.covA, fun i h1 h2 h3 h4 h5 => h.dis i h1 h4 h5 h2 h3⟩
/-- What 'step' tells. -/
def Next (ns : Nat) (S : Nat → Spot) (G : Nat → Prop) (k : Nat) (a : Int) : Prop := (a = -1 ∧ (S k).up = -1) ∨ ∃ k' y : Nat, a = (k' : Int) ∧ k' < ns ∧ (S k).up = (y : Int) ∧ Up S G y k' ∧ ¬ G k'
theorem Mt.start (hu : ∀ i, i < ns → ∃ n, Ups S (i : Int) n) {ra rb : Nat} (hA : A < ns) (hB : B < ns) (h1 : Up S G A ra) (h2 : ¬ G ra) (h3 : ra < ns) (k1 : Up S G B rb) (k2 : ¬ G rb) (k3 : rb < ns) : Mt ns S G A B (ra : Int) (rb : Int) (fun _ => False) := by
  have no : ∀ {A ra : Nat}, A < ns → Up S G A ra → ¬ G ra → ∀ i, ¬ G i → Anc S A i → Strict S i (ra : Int) → False := by
    intro A ra hA h1 h2 i hi hai hs
    rcases hs with h9 | ⟨k, e, h8, h9⟩
    · omega
    · obtain rfl : k = ra := by omega
      rcases hai.both h1 h2 with ⟨q1, q2⟩ | ⟨q1, q2⟩
      · cases q2 with
        | refl => exact h9 rfl
        | step q3 => exact hi q3
      · exact h9 (anc_anti (anc_ups hai (hu A hA)) h8 q2)
  exact ⟨Or.inr ⟨ra, rfl, h3, h1.anc, h2⟩, Or.inr ⟨rb, rfl, k3, k1.anc, k2⟩, fun i h => h.elim, fun i h4 h5 h6 => no hA h1 h2 i h4 h5 h6, fun i h4 h5 h6 => no hB k1 k2 i h4 h5 h6, fun i h4 h5 h6 _ _ => no hA h1 h2 i h4 h5 h6⟩
theorem Mt.visit (hu : ∀ i, i < ns → ∃ n, Ups S (i : Int) n) (hA : A < ns) {k : Nat} (h : Mt ns S G A B (k : Int) b Ps) (hk : ¬ Ps k) {a' : Int} (hn : Next ns S G k a') : Mt ns S G A B a' b (fun i => i = k ∨ Ps i) := by
  obtain ⟨k0, e0, hkn, hAk, hGk⟩ : ∃ k0 : Nat, (k : Int) = (k0 : Int) ∧ k0 < ns ∧ Anc S A k0 ∧ ¬ G k0 := by
    rcases h.ca with h9 | h9
    · omega
    · exact h9
  obtain rfl : k = k0 := by omega
  have kk' : Strict S k a' := by
    rcases hn with ⟨rfl, _⟩ | ⟨k', y, rfl, h1, h2, h3, h4⟩
    · exact Or.inl rfl
    · refine Or.inr ⟨k', rfl, .step trivial h2 h3.anc, fun e => ?_⟩
      obtain ⟨n, hn⟩ := hu k hkn
      obtain ⟨m, e1, hm⟩ := hn.nat
      rw [h2] at hm
      obtain ⟨q, hq, h5, _⟩ := h3.short hm
      rw [← e] at hq
      have := hn.one hq
      omega
  have up : ∀ i, Strict S i (k : Int) → Strict S i a' := by
    rintro i (h9 | ⟨q, e, h8, h9⟩)
    · omega
    · obtain rfl : k = q := by omega
      rcases kk' with h7 | ⟨k', e', h6, h7⟩
      · exact Or.inl h7
      · refine Or.inr ⟨k', e', h8.trans h6, fun e2 => ?_⟩
        subst e2
        exact h9 (anc_anti (anc_ups h6 (hu k hkn)) h8 h6)
  have key : ∀ i, ¬ G i → Anc S A i → Strict S i a' → i = k ∨ Strict S i (k : Int) := by
    intro i hi hAi hs
    by_cases e : i = k
    · exact Or.inl e
    · right
      rcases hAi.either hAk with h9 | h9
      · -- k below i
        exfalso
        cases h9 with
        | refl => exact e rfl
        | @step _ y _ _ q2 q3 =>
          rcases hn with ⟨rfl, q4⟩ | ⟨k', y', rfl, q4, q5, q6, q7⟩
          · omega
          · obtain rfl : y = y' := by omega
            rcases hs with h8 | ⟨k2, e2, h7, h8⟩
            · omega
            · obtain rfl : k' = k2 := by omega
              rcases q3.both q6 q7 with ⟨p1, p2⟩ | ⟨p1, p2⟩
              · cases p2 with
                | refl => exact h8 rfl
                | step p3 => exact hi p3
              · exact h8 (anc_anti (anc_ups hAi (hu A hA)) h7 p2)
      · exact Or.inr ⟨k, rfl, h9, e⟩
  refine ⟨?_, h.cb, ?_, fun i h1 h2 h3 => (key i h1 h2 h3).imp id (fun h9 => h.covA i h1 h2 h9), fun i h1 h2 h3 => Or.inr (h.covB i h1 h2 h3), fun i h1 h2 h3 h4 h5 => ?_⟩
  · rcases hn with ⟨rfl, _⟩ | ⟨k', y, rfl, h1, h2, h3, h4⟩
    · exact Or.inl rfl
    · exact Or.inr ⟨k', rfl, h1, hAk.trans (.step trivial h2 h3.anc), h4⟩
  · rintro i (rfl | hi)
    · exact ⟨hkn, hGk, Or.inl ⟨hAk, kk'⟩⟩
    · obtain ⟨q1, q2, q3⟩ := h.sub i hi
      exact ⟨q1, q2, q3.imp (fun ⟨p1, p2⟩ => ⟨p1, up i p2⟩) id⟩
  · rcases key i h1 h2 h3 with rfl | h9
    · exact hk (h.covB i h1 h4 h5)
    · exact h.dis i h1 h2 h9 h4 h5
theorem Mt.found {k : Nat} (h : Mt ns S G A B (k : Int) b Ps) (hk : Ps k) : Anc S A k ∧ Anc S B k ∧ ¬ G k ∧ k < ns := by
  obtain ⟨q1, q2, q3⟩ := h.sub k hk
  have hAk : Anc S A k := by
    rcases h.ca with h9 | ⟨k0, e, _, h9, _⟩
    · omega
    · obtain rfl : k = k0 := by omega
      exact h9
  rcases q3 with ⟨_, h9 | ⟨k0, e, _, h9⟩⟩ | ⟨h9, _⟩
  · omega
  · exact absurd (by omega) h9
  · exact ⟨hAk, h9, q2, q1⟩
theorem Mt.more (h : Mt ns S G A B (-1) b Ps) {R : Nat} (h1 : Anc S A R) (h2 : Anc S B R) (h3 : ¬ G R) : b ≠ -1 := fun e => h.dis R h3 h1 (Or.inl rfl) h2 (Or.inl e)
/-- The first part that isn't gone lies below another such one above. -/
theorem first_below {x R M : Nat} (hu : ∃ n, Ups S (x : Int) n) (h : Anc S x M) (hM : ¬ G M) (h1 : Up S G x R) (hR : ¬ G R) : Anc S R M := by
  rcases h.both h1 hR with ⟨q1, q2⟩ | ⟨q1, q2⟩
  · cases q2 with
    | refl => exact .refl _
    | step q3 => exact absurd q3 hM
  · exact q2
end
/-- Two parts were asked for, or are one. -/
def Asked (se : Nat × Nat → Bool) (x y : Nat) : Prop := x = y ∨ se (min x y, max x y) = true
/-- What is known of why. -/
structure Acc (f : Fx) (S : Nat → Spot) (G : Nat → Prop) (se : Nat × Nat → Bool) (eq : List Int) : Prop where
  eqs : ∀ i, G i → (S i).why ≠ -1 → (S i).why ∈ eq
  mem : ∀ z ∈ eq, ∃ i, G i ∧ (S i).why = z ∧ z ≠ -1
  nodup : eq.Nodup
  made : ∀ i, G i → (S i).why = -1 → Asked se (f.P i).front.toNat (f.P (S i).up.toNat).front.toNat ∧ Asked se (f.P i).arg.toNat (f.P (S i).up.toNat).arg.toNat
section
variable {f : Fx} {m ns : Nat} {S : Nat → Spot} {H : List Claim}
theorem two_same {c : Claim} {i y j z : Nat} (h1 : Two c i y) (h2 : Two c j z) : (i = j ∧ y = z) ∨ (i = z ∧ y = j) := by
  rcases h1 with ⟨a1, a2⟩ | ⟨a1, a2⟩ <;> rcases h2 with ⟨b1, b2⟩ | ⟨b1, b2⟩
  · exact Or.inl ⟨by omega, by omega⟩
  · exact Or.inr ⟨by omega, by omega⟩
  · exact Or.inr ⟨by omega, by omega⟩
  · exact Or.inl ⟨by omega, by omega⟩
theorem labs_inj : ∀ {H : List Claim}, (labs H).Nodup → ∀ c ∈ H, ∀ d ∈ H, c.why ≠ -1 → c.why = d.why → c = d
  | [], _, c, hc, _, _, _, _ => by cases hc
  | e :: H, hn, c, hc, d, hd, hw, hcd => by
    have el : labs (e :: H) = labs [e] ++ labs H := labs_append [e] H
    rw [el] at hn
    have hin : ∀ {c : Claim}, c ∈ H → c.why ≠ -1 → c.why ∈ labs H := fun {c} hc hw => by
      unfold labs
      rw [List.mem_filter]
      exact ⟨List.mem_map.2 ⟨c, hc, rfl⟩, by simpa using hw⟩
    have hone : ∀ {c : Claim}, c.why ≠ -1 → labs [c] = [c.why] := fun {c} hw => by simp [labs, hw]
    rcases List.mem_cons.1 hc with rfl | hc'
    · rcases List.mem_cons.1 hd with rfl | hd'
      · rfl
      · rw [hone hw] at hn
        exact absurd (hcd ▸ hin hd' (hcd ▸ hw)) (List.nodup_cons.1 hn).1
    · rcases List.mem_cons.1 hd with rfl | hd'
      · rw [hone (hcd ▸ hw)] at hn
        exact absurd (hcd ▸ hin hc' hw) (List.nodup_cons.1 hn).1
      · have hn' : (labs H).Nodup := (List.nodup_append.1 hn).2.1
        exact labs_inj hn' c hc' d hd' hw hcd
/-- An equation leads to one edge alone. -/
theorem why_inj (hs : Hist f m ns S [] H) (hu : ∀ i, i < ns → ∃ n, Ups S (i : Int) n) {i j y z : Nat} (hi : i < ns) (hj : j < ns) (hy : y < ns) (hz : z < ns) (h1 : (S i).up = (y : Int)) (h2 : (S j).up = (z : Int)) (hw : (S i).why ≠ -1) (he : (S i).why = (S j).why) : i = j := by
  obtain ⟨c, hc, t1, w1⟩ := (hs.edge i y _ hi hy).1 (Or.inl ⟨h1, rfl⟩)
  obtain ⟨d, hd, t2, w2⟩ := (hs.edge j z _ hj hz).1 (Or.inl ⟨h2, rfl⟩)
  have hl : (labs H).Nodup := hs.lab
  have := labs_inj hl c hc d hd (by rw [w1]; exact hw) (by rw [w1, w2, he])
  subst this
  rcases two_same t1 t2 with ⟨e1, _⟩ | ⟨e1, e2⟩
  · exact e1
  · subst e1 e2
    obtain ⟨n, hn⟩ := hu i hi
    obtain ⟨n', a1, a2⟩ := hn.nat
    rw [h1] at a2
    obtain ⟨n'', b1, b2⟩ := a2.nat
    rw [h2] at b2
    have := hn.one b2
    omega
/-- The edge of two parts that are made of the same. -/
theorem edge_made (hs : Hist f m ns S [] H) {i y : Nat} (hi : i < ns) (hy : y < ns) (h1 : (S i).up = (y : Int)) (hw : (S i).why = -1) :
    Made f.P i ∧ Made f.P y ∧ (∃ r, Anc S (f.P i).front.toNat r ∧ Anc S (f.P y).front.toNat r) ∧ ∃ r, Anc S (f.P i).arg.toNat r ∧ Anc S (f.P y).arg.toNat r := by
  obtain ⟨c, hc, t1, w1⟩ := (hs.edge i y _ hi hy).1 (Or.inl ⟨h1, rfl⟩)
  have key : ∀ (K : List Claim), HOk f m K → c ∈ K → ∃ K', (∀ d ∈ K', d ∈ K) ∧ ClaimOk f m K' c := by
    intro K
    induction K with
    | nil => intro _ h; cases h
    | cons d K ih =>
      intro hok hin
      rcases List.mem_cons.1 hin with rfl | hin
      · exact ⟨K, fun d hd => List.mem_cons_of_mem _ hd, hok.1⟩
      · obtain ⟨K', k1, k2⟩ := ih hok.2 hin
        exact ⟨K', fun d hd => List.mem_cons_of_mem _ (k1 d hd), k2⟩
  obtain ⟨K', k1, k2⟩ := key H hs.ok hc
  have com : ∀ {x z : Nat}, Conn K' x z → ∃ r, Anc S x r ∧ Anc S z r := fun h => by
    obtain ⟨r, r1, r2⟩ := h.up hs k1
    exact ⟨r, r1.anc, r2.anc⟩
  rcases k2 with ⟨_, q1, q2, q3, q4⟩ | ⟨k, _, q1, _⟩
  · rcases t1 with ⟨rfl, rfl⟩ | ⟨rfl, rfl⟩
    · exact ⟨q1, q2, com q3, com q4⟩
    · exact ⟨q2, q1, com q3.symm, com q4.symm⟩
  · rw [w1, hw] at q1; omega
end
end Euf
end Go.Proofs.Ytmnpefiaelpkfac
/- Words for sets, and for a map that is cleared; no statement of the seat is proved here. -/
namespace Go.Proofs.Ytmnpefiaelpkfac
open Go.RowKit
set_option linter.unusedVariables false
namespace Euf
/-- Block b is a set of at most n: m tells what it holds. -/
def MapS (P : Program) (K : TypeId) (w : World) (b n : Nat) (m : Value → Bool) : Prop :=
  ∃ D : DataW Unit, w.ownsMap P K unitElem b n D ∧ ∀ key kl, keyOf P K key = some kl → Maps.has D kl = m key
section
variable {P : Program} {K E : TypeId} {w w' : World} {b n : Nat} {m : Value → Bool}
theorem MapS.lt (h : MapS P K w b n m) : b < w.heap.size := by obtain ⟨D, h, _⟩ := h; exact h.lt
theorem MapS.stay (h : MapS P K w b n m) (hb : w'.heap[b]? = w.heap[b]?) : MapS P K w' b n m := by
  obtain ⟨D, ⟨es, clock, h1, h2⟩, h3⟩ := h
  exact ⟨D, ⟨es, clock, hb.trans h1, h2⟩, h3⟩
theorem MapS.isMap (h : MapS P K w b n m) : ∃ es clock, w.heap[b]? = some (.map es clock) := by
  obtain ⟨D, ⟨es, clock, h1, _⟩, _⟩ := h
  exact ⟨es, clock, h1⟩
theorem MapS.mono (h : MapS P K w b n m) {n' : Nat} (hn : n ≤ n') : MapS P K w b n' m := by
  obtain ⟨D, h1, h2⟩ := h
  exact ⟨D, h1.mono hn, h2⟩
theorem MapS.look {t : TypeId} (h : MapS P K w b n m) (KL : Maps.Keyed P K) (ht : P.underlying t = some (.map K E)) (hz : (zeroValue E).run P w = .ok (.agg #[]) w) {key : Value} {kl : Lit} (hkey : keyOf P K key = some kl) :
    (Instr.lookup t (.map (some b)) key true).run P w = .ok (.tuple #[.agg #[], .bool (m key)]) w := by
  obtain ⟨D, ho, hD⟩ := h
  obtain ⟨v, ps, hrun, hv⟩ := ho.look_ok KL ht hz unitElem_mk hkey
  obtain ⟨rfl, _⟩ := unitElem_inv hv
  rw [hrun, hD key kl hkey]
theorem MapS.put {t : TypeId} (h : MapS P K w b n m) (KL : Maps.Keyed P K) (ht : P.underlying t = some (.map K E)) (hn : n < maxLen) {key : Value} {kl : Lit} (hkey : keyOf P K key = some kl)
    (m' : Value → Bool) (h1 : m' key = true) (h2 : ∀ k, k ≠ key → m' k = m k) :
    ∃ w', (Instr.mapUpdate t (.map (some b)) key (.agg #[])).run P w = .ok () w' ∧ MapS P K w' b (n + 1) m' ∧ w.mapTurned w' b := by
  obtain ⟨D, ho, hD⟩ := h
  obtain ⟨w', hrun, r1, r2⟩ := ho.store KL ht hn hkey (unitElem_mk (H := Unit))
  have hK : WideAt.IsKeyLit kl := KL.key hkey
  refine ⟨w', hrun, ⟨_, r1, fun key' kl' hk' => ?_⟩, r2⟩
  by_cases e : key' = key
  · subst e
    rw [hkey] at hk'
    cases hk'
    rw [Maps.has_put_same ho.isMap hK, h1]
  · have hne : kl' ≠ kl := fun e2 => e (KL.inj hk' (by rw [hkey, e2]))
    rw [Maps.has_put_other hne, h2 key' e]
    exact hD key' kl' hk'
theorem MapS.made (w : World) (P : Program) (K : TypeId) : MapS P K (w.alloc (.map #[] 0)) w.heap.size 0 (fun _ => false) :=
  ⟨_, World.ownsMap_made w P K _, fun _ _ _ => rfl⟩
/-- All entries go. -/
theorem MapF.clear {m : Value → Option Int} {t : TypeId} (h : MapF P K E w b n m) (ht : P.underlying t = some (.map K E)) (ty : TypeId) :
    ∃ w', (Builtin.clear_ #[t] ty #[.map (some b)]).run P w = .ok (.tuple #[]) w' ∧ MapF P K E w' b 0 (fun _ => none) ∧ w.mapTurned w' b := by
  obtain ⟨es, clock, hb⟩ := h.isMap
  refine ⟨ChangeMaps.setBlock w b (.map #[] clock), ?_, ⟨.map [], ⟨#[], clock, ChangeMaps.heap_setBlock_same hb _, ⟨by simp, MapKept.stamped_empty clock, by simp⟩, Nat.le_refl _, rfl⟩, fun _ _ _ => ⟨rfl, rfl⟩⟩, ⟨es, clock, #[], clock, hb, rfl⟩⟩
  simp [Builtin.clear_, run_underlying ht, MapKept.run_getObj_map hb, MapKept.run_setObj_map _ hb, ChangeMaps.setBlock, Result.andThen]
end
end Euf
end Go.Proofs.Ytmnpefiaelpkfac
