/- Joined: EufJ, EufP, EufT, EufI: words and contracts; no statement of the seat is proved here. -/
import Derived.Test.YtmnpefiaelpkfacJoin2Classes
/- The contract of join; it proves no statement of the seat. -/
namespace Go.Proofs.Ytmnpefiaelpkfac
open Go.RowKit
set_option linter.unusedVariables false
namespace Euf
/-- What 'join' leaves. -/
def JoinEnd (g : Nat) (x : Lx) (f : Fx) (m : Nat) (y : Ly) (s : Sx) (w w' : World) : Prop :=
  ∃ (y' : Ly) (T : Nat → Spot) (tg : Nat × Nat → Option Nat), Joins f.np f.P s.ns s.S s.sg s.cl T tg ∧ CW w' g x f m y' { s with S := T, sg := tg, cl := [] } ∧ Mv (Ft g x y s.ns) w w' ∧ (∀ b, Ft g x y' s.ns b → Ft g x y s.ns b ∨ w.heap.size ≤ b)

set_option maxRecDepth 20000 in
set_option maxHeartbeats 8000000 in
theorem join_any (g : Nat) (x : Lx) (f : Fx) (m : Nat) (y : Ly) (s : Sx) (w : World) (h : CW w g x f m y s) (hI : Inv f.np f.P s.ns s.S s.sg s.cl []) (hmu : mu s.ns s.S s.cl ≤ 300000000) :
    Calls Try.prog 33 #[.pointer (some ⟨g, 0, none⟩)] w fun e w' => e = .returned (.tuple #[]) ∧ JoinEnd g x f m y s w w' := by
  have HI : Hid (Inv f.np f.P s.ns s.S s.sg s.cl [] ∧ mu s.ns s.S s.cl ≤ 300000000) := ⟨hI, hmu⟩
  clear hI hmu
  go_enter Try.func33, Try.ntmps33
  go_wp2
  go_loopg [2] (mu s.ns s.S s.cl) (fun gk _ wr => ∃ (y' : Ly) (S' : Nat → Spot) (sg' : Nat × Nat → Option Nat) (cl' : List Claim), Hid (mu s.ns S' cl' = gk ∧ gk ≤ 300000000 ∧ Inv f.np f.P s.ns S' sg' cl' [] ∧ (∀ T tg, Joins f.np f.P s.ns S' sg' cl' T tg → Joins f.np f.P s.ns s.S s.sg s.cl T tg) ∧ (∀ b, Ft g x y' s.ns b → Ft g x y s.ns b ∨ w.heap.size ≤ b)) ∧ CW wr g x f m y' { s with S := S', sg := sg', cl := cl' } ∧ Mv (Ft g x y s.ns) w wr)
  case atStart => exact ⟨y, s.S, s.sg, s.cl, ⟨rfl, HI.out.2, HI.out.1, fun _ _ h => h, fun b hb => Or.inl hb⟩, h, Mv.refl _ _⟩
  case round =>
    clear h HI
    obtain ⟨y', S', sg', cl', HR, hC, hM⟩ := hrel
    rcases List.eq_nil_or_concat cl' with hc | ⟨l, c, hc⟩
    · subst hc
      obtain ⟨-, -, -, -, -, -, -, -, -, c9⟩ := hC.cells
      obtain ⟨ac, cc, hvc, -, -, -, -⟩ := hC.claims.shape
      rw [hvc] at c9
      clear hvc
      simp only [List.length_nil] at c9
      go_wp2
      go_end0
      exact ⟨rfl, y', S', sg', HR.out.2.2.2.1 _ _ Joins.done, hC, hM, HR.out.2.2.2.2⟩
    · rw [List.concat_eq_append] at hc
      subst hc
      obtain ⟨gc, cc, hvc, hc1, hc2⟩ := hC.claims.open l.length (by simp)
      have hlen : (l ++ [c]).length = l.length + 1 := by simp
      simp only [hlen] at hvc hc1
      have HVC : Hid (y'.vC = .slice (some ⟨gc, 0, none⟩) (l.length + 1) cc) := hvc
      have hcl := hC.claims
      simp only [hlen, hvc] at hcl
      have t0 := hcl.cell (i := l.length) (by omega) (j := 0) (by omega)
      have t1 := hcl.cell (i := l.length) (by omega) (j := 1) (by omega)
      have t2 := hcl.cell (i := l.length) (by omega) (j := 2) (by omega)
      have eg : (l ++ [c]).getD l.length noClaim = c := by simp [List.getD_eq_getElem?_getD]
      simp only [eg, claimC, Nat.add_zero, List.getElem?_cons_zero, List.getElem?_cons_succ] at t0 t1 t2
      have hol : OL 3 91 wr (.slice (some ⟨gc, 0, none⟩) l.length cc) l.length (fun i => claimC (l.getD i noClaim)) := (hcl.take l.length (by omega)).congr (fun i hi => by
        show claimC _ = claimC _; rw [List.getD_eq_getElem?_getD, List.getD_eq_getElem?_getD, List.getElem?_append_left hi])
      have hgcl : gc < wr.heap.size := hcl.lt rfl
      have hgg : g ≠ gc := fun e => hcl.neB hC.blk (by decide) (by rw [← e]; rfl)
      have hgl := hC.lt
      obtain ⟨-, -, -, -, -, -, -, -, -, c9⟩ := hC.cells
      rw [hvc] at c9
      have q9 := hC.frozen 9
      have HCC := HR.out.2.2.1.cls c (by simp)
      obtain ⟨ca, cb⟩ := HCC
      have hll : l.length ≤ 300000000 := by
        have h1 := HR.out.1
        have h2 := HR.out.2.1
        unfold mu at h1
        rw [hlen] at h1
        omega
      clear hcl hvc eg hlen
      have hA : App y'.vC (.slice (some ⟨gc, 0, none⟩) l.length cc) wr wr := ⟨rfl, rfl, rfl, Nat.le_refl _, fun _ _ _ => rfl, Or.inl (by rw [HVC.out]; rfl)⟩
      go_upto_region 4 with fail
      obtain ⟨k1, k2, k3⟩ := hC.setClaims (cl' := l) hA hol
      have hC5 := k1.alloc (.cells #[.int .i64 (c.a : Nat), .int .i64 (c.b : Nat), .int .i64 c.why] 91 (0, 0))
      have hM5 : Mv (Ft g x y' s.ns) wr _ := k2.alloc (.cells #[.int .i64 (c.a : Nat), .int .i64 (c.b : Nat), .int .i64 c.why] 91 (0, 0))
      have kb : ((wr.setCell ⟨g, 9, none⟩ (.slice (some ⟨gc, 0, none⟩) l.length cc)).alloc (.cells #[.int .i64 (c.a : Nat), .int .i64 (c.b : Nat), .int .i64 c.why] 91 (0, 0))).heap[wr.heap.size]? = some (.cells #[.int .i64 (c.a : Nat), .int .i64 (c.b : Nat), .int .i64 c.why] 91 (0, 0)) := by
        have := heap_alloc_new (wr.setCell ⟨g, 9, none⟩ (.slice (some ⟨gc, 0, none⟩) l.length cc)) (.cells #[.int .i64 (c.a : Nat), .int .i64 (c.b : Nat), .int .i64 c.why] 91 (0, 0))
        simpa using this
      have HF5 : Hid (∀ b, Ft g x { y' with vC := .slice (some ⟨gc, 0, none⟩) l.length cc } s.ns b → Ft g x y s.ns b ∨ w.heap.size ≤ b) := fun b hb => by
        rcases k3 b hb with h9 | h9
        · exact HR.out.2.2.2.2 b h9
        · exact Or.inr (Nat.le_trans hM.size h9)
      replace hM5 := hM.trans hM5 HR.out.2.2.2.2
      clear k1 k2 k3 hC hM t0 t1 t2 hol c9 q9 hA hgl
      generalize ((wr.setCell ⟨g, 9, none⟩ (.slice (some ⟨gc, 0, none⟩) l.length cc)).alloc (.cells #[.int .i64 (c.a : Nat), .int .i64 (c.b : Nat), .int .i64 c.why] 91 (0, 0))) = w5 at hC5 hM5 kb ⊢
      have d0 : w5.cell? ⟨wr.heap.size, 0, none⟩ = some (.int .i64 (c.a : Nat)) := cell_of_row _ wr.heap.size 0 _ 91 (0, 0) kb
      have d1 : w5.cell? ⟨wr.heap.size, 1, none⟩ = some (.int .i64 (c.b : Nat)) := cell_of_row _ wr.heap.size 1 _ 91 (0, 0) kb
      have d2 : w5.cell? ⟨wr.heap.size, 2, none⟩ = some (.int .i64 c.why) := cell_of_row _ wr.heap.size 2 _ 91 (0, 0) kb
      obtain ⟨gs, cap, hv, hs1, hs2⟩ := hC5.spotsAt ca
      have HV : Hid (y'.vS = .slice (some ⟨gs, 0, none⟩) s.ns cap) := hv
      obtain ⟨-, -, -, -, -, -, -, c7, -, -⟩ := hC5.cells
      replace c7 : w5.cell? ⟨g, 7, none⟩ = some (.slice (some ⟨gs, 0, none⟩) s.ns cap) := c7.trans (congrArg some hv)
      obtain ⟨a0, -, -, -, -, -, -⟩ := hC5.spot HV.out ca
      obtain ⟨b0, -, -, -, -, -, -⟩ := hC5.spot HV.out cb
      clear kb hv
      by_cases heq : (S' c.a).cls = (S' c.b).cls
      · have heq2 : (((S' c.a).cls : Int) = ((S' c.b).cls : Int)) := by rw [heq]
        have HEQ : Hid ((S' c.a).cls = (S' c.b).cls) := heq
        rw [← heq] at b0
        clear heq heq2
        go_quiet (fail)
        go_wp2
        go_roundg (mu s.ns S' l)
        case measure =>
          have h1 := HR.out.1
          unfold mu at h1 ⊢
          simp at h1; omega
        case rel =>
          refine ⟨{ y' with vC := .slice (some ⟨gc, 0, none⟩) l.length cc }, S', sg', l, ⟨rfl, ?_, HR.out.2.2.1.same HEQ.out, fun T tg hj => HR.out.2.2.2.1 T tg (Joins.same HEQ.out hj), HF5.out⟩, hC5.drewN _, hM5.drewN _⟩
          have h1 := HR.out.1
          have h2 := HR.out.2.1
          unfold mu at h1 ⊢
          simp at h1; omega
      · have heq2 : ¬ (((S' c.a).cls : Int) = ((S' c.b).cls : Int)) := by omega
        have HEQ : Hid ((S' c.a).cls ≠ (S' c.b).cls) := heq
        clear heq
        go_quiet (fail)
        have hC6 := hC5.drewN nq
        have hM6 := hM5.drewN nq
        have e0 : (w5.drewN nq).cell? ⟨wr.heap.size, 0, none⟩ = some (.int .i64 (c.a : Nat)) := d0
        have e1 : (w5.drewN nq).cell? ⟨wr.heap.size, 1, none⟩ = some (.int .i64 (c.b : Nat)) := d1
        have e2 : (w5.drewN nq).cell? ⟨wr.heap.size, 2, none⟩ = some (.int .i64 c.why) := d2
        clear hC5 hM5 d0 d1 d2 c7 a0 b0
        generalize w5.drewN nq = w6 at hC6 hM6 e0 e1 e2 ⊢
        go_wp2_with fail
        refine (merge_any g x f m _ _ c w6 hC6 HR.out.2.2.1 HEQ.out (by show l.length ≤ 400000000; omega)).mono ?_
        rintro e w7 ⟨rfl, a, b, n, y7, hab, hne, hup, hC7, hM7, hF7⟩
        have HAB : Hid (((a = c.a ∧ b = c.b) ∨ (a = c.b ∧ b = c.a)) ∧ (S' a).cls ≠ (S' b).cls ∧ Ups S' (a : Int) n) := ⟨hab, hne, hup⟩
        have HF7 : Hid (∀ b, Ft g x y7 s.ns b → Ft g x y s.ns b ∨ w.heap.size ≤ b) := fun b hb => by
          rcases hF7 b hb with h9 | h9
          · exact HF5.out b h9
          · exact Or.inr (Nat.le_trans hM6.size h9)
        replace hM7 := hM6.trans hM7 HF5.out
        clear hab hne hup hF7 hM6 hC6 e0 e1 e2
        go_wp2
        have hmu := mu_merge (n := n) HR.out.2.2.1 c.why HAB.out.1 HAB.out.2.1
        go_roundg (mu s.ns (mergeS S' a b c.why n) (mergeX f.P S' sg' l a b c.why n).2)
        case measure => have h1 := HR.out.1; omega
        case rel =>
          refine ⟨y7, _, _, _, ⟨rfl, ?_, HR.out.2.2.1.merge c.why HAB.out.1 HAB.out.2.1 HAB.out.2.2, fun T tg hj => HR.out.2.2.2.1 T tg (Joins.merge HAB.out.1 HAB.out.2.1 HAB.out.2.2 hj), HF7.out⟩, hC7, hM7⟩
          have h1 := HR.out.1
          have h2 := HR.out.2.1
          omega
end Euf
end Go.Proofs.Ytmnpefiaelpkfac
/- The contract of place; it proves no statement of the seat. -/
namespace Go.Proofs.Ytmnpefiaelpkfac
open Go.RowKit
set_option linter.unusedVariables false
namespace Euf
theorem iSpot : (Try.prog.info? 86).map (fun i => (i.zero, i.size, i.bytes)) = some (some (.agg #[.int .i64 0, .int .i64 0, .int .i64 0, .int .i64 0, .int .i64 0, .int .i64 0, .slice none 0 0]), 7, 72) := by kernel_rfl
/-- One spot more. -/
theorem CW.pushSpot {w : World} {g : Nat} {x : Lx} {f : Fx} {m : Nat} {y : Ly} {s : Sx} (h : CW w g x f m y s) (hn : s.ns < f.np) {node : Int} {w1 : World} {v : Value} (hap : App y.vS v w w1) (hol : OL 7 86 w1 v (s.ns + 1) (spotC (upd s.S s.ns (fresh s.ns node)) (upd y.au s.ns (.slice none 0 0)))) :
    CW (w1.setCell ⟨g, 7, none⟩ v) g x f m { y with vS := v, au := upd y.au s.ns (.slice none 0 0) } { s with ns := s.ns + 1, S := upd s.S s.ns (fresh s.ns node) } ∧ Mv (Ft g x y s.ns) w (w1.setCell ⟨g, 7, none⟩ v) ∧ (∀ b, Ft g x { y with vS := v, au := upd y.au s.ns (.slice none 0 0) } (s.ns + 1) b → Ft g x y s.ns b ∨ w.heap.size ≤ b) := by
  have keep : ∀ b, b < w.heap.size → y.vS.ownBlock ≠ some b → b ≠ g → (w1.setCell ⟨g, 7, none⟩ v).heap[b]? = w.heap[b]? := fun b hb h1 h2 => (heap_setCell_other w1 ⟨g, 7, none⟩ b v h2).trans (hap.other b hb h1)
  have hg : w1.heap[g]? = _ := (hap.other g h.lt (h.spots.neB h.blk (by decide))).trans h.blk
  have other : ∀ {sz : Nat} {e : TypeId} {v' : Value} {n : Nat} {f' : Nat → List Value}, OL sz e w v' n f' → e ≠ 86 → e ≠ 73 → OL sz e (w1.setCell ⟨g, 7, none⟩ v) v' n f' := by
    intro sz e v' n f' ho h1 h2
    refine ho.stay fun b hb => keep b (ho.lt hb) (fun hc => ho.ne h.spots h1 hb hc) (fun e' => ho.neB h.blk h2 (by rw [hb, e']))
  have hsm := h.small
  refine ⟨{ blk := ?_, parts := other h.parts (by decide) (by decide), whole := other h.whole (by decide) (by decide), eqs := other h.eqs (by decide) (by decide), spots := ?_, uses := ?_, claims := other h.claims (by decide) (by decide), sig := ?_, apart := ?_, apartW := ?_, small := ⟨hsm.1, by show s.ns + 1 ≤ f.np; omega⟩ }, ?_, ?_⟩
  · exact (heap_setCell_same w1 g 7 _ 73 v hg).trans rfl
  · exact hol.stay fun b hb => heap_setCell_other w1 ⟨g, 7, none⟩ b v (fun e' => hol.neB hg (by decide) (by rw [hb, e']))
  · intro k hk
    replace hk : k < s.ns + 1 := hk
    show OL 1 3 _ (upd y.au s.ns (.slice none 0 0) k) (upd s.S s.ns (fresh s.ns node) k).uses.length (natC (upd s.S s.ns (fresh s.ns node) k).uses)
    by_cases e : k = s.ns
    · subst e
      rw [upd_same, upd_same]
      exact OL.nil _ _ _ _
    · rw [upd_other _ _ e, upd_other _ _ e]
      exact other (h.uses k (by omega)) (by decide) (by decide)
  · obtain ⟨D, hD1, hD2⟩ := h.sig.stay (keep _ h.sig.lt (fun hc => h.spots.neM h.sig hc) (fun e' => by
      obtain ⟨es, cl, he⟩ := h.sig.isMap
      rw [e', h.blk] at he
      cases he))
    exact ⟨D, hD1.mono (Nat.le_succ _), hD2⟩
  · intro i j hi hj hij b hb
    replace hb : (upd y.au s.ns (.slice none 0 0) i).ownBlock = some b := hb
    show (upd y.au s.ns (.slice none 0 0) j).ownBlock ≠ some b
    replace hi : i < s.ns + 1 := hi
    replace hj : j < s.ns + 1 := hj
    by_cases e1 : i = s.ns
    · subst e1; rw [upd_same] at hb; cases hb
    · rw [upd_other _ _ e1] at hb
      by_cases e2 : j = s.ns
      · subst e2; rw [upd_same]; intro h; cases h
      · rw [upd_other _ _ e2]; exact h.apart i j (by omega) (by omega) hij b hb
  · intro i hi b hb
    replace hb : (upd y.au s.ns (.slice none 0 0) i).ownBlock = some b := hb
    replace hi : i < s.ns + 1 := hi
    by_cases e1 : i = s.ns
    · subst e1; rw [upd_same] at hb; cases hb
    · rw [upd_other _ _ e1] at hb
      exact h.apartW i (by omega) b hb
  · refine ⟨hap.os, hap.tape, hap.output, by simp; exact hap.size, fun b hb hn => keep b hb (fun hc => hn (Or.inr (Or.inr (Or.inl hc)))) (fun e' => hn (Or.inl e'))⟩
  · rintro b (h1 | h1 | h1 | h1 | ⟨i, hi, h1⟩)
    · exact Or.inl (Or.inl h1)
    · exact Or.inl (Or.inr (Or.inl h1))
    · rcases hap.at_ with h2 | ⟨b', h2, h3⟩
      · exact Or.inl (Or.inr (Or.inr (Or.inl (h2.symm.trans h1))))
      · have : b' = b := by
          have := h2.symm.trans h1
          injection this
        subst this; exact Or.inr h3
    · exact Or.inl (Or.inr (Or.inr (Or.inr (Or.inl h1))))
    · replace h1 : (upd y.au s.ns (.slice none 0 0) i).ownBlock = some b := h1
      by_cases e1 : i = s.ns
      · subst e1; rw [upd_same] at h1; cases h1
      · rw [upd_other _ _ e1] at h1
        exact Or.inl (Or.inr (Or.inr (Or.inr (Or.inr ⟨i, by omega, h1⟩))))
theorem CW.ftLt {w : World} {g : Nat} {x : Lx} {f : Fx} {m : Nat} {y : Ly} {s : Sx} (h : CW w g x f m y s) {b : Nat} (hb : Ft g x y s.ns b) : b < w.heap.size := by
  rcases hb with h1 | h1 | h1 | h1 | ⟨i, hi, h1⟩
  · rw [h1]; exact h.lt
  · rw [h1]; exact h.sig.lt
  · exact h.spots.lt h1
  · exact h.claims.lt h1
  · exact (h.uses i hi).lt h1
/-- The part p is among the uses of so many of two classes. -/
def usesTo (S : Nat → Spot) (c d p : Nat) : Nat → Nat → Spot
  | 0 => S
  | 1 => useAt S c p
  | _ + 2 => useAt (useAt S c p) d p
theorem usesTo_cls (S : Nat → Spot) (c d p k i : Nat) : (usesTo S c d p k i).cls = (S i).cls := by
  match k with
  | 0 => rfl
  | 1 => exact (useAt_cls S c p i).1
  | _ + 2 => exact ((useAt_cls (useAt S c p) d p i).1).trans (useAt_cls S c p i).1
theorem usesTo_len (S : Nat → Spot) (c d p k i : Nat) : (usesTo S c d p k i).uses.length ≤ (S i).uses.length + 2 := by
  have one : ∀ (S : Nat → Spot) (c i : Nat), (useAt S c p i).uses.length ≤ (S i).uses.length + 1 := by
    intro S c i
    unfold useAt
    by_cases e : i = c
    · subst e; simp [upd]
    · simp [upd, e]
  match k with
  | 0 => show (S i).uses.length ≤ _; omega
  | 1 => have := one S c i; show (useAt S c p i).uses.length ≤ _; omega
  | _ + 2 => have h1 := one S c i; have h2 := one (useAt S c p) d i; show (useAt (useAt S c p) d p i).uses.length ≤ _; omega
/-- What 'place' leaves. -/
def PlaceEnd (g : Nat) (x : Lx) (f : Fx) (m : Nat) (y : Ly) (s : Sx) (w w' : World) : Prop :=
  ∃ y' : Ly, CW w' g x f m y' { s with ns := s.ns + 1, S := placeS f.P s.S s.ns, sg := (placeX f.P s.S s.sg s.cl s.ns).1, cl := (placeX f.P s.S s.sg s.cl s.ns).2 } ∧ Mv (Ft g x y s.ns) w w' ∧ (∀ b, Ft g x y' (s.ns + 1) b → Ft g x y s.ns b ∨ w.heap.size ≤ b)

set_option maxRecDepth 20000 in
set_option maxHeartbeats 8000000 in
theorem place_any (g : Nat) (x : Lx) (f : Fx) (m : Nat) (y : Ly) (s : Sx) (w : World) (h : CW w g x f m y s) (hI : Inv f.np f.P s.ns s.S s.sg s.cl []) (hn : s.ns < f.np) (hcl : s.cl.length ≤ 400000000) :
    Calls Try.prog 43 #[.pointer (some ⟨g, 0, none⟩), .int .i64 (s.ns : Nat)] w fun e w' => e = .returned (.tuple #[]) ∧ PlaceEnd g x f m y s w w' := by
  have HI : Hid (Inv f.np f.P s.ns s.S s.sg s.cl []) := hI
  have HCW : Hid (CW w g x f m y s) := h
  obtain ⟨gp, capp, hp, hgp, p0, p1, p2⟩ := h.part hn
  obtain ⟨-, -, -, -, c4, -, -, -, -, -⟩ := h.cells
  rw [hp] at c4
  have hgl := h.lt
  have hsm := h.small
  have HSM : Hid (f.np ≤ 10000 ∧ s.ns ≤ f.np) := hsm
  have hbw : Below w.heap.size w (w.alloc (.cells #[.int .i64 (f.P s.ns).front, .int .i64 (f.P s.ns).arg, .int .i64 (f.P s.ns).node] 96 (0, 0))) := by go_grown
  have kb : (w.alloc (.cells #[.int .i64 (f.P s.ns).front, .int .i64 (f.P s.ns).arg, .int .i64 (f.P s.ns).node] 96 (0, 0))).heap[w.heap.size]? = _ := heap_alloc_new w _
  clear hI h hp
  go_enter Try.func43, Try.ntmps43
  go_wp2
  generalize (w.alloc (.cells #[.int .i64 (f.P s.ns).front, .int .i64 (f.P s.ns).arg, .int .i64 (f.P s.ns).node] 96 (0, 0))) = w1 at hbw kb ⊢
  have hC := HCW.out.below hbw
  have HKB : Hid (w1.heap[w.heap.size]? = some (.cells #[.int .i64 (f.P s.ns).front, .int .i64 (f.P s.ns).arg, .int .i64 (f.P s.ns).node] 96 (0, 0))) := kb
  have hwl : w.heap.size < w1.heap.size := (Array.getElem?_eq_some_iff.1 kb).1
  obtain ⟨E5, hE5⟩ : ∃ E5 : World → Prop, E5 = fun wr => ∃ v9, CW wr g x f m { y with vS := v9, au := upd y.au s.ns (.slice none 0 0) } { s with ns := s.ns + 1, S := upd s.S s.ns (fresh s.ns (f.P s.ns).node) } ∧ Mv (Ft g x y s.ns) w1 wr ∧ (∀ b, Ft g x { y with vS := v9, au := upd y.au s.ns (.slice none 0 0) } (s.ns + 1) b → Ft g x y s.ns b ∨ w1.heap.size ≤ b) ∧ wr.heap[w.heap.size]? = some (.cells #[.int .i64 (f.P s.ns).front, .int .i64 (f.P s.ns).arg, .int .i64 (f.P s.ns).node] 96 (0, 0)) := ⟨_, rfl⟩
  obtain ⟨M5, hM5⟩ : ∃ M5 : World → Prop, M5 = fun wr => wr.cell? ⟨g, 7, none⟩ = some y.vS ∧ wr.cell? ⟨w.heap.size, 2, none⟩ = some (.int .i64 (f.P s.ns).node) := ⟨_, rfl⟩
  have hns : y.vS.ownBlock ≠ some w.heap.size := fun e => by have := HCW.out.spots.lt e; omega
  have hng : y.vS.ownBlock ≠ some g := hC.spots.neB hC.blk (by decide)
  have m0 : w1.cell? ⟨g, 7, none⟩ = some y.vS := hC.cells.2.2.2.2.2.2.2.1
  have m1 : w1.cell? ⟨w.heap.size, 2, none⟩ = some (.int .i64 (f.P s.ns).node) := cell_of_row _ w.heap.size 2 _ 96 (0, 0) kb
  have hgl1 := hC.lt
  have HM0 : Hid (∀ wr, Below w1.heap.size w1 wr → M5 wr) := by
    intro wr h1; rw [hM5]
    exact ⟨(h1.cell (p := ⟨g, 7, none⟩) hgl1).trans m0, (h1.cell (p := ⟨w.heap.size, 2, none⟩) hwl).trans m1⟩
  have HM1 : Hid (∀ wr v9, App y.vS v9 w1 wr → M5 wr) := by
    intro wr v9 h1; rw [hM5]
    exact ⟨(World.cell?_of_block (a := ⟨g, 7, none⟩) (h1.other g hgl1 hng)).trans m0, (World.cell?_of_block (a := ⟨w.heap.size, 2, none⟩) (h1.other _ hwl hns)).trans m1⟩
  have HFZ : Hid (∀ wr v9, App y.vS v9 w1 wr → wr.cell? ⟨g, 7, none⟩ = some y.vS ∧ wr.frozen? ⟨g, 7, none⟩ = false) := by
    intro wr v9 h1
    have h2 := HM1.out wr v9 h1
    rw [hM5] at h2
    exact ⟨h2.1, frozen_of_row wr g 7 _ 73 ((h1.other g hgl1 hng).trans hC.blk)⟩
  have HOWN : Hid (∀ wr, Below w1.heap.size w1 wr → OL 7 86 wr y.vS s.ns (spotC s.S y.au)) := fun wr h1 => (hC.below h1).spots
  have HNB : Hid (s.ns + 1 ≤ 1000000000) := by show _ ≤ _; omega
  have HSET : Hid (∀ wr v9, OL 7 86 wr v9 (s.ns + 1) (spotC (upd s.S s.ns (fresh s.ns (f.P s.ns).node)) (upd y.au s.ns (.slice none 0 0))) → App y.vS v9 w1 wr → v9 ≠ .slice none 0 0 → E5 (wr.setCell ⟨g, 7, none⟩ v9)) := by
    intro wr v9 h1 h2 h3
    rw [hE5]
    obtain ⟨k1, k2, k3⟩ := hC.pushSpot hn h2 h1
    refine ⟨v9, k1, k2, k3, ?_⟩
    exact ((heap_setCell_other wr ⟨g, 7, none⟩ w.heap.size v9 (Nat.ne_of_gt hgl)).trans (h2.other _ hwl hns)).trans HKB.out
  clear c4 p0 p1 p2 kb m0 m1 hns hng hC
  refine wp_region_E (by kernel_rfl) [some 16, some 17, some 18, some 19, some 20, some 21, some 22, some 23, some 24, some 25, some 26, some 27, some 28, some 29, none] [none, none, none, none, none, none, none, none, none, none, none, none, none, none, none, none, some 16, some 17, some 18, some 19, some 20, some 21, some 22, some 23, some 24, some 25, some 26, some 27, some 28, some 29] (fun U => by kernel_rfl) [fun u => u = (.pointer (some ⟨g, 0, none⟩)), fun u => u = (.pointer (some ⟨g, 0, none⟩)), fun u => u = (.pointer (some ⟨g, 0, none⟩)), fun u => u = (.pointer (some ⟨g, 7, none⟩)), fun u => u = (y.vS), fun u => u = (.int .i64 (s.ns : Nat)), fun u => u = (.int .i64 (s.ns : Nat)), fun u => u = (.pointer (some ⟨w.heap.size, 2, none⟩)), fun u => u = (.int .i64 (f.P s.ns).node), fun u => u = (.agg #[.int .i64 (s.ns : Nat), .int .i64 (s.ns : Nat), .int .i64 (-1), .int .i64 (-1), .int .i64 1, .int .i64 (f.P s.ns).node, .slice none 0 0]), fun _ => True, fun _ => True, fun u => u = (.pointer (some ⟨g, 0, none⟩)), fun u => u = (.pointer (some ⟨g, 7, none⟩)), fun _ => True] (fun L U wr => (L 11 = false → Below w1.heap.size w1 wr) ∧ (L 10 = true → L 11 = false → ONE5 86 [.int .i64 (s.ns : Nat), .int .i64 (s.ns : Nat), .int .i64 (-1), .int .i64 (-1), .int .i64 1, .int .i64 (f.P s.ns).node, .slice none 0 0] (U 26) wr) ∧ (L 11 = true → L 14 = false → OL 7 86 wr (U 27) (s.ns + 1) (spotC (upd s.S s.ns (fresh s.ns (f.P s.ns).node)) (upd y.au s.ns (.slice none 0 0))) ∧ App (y.vS) (U 27) w1 wr ∧ U 27 ≠ .slice none 0 0) ∧ (L 14 = true → (L 0 = true ∧ L 1 = true ∧ L 2 = true ∧ L 3 = true ∧ L 4 = true ∧ L 5 = true ∧ L 6 = true ∧ L 7 = true ∧ L 8 = true ∧ L 9 = true ∧ L 10 = true ∧ L 11 = true ∧ L 12 = true ∧ L 13 = true) ∧ E5 wr)) (by kernel_rfl) (by decide) (by kernel_rfl) (by kernel_rfl) ?_ ?_ ?_
  · exact fun U => ⟨fun _ => (Below.refl _ _).drew, (fun h => by cases h), (fun h => by cases h), (fun h => by cases h)⟩
  · refine StepsE.run rfl ?_ ?_
    · intro L U wr hC hP hlk hcl haf A K hFm hK
      simp [Aft, Region.binds] at haf
      have e0 : A.tmps[0]? = some (.pointer (some ⟨g, 0, none⟩)) := (hFm.old 0 (by decide)).trans (by kernel_rfl)
      have HC : Hid _ := hC
      clear hC
      refine ⟨?_⟩
      go_simp
      refine hK _ _ rfl ?_
      obtain ⟨c0, cB, c1, cS⟩ := HC.out
      refine ⟨fun h => c0 (by simpa using h), (fun h1 h2 => by have h9 := cB (by simpa using h1) (by simpa using h2); simpa [updO, Go.Proofs.Ytmnpefiaelpkfac.upd] using h9), (fun h1 h2 => by have h9 := c1 (by simpa using h1) (by simpa using h2); simpa [updO, Go.Proofs.Ytmnpefiaelpkfac.upd] using h9), fun h => ?_⟩
      have h9 := cS (by simpa using h)
      exact ⟨by simp [h9.1], h9.2⟩
    refine StepsE.run rfl ?_ ?_
    · intro L U wr hC hP hlk hcl haf A K hFm hK
      simp [Aft, Region.binds] at haf
      have e0 : A.tmps[0]? = some (.pointer (some ⟨g, 0, none⟩)) := (hFm.old 0 (by decide)).trans (by kernel_rfl)
      have HC : Hid _ := hC
      clear hC
      refine ⟨?_⟩
      go_simp
      refine hK _ _ rfl ?_
      obtain ⟨c0, cB, c1, cS⟩ := HC.out
      refine ⟨fun h => c0 (by simpa using h), (fun h1 h2 => by have h9 := cB (by simpa using h1) (by simpa using h2); simpa [updO, Go.Proofs.Ytmnpefiaelpkfac.upd] using h9), (fun h1 h2 => by have h9 := c1 (by simpa using h1) (by simpa using h2); simpa [updO, Go.Proofs.Ytmnpefiaelpkfac.upd] using h9), fun h => ?_⟩
      have h9 := cS (by simpa using h)
      exact ⟨by simp [h9.1], h9.2⟩
    refine StepsE.run rfl ?_ ?_
    · intro L U wr hC hP hlk hcl haf A K hFm hK
      simp [Aft, Region.binds] at haf
      have g1 : U 17 = (.pointer (some ⟨g, 0, none⟩)) := hP 1 17 (by simp [haf]) rfl
      have e17 : A.tmps[17]? = some (.pointer (some ⟨g, 0, none⟩)) := hFm.is 1 17 rfl g1
      have HC : Hid _ := hC
      clear hC
      refine ⟨?_⟩
      go_simp
      refine hK _ _ rfl ?_
      obtain ⟨c0, cB, c1, cS⟩ := HC.out
      refine ⟨fun h => c0 (by simpa using h), (fun h1 h2 => by have h9 := cB (by simpa using h1) (by simpa using h2); simpa [updO, Go.Proofs.Ytmnpefiaelpkfac.upd] using h9), (fun h1 h2 => by have h9 := c1 (by simpa using h1) (by simpa using h2); simpa [updO, Go.Proofs.Ytmnpefiaelpkfac.upd] using h9), fun h => ?_⟩
      have h9 := cS (by simpa using h)
      exact ⟨by simp [h9.1], h9.2⟩
    refine StepsE.run rfl ?_ ?_
    · intro L U wr hC hP hlk hcl haf A K hFm hK
      simp [Aft, Region.binds] at haf
      have g2 : U 18 = (.pointer (some ⟨g, 0, none⟩)) := hP 2 18 (by simp [haf]) rfl
      have e18 : A.tmps[18]? = some (.pointer (some ⟨g, 0, none⟩)) := hFm.is 2 18 rfl g2
      have HC : Hid _ := hC
      clear hC
      refine ⟨?_⟩
      go_simp
      refine hK _ _ rfl ?_
      obtain ⟨c0, cB, c1, cS⟩ := HC.out
      refine ⟨fun h => c0 (by simpa using h), (fun h1 h2 => by have h9 := cB (by simpa using h1) (by simpa using h2); simpa [updO, Go.Proofs.Ytmnpefiaelpkfac.upd] using h9), (fun h1 h2 => by have h9 := c1 (by simpa using h1) (by simpa using h2); simpa [updO, Go.Proofs.Ytmnpefiaelpkfac.upd] using h9), fun h => ?_⟩
      have h9 := cS (by simpa using h)
      exact ⟨by simp [h9.1], h9.2⟩
    refine StepsE.run rfl ?_ ?_
    · intro L U wr hC hP hlk hcl haf A K hFm hK
      simp [Aft, Region.binds] at haf
      have g3 : U 19 = (.pointer (some ⟨g, 7, none⟩)) := hP 3 19 (by simp [haf]) rfl
      have e19 : A.tmps[19]? = some (.pointer (some ⟨g, 7, none⟩)) := hFm.is 3 19 rfl g3
      have hM8 : M5 wr := by
        obtain ⟨c0, cB, c1, cS⟩ := hC
        have hs : L 14 = false := by cases h : L 14 with | false => rfl | true => exact absurd (cS h).1 (by simp [hlk])
        cases h14 : L 11 with
        | false => exact HM0.out wr (c0 h14)
        | true => exact HM1.out wr (U 27) (c1 h14 hs).2.1
      rw [hM5] at hM8
      obtain ⟨m7, m2⟩ := hM8
      have HC : Hid _ := hC
      clear hC
      refine ⟨?_⟩
      go_simp
      refine hK _ _ rfl ?_
      obtain ⟨c0, cB, c1, cS⟩ := HC.out
      refine ⟨fun h => c0 (by simpa using h), (fun h1 h2 => by have h9 := cB (by simpa using h1) (by simpa using h2); simpa [updO, Go.Proofs.Ytmnpefiaelpkfac.upd] using h9), (fun h1 h2 => by have h9 := c1 (by simpa using h1) (by simpa using h2); simpa [updO, Go.Proofs.Ytmnpefiaelpkfac.upd] using h9), fun h => ?_⟩
      have h9 := cS (by simpa using h)
      exact ⟨by simp [h9.1], h9.2⟩
    refine StepsE.run rfl ?_ ?_
    · intro L U wr hC hP hlk hcl haf A K hFm hK
      simp [Aft, Region.binds] at haf
      have e1 : A.tmps[1]? = some (.int .i64 (s.ns : Nat)) := (hFm.old 1 (by decide)).trans (by kernel_rfl)
      have HC : Hid _ := hC
      clear hC
      refine ⟨?_⟩
      go_simp
      refine hK _ _ rfl ?_
      obtain ⟨c0, cB, c1, cS⟩ := HC.out
      refine ⟨fun h => c0 (by simpa using h), (fun h1 h2 => by have h9 := cB (by simpa using h1) (by simpa using h2); simpa [updO, Go.Proofs.Ytmnpefiaelpkfac.upd] using h9), (fun h1 h2 => by have h9 := c1 (by simpa using h1) (by simpa using h2); simpa [updO, Go.Proofs.Ytmnpefiaelpkfac.upd] using h9), fun h => ?_⟩
      have h9 := cS (by simpa using h)
      exact ⟨by simp [h9.1], h9.2⟩
    refine StepsE.run rfl ?_ ?_
    · intro L U wr hC hP hlk hcl haf A K hFm hK
      simp [Aft, Region.binds] at haf
      have e1 : A.tmps[1]? = some (.int .i64 (s.ns : Nat)) := (hFm.old 1 (by decide)).trans (by kernel_rfl)
      have HC : Hid _ := hC
      clear hC
      refine ⟨?_⟩
      go_simp
      refine hK _ _ rfl ?_
      obtain ⟨c0, cB, c1, cS⟩ := HC.out
      refine ⟨fun h => c0 (by simpa using h), (fun h1 h2 => by have h9 := cB (by simpa using h1) (by simpa using h2); simpa [updO, Go.Proofs.Ytmnpefiaelpkfac.upd] using h9), (fun h1 h2 => by have h9 := c1 (by simpa using h1) (by simpa using h2); simpa [updO, Go.Proofs.Ytmnpefiaelpkfac.upd] using h9), fun h => ?_⟩
      have h9 := cS (by simpa using h)
      exact ⟨by simp [h9.1], h9.2⟩
    refine StepsE.run rfl ?_ ?_
    · intro L U wr hC hP hlk hcl haf A K hFm hK
      simp [Aft, Region.binds] at haf
      have e4 : A.tmps[4]? = some (.pointer (some ⟨w.heap.size, 0, none⟩)) := (hFm.old 4 (by decide)).trans (by kernel_rfl)
      have HC : Hid _ := hC
      clear hC
      refine ⟨?_⟩
      go_simp
      refine hK _ _ rfl ?_
      obtain ⟨c0, cB, c1, cS⟩ := HC.out
      refine ⟨fun h => c0 (by simpa using h), (fun h1 h2 => by have h9 := cB (by simpa using h1) (by simpa using h2); simpa [updO, Go.Proofs.Ytmnpefiaelpkfac.upd] using h9), (fun h1 h2 => by have h9 := c1 (by simpa using h1) (by simpa using h2); simpa [updO, Go.Proofs.Ytmnpefiaelpkfac.upd] using h9), fun h => ?_⟩
      have h9 := cS (by simpa using h)
      exact ⟨by simp [h9.1], h9.2⟩
    refine StepsE.run rfl ?_ ?_
    · intro L U wr hC hP hlk hcl haf A K hFm hK
      simp [Aft, Region.binds] at haf
      have g7 : U 23 = (.pointer (some ⟨w.heap.size, 2, none⟩)) := hP 7 23 (by simp [haf]) rfl
      have e23 : A.tmps[23]? = some (.pointer (some ⟨w.heap.size, 2, none⟩)) := hFm.is 7 23 rfl g7
      have hM8 : M5 wr := by
        obtain ⟨c0, cB, c1, cS⟩ := hC
        have hs : L 14 = false := by cases h : L 14 with | false => rfl | true => exact absurd (cS h).1 (by simp [hlk])
        cases h14 : L 11 with
        | false => exact HM0.out wr (c0 h14)
        | true => exact HM1.out wr (U 27) (c1 h14 hs).2.1
      rw [hM5] at hM8
      obtain ⟨m7, m2⟩ := hM8
      have HC : Hid _ := hC
      clear hC
      refine ⟨?_⟩
      go_simp
      refine hK _ _ rfl ?_
      obtain ⟨c0, cB, c1, cS⟩ := HC.out
      refine ⟨fun h => c0 (by simpa using h), (fun h1 h2 => by have h9 := cB (by simpa using h1) (by simpa using h2); simpa [updO, Go.Proofs.Ytmnpefiaelpkfac.upd] using h9), (fun h1 h2 => by have h9 := c1 (by simpa using h1) (by simpa using h2); simpa [updO, Go.Proofs.Ytmnpefiaelpkfac.upd] using h9), fun h => ?_⟩
      have h9 := cS (by simpa using h)
      exact ⟨by simp [h9.1], h9.2⟩
    refine StepsE.run rfl ?_ ?_
    · intro L U wr hC hP hlk hcl haf A K hFm hK
      simp [Aft, Region.binds] at haf
      have g5 : U 21 = (.int .i64 (s.ns : Nat)) := hP 5 21 (by simp [haf]) rfl
      have e21 : A.tmps[21]? = some (.int .i64 (s.ns : Nat)) := hFm.is 5 21 rfl g5
      have g6 : U 22 = (.int .i64 (s.ns : Nat)) := hP 6 22 (by simp [haf]) rfl
      have e22 : A.tmps[22]? = some (.int .i64 (s.ns : Nat)) := hFm.is 6 22 rfl g6
      have g8 : U 24 = (.int .i64 (f.P s.ns).node) := hP 8 24 (by simp [haf]) rfl
      have e24 : A.tmps[24]? = some (.int .i64 (f.P s.ns).node) := hFm.is 8 24 rfl g8
      have HC : Hid _ := hC
      clear hC
      refine ⟨?_⟩
      go_simp
      refine hK _ _ rfl ?_
      obtain ⟨c0, cB, c1, cS⟩ := HC.out
      refine ⟨fun h => c0 (by simpa using h), (fun h1 h2 => by have h9 := cB (by simpa using h1) (by simpa using h2); simpa [updO, Go.Proofs.Ytmnpefiaelpkfac.upd] using h9), (fun h1 h2 => by have h9 := c1 (by simpa using h1) (by simpa using h2); simpa [updO, Go.Proofs.Ytmnpefiaelpkfac.upd] using h9), fun h => ?_⟩
      have h9 := cS (by simpa using h)
      exact ⟨by simp [h9.1], h9.2⟩
    refine StepsE.run rfl ?_ ?_
    · intro L U wr hC hP hlk hcl haf A K hFm hK
      simp [Aft, Region.binds] at haf
      have g9 : U 25 = (.agg #[.int .i64 (s.ns : Nat), .int .i64 (s.ns : Nat), .int .i64 (-1), .int .i64 (-1), .int .i64 1, .int .i64 (f.P s.ns).node, .slice none 0 0]) := hP 9 25 (by simp [haf]) rfl
      have e25 : A.tmps[25]? = some (.agg #[.int .i64 (s.ns : Nat), .int .i64 (s.ns : Nat), .int .i64 (-1), .int .i64 (-1), .int .i64 1, .int .i64 (f.P s.ns).node, .slice none 0 0]) := hFm.is 9 25 rfl g9
      have hA9 : L 11 = false := by cases h : L 11 with | false => rfl | true => have h9 := hcl 11 _ rfl h; simp [Aft, Region.binds, hlk] at h9
      refine ⟨?_⟩
      go_simp
      refine hK _ _ trivial ⟨fun h => ?_, fun _ _ => ?_, fun h1 h2 => ?_, fun h => ?_⟩
      · exact ((hC.1 hA9).alloc (hC.1 hA9).size _)
      · exact ⟨wr.heap.size, rfl, heap_alloc_new wr _⟩
      · simp [hA9] at h1
      · have h9 := (hC.2.2.2 (by simpa using h)).1
        simp [hlk] at h9
    refine StepsE.run rfl ?_ ?_
    · intro L U wr hC hP hlk hcl haf A K hFm hK
      simp [Aft, Region.binds] at haf
      have g4 : U 20 = (y.vS) := hP 4 20 (by simp [haf]) rfl
      have e20 : A.tmps[20]? = some (y.vS) := hFm.is 4 20 rfl g4
      have e26 : A.tmps[26]? = some (U 26) := hFm.got 10 26 rfl
      have l10 : L 10 = true := by simp [haf]
      refine ⟨?_⟩
      refine wp_push1 (.tmp 20) (.tmp 26) 70 rfl 7 86 _ 72 Try.underlying70 iSpot (by decide) rfl (by decide) (y.vS) (s.ns) (spotC s.S y.au) (by simp [Act.eval, e20]) (HOWN.out wr (hC.1 hlk)) (fun _ _ => rfl) [.int .i64 (s.ns : Nat), .int .i64 (s.ns : Nat), .int .i64 (-1), .int .i64 (-1), .int .i64 1, .int .i64 (f.P s.ns).node, .slice none 0 0] 86 (U 26) (hC.2.1 l10 hlk) (by simp [Act.eval, e26]) rfl (by intro u hu; simp at hu; rcases hu with rfl | rfl | rfl | rfl | rfl | rfl | rfl <;> rfl) HNB.out (spotC (upd s.S s.ns (fresh s.ns (f.P s.ns).node)) (upd y.au s.ns (.slice none 0 0))) (fun k hk => by simp [spotC, upd, Nat.ne_of_lt hk]) (by simp [spotC, upd, fresh]) ?_
      intro v9 w9 hol9 hap9 hne9
      refine hK _ _ trivial ⟨fun h => ?_, fun _ h => ?_, fun _ _ => ?_, fun h => ?_⟩
      · simp at h
      · simp at h
      · simp only [updO, Go.Proofs.Ytmnpefiaelpkfac.upd, beq_self_eq_true, cond_true]; exact ⟨hol9, hap9.ofBelow (hC.1 hlk), hne9⟩
      · have h9 := (hC.2.2.2 (by simpa using h)).1
        simp [hlk] at h9
    refine StepsE.run rfl ?_ ?_
    · intro L U wr hC hP hlk hcl haf A K hFm hK
      simp [Aft, Region.binds] at haf
      have g0 : U 16 = (.pointer (some ⟨g, 0, none⟩)) := hP 0 16 (by simp [haf]) rfl
      have e16 : A.tmps[16]? = some (.pointer (some ⟨g, 0, none⟩)) := hFm.is 0 16 rfl g0
      have HC : Hid _ := hC
      clear hC
      refine ⟨?_⟩
      go_simp
      refine hK _ _ rfl ?_
      obtain ⟨c0, cB, c1, cS⟩ := HC.out
      refine ⟨fun h => c0 (by simpa using h), (fun h1 h2 => by have h9 := cB (by simpa using h1) (by simpa using h2); simpa [updO, Go.Proofs.Ytmnpefiaelpkfac.upd] using h9), (fun h1 h2 => by have h9 := c1 (by simpa using h1) (by simpa using h2); simpa [updO, Go.Proofs.Ytmnpefiaelpkfac.upd] using h9), fun h => ?_⟩
      have h9 := cS (by simpa using h)
      exact ⟨by simp [h9.1], h9.2⟩
    refine StepsE.run rfl ?_ ?_
    · intro L U wr hC hP hlk hcl haf A K hFm hK
      simp [Aft, Region.binds] at haf
      have g12 : U 28 = (.pointer (some ⟨g, 0, none⟩)) := hP 12 28 (by simp [haf]) rfl
      have e28 : A.tmps[28]? = some (.pointer (some ⟨g, 0, none⟩)) := hFm.is 12 28 rfl g12
      have HC : Hid _ := hC
      clear hC
      refine ⟨?_⟩
      go_simp
      refine hK _ _ rfl ?_
      obtain ⟨c0, cB, c1, cS⟩ := HC.out
      refine ⟨fun h => c0 (by simpa using h), (fun h1 h2 => by have h9 := cB (by simpa using h1) (by simpa using h2); simpa [updO, Go.Proofs.Ytmnpefiaelpkfac.upd] using h9), (fun h1 h2 => by have h9 := c1 (by simpa using h1) (by simpa using h2); simpa [updO, Go.Proofs.Ytmnpefiaelpkfac.upd] using h9), fun h => ?_⟩
      have h9 := cS (by simpa using h)
      exact ⟨by simp [h9.1], h9.2⟩
    refine StepsE.run rfl ?_ StepsE.nil
    · intro L U wr hC hP hlk hcl haf A K hFm hK
      simp [Aft, Region.binds] at haf
      have g13 : U 29 = (.pointer (some ⟨g, 7, none⟩)) := hP 13 29 (by simp [haf]) rfl
      have e29 : A.tmps[29]? = some (.pointer (some ⟨g, 7, none⟩)) := hFm.is 13 29 rfl g13
      have e27 : A.tmps[27]? = some (U 27) := hFm.got 11 27 rfl
      have l13 : L 13 = true := by simp [haf]
      have l11 : L 11 = true := by simp [haf]
      have a13 := hcl 13 _ rfl l13
      simp [Aft, Region.binds] at a13
      have l12 : L 12 = true := by simp [a13]
      have a11 := hcl 11 _ rfl l11
      simp [Aft, Region.binds] at a11
      have l4 : L 4 = true := by simp [a11]
      have l10 : L 10 = true := by simp [a11]
      have a12 := hcl 12 _ rfl l12
      simp [Aft, Region.binds] at a12
      have l0 : L 0 = true := by simp [a12]
      have a4 := hcl 4 _ rfl l4
      simp [Aft, Region.binds] at a4
      have l3 : L 3 = true := by simp [a4]
      have a10 := hcl 10 _ rfl l10
      simp [Aft, Region.binds] at a10
      have l9 : L 9 = true := by simp [a10]
      have a3 := hcl 3 _ rfl l3
      simp [Aft, Region.binds] at a3
      have l2 : L 2 = true := by simp [a3]
      have a9 := hcl 9 _ rfl l9
      simp [Aft, Region.binds] at a9
      have l5 : L 5 = true := by simp [a9]
      have l6 : L 6 = true := by simp [a9]
      have l8 : L 8 = true := by simp [a9]
      have a2 := hcl 2 _ rfl l2
      simp [Aft, Region.binds] at a2
      have l1 : L 1 = true := by simp [a2]
      have a8 := hcl 8 _ rfl l8
      simp [Aft, Region.binds] at a8
      have l7 : L 7 = true := by simp [a8]
      refine ⟨?_⟩
      obtain ⟨hol9, hap9, hne9⟩ := hC.2.2.1 l11 hlk
      have HKK : Hid _ := HSET.out wr (U 27) hol9 hap9 hne9
      obtain ⟨k4, k5⟩ := HFZ.out wr (U 27) hap9
      obtain ⟨ao9, cc9, hv9, -, -, -, -⟩ := hol9.shape
      obtain ⟨nl, hnl⟩ : ∃ nl, nl = s.ns + 1 := ⟨_, rfl⟩
      rw [← hnl] at hv9
      clear hnl
      have e27 : A.tmps[27]? = some (.slice ao9 nl cc9) := hFm.is 11 27 rfl hv9
      rw [hv9] at HKK
      clear hol9 hap9 hne9 hC
      go_simp
      refine hK (.tuple #[]) _ trivial ⟨fun h => ?_, fun h1 h2 => ?_, fun h1 h2 => ?_, fun _ => ⟨?_, HKK.out⟩⟩
      · simp [l11] at h
      · simp [l11] at h2
      · simp at h2
      · simp [l0, l1, l2, l3, l4, l5, l6, l7, l8, l9, l10, l11, l12, l13]
  intro L U5 V5 hall hC hP
  have hE := (hC.2.2.2 (hall 14 (by decide))).2
  rw [hE5] at hE
  obtain ⟨v9, hC9, hM9, hF9, hK9⟩ := hE
  clear hC hP hall hE5 hM5 HM0 HM1 HFZ HOWN HSET HKB
  simp only [setM_some, setM_none, setM_nil]
  replace hM9 := (Mv.below (F := Ft g x y s.ns) hbw).trans hM9 (fun b hb => Or.inl hb)
  have HF9 : Hid (∀ b, Ft g x { y with vS := v9, au := upd y.au s.ns (.slice none 0 0) } (s.ns + 1) b → Ft g x y s.ns b ∨ w.heap.size ≤ b) := fun b hb => by
    rcases hF9 b hb with h9 | h9
    · exact Or.inl h9
    · exact Or.inr (Nat.le_trans hbw.size h9)
  have d0 : V5.cell? ⟨w.heap.size, 0, none⟩ = some (.int .i64 (f.P s.ns).front) := cell_of_row _ w.heap.size 0 _ 96 (0, 0) hK9
  have d1 : V5.cell? ⟨w.heap.size, 1, none⟩ = some (.int .i64 (f.P s.ns).arg) := cell_of_row _ w.heap.size 1 _ 96 (0, 0) hK9
  clear hF9 hbw hwl hgl hgl1
  by_cases hfr : (f.P s.ns).front = -1
  · rw [hfr] at d0
    go_wp2
    refine bodyPost_ret (v := .tuple #[]) (by simp [results, Try.results43, go_sem]) rfl ?_
    refine ⟨rfl, _, ?_, hM9, HF9.out⟩
    have e1 : placeS f.P s.S s.ns = upd s.S s.ns (fresh s.ns (f.P s.ns).node) := by unfold placeS; rw [if_pos hfr]
    have e2 : placeX f.P s.S s.sg s.cl s.ns = (s.sg, s.cl) := by unfold placeX; rw [if_pos hfr]
    rw [e1, e2]; exact hC9
  · have hpm := HI.out.parts.made hn hfr
    obtain ⟨fr, hfr0⟩ : ∃ fr, fr = (f.P s.ns).front.toNat := ⟨_, rfl⟩
    obtain ⟨ar, har0⟩ : ∃ ar, ar = (f.P s.ns).arg.toNat := ⟨_, rfl⟩
    have e1 : (f.P s.ns).front = (fr : Nat) := by omega
    have e2 : (f.P s.ns).arg = (ar : Nat) := by omega
    have HFR : Hid ((f.P s.ns).front = (fr : Nat) ∧ (f.P s.ns).arg = (ar : Nat) ∧ (f.P s.ns).front ≠ -1) := ⟨e1, e2, hfr⟩
    have lfr : fr < s.ns := by omega
    have lar : ar < s.ns := by omega
    rw [e1] at d0
    rw [e2] at d1
    clear hfr hpm hfr0 har0 e1 e2
    obtain ⟨S0, hS0⟩ : ∃ S0, S0 = upd s.S s.ns (fresh s.ns (f.P s.ns).node) := ⟨_, rfl⟩
    obtain ⟨y1, hy1⟩ : ∃ y1 : Ly, y1 = { y with vS := v9, au := upd y.au s.ns (.slice none 0 0) } := ⟨_, rfl⟩
    rw [← hS0, ← hy1] at hC9
    rw [← hy1] at HF9
    have HS0 : Hid (S0 = upd s.S s.ns (fresh s.ns (f.P s.ns).node)) := hS0
    clear hS0 hy1
    have hC3 := hC9.alloc (.cells #[.int .i64 (fr : Nat), .int .i64 (ar : Nat)] 3 (0, 0))
    have hM3 := hM9.alloc (.cells #[.int .i64 (fr : Nat), .int .i64 (ar : Nat)] 3 (0, 0))
    have klb : (V5.alloc (.cells #[.int .i64 (fr : Nat), .int .i64 (ar : Nat)] 3 (0, 0))).heap[V5.heap.size]? = _ := heap_alloc_new V5 _
    have HNL : Hid (∀ b, Ft g x y1 (s.ns + 1) b → b ≠ V5.heap.size) := fun b hb e => by have := hC9.ftLt hb; omega
    have hV5 : w.heap.size ≤ V5.heap.size := hM9.size
    obtain ⟨gs, cap, hv, hs1, hs2⟩ := hC3.spotsAt (i := fr) (show fr < s.ns + 1 by omega)
    have HV : Hid (y1.vS = .slice (some ⟨gs, 0, none⟩) (s.ns + 1) cap) := hv
    clear hC9 hM9 hv
    have hc0 : (S0 fr).cls = (s.S fr).cls := by rw [HS0.out, upd_other _ _ (by omega)]
    have hc1 : (S0 ar).cls = (s.S ar).cls := by rw [HS0.out, upd_other _ _ (by omega)]
    have lc0 := HI.out.lt fr lfr
    have lc1 := HI.out.lt ar lar
    have HU : Hid (∀ i, (S0 i).uses.length ≤ 20000 ∨ s.ns + 1 ≤ i) := fun i => by
      by_cases hi : i < s.ns + 1
      · left
        rw [HS0.out]
        by_cases e : i = s.ns
        · subst e; rw [upd_same]; simp [fresh]
        · rw [upd_other _ _ e]
          have h1 := HI.out.useN
          have h2 := total_ge (useLen s.S) i s.ns (by omega)
          have h3 : useLen s.S i = (s.S i).uses.length := rfl
          have h4 := HSM.out
          omega
      · right; omega
    go_wp2
    generalize (V5.alloc (.cells #[.int .i64 (fr : Nat), .int .i64 (ar : Nat)] 3 (0, 0))) = w3 at hC3 hM3 klb ⊢
    have HLB : Hid (w3.heap[V5.heap.size]? = some (.cells #[.int .i64 (fr : Nat), .int .i64 (ar : Nat)] 3 (0, 0))) := klb
    clear klb d0 d1
    go_loopw [39] (fun v39 wl => ∃ (k : Nat) (y' : Ly), v39 = .int .i64 (k : Nat) ∧ k ≤ 2 ∧ CW wl g x f m y' { s with ns := s.ns + 1, S := usesTo S0 (s.S fr).cls (s.S ar).cls s.ns k } ∧ Hid (y'.vS = y1.vS ∧ ∀ b, Ft g x y' (s.ns + 1) b → Ft g x y1 (s.ns + 1) b ∨ w3.heap.size ≤ b) ∧ Mv (Ft g x y1 (s.ns + 1)) w3 wl) (fun v _ => 2 - (intOf v).toNat)
    case atStart => exact ⟨0, y1, rfl, by omega, hC3, ⟨rfl, fun b hb => Or.inl hb⟩, Mv.refl _ _⟩
    case round =>
      rename World => wl
      obtain ⟨k, y', rfl, hk, hCl, HY, hMl⟩ := hrel
      by_cases hlt : k < 2
      · obtain ⟨made, hmd⟩ : ∃ made, made = if k = 0 then fr else ar := ⟨_, rfl⟩
        obtain ⟨c, hcd⟩ : ∃ c, c = (s.S made).cls := ⟨_, rfl⟩
        have lmd : made < s.ns := by rw [hmd]; split <;> omega
        have lc : c < s.ns := by rw [hcd]; exact HI.out.lt made lmd
        have HCM : Hid ((usesTo S0 (s.S fr).cls (s.S ar).cls s.ns k made).cls = c) := by
          show _ = _
          rw [usesTo_cls, HS0.out, upd_other _ _ (by omega), hcd]
        have HST : Hid (usesTo S0 (s.S fr).cls (s.S ar).cls s.ns (k + 1) = useAt (usesTo S0 (s.S fr).cls (s.S ar).cls s.ns k) c s.ns) := by
          show _ = _
          rcases (show k = 0 ∨ k = 1 by omega) with e | e
          · subst e; rw [hcd, hmd]; rfl
          · subst e; rw [hcd, hmd]; rfl
        have hlb : wl.heap[V5.heap.size]? = some (.cells #[.int .i64 (fr : Nat), .int .i64 (ar : Nat)] 3 (0, 0)) := (hMl.other _ (Array.getElem?_eq_some_iff.1 HLB.out).1 (fun h9 => HNL.out _ h9 rfl)).trans HLB.out
        have cu : wl.cell? ⟨V5.heap.size, k, none⟩ = some (.int .i64 (made : Nat)) := by
          rw [cell_of_row _ V5.heap.size k _ 3 (0, 0) hlb, hmd]
          rcases (show k = 0 ∨ k = 1 by omega) with e | e
          · subst e; rfl
          · subst e; rfl
        have HVl : Hid (y'.vS = .slice (some ⟨gs, 0, none⟩) (s.ns + 1) cap) := HY.out.1.trans HV.out
        obtain ⟨-, -, -, -, -, -, -, c7, -, -⟩ := hCl.cells
        rw [HVl.out] at c7
        obtain ⟨a0, -, -, -, -, -, -⟩ := hCl.spot HVl.out (i := made) (show made < s.ns + 1 by omega)
        simp only [HCM.out] at a0
        obtain ⟨-, -, -, -, -, -, b6⟩ := hCl.spot HVl.out (i := c) (show c < s.ns + 1 by omega)
        have lmd1 : made < s.ns + 1 := by omega
        have lc1' : c < s.ns + 1 := by omega
        clear hmd hcd hlb hc0 hc1 lc0 lc1 hC3 hM3
        have hltI : (k : Int) < 2 := by omega
        go_wp2
        go_quiet (fail)
        have hC4 := hCl.drewN nq
        have hM4 := hMl.drewN nq
        have b64 : (wl.drewN nq).cell? ⟨gs, c * 7 + 6, none⟩ = some (y'.au c) := b6
        clear hCl hMl c7 a0 b6 cu
        generalize wl.drewN nq = w4 at hC4 hM4 b64 ⊢
        have hC5 := hC4.alloc (.cells #[.int .i64 (s.ns : Nat)] 3 (0, 0))
        have hun := hC4.uses c lc1'
        have HUL : Hid ((usesTo S0 (s.S fr).cls (s.S ar).cls s.ns k c).uses.length + 1 ≤ 1000000000) := by
          show _ ≤ _
          have h1 := usesTo_len S0 (s.S fr).cls (s.S ar).cls s.ns k c
          have h2 := HU.out c
          omega
        have hgs4 : gs < w4.heap.size := hC4.ltS HVl.out
        go_wp2_with (at_builtin; refine Stop.of ?_)
        show wpList _ _ _ _ _ _
        refine wpList_push rfl (.tmp 60) (.tmp 62) 31 rfl 1 3 _ 8 uInts iInt (by decide) rfl (by decide) (y'.au c) (usesTo S0 (s.S fr).cls (s.S ar).cls s.ns k c).uses.length _ rfl [.int .i64 (s.ns : Nat)] 3 (hC5.uses c lc1') (fun _ _ => rfl) 1 rfl rfl (by intro u hu; simp at hu; subst hu; rfl) HUL.out (natC ((usesTo S0 (s.S fr).cls (s.S ar).cls s.ns k c).uses ++ [s.ns])) (fun k9 hk9 => by simp [natC, List.getD_eq_getElem?_getD, List.getElem?_append_left hk9]) (by simp [natC, List.getD_eq_getElem?_getD]) ?_
        intro v' w6 hol hap hne
        replace hap := hap.of_alloc (fun b hb => hun.lt hb)
        have hol2 : OL 1 3 w6 v' ((usesTo S0 (s.S fr).cls (s.S ar).cls s.ns k c).uses ++ [s.ns]).length (natC ((usesTo S0 (s.S fr).cls (s.S ar).cls s.ns k c).uses ++ [s.ns])) := by rw [List.length_append]; exact hol
        obtain ⟨k1, k2, k3⟩ := hC4.setUses HVl.out lc1' hap.os hap.tape hap.output hap.size hap.other (fun b9 hb9 => by
          rcases hap.at_ with h3 | ⟨b8, h3, h4⟩
          · exact Or.inl (h3.symm.trans hb9)
          · rw [hb9] at h3; injection h3 with h3; subst h3; exact Or.inr h4) hol2
        have hs9 := hC4.spots
        rw [HVl.out] at hs9
        obtain ⟨cs9, hcs9⟩ := hs9.elem (b := gs) rfl
        have hg6 := (hap.other gs hgs4 (fun hc => hun.neB hcs9 (by decide) hc)).trans hcs9
        have q66 := frozen_of_row w6 gs (c * 7 + 6) cs9 86 hg6
        have c66 : w6.cell? ⟨gs, c * 7 + 6, none⟩ = some (y'.au c) := (World.cell?_of_block (a := ⟨gs, c * 7 + 6, none⟩) (hap.other gs hgs4 (fun hc => hun.neB hcs9 (by decide) hc))).trans b64
        obtain ⟨nl, hnl⟩ : ∃ nl, nl = (usesTo S0 (s.S fr).cls (s.S ar).cls s.ns k c).uses.length + 1 := ⟨_, rfl⟩
        rw [← hnl] at hol
        obtain ⟨ao, cc, hv', -, -, -, -⟩ := hol.shape
        subst hv'
        have HKK : Hid _ := And.intro k1 (And.intro k2 k3)
        clear hol hol2 hap hC5 hun hs9 hcs9 hg6 b64 hnl k1 k2 k3
        go_wp2
        have HY9 : Hid (∀ b, Ft g x { y' with au := upd y'.au c (.slice ao nl cc) } (s.ns + 1) b → Ft g x y1 (s.ns + 1) b ∨ w3.heap.size ≤ b) := fun b hb => by
          rcases HKK.out.2.2 b hb with h9 | h9
          · exact HY.out.2 b h9
          · exact Or.inr (Nat.le_trans hM4.size h9)
        go_roundw
        case rel =>
          refine ⟨k + 1, { y' with au := upd y'.au c (.slice ao nl cc) }, by go_num, by omega, ?_, ⟨HY.out.1, HY9.out⟩, hM4.trans HKK.out.2.1 HY.out.2⟩
          rw [HST.out]
          exact HKK.out.1
        case measure => simp [intOf]; omega
      · obtain rfl : k = 2 := by omega
        have HJ : Hid (Inv f.np f.P (s.ns + 1) (placeS f.P s.S s.ns) s.sg s.cl [s.ns]) := by
          have := HI.out.placed hn
          rw [if_neg HFR.out.2.2] at this
          exact this
        have HPS : Hid (usesTo S0 (s.S fr).cls (s.S ar).cls s.ns 2 = placeS f.P s.S s.ns) := by
          show _ = _
          unfold placeS
          rw [if_neg HFR.out.2.2, ← HS0.out, show (f.P s.ns).front.toNat = fr by have := HFR.out.1; omega, show (f.P s.ns).arg.toNat = ar by have := HFR.out.2.1; omega]; rfl
        rw [HPS.out] at hCl
        clear hC3
        go_wp2_with fail
        refine (enrol_any g x f m y' { s with ns := s.ns + 1, S := placeS f.P s.S s.ns } s.ns fr ar wl hCl (Nat.lt_succ_self _) HFR.out.1 HFR.out.2.1 (show fr < s.ns + 1 by omega) (show ar < s.ns + 1 by omega) ⟨HJ.out.lt fr (by omega), HJ.out.lt ar (by omega)⟩ (fun k9 q9 hq9 => ⟨(HJ.out.sg1 k9 q9 hq9).1, (HJ.out.sg1 k9 q9 hq9).2.2⟩) (by show s.cl.length ≤ _; omega)).mono ?_
        rintro e w8 ⟨rfl, y8, hC8, hv8, hu8, hM8, hF8⟩
        have HX : Hid (placeX f.P s.S s.sg s.cl s.ns = enrolS f.P (placeS f.P s.S s.ns) s.sg s.cl s.ns) := by
          show _ = _
          unfold placeX; rw [if_neg HFR.out.2.2]
        go_wp2
        go_end0
        refine ⟨rfl, y8, ?_, (hM3.trans hMl HF9.out).trans hM8 ?_, ?_⟩
        · rw [HX.out]; exact hC8
        · intro b hb
          rcases HY.out.2 b hb with h9 | h9
          · exact HF9.out b h9
          · exact Or.inr (Nat.le_trans hM3.size h9)
        · intro b hb
          rcases hF8 b hb with h9 | h9
          · rcases HY.out.2 b h9 with h8 | h8
            · exact HF9.out b h8
            · exact Or.inr (Nat.le_trans hM3.size h8)
          · exact Or.inr (Nat.le_trans (Nat.le_trans hM3.size hMl.size) h9)
end Euf
end Go.Proofs.Ytmnpefiaelpkfac
/- Contracts of placeTo and settle; they prove no statement of the seat. -/
namespace Go.Proofs.Ytmnpefiaelpkfac
open Go.RowKit
set_option linter.unusedVariables false
namespace Euf
/-- What the classes come to. -/
inductive Run (f : Fx) : Nat → Sx → Nat → Sx → Prop
  | refl {m : Nat} {s : Sx} : Run f m s m s
  | place {m m' : Nat} {s s' : Sx} {T : Nat → Spot} {tg : Nat × Nat → Option Nat} : Run f m s m' s' → s'.cl = [] → s'.ns < f.np → Joins f.np f.P (s'.ns + 1) (placeS f.P s'.S s'.ns) (placeX f.P s'.S s'.sg [] s'.ns).1 (placeX f.P s'.S s'.sg [] s'.ns).2 T tg → Run f m s m' ⟨s'.ns + 1, T, tg, []⟩
  | eq {m m' : Nat} {s s' : Sx} {T : Nat → Spot} {tg : Nat × Nat → Option Nat} : Run f m s m' s' → s'.cl = [] → m' < f.ne → (f.E m').2.2 ≤ s'.ns → Joins f.np f.P s'.ns s'.S s'.sg [⟨f.W (f.E m').1, f.W (f.E m').2.1, (m' : Int)⟩] T tg → Run f m s (m' + 1) ⟨s'.ns, T, tg, []⟩
/-- Equations speak of nodes whose parts were there. -/
structure FOk (f : Fx) : Prop where
  parts : PartsOk f.np f.P
  whole : ∀ i, i < f.nw → f.W i < f.np
  eqs : ∀ k, k < f.ne → (f.E k).1 < f.nw ∧ (f.E k).2.1 < f.nw ∧ f.W (f.E k).1 < (f.E k).2.2 ∧ f.W (f.E k).2.1 < (f.E k).2.2 ∧ (f.E k).2.2 ≤ f.np
theorem Inv.addClaim {np ns : Nat} {P : Nat → Part} {S : Nat → Spot} {sg : Nat × Nat → Option Nat} (h : Inv np P ns S sg [] []) (c : Claim) (ha : c.a < ns) (hb : c.b < ns) : Inv np P ns S sg [c] [] := by
  refine { h with sg2 := fun p hp mp ho => ?_, cls := fun d hd => ?_ }
  · obtain ⟨q, q1, q2⟩ := h.sg2 p hp mp ho
    refine ⟨q, q1, q2.imp id ?_⟩
    rintro ⟨d, hd, _⟩; cases hd
  · simp at hd; subst hd; exact ⟨ha, hb⟩
theorem Run.trans {f : Fx} {m m' m'' : Nat} {s s' s'' : Sx} (h : Run f m s m' s') (k : Run f m' s' m'' s'') : Run f m s m'' s'' := by
  induction k with
  | refl => exact h
  | place _ h1 h2 h3 ih => exact .place (ih h) h1 h2 h3
  | eq _ h1 h2 h3 h4 ih => exact .eq (ih h) h1 h2 h3 h4
theorem Run.ok {f : Fx} (hf : FOk f) {m m' : Nat} {s s' : Sx} (h : Run f m s m' s') : s.cl = [] → Inv f.np f.P s.ns s.S s.sg [] [] → s'.cl = [] ∧ Inv f.np f.P s'.ns s'.S s'.sg [] [] := by
  induction h with
  | refl => exact fun h1 h2 => ⟨h1, h2⟩
  | place _ h1 h2 h3 ih => intro k1 k2; exact ⟨rfl, h3.inv ((ih k1 k2).2.place h2)⟩
  | @eq m' s0 s' T tg _ h1 h2 h3 h4 ih =>
    intro k1 k2
    have he := hf.eqs m' h2
    exact ⟨rfl, h4.inv ((ih k1 k2).2.addClaim _ (by show f.W (f.E m').1 < _; omega) (by show f.W (f.E m').2.1 < _; omega))⟩
theorem mu_le {ns : Nat} {S : Nat → Spot} {cl : List Claim} (h : ns ≤ 10000) (hc : cl.length ≤ 1) : mu ns S cl ≤ 300000000 := by
  have h1 := reps_le S ns
  unfold mu
  have h2 : reps S ns * (2 * ns + 1) ≤ 10000 * 20001 := Nat.mul_le_mul (by omega) (by omega)
  omega
/-- What the making of classes leaves. -/
def RunEnd (g : Nat) (x : Lx) (f : Fx) (m m' : Nat) (n : Nat) (y : Ly) (s : Sx) (w w' : World) : Prop :=
  ∃ (y' : Ly) (s' : Sx), Run f m s m' s' ∧ s'.ns = n ∧ CW w' g x f m' y' s' ∧ Mv (Ft g x y s.ns) w w' ∧ (∀ b, Ft g x y' s'.ns b → Ft g x y s.ns b ∨ w.heap.size ≤ b)

set_option maxRecDepth 20000 in
set_option maxHeartbeats 8000000 in
theorem placeTo_any (g : Nat) (x : Lx) (f : Fx) (m : Nat) (y : Ly) (s : Sx) (n : Nat) (w : World) (h : CW w g x f m y s) (hf : FOk f) (hc : s.cl = []) (hI : Inv f.np f.P s.ns s.S s.sg [] []) (hn : n ≤ f.np) :
    Calls Try.prog 32 #[.pointer (some ⟨g, 0, none⟩), .int .i64 (n : Nat)] w fun e w' => e = .returned (.tuple #[]) ∧ RunEnd g x f m m (max s.ns n) y s w w' := by
  have HF : Hid (FOk f ∧ s.cl = [] ∧ Inv f.np f.P s.ns s.S s.sg [] []) := ⟨hf, hc, hI⟩
  clear hf hc hI
  go_enter Try.func32, Try.ntmps32
  go_wp2
  go_loopg [4] (n - s.ns) (fun gk _ wr => ∃ (y' : Ly) (s' : Sx), Hid (Run f m s m s' ∧ n - s'.ns = gk ∧ max s'.ns n = max s.ns n ∧ (∀ b, Ft g x y' s'.ns b → Ft g x y s.ns b ∨ w.heap.size ≤ b)) ∧ CW wr g x f m y' s' ∧ Mv (Ft g x y s.ns) w wr)
  case atStart => exact ⟨y, s, ⟨.refl, rfl, rfl, fun b hb => Or.inl hb⟩, h, Mv.refl _ _⟩
  case round =>
    clear h
    obtain ⟨y', s', HR, hC, hM⟩ := hrel
    obtain ⟨hcl', hI'⟩ := HR.out.1.ok HF.out.1 HF.out.2.1 HF.out.2.2
    have HI : Hid (s'.cl = [] ∧ Inv f.np f.P s'.ns s'.S s'.sg [] []) := ⟨hcl', hI'⟩
    clear hcl' hI'
    obtain ⟨-, -, -, -, -, -, -, c7, -, -⟩ := hC.cells
    obtain ⟨a9, c9, hvs, -, -, -, -⟩ := hC.spots.shape
    rw [hvs] at c7
    clear hvs
    have hsm := hC.small
    by_cases hlt : s'.ns < n
    · have hltI : (s'.ns : Int) < (n : Int) := by omega
      go_wp2_with fail
      refine (place_any g x f m y' s' wr hC (by rw [HI.out.1]; exact HI.out.2) (by omega) (by rw [HI.out.1]; simp)).mono ?_
      rintro e w1 ⟨rfl, y1, hC1, hM1, hF1⟩
      rw [HI.out.1] at hC1
      have hI1 : Inv f.np f.P (s'.ns + 1) (placeS f.P s'.S s'.ns) (placeX f.P s'.S s'.sg [] s'.ns).1 (placeX f.P s'.S s'.sg [] s'.ns).2 [] := HI.out.2.place (by omega)
      have hln : (placeX f.P s'.S s'.sg [] s'.ns).2.length ≤ 1 := by
        unfold placeX enrolS
        split
        · simp
        · split <;> simp
      replace hM1 := hM.trans hM1 HR.out.2.2.2
      have HF1 : Hid (∀ b, Ft g x y1 (s'.ns + 1) b → Ft g x y s.ns b ∨ w.heap.size ≤ b) := fun b hb => by
        rcases hF1 b hb with h9 | h9
        · exact HR.out.2.2.2 b h9
        · exact Or.inr (Nat.le_trans hM.size h9)
      have HI1 : Hid (Inv f.np f.P (s'.ns + 1) (placeS f.P s'.S s'.ns) (placeX f.P s'.S s'.sg [] s'.ns).1 (placeX f.P s'.S s'.sg [] s'.ns).2 [] ∧ mu (s'.ns + 1) (placeS f.P s'.S s'.ns) (placeX f.P s'.S s'.sg [] s'.ns).2 ≤ 300000000) := ⟨hI1, mu_le (by omega) hln⟩
      clear hI1 hln hF1 hM hC c7
      go_wp2_with fail
      refine (join_any g x f m y1 _ w1 hC1 HI1.out.1 HI1.out.2).mono ?_
      rintro e w2 ⟨rfl, y2, T, tg, hJ, hC2, hM2, hF2⟩
      replace hM2 := hM1.trans hM2 HF1.out
      have HJ : Hid (Joins f.np f.P (s'.ns + 1) (placeS f.P s'.S s'.ns) (placeX f.P s'.S s'.sg [] s'.ns).1 (placeX f.P s'.S s'.sg [] s'.ns).2 T tg) := hJ
      have HF2 : Hid (∀ b, Ft g x y2 (s'.ns + 1) b → Ft g x y s.ns b ∨ w.heap.size ≤ b) := fun b hb => by
        rcases hF2 b hb with h9 | h9
        · exact HF1.out b h9
        · exact Or.inr (Nat.le_trans hM1.size h9)
      clear hJ hF2 hC1 hM1
      go_wp2
      go_roundg (n - (s'.ns + 1))
      case measure => have h1 := HR.out.2.1; omega
      case rel =>
        refine ⟨y2, ⟨s'.ns + 1, T, tg, []⟩, ⟨.place HR.out.1 HI.out.1 (by omega) HJ.out, rfl, ?_, HF2.out⟩, hC2, hM2⟩
        have h1 := HR.out.2.2.1
        show max (s'.ns + 1) n = _
        omega
    · have hltI : ¬ ((s'.ns : Int) < (n : Int)) := by omega
      go_wp2
      go_end0
      refine ⟨rfl, y', s', HR.out.1, ?_, hC, hM, HR.out.2.2.2⟩
      have h1 := HR.out.2.2.1
      omega
/-- One equation more is known. -/
theorem CW.setMerged {w : World} {g : Nat} {x : Lx} {f : Fx} {m : Nat} {y : Ly} {s : Sx} (h : CW w g x f m y s) (m' : Nat) : CW (w.setCell ⟨g, 6, none⟩ (.int .i64 (m' : Nat))) g x f m' y s := by
  have keep : ∀ b, b ≠ g → (w.setCell ⟨g, 6, none⟩ (.int .i64 (m' : Nat))).heap[b]? = w.heap[b]? := fun b hb => heap_setCell_other w ⟨g, 6, none⟩ b _ hb
  have other : ∀ {sz : Nat} {e : TypeId} {v' : Value} {n : Nat} {f' : Nat → List Value}, OL sz e w v' n f' → e ≠ 73 → OL sz e (w.setCell ⟨g, 6, none⟩ (.int .i64 (m' : Nat))) v' n f' := by
    intro sz e v' n f' ho h2
    refine ho.stay fun b hb => keep b (fun e' => ho.neB h.blk h2 (by rw [hb, e']))
  exact { blk := (heap_setCell_same w g 6 _ 73 _ h.blk).trans rfl, parts := other h.parts (by decide), whole := other h.whole (by decide), eqs := other h.eqs (by decide), spots := other h.spots (by decide), uses := fun i hi => other (h.uses i hi) (by decide), claims := other h.claims (by decide), sig := h.sig.stay (keep _ (fun e' => by
      obtain ⟨es, cl, he⟩ := h.sig.isMap
      rw [e', h.blk] at he
      cases he)), apart := h.apart, apartW := h.apartW, small := h.small }

set_option maxRecDepth 20000 in
set_option maxHeartbeats 8000000 in
theorem settle_any (g : Nat) (x : Lx) (f : Fx) (m : Nat) (y : Ly) (s : Sx) (w : World) (h : CW w g x f m y s) (hf : FOk f) (hc : s.cl = []) (hI : Inv f.np f.P s.ns s.S s.sg [] []) (hm : m ≤ f.ne) (hne : f.ne ≤ 20000) :
    Calls Try.prog 21 #[.pointer (some ⟨g, 0, none⟩)] w fun e w' => e = .returned (.tuple #[]) ∧ RunEnd g x f m f.ne f.np y s w w' := by
  have HF : Hid (FOk f ∧ s.cl = [] ∧ Inv f.np f.P s.ns s.S s.sg [] []) := ⟨hf, hc, hI⟩
  have hsm0 := h.small
  clear hf hc hI
  go_enter Try.func21, Try.ntmps21
  go_wp2
  go_loopg [3] (f.ne - m) (fun gk _ wr => ∃ (mk : Nat) (y' : Ly) (s' : Sx), Hid (Run f m s mk s' ∧ mk ≤ f.ne ∧ f.ne - mk = gk ∧ (∀ b, Ft g x y' s'.ns b → Ft g x y s.ns b ∨ w.heap.size ≤ b)) ∧ CW wr g x f mk y' s' ∧ Mv (Ft g x y s.ns) w wr)
  case atStart => exact ⟨m, y, s, ⟨.refl, hm, rfl, fun b hb => Or.inl hb⟩, h, Mv.refl _ _⟩
  case round =>
    clear h hm
    obtain ⟨mk, y', s', HR, hC, hM⟩ := hrel
    obtain ⟨hcl', hI'⟩ := HR.out.1.ok HF.out.1 HF.out.2.1 HF.out.2.2
    have HI : Hid (s'.cl = [] ∧ Inv f.np f.P s'.ns s'.S s'.sg [] []) := ⟨hcl', hI'⟩
    clear hcl' hI'
    obtain ⟨-, c1, -, -, c4, -, c6, -, -, -⟩ := hC.cells
    have hmk := HR.out.2.1
    by_cases hlt : mk < f.ne
    · obtain ⟨ge, ce, hve, he1, he2⟩ := hC.eqs.open mk hlt
      rw [hve] at c1
      have hel := hC.eqs
      rw [hve] at hel
      obtain ⟨ea, hea⟩ : ∃ ea, ea = (f.E mk).1 := ⟨_, rfl⟩
      obtain ⟨eb, heb⟩ : ∃ eb, eb = (f.E mk).2.1 := ⟨_, rfl⟩
      obtain ⟨ep, hep⟩ : ∃ ep, ep = (f.E mk).2.2 := ⟨_, rfl⟩
      have t0 := hel.cell (i := mk) hlt (j := 0) (by omega)
      have t1 := hel.cell (i := mk) hlt (j := 1) (by omega)
      have t2 := hel.cell (i := mk) hlt (j := 2) (by omega)
      simp only [Nat.add_zero, List.getElem?_cons_zero, List.getElem?_cons_succ, ← hea, ← heb, ← hep] at t0 t1 t2
      have hgel : ge < wr.heap.size := hel.lt rfl
      have hgl := hC.lt
      have HE : Hid (ea = (f.E mk).1 ∧ eb = (f.E mk).2.1 ∧ ep = (f.E mk).2.2) := ⟨hea, heb, hep⟩
      have hltI : (mk : Int) < (f.ne : Int) := by omega
      clear hel hve hea heb hep c4
      go_wp2
      go_quiet (fail)
      have hCa := hC.drewN nq
      have hMa := hM.drewN nq
      have c1a : (wr.drewN nq).cell? ⟨g, 1, none⟩ = some (.slice (some ⟨ge, 0, none⟩) f.ne ce) := c1
      have c6a : (wr.drewN nq).cell? ⟨g, 6, none⟩ = some (.int .i64 (mk : Nat)) := c6
      have t0a : (wr.drewN nq).cell? ⟨ge, mk * 3, none⟩ = some (.int .i64 (ea : Nat)) := t0
      have t1a : (wr.drewN nq).cell? ⟨ge, mk * 3 + 1, none⟩ = some (.int .i64 (eb : Nat)) := t1
      have t2a : (wr.drewN nq).cell? ⟨ge, mk * 3 + 2, none⟩ = some (.int .i64 (ep : Nat)) := t2
      have l1a : ge < (wr.drewN nq).heap.size := hgel
      have l2a : g < (wr.drewN nq).heap.size := hgl
      clear hC hM c1 c6 t0 t1 t2 hgel hgl
      generalize wr.drewN nq = wa at hCa hMa c1a c6a t0a t1a t2a l1a l2a ⊢
      go_upto_region 2 with fail
      go_region
      have hCb := (hCa.alloc (.cells #[.int .i64 (ea : Nat), .int .i64 (eb : Nat), .int .i64 (ep : Nat)] 88 (0, 0))).drew
      have hMb := (hMa.alloc (.cells #[.int .i64 (ea : Nat), .int .i64 (eb : Nat), .int .i64 (ep : Nat)] 88 (0, 0))).drew
      have kb : (wa.alloc (.cells #[.int .i64 (ea : Nat), .int .i64 (eb : Nat), .int .i64 (ep : Nat)] 88 (0, 0))).drew.heap[wa.heap.size]? = some (.cells #[.int .i64 (ea : Nat), .int .i64 (eb : Nat), .int .i64 (ep : Nat)] 88 (0, 0)) := heap_alloc_new wa _
      have HNB9 : Hid (∀ b, Ft g x y' s'.ns b → b ≠ wa.heap.size) := fun b hb e9 => by have := hCa.ftLt hb; omega
      clear hCa hMa c1a c6a t0a t1a t2a l1a l2a
      obtain ⟨bx, hbx⟩ : ∃ bx, bx = wa.heap.size := ⟨_, rfl⟩
      rw [← hbx] at kb HNB9 ⊢
      clear hbx
      generalize (wa.alloc (.cells #[.int .i64 (ea : Nat), .int .i64 (eb : Nat), .int .i64 (ep : Nat)] 88 (0, 0))).drew = wb at hCb hMb kb ⊢
      have d2 : wb.cell? ⟨bx, 2, none⟩ = some (.int .i64 (ep : Nat)) := cell_of_row _ bx 2 _ 88 (0, 0) kb
      have HKB : Hid (wb.heap[bx]? = some (.cells #[.int .i64 (ea : Nat), .int .i64 (eb : Nat), .int .i64 (ep : Nat)] 88 (0, 0))) := kb
      clear kb
      have heq := HF.out.1.eqs mk hlt
      rw [← HE.out.1, ← HE.out.2.1, ← HE.out.2.2] at heq
      have HEQ : Hid (ea < f.nw ∧ eb < f.nw ∧ f.W ea < ep ∧ f.W eb < ep ∧ ep ≤ f.np) := heq
      clear heq
      go_wp2_with fail
      refine (placeTo_any g x f mk y' s' ep wb hCb HF.out.1 HI.out.1 HI.out.2 HEQ.out.2.2.2.2).mono ?_
      rintro e w4 ⟨rfl, yc, sc, hR4, hn4, hC4, hM4, hF4⟩
      have hkb4 : w4.heap[bx]? = some (.cells #[.int .i64 (ea : Nat), .int .i64 (eb : Nat), .int .i64 (ep : Nat)] 88 (0, 0)) := (hM4.other bx (Array.getElem?_eq_some_iff.1 HKB.out).1 (fun h9 => HNB9.out _ h9 rfl)).trans HKB.out
      have HR4 : Hid (Run f m s mk sc ∧ ep ≤ sc.ns) := ⟨HR.out.1.trans hR4, by rw [hn4]; omega⟩
      obtain ⟨hcl4, hI4⟩ := HR4.out.1.ok HF.out.1 HF.out.2.1 HF.out.2.2
      have HI4 : Hid (sc.cl = [] ∧ Inv f.np f.P sc.ns sc.S sc.sg [] []) := ⟨hcl4, hI4⟩
      have HF4 : Hid (∀ b, Ft g x yc sc.ns b → Ft g x y s.ns b ∨ w.heap.size ≤ b) := fun b hb => by
        rcases hF4 b hb with h9 | h9
        · exact HR.out.2.2.2 b h9
        · exact Or.inr (Nat.le_trans hMb.size h9)
      replace hM4 := hMb.trans hM4 HR.out.2.2.2
      clear hCb hMb d2 hR4 hn4 hF4 hcl4 hI4 HKB HNB9
      obtain ⟨gw, cw, hvw, hgwl, wa0⟩ := hC4.wholeAt HEQ.out.1
      obtain ⟨gw', cw', hvw', -, wb0⟩ := hC4.wholeAt HEQ.out.2.1
      rw [hvw] at hvw'
      simp only [Value.slice.injEq, Option.some.injEq, Addr.mk.injEq, and_true, true_and] at hvw'
      obtain ⟨rfl, rfl⟩ := hvw'
      have HVW : Hid (x.vW = .slice (some ⟨gw, 0, none⟩) f.nw cw) := hvw
      obtain ⟨E5, hE5⟩ : ∃ E5 : World → Prop, E5 = fun wr => ∃ v9, CW wr g x f mk { yc with vC := v9 } { sc with cl := [(⟨f.W ea, f.W eb, mk⟩ : Claim)] } ∧ Mv (Ft g x yc sc.ns) w4 wr ∧ (∀ b, Ft g x { yc with vC := v9 } sc.ns b → Ft g x yc sc.ns b ∨ w4.heap.size ≤ b) := ⟨_, rfl⟩
      obtain ⟨M5, hM5⟩ : ∃ M5 : World → Prop, M5 = fun wr => wr.cell? ⟨g, 9, none⟩ = some yc.vC ∧ wr.cell? ⟨g, 5, none⟩ = some (.slice (some ⟨gw, 0, none⟩) f.nw cw) ∧ wr.cell? ⟨g, 6, none⟩ = some (.int .i64 (mk : Nat)) ∧ wr.cell? ⟨bx, 0, none⟩ = some (.int .i64 (ea : Nat)) ∧ wr.cell? ⟨bx, 1, none⟩ = some (.int .i64 (eb : Nat)) ∧ wr.cell? ⟨gw, ea, none⟩ = some (.int .i64 (f.W ea : Nat)) ∧ wr.cell? ⟨gw, eb, none⟩ = some (.int .i64 (f.W eb : Nat)) := ⟨_, rfl⟩
      obtain ⟨-, -, -, -, -, c5, c6, -, -, c9⟩ := hC4.cells
      rw [hvw] at c5
      have b0 : w4.cell? ⟨bx, 0, none⟩ = some (.int .i64 (ea : Nat)) := cell_of_row _ bx 0 _ 88 (0, 0) hkb4
      have b1 : w4.cell? ⟨bx, 1, none⟩ = some (.int .i64 (eb : Nat)) := cell_of_row _ bx 1 _ 88 (0, 0) hkb4
      have hbx4 : bx < w4.heap.size := (Array.getElem?_eq_some_iff.1 hkb4).1
      have hgl4 := hC4.lt
      have ng : yc.vC.ownBlock ≠ some g := hC4.claims.neB hC4.blk (by decide)
      have nb : yc.vC.ownBlock ≠ some bx := hC4.claims.neB hkb4 (by decide)
      have nw : yc.vC.ownBlock ≠ some gw := fun hc => hC4.claims.ne hC4.whole (by decide) hc (by rw [hvw]; rfl)
      have HM0 : Hid (∀ wr, Below w4.heap.size w4 wr → M5 wr) := by
        intro wr h1; rw [hM5]
        exact ⟨(h1.cell (p := ⟨g, 9, none⟩) hgl4).trans c9, (h1.cell (p := ⟨g, 5, none⟩) hgl4).trans c5, (h1.cell (p := ⟨g, 6, none⟩) hgl4).trans c6, (h1.cell (p := ⟨bx, 0, none⟩) hbx4).trans b0, (h1.cell (p := ⟨bx, 1, none⟩) hbx4).trans b1, (h1.cell (p := ⟨gw, ea, none⟩) hgwl).trans wa0, (h1.cell (p := ⟨gw, eb, none⟩) hgwl).trans wb0⟩
      have HM1 : Hid (∀ wr v9, App yc.vC v9 w4 wr → M5 wr) := by
        intro wr v9 h1; rw [hM5]
        exact ⟨(World.cell?_of_block (a := ⟨g, 9, none⟩) (h1.other g hgl4 ng)).trans c9, (World.cell?_of_block (a := ⟨g, 5, none⟩) (h1.other g hgl4 ng)).trans c5, (World.cell?_of_block (a := ⟨g, 6, none⟩) (h1.other g hgl4 ng)).trans c6, (World.cell?_of_block (a := ⟨bx, 0, none⟩) (h1.other bx hbx4 nb)).trans b0, (World.cell?_of_block (a := ⟨bx, 1, none⟩) (h1.other bx hbx4 nb)).trans b1, (World.cell?_of_block (a := ⟨gw, ea, none⟩) (h1.other gw hgwl nw)).trans wa0, (World.cell?_of_block (a := ⟨gw, eb, none⟩) (h1.other gw hgwl nw)).trans wb0⟩
      have HFZ : Hid (∀ wr v9, App yc.vC v9 w4 wr → wr.cell? ⟨g, 9, none⟩ = some yc.vC ∧ wr.frozen? ⟨g, 9, none⟩ = false) := by
        intro wr v9 h1
        have h2 := HM1.out wr v9 h1
        rw [hM5] at h2
        exact ⟨h2.1, frozen_of_row wr g 9 _ 73 ((h1.other g hgl4 ng).trans hC4.blk)⟩
      have HOWN : Hid (∀ wr, Below w4.heap.size w4 wr → OL 3 91 wr yc.vC 0 (fun k => claimC (([] : List Claim).getD k noClaim))) := fun wr h1 => by
        have := (hC4.below h1).claims
        rw [HI4.out.1] at this
        exact this
      have HNB : Hid (0 + 1 ≤ 1000000000) := by show _ ≤ _; omega
      have HSET : Hid (∀ wr v9, OL 3 91 wr v9 (0 + 1) (fun k => claimC (([] ++ [(⟨f.W ea, f.W eb, mk⟩ : Claim)]).getD k noClaim)) → App yc.vC v9 w4 wr → v9 ≠ .slice none 0 0 → E5 (wr.setCell ⟨g, 9, none⟩ v9)) := by
        intro wr v9 h1 h2 h3
        rw [hE5]
        exact ⟨v9, hC4.setClaims (cl' := [(⟨f.W ea, f.W eb, mk⟩ : Claim)]) h2 h1⟩
      have hla : (ea : Int) < (f.nw : Int) := by have := HEQ.out.1; omega
      have hlb : (eb : Int) < (f.nw : Int) := by have := HEQ.out.2.1; omega
      clear c5 c6 c9 b0 b1 wa0 wb0 ng nb nw hvw hkb4
      go_wp2
      refine wp_region_E (by kernel_rfl) [some 34, some 35, some 36, some 37, some 38, some 39, some 40, some 41, some 42, some 43, some 44, some 45, some 46, some 47, some 48, some 49, some 50, some 51, some 52, some 53, some 54, some 55, some 56, some 57, some 58, some 59, some 60, some 61, some 62, some 63, some 64, some 65, none] [none, none, none, none, none, none, none, none, none, none, none, none, none, none, none, none, none, none, none, none, none, none, none, none, none, none, none, none, none, none, none, none, none, none, some 34, some 35, some 36, some 37, some 38, some 39, some 40, some 41, some 42, some 43, some 44, some 45, some 46, some 47, some 48, some 49, some 50, some 51, some 52, some 53, some 54, some 55, some 56, some 57, some 58, some 59, some 60, some 61, some 62, some 63, some 64, some 65] (fun U => by kernel_rfl) [fun u => u = (.pointer (some ⟨g, 0, none⟩)), fun u => u = (.pointer (some ⟨g, 0, none⟩)), fun u => u = (.pointer (some ⟨g, 0, none⟩)), fun u => u = (.pointer (some ⟨g, 9, none⟩)), fun u => u = (yc.vC), fun u => u = (.pointer (some ⟨g, 0, none⟩)), fun u => u = (.pointer (some ⟨g, 0, none⟩)), fun u => u = (.pointer (some ⟨g, 2, none⟩)), fun u => u = (.pointer (some ⟨g, 5, none⟩)), fun u => u = (.slice (some ⟨gw, 0, none⟩) f.nw cw), fun u => u = (.pointer (some ⟨bx, 0, none⟩)), fun u => u = (.int .i64 (ea : Nat)), fun u => u = (.pointer (some ⟨gw, ea, none⟩)), fun u => u = (.int .i64 (f.W ea : Nat)), fun u => u = (.pointer (some ⟨g, 0, none⟩)), fun u => u = (.pointer (some ⟨g, 0, none⟩)), fun u => u = (.pointer (some ⟨g, 2, none⟩)), fun u => u = (.pointer (some ⟨g, 5, none⟩)), fun u => u = (.slice (some ⟨gw, 0, none⟩) f.nw cw), fun u => u = (.pointer (some ⟨bx, 1, none⟩)), fun u => u = (.int .i64 (eb : Nat)), fun u => u = (.pointer (some ⟨gw, eb, none⟩)), fun u => u = (.int .i64 (f.W eb : Nat)), fun u => u = (.pointer (some ⟨g, 0, none⟩)), fun u => u = (.pointer (some ⟨g, 0, none⟩)), fun u => u = (.pointer (some ⟨g, 6, none⟩)), fun u => u = (.int .i64 (mk : Nat)), fun u => u = (.agg #[.int .i64 (f.W ea : Nat), .int .i64 (f.W eb : Nat), .int .i64 (mk : Nat)]), fun _ => True, fun _ => True, fun u => u = (.pointer (some ⟨g, 0, none⟩)), fun u => u = (.pointer (some ⟨g, 9, none⟩)), fun _ => True] (fun L U wr => (L 29 = false → Below w4.heap.size w4 wr) ∧ (L 28 = true → L 29 = false → ONE5 91 [.int .i64 (f.W ea : Nat), .int .i64 (f.W eb : Nat), .int .i64 (mk : Nat)] (U 62) wr) ∧ (L 29 = true → L 32 = false → OL 3 91 wr (U 63) (0 + 1) (fun k => claimC (([] ++ [(⟨f.W ea, f.W eb, mk⟩ : Claim)]).getD k noClaim)) ∧ App (yc.vC) (U 63) w4 wr ∧ U 63 ≠ .slice none 0 0) ∧ (L 32 = true → (L 0 = true ∧ L 1 = true ∧ L 2 = true ∧ L 3 = true ∧ L 4 = true ∧ L 5 = true ∧ L 6 = true ∧ L 7 = true ∧ L 8 = true ∧ L 9 = true ∧ L 10 = true ∧ L 11 = true ∧ L 12 = true ∧ L 13 = true ∧ L 14 = true ∧ L 15 = true ∧ L 16 = true ∧ L 17 = true ∧ L 18 = true ∧ L 19 = true ∧ L 20 = true ∧ L 21 = true ∧ L 22 = true ∧ L 23 = true ∧ L 24 = true ∧ L 25 = true ∧ L 26 = true ∧ L 27 = true ∧ L 28 = true ∧ L 29 = true ∧ L 30 = true ∧ L 31 = true) ∧ E5 wr)) (by kernel_rfl) (by decide) (by kernel_rfl) (by kernel_rfl) ?_ ?_ ?_
      · exact fun U => ⟨fun _ => (Below.refl _ _).drew, (fun h => by cases h), (fun h => by cases h), (fun h => by cases h)⟩
      · refine StepsE.run rfl ?_ ?_
        · intro L U wr hC hP hlk hcl haf A K hFm hK
          simp [Aft, Region.binds] at haf
          have e0 : A.tmps[0]? = some (.pointer (some ⟨g, 0, none⟩)) := (hFm.old 0 (by decide)).trans (by kernel_rfl)
          have HC : Hid _ := hC
          clear hC
          refine ⟨?_⟩
          go_simp
          refine hK _ _ rfl ?_
          obtain ⟨c0, cB, c1, cS⟩ := HC.out
          refine ⟨fun h => c0 (by simpa using h), (fun h1 h2 => by have h9 := cB (by simpa using h1) (by simpa using h2); simpa [updO, Go.Proofs.Ytmnpefiaelpkfac.upd] using h9), (fun h1 h2 => by have h9 := c1 (by simpa using h1) (by simpa using h2); simpa [updO, Go.Proofs.Ytmnpefiaelpkfac.upd] using h9), fun h => ?_⟩
          have h9 := cS (by simpa using h)
          exact ⟨by simp [h9.1], h9.2⟩
        refine StepsE.run rfl ?_ ?_
        · intro L U wr hC hP hlk hcl haf A K hFm hK
          simp [Aft, Region.binds] at haf
          have e0 : A.tmps[0]? = some (.pointer (some ⟨g, 0, none⟩)) := (hFm.old 0 (by decide)).trans (by kernel_rfl)
          have HC : Hid _ := hC
          clear hC
          refine ⟨?_⟩
          go_simp
          refine hK _ _ rfl ?_
          obtain ⟨c0, cB, c1, cS⟩ := HC.out
          refine ⟨fun h => c0 (by simpa using h), (fun h1 h2 => by have h9 := cB (by simpa using h1) (by simpa using h2); simpa [updO, Go.Proofs.Ytmnpefiaelpkfac.upd] using h9), (fun h1 h2 => by have h9 := c1 (by simpa using h1) (by simpa using h2); simpa [updO, Go.Proofs.Ytmnpefiaelpkfac.upd] using h9), fun h => ?_⟩
          have h9 := cS (by simpa using h)
          exact ⟨by simp [h9.1], h9.2⟩
        refine StepsE.run rfl ?_ ?_
        · intro L U wr hC hP hlk hcl haf A K hFm hK
          simp [Aft, Region.binds] at haf
          have g1 : U 35 = (.pointer (some ⟨g, 0, none⟩)) := hP 1 35 (by simp [haf]) rfl
          have e35 : A.tmps[35]? = some (.pointer (some ⟨g, 0, none⟩)) := hFm.is 1 35 rfl g1
          have HC : Hid _ := hC
          clear hC
          refine ⟨?_⟩
          go_simp
          refine hK _ _ rfl ?_
          obtain ⟨c0, cB, c1, cS⟩ := HC.out
          refine ⟨fun h => c0 (by simpa using h), (fun h1 h2 => by have h9 := cB (by simpa using h1) (by simpa using h2); simpa [updO, Go.Proofs.Ytmnpefiaelpkfac.upd] using h9), (fun h1 h2 => by have h9 := c1 (by simpa using h1) (by simpa using h2); simpa [updO, Go.Proofs.Ytmnpefiaelpkfac.upd] using h9), fun h => ?_⟩
          have h9 := cS (by simpa using h)
          exact ⟨by simp [h9.1], h9.2⟩
        refine StepsE.run rfl ?_ ?_
        · intro L U wr hC hP hlk hcl haf A K hFm hK
          simp [Aft, Region.binds] at haf
          have g2 : U 36 = (.pointer (some ⟨g, 0, none⟩)) := hP 2 36 (by simp [haf]) rfl
          have e36 : A.tmps[36]? = some (.pointer (some ⟨g, 0, none⟩)) := hFm.is 2 36 rfl g2
          have HC : Hid _ := hC
          clear hC
          refine ⟨?_⟩
          go_simp
          refine hK _ _ rfl ?_
          obtain ⟨c0, cB, c1, cS⟩ := HC.out
          refine ⟨fun h => c0 (by simpa using h), (fun h1 h2 => by have h9 := cB (by simpa using h1) (by simpa using h2); simpa [updO, Go.Proofs.Ytmnpefiaelpkfac.upd] using h9), (fun h1 h2 => by have h9 := c1 (by simpa using h1) (by simpa using h2); simpa [updO, Go.Proofs.Ytmnpefiaelpkfac.upd] using h9), fun h => ?_⟩
          have h9 := cS (by simpa using h)
          exact ⟨by simp [h9.1], h9.2⟩
        refine StepsE.run rfl ?_ ?_
        · intro L U wr hC hP hlk hcl haf A K hFm hK
          simp [Aft, Region.binds] at haf
          have g3 : U 37 = (.pointer (some ⟨g, 9, none⟩)) := hP 3 37 (by simp [haf]) rfl
          have e37 : A.tmps[37]? = some (.pointer (some ⟨g, 9, none⟩)) := hFm.is 3 37 rfl g3
          have hM8 : M5 wr := by
            obtain ⟨c0, cB, c1, cS⟩ := hC
            have hs : L 32 = false := by cases h : L 32 with | false => rfl | true => exact absurd (cS h).1 (by simp [hlk])
            cases h14 : L 29 with
            | false => exact HM0.out wr (c0 h14)
            | true => exact HM1.out wr (U 63) (c1 h14 hs).2.1
          rw [hM5] at hM8
          obtain ⟨m9, m5, m6, b0, b1, wa, wb⟩ := hM8
          have HC : Hid _ := hC
          clear hC
          refine ⟨?_⟩
          go_simp
          refine hK _ _ rfl ?_
          obtain ⟨c0, cB, c1, cS⟩ := HC.out
          refine ⟨fun h => c0 (by simpa using h), (fun h1 h2 => by have h9 := cB (by simpa using h1) (by simpa using h2); simpa [updO, Go.Proofs.Ytmnpefiaelpkfac.upd] using h9), (fun h1 h2 => by have h9 := c1 (by simpa using h1) (by simpa using h2); simpa [updO, Go.Proofs.Ytmnpefiaelpkfac.upd] using h9), fun h => ?_⟩
          have h9 := cS (by simpa using h)
          exact ⟨by simp [h9.1], h9.2⟩
        refine StepsE.run rfl ?_ ?_
        · intro L U wr hC hP hlk hcl haf A K hFm hK
          simp [Aft, Region.binds] at haf
          have e0 : A.tmps[0]? = some (.pointer (some ⟨g, 0, none⟩)) := (hFm.old 0 (by decide)).trans (by kernel_rfl)
          have HC : Hid _ := hC
          clear hC
          refine ⟨?_⟩
          go_simp
          refine hK _ _ rfl ?_
          obtain ⟨c0, cB, c1, cS⟩ := HC.out
          refine ⟨fun h => c0 (by simpa using h), (fun h1 h2 => by have h9 := cB (by simpa using h1) (by simpa using h2); simpa [updO, Go.Proofs.Ytmnpefiaelpkfac.upd] using h9), (fun h1 h2 => by have h9 := c1 (by simpa using h1) (by simpa using h2); simpa [updO, Go.Proofs.Ytmnpefiaelpkfac.upd] using h9), fun h => ?_⟩
          have h9 := cS (by simpa using h)
          exact ⟨by simp [h9.1], h9.2⟩
        refine StepsE.run rfl ?_ ?_
        · intro L U wr hC hP hlk hcl haf A K hFm hK
          simp [Aft, Region.binds] at haf
          have g5 : U 39 = (.pointer (some ⟨g, 0, none⟩)) := hP 5 39 (by simp [haf]) rfl
          have e39 : A.tmps[39]? = some (.pointer (some ⟨g, 0, none⟩)) := hFm.is 5 39 rfl g5
          have HC : Hid _ := hC
          clear hC
          refine ⟨?_⟩
          go_simp
          refine hK _ _ rfl ?_
          obtain ⟨c0, cB, c1, cS⟩ := HC.out
          refine ⟨fun h => c0 (by simpa using h), (fun h1 h2 => by have h9 := cB (by simpa using h1) (by simpa using h2); simpa [updO, Go.Proofs.Ytmnpefiaelpkfac.upd] using h9), (fun h1 h2 => by have h9 := c1 (by simpa using h1) (by simpa using h2); simpa [updO, Go.Proofs.Ytmnpefiaelpkfac.upd] using h9), fun h => ?_⟩
          have h9 := cS (by simpa using h)
          exact ⟨by simp [h9.1], h9.2⟩
        refine StepsE.run rfl ?_ ?_
        · intro L U wr hC hP hlk hcl haf A K hFm hK
          simp [Aft, Region.binds] at haf
          have g6 : U 40 = (.pointer (some ⟨g, 0, none⟩)) := hP 6 40 (by simp [haf]) rfl
          have e40 : A.tmps[40]? = some (.pointer (some ⟨g, 0, none⟩)) := hFm.is 6 40 rfl g6
          have HC : Hid _ := hC
          clear hC
          refine ⟨?_⟩
          go_simp
          refine hK _ _ rfl ?_
          obtain ⟨c0, cB, c1, cS⟩ := HC.out
          refine ⟨fun h => c0 (by simpa using h), (fun h1 h2 => by have h9 := cB (by simpa using h1) (by simpa using h2); simpa [updO, Go.Proofs.Ytmnpefiaelpkfac.upd] using h9), (fun h1 h2 => by have h9 := c1 (by simpa using h1) (by simpa using h2); simpa [updO, Go.Proofs.Ytmnpefiaelpkfac.upd] using h9), fun h => ?_⟩
          have h9 := cS (by simpa using h)
          exact ⟨by simp [h9.1], h9.2⟩
        refine StepsE.run rfl ?_ ?_
        · intro L U wr hC hP hlk hcl haf A K hFm hK
          simp [Aft, Region.binds] at haf
          have g7 : U 41 = (.pointer (some ⟨g, 2, none⟩)) := hP 7 41 (by simp [haf]) rfl
          have e41 : A.tmps[41]? = some (.pointer (some ⟨g, 2, none⟩)) := hFm.is 7 41 rfl g7
          have HC : Hid _ := hC
          clear hC
          refine ⟨?_⟩
          go_simp
          refine hK _ _ rfl ?_
          obtain ⟨c0, cB, c1, cS⟩ := HC.out
          refine ⟨fun h => c0 (by simpa using h), (fun h1 h2 => by have h9 := cB (by simpa using h1) (by simpa using h2); simpa [updO, Go.Proofs.Ytmnpefiaelpkfac.upd] using h9), (fun h1 h2 => by have h9 := c1 (by simpa using h1) (by simpa using h2); simpa [updO, Go.Proofs.Ytmnpefiaelpkfac.upd] using h9), fun h => ?_⟩
          have h9 := cS (by simpa using h)
          exact ⟨by simp [h9.1], h9.2⟩
        refine StepsE.run rfl ?_ ?_
        · intro L U wr hC hP hlk hcl haf A K hFm hK
          simp [Aft, Region.binds] at haf
          have g8 : U 42 = (.pointer (some ⟨g, 5, none⟩)) := hP 8 42 (by simp [haf]) rfl
          have e42 : A.tmps[42]? = some (.pointer (some ⟨g, 5, none⟩)) := hFm.is 8 42 rfl g8
          have hM8 : M5 wr := by
            obtain ⟨c0, cB, c1, cS⟩ := hC
            have hs : L 32 = false := by cases h : L 32 with | false => rfl | true => exact absurd (cS h).1 (by simp [hlk])
            cases h14 : L 29 with
            | false => exact HM0.out wr (c0 h14)
            | true => exact HM1.out wr (U 63) (c1 h14 hs).2.1
          rw [hM5] at hM8
          obtain ⟨m9, m5, m6, b0, b1, wa, wb⟩ := hM8
          have HC : Hid _ := hC
          clear hC
          refine ⟨?_⟩
          go_simp
          refine hK _ _ rfl ?_
          obtain ⟨c0, cB, c1, cS⟩ := HC.out
          refine ⟨fun h => c0 (by simpa using h), (fun h1 h2 => by have h9 := cB (by simpa using h1) (by simpa using h2); simpa [updO, Go.Proofs.Ytmnpefiaelpkfac.upd] using h9), (fun h1 h2 => by have h9 := c1 (by simpa using h1) (by simpa using h2); simpa [updO, Go.Proofs.Ytmnpefiaelpkfac.upd] using h9), fun h => ?_⟩
          have h9 := cS (by simpa using h)
          exact ⟨by simp [h9.1], h9.2⟩
        refine StepsE.run rfl ?_ ?_
        · intro L U wr hC hP hlk hcl haf A K hFm hK
          simp [Aft, Region.binds] at haf
          have e2 : A.tmps[2]? = some (.pointer (some ⟨bx, 0, none⟩)) := (hFm.old 2 (by decide)).trans (by kernel_rfl)
          have HC : Hid _ := hC
          clear hC
          refine ⟨?_⟩
          go_simp
          refine hK _ _ rfl ?_
          obtain ⟨c0, cB, c1, cS⟩ := HC.out
          refine ⟨fun h => c0 (by simpa using h), (fun h1 h2 => by have h9 := cB (by simpa using h1) (by simpa using h2); simpa [updO, Go.Proofs.Ytmnpefiaelpkfac.upd] using h9), (fun h1 h2 => by have h9 := c1 (by simpa using h1) (by simpa using h2); simpa [updO, Go.Proofs.Ytmnpefiaelpkfac.upd] using h9), fun h => ?_⟩
          have h9 := cS (by simpa using h)
          exact ⟨by simp [h9.1], h9.2⟩
        refine StepsE.run rfl ?_ ?_
        · intro L U wr hC hP hlk hcl haf A K hFm hK
          simp [Aft, Region.binds] at haf
          have g10 : U 44 = (.pointer (some ⟨bx, 0, none⟩)) := hP 10 44 (by simp [haf]) rfl
          have e44 : A.tmps[44]? = some (.pointer (some ⟨bx, 0, none⟩)) := hFm.is 10 44 rfl g10
          have hM8 : M5 wr := by
            obtain ⟨c0, cB, c1, cS⟩ := hC
            have hs : L 32 = false := by cases h : L 32 with | false => rfl | true => exact absurd (cS h).1 (by simp [hlk])
            cases h14 : L 29 with
            | false => exact HM0.out wr (c0 h14)
            | true => exact HM1.out wr (U 63) (c1 h14 hs).2.1
          rw [hM5] at hM8
          obtain ⟨m9, m5, m6, b0, b1, wa, wb⟩ := hM8
          have HC : Hid _ := hC
          clear hC
          refine ⟨?_⟩
          go_simp
          refine hK _ _ rfl ?_
          obtain ⟨c0, cB, c1, cS⟩ := HC.out
          refine ⟨fun h => c0 (by simpa using h), (fun h1 h2 => by have h9 := cB (by simpa using h1) (by simpa using h2); simpa [updO, Go.Proofs.Ytmnpefiaelpkfac.upd] using h9), (fun h1 h2 => by have h9 := c1 (by simpa using h1) (by simpa using h2); simpa [updO, Go.Proofs.Ytmnpefiaelpkfac.upd] using h9), fun h => ?_⟩
          have h9 := cS (by simpa using h)
          exact ⟨by simp [h9.1], h9.2⟩
        refine StepsE.run rfl ?_ ?_
        · intro L U wr hC hP hlk hcl haf A K hFm hK
          simp [Aft, Region.binds] at haf
          have g9 : U 43 = (.slice (some ⟨gw, 0, none⟩) f.nw cw) := hP 9 43 (by simp [haf]) rfl
          have e43 : A.tmps[43]? = some (.slice (some ⟨gw, 0, none⟩) f.nw cw) := hFm.is 9 43 rfl g9
          have g11 : U 45 = (.int .i64 (ea : Nat)) := hP 11 45 (by simp [haf]) rfl
          have e45 : A.tmps[45]? = some (.int .i64 (ea : Nat)) := hFm.is 11 45 rfl g11
          have HC : Hid _ := hC
          clear hC
          refine ⟨?_⟩
          go_simp
          refine hK _ _ rfl ?_
          obtain ⟨c0, cB, c1, cS⟩ := HC.out
          refine ⟨fun h => c0 (by simpa using h), (fun h1 h2 => by have h9 := cB (by simpa using h1) (by simpa using h2); simpa [updO, Go.Proofs.Ytmnpefiaelpkfac.upd] using h9), (fun h1 h2 => by have h9 := c1 (by simpa using h1) (by simpa using h2); simpa [updO, Go.Proofs.Ytmnpefiaelpkfac.upd] using h9), fun h => ?_⟩
          have h9 := cS (by simpa using h)
          exact ⟨by simp [h9.1], h9.2⟩
        refine StepsE.run rfl ?_ ?_
        · intro L U wr hC hP hlk hcl haf A K hFm hK
          simp [Aft, Region.binds] at haf
          have g12 : U 46 = (.pointer (some ⟨gw, ea, none⟩)) := hP 12 46 (by simp [haf]) rfl
          have e46 : A.tmps[46]? = some (.pointer (some ⟨gw, ea, none⟩)) := hFm.is 12 46 rfl g12
          have hM8 : M5 wr := by
            obtain ⟨c0, cB, c1, cS⟩ := hC
            have hs : L 32 = false := by cases h : L 32 with | false => rfl | true => exact absurd (cS h).1 (by simp [hlk])
            cases h14 : L 29 with
            | false => exact HM0.out wr (c0 h14)
            | true => exact HM1.out wr (U 63) (c1 h14 hs).2.1
          rw [hM5] at hM8
          obtain ⟨m9, m5, m6, b0, b1, wa, wb⟩ := hM8
          have HC : Hid _ := hC
          clear hC
          refine ⟨?_⟩
          go_simp
          refine hK _ _ rfl ?_
          obtain ⟨c0, cB, c1, cS⟩ := HC.out
          refine ⟨fun h => c0 (by simpa using h), (fun h1 h2 => by have h9 := cB (by simpa using h1) (by simpa using h2); simpa [updO, Go.Proofs.Ytmnpefiaelpkfac.upd] using h9), (fun h1 h2 => by have h9 := c1 (by simpa using h1) (by simpa using h2); simpa [updO, Go.Proofs.Ytmnpefiaelpkfac.upd] using h9), fun h => ?_⟩
          have h9 := cS (by simpa using h)
          exact ⟨by simp [h9.1], h9.2⟩
        refine StepsE.run rfl ?_ ?_
        · intro L U wr hC hP hlk hcl haf A K hFm hK
          simp [Aft, Region.binds] at haf
          have e0 : A.tmps[0]? = some (.pointer (some ⟨g, 0, none⟩)) := (hFm.old 0 (by decide)).trans (by kernel_rfl)
          have HC : Hid _ := hC
          clear hC
          refine ⟨?_⟩
          go_simp
          refine hK _ _ rfl ?_
          obtain ⟨c0, cB, c1, cS⟩ := HC.out
          refine ⟨fun h => c0 (by simpa using h), (fun h1 h2 => by have h9 := cB (by simpa using h1) (by simpa using h2); simpa [updO, Go.Proofs.Ytmnpefiaelpkfac.upd] using h9), (fun h1 h2 => by have h9 := c1 (by simpa using h1) (by simpa using h2); simpa [updO, Go.Proofs.Ytmnpefiaelpkfac.upd] using h9), fun h => ?_⟩
          have h9 := cS (by simpa using h)
          exact ⟨by simp [h9.1], h9.2⟩
        refine StepsE.run rfl ?_ ?_
        · intro L U wr hC hP hlk hcl haf A K hFm hK
          simp [Aft, Region.binds] at haf
          have g14 : U 48 = (.pointer (some ⟨g, 0, none⟩)) := hP 14 48 (by simp [haf]) rfl
          have e48 : A.tmps[48]? = some (.pointer (some ⟨g, 0, none⟩)) := hFm.is 14 48 rfl g14
          have HC : Hid _ := hC
          clear hC
          refine ⟨?_⟩
          go_simp
          refine hK _ _ rfl ?_
          obtain ⟨c0, cB, c1, cS⟩ := HC.out
          refine ⟨fun h => c0 (by simpa using h), (fun h1 h2 => by have h9 := cB (by simpa using h1) (by simpa using h2); simpa [updO, Go.Proofs.Ytmnpefiaelpkfac.upd] using h9), (fun h1 h2 => by have h9 := c1 (by simpa using h1) (by simpa using h2); simpa [updO, Go.Proofs.Ytmnpefiaelpkfac.upd] using h9), fun h => ?_⟩
          have h9 := cS (by simpa using h)
          exact ⟨by simp [h9.1], h9.2⟩
        refine StepsE.run rfl ?_ ?_
        · intro L U wr hC hP hlk hcl haf A K hFm hK
          simp [Aft, Region.binds] at haf
          have g15 : U 49 = (.pointer (some ⟨g, 0, none⟩)) := hP 15 49 (by simp [haf]) rfl
          have e49 : A.tmps[49]? = some (.pointer (some ⟨g, 0, none⟩)) := hFm.is 15 49 rfl g15
          have HC : Hid _ := hC
          clear hC
          refine ⟨?_⟩
          go_simp
          refine hK _ _ rfl ?_
          obtain ⟨c0, cB, c1, cS⟩ := HC.out
          refine ⟨fun h => c0 (by simpa using h), (fun h1 h2 => by have h9 := cB (by simpa using h1) (by simpa using h2); simpa [updO, Go.Proofs.Ytmnpefiaelpkfac.upd] using h9), (fun h1 h2 => by have h9 := c1 (by simpa using h1) (by simpa using h2); simpa [updO, Go.Proofs.Ytmnpefiaelpkfac.upd] using h9), fun h => ?_⟩
          have h9 := cS (by simpa using h)
          exact ⟨by simp [h9.1], h9.2⟩
        refine StepsE.run rfl ?_ ?_
        · intro L U wr hC hP hlk hcl haf A K hFm hK
          simp [Aft, Region.binds] at haf
          have g16 : U 50 = (.pointer (some ⟨g, 2, none⟩)) := hP 16 50 (by simp [haf]) rfl
          have e50 : A.tmps[50]? = some (.pointer (some ⟨g, 2, none⟩)) := hFm.is 16 50 rfl g16
          have HC : Hid _ := hC
          clear hC
          refine ⟨?_⟩
          go_simp
          refine hK _ _ rfl ?_
          obtain ⟨c0, cB, c1, cS⟩ := HC.out
          refine ⟨fun h => c0 (by simpa using h), (fun h1 h2 => by have h9 := cB (by simpa using h1) (by simpa using h2); simpa [updO, Go.Proofs.Ytmnpefiaelpkfac.upd] using h9), (fun h1 h2 => by have h9 := c1 (by simpa using h1) (by simpa using h2); simpa [updO, Go.Proofs.Ytmnpefiaelpkfac.upd] using h9), fun h => ?_⟩
          have h9 := cS (by simpa using h)
          exact ⟨by simp [h9.1], h9.2⟩
        refine StepsE.run rfl ?_ ?_
        · intro L U wr hC hP hlk hcl haf A K hFm hK
          simp [Aft, Region.binds] at haf
          have g17 : U 51 = (.pointer (some ⟨g, 5, none⟩)) := hP 17 51 (by simp [haf]) rfl
          have e51 : A.tmps[51]? = some (.pointer (some ⟨g, 5, none⟩)) := hFm.is 17 51 rfl g17
          have hM8 : M5 wr := by
            obtain ⟨c0, cB, c1, cS⟩ := hC
            have hs : L 32 = false := by cases h : L 32 with | false => rfl | true => exact absurd (cS h).1 (by simp [hlk])
            cases h14 : L 29 with
            | false => exact HM0.out wr (c0 h14)
            | true => exact HM1.out wr (U 63) (c1 h14 hs).2.1
          rw [hM5] at hM8
          obtain ⟨m9, m5, m6, b0, b1, wa, wb⟩ := hM8
          have HC : Hid _ := hC
          clear hC
          refine ⟨?_⟩
          go_simp
          refine hK _ _ rfl ?_
          obtain ⟨c0, cB, c1, cS⟩ := HC.out
          refine ⟨fun h => c0 (by simpa using h), (fun h1 h2 => by have h9 := cB (by simpa using h1) (by simpa using h2); simpa [updO, Go.Proofs.Ytmnpefiaelpkfac.upd] using h9), (fun h1 h2 => by have h9 := c1 (by simpa using h1) (by simpa using h2); simpa [updO, Go.Proofs.Ytmnpefiaelpkfac.upd] using h9), fun h => ?_⟩
          have h9 := cS (by simpa using h)
          exact ⟨by simp [h9.1], h9.2⟩
        refine StepsE.run rfl ?_ ?_
        · intro L U wr hC hP hlk hcl haf A K hFm hK
          simp [Aft, Region.binds] at haf
          have e2 : A.tmps[2]? = some (.pointer (some ⟨bx, 0, none⟩)) := (hFm.old 2 (by decide)).trans (by kernel_rfl)
          have HC : Hid _ := hC
          clear hC
          refine ⟨?_⟩
          go_simp
          refine hK _ _ rfl ?_
          obtain ⟨c0, cB, c1, cS⟩ := HC.out
          refine ⟨fun h => c0 (by simpa using h), (fun h1 h2 => by have h9 := cB (by simpa using h1) (by simpa using h2); simpa [updO, Go.Proofs.Ytmnpefiaelpkfac.upd] using h9), (fun h1 h2 => by have h9 := c1 (by simpa using h1) (by simpa using h2); simpa [updO, Go.Proofs.Ytmnpefiaelpkfac.upd] using h9), fun h => ?_⟩
          have h9 := cS (by simpa using h)
          exact ⟨by simp [h9.1], h9.2⟩
        refine StepsE.run rfl ?_ ?_
        · intro L U wr hC hP hlk hcl haf A K hFm hK
          simp [Aft, Region.binds] at haf
          have g19 : U 53 = (.pointer (some ⟨bx, 1, none⟩)) := hP 19 53 (by simp [haf]) rfl
          have e53 : A.tmps[53]? = some (.pointer (some ⟨bx, 1, none⟩)) := hFm.is 19 53 rfl g19
          have hM8 : M5 wr := by
            obtain ⟨c0, cB, c1, cS⟩ := hC
            have hs : L 32 = false := by cases h : L 32 with | false => rfl | true => exact absurd (cS h).1 (by simp [hlk])
            cases h14 : L 29 with
            | false => exact HM0.out wr (c0 h14)
            | true => exact HM1.out wr (U 63) (c1 h14 hs).2.1
          rw [hM5] at hM8
          obtain ⟨m9, m5, m6, b0, b1, wa, wb⟩ := hM8
          have HC : Hid _ := hC
          clear hC
          refine ⟨?_⟩
          go_simp
          refine hK _ _ rfl ?_
          obtain ⟨c0, cB, c1, cS⟩ := HC.out
          refine ⟨fun h => c0 (by simpa using h), (fun h1 h2 => by have h9 := cB (by simpa using h1) (by simpa using h2); simpa [updO, Go.Proofs.Ytmnpefiaelpkfac.upd] using h9), (fun h1 h2 => by have h9 := c1 (by simpa using h1) (by simpa using h2); simpa [updO, Go.Proofs.Ytmnpefiaelpkfac.upd] using h9), fun h => ?_⟩
          have h9 := cS (by simpa using h)
          exact ⟨by simp [h9.1], h9.2⟩
        refine StepsE.run rfl ?_ ?_
        · intro L U wr hC hP hlk hcl haf A K hFm hK
          simp [Aft, Region.binds] at haf
          have g18 : U 52 = (.slice (some ⟨gw, 0, none⟩) f.nw cw) := hP 18 52 (by simp [haf]) rfl
          have e52 : A.tmps[52]? = some (.slice (some ⟨gw, 0, none⟩) f.nw cw) := hFm.is 18 52 rfl g18
          have g20 : U 54 = (.int .i64 (eb : Nat)) := hP 20 54 (by simp [haf]) rfl
          have e54 : A.tmps[54]? = some (.int .i64 (eb : Nat)) := hFm.is 20 54 rfl g20
          have HC : Hid _ := hC
          clear hC
          refine ⟨?_⟩
          go_simp
          refine hK _ _ rfl ?_
          obtain ⟨c0, cB, c1, cS⟩ := HC.out
          refine ⟨fun h => c0 (by simpa using h), (fun h1 h2 => by have h9 := cB (by simpa using h1) (by simpa using h2); simpa [updO, Go.Proofs.Ytmnpefiaelpkfac.upd] using h9), (fun h1 h2 => by have h9 := c1 (by simpa using h1) (by simpa using h2); simpa [updO, Go.Proofs.Ytmnpefiaelpkfac.upd] using h9), fun h => ?_⟩
          have h9 := cS (by simpa using h)
          exact ⟨by simp [h9.1], h9.2⟩
        refine StepsE.run rfl ?_ ?_
        · intro L U wr hC hP hlk hcl haf A K hFm hK
          simp [Aft, Region.binds] at haf
          have g21 : U 55 = (.pointer (some ⟨gw, eb, none⟩)) := hP 21 55 (by simp [haf]) rfl
          have e55 : A.tmps[55]? = some (.pointer (some ⟨gw, eb, none⟩)) := hFm.is 21 55 rfl g21
          have hM8 : M5 wr := by
            obtain ⟨c0, cB, c1, cS⟩ := hC
            have hs : L 32 = false := by cases h : L 32 with | false => rfl | true => exact absurd (cS h).1 (by simp [hlk])
            cases h14 : L 29 with
            | false => exact HM0.out wr (c0 h14)
            | true => exact HM1.out wr (U 63) (c1 h14 hs).2.1
          rw [hM5] at hM8
          obtain ⟨m9, m5, m6, b0, b1, wa, wb⟩ := hM8
          have HC : Hid _ := hC
          clear hC
          refine ⟨?_⟩
          go_simp
          refine hK _ _ rfl ?_
          obtain ⟨c0, cB, c1, cS⟩ := HC.out
          refine ⟨fun h => c0 (by simpa using h), (fun h1 h2 => by have h9 := cB (by simpa using h1) (by simpa using h2); simpa [updO, Go.Proofs.Ytmnpefiaelpkfac.upd] using h9), (fun h1 h2 => by have h9 := c1 (by simpa using h1) (by simpa using h2); simpa [updO, Go.Proofs.Ytmnpefiaelpkfac.upd] using h9), fun h => ?_⟩
          have h9 := cS (by simpa using h)
          exact ⟨by simp [h9.1], h9.2⟩
        refine StepsE.run rfl ?_ ?_
        · intro L U wr hC hP hlk hcl haf A K hFm hK
          simp [Aft, Region.binds] at haf
          have e0 : A.tmps[0]? = some (.pointer (some ⟨g, 0, none⟩)) := (hFm.old 0 (by decide)).trans (by kernel_rfl)
          have HC : Hid _ := hC
          clear hC
          refine ⟨?_⟩
          go_simp
          refine hK _ _ rfl ?_
          obtain ⟨c0, cB, c1, cS⟩ := HC.out
          refine ⟨fun h => c0 (by simpa using h), (fun h1 h2 => by have h9 := cB (by simpa using h1) (by simpa using h2); simpa [updO, Go.Proofs.Ytmnpefiaelpkfac.upd] using h9), (fun h1 h2 => by have h9 := c1 (by simpa using h1) (by simpa using h2); simpa [updO, Go.Proofs.Ytmnpefiaelpkfac.upd] using h9), fun h => ?_⟩
          have h9 := cS (by simpa using h)
          exact ⟨by simp [h9.1], h9.2⟩
        refine StepsE.run rfl ?_ ?_
        · intro L U wr hC hP hlk hcl haf A K hFm hK
          simp [Aft, Region.binds] at haf
          have g23 : U 57 = (.pointer (some ⟨g, 0, none⟩)) := hP 23 57 (by simp [haf]) rfl
          have e57 : A.tmps[57]? = some (.pointer (some ⟨g, 0, none⟩)) := hFm.is 23 57 rfl g23
          have HC : Hid _ := hC
          clear hC
          refine ⟨?_⟩
          go_simp
          refine hK _ _ rfl ?_
          obtain ⟨c0, cB, c1, cS⟩ := HC.out
          refine ⟨fun h => c0 (by simpa using h), (fun h1 h2 => by have h9 := cB (by simpa using h1) (by simpa using h2); simpa [updO, Go.Proofs.Ytmnpefiaelpkfac.upd] using h9), (fun h1 h2 => by have h9 := c1 (by simpa using h1) (by simpa using h2); simpa [updO, Go.Proofs.Ytmnpefiaelpkfac.upd] using h9), fun h => ?_⟩
          have h9 := cS (by simpa using h)
          exact ⟨by simp [h9.1], h9.2⟩
        refine StepsE.run rfl ?_ ?_
        · intro L U wr hC hP hlk hcl haf A K hFm hK
          simp [Aft, Region.binds] at haf
          have g24 : U 58 = (.pointer (some ⟨g, 0, none⟩)) := hP 24 58 (by simp [haf]) rfl
          have e58 : A.tmps[58]? = some (.pointer (some ⟨g, 0, none⟩)) := hFm.is 24 58 rfl g24
          have HC : Hid _ := hC
          clear hC
          refine ⟨?_⟩
          go_simp
          refine hK _ _ rfl ?_
          obtain ⟨c0, cB, c1, cS⟩ := HC.out
          refine ⟨fun h => c0 (by simpa using h), (fun h1 h2 => by have h9 := cB (by simpa using h1) (by simpa using h2); simpa [updO, Go.Proofs.Ytmnpefiaelpkfac.upd] using h9), (fun h1 h2 => by have h9 := c1 (by simpa using h1) (by simpa using h2); simpa [updO, Go.Proofs.Ytmnpefiaelpkfac.upd] using h9), fun h => ?_⟩
          have h9 := cS (by simpa using h)
          exact ⟨by simp [h9.1], h9.2⟩
        refine StepsE.run rfl ?_ ?_
        · intro L U wr hC hP hlk hcl haf A K hFm hK
          simp [Aft, Region.binds] at haf
          have g25 : U 59 = (.pointer (some ⟨g, 6, none⟩)) := hP 25 59 (by simp [haf]) rfl
          have e59 : A.tmps[59]? = some (.pointer (some ⟨g, 6, none⟩)) := hFm.is 25 59 rfl g25
          have hM8 : M5 wr := by
            obtain ⟨c0, cB, c1, cS⟩ := hC
            have hs : L 32 = false := by cases h : L 32 with | false => rfl | true => exact absurd (cS h).1 (by simp [hlk])
            cases h14 : L 29 with
            | false => exact HM0.out wr (c0 h14)
            | true => exact HM1.out wr (U 63) (c1 h14 hs).2.1
          rw [hM5] at hM8
          obtain ⟨m9, m5, m6, b0, b1, wa, wb⟩ := hM8
          have HC : Hid _ := hC
          clear hC
          refine ⟨?_⟩
          go_simp
          refine hK _ _ rfl ?_
          obtain ⟨c0, cB, c1, cS⟩ := HC.out
          refine ⟨fun h => c0 (by simpa using h), (fun h1 h2 => by have h9 := cB (by simpa using h1) (by simpa using h2); simpa [updO, Go.Proofs.Ytmnpefiaelpkfac.upd] using h9), (fun h1 h2 => by have h9 := c1 (by simpa using h1) (by simpa using h2); simpa [updO, Go.Proofs.Ytmnpefiaelpkfac.upd] using h9), fun h => ?_⟩
          have h9 := cS (by simpa using h)
          exact ⟨by simp [h9.1], h9.2⟩
        refine StepsE.run rfl ?_ ?_
        · intro L U wr hC hP hlk hcl haf A K hFm hK
          simp [Aft, Region.binds] at haf
          have g13 : U 47 = (.int .i64 (f.W ea : Nat)) := hP 13 47 (by simp [haf]) rfl
          have e47 : A.tmps[47]? = some (.int .i64 (f.W ea : Nat)) := hFm.is 13 47 rfl g13
          have g22 : U 56 = (.int .i64 (f.W eb : Nat)) := hP 22 56 (by simp [haf]) rfl
          have e56 : A.tmps[56]? = some (.int .i64 (f.W eb : Nat)) := hFm.is 22 56 rfl g22
          have g26 : U 60 = (.int .i64 (mk : Nat)) := hP 26 60 (by simp [haf]) rfl
          have e60 : A.tmps[60]? = some (.int .i64 (mk : Nat)) := hFm.is 26 60 rfl g26
          have HC : Hid _ := hC
          clear hC
          refine ⟨?_⟩
          go_simp
          refine hK _ _ rfl ?_
          obtain ⟨c0, cB, c1, cS⟩ := HC.out
          refine ⟨fun h => c0 (by simpa using h), (fun h1 h2 => by have h9 := cB (by simpa using h1) (by simpa using h2); simpa [updO, Go.Proofs.Ytmnpefiaelpkfac.upd] using h9), (fun h1 h2 => by have h9 := c1 (by simpa using h1) (by simpa using h2); simpa [updO, Go.Proofs.Ytmnpefiaelpkfac.upd] using h9), fun h => ?_⟩
          have h9 := cS (by simpa using h)
          exact ⟨by simp [h9.1], h9.2⟩
        refine StepsE.run rfl ?_ ?_
        · intro L U wr hC hP hlk hcl haf A K hFm hK
          simp [Aft, Region.binds] at haf
          have g27 : U 61 = (.agg #[.int .i64 (f.W ea : Nat), .int .i64 (f.W eb : Nat), .int .i64 (mk : Nat)]) := hP 27 61 (by simp [haf]) rfl
          have e61 : A.tmps[61]? = some (.agg #[.int .i64 (f.W ea : Nat), .int .i64 (f.W eb : Nat), .int .i64 (mk : Nat)]) := hFm.is 27 61 rfl g27
          have hA9 : L 29 = false := by cases h : L 29 with | false => rfl | true => have h9 := hcl 29 _ rfl h; simp [Aft, Region.binds, hlk] at h9
          refine ⟨?_⟩
          go_simp
          refine hK _ _ trivial ⟨fun h => ?_, fun _ _ => ?_, fun h1 h2 => ?_, fun h => ?_⟩
          · exact ((hC.1 hA9).alloc (hC.1 hA9).size _)
          · exact ⟨wr.heap.size, rfl, heap_alloc_new wr _⟩
          · simp [hA9] at h1
          · have h9 := (hC.2.2.2 (by simpa using h)).1
            simp [hlk] at h9
        refine StepsE.run rfl ?_ ?_
        · intro L U wr hC hP hlk hcl haf A K hFm hK
          simp [Aft, Region.binds] at haf
          have g4 : U 38 = (yc.vC) := hP 4 38 (by simp [haf]) rfl
          have e38 : A.tmps[38]? = some (yc.vC) := hFm.is 4 38 rfl g4
          have e62 : A.tmps[62]? = some (U 62) := hFm.got 28 62 rfl
          have l28 : L 28 = true := by simp [haf]
          refine ⟨?_⟩
          refine wp_push1 (.tmp 38) (.tmp 62) 71 rfl 3 91 _ 24 uClaims iClaim (by decide) rfl (by decide) (yc.vC) (0) (fun k => claimC (([] : List Claim).getD k noClaim)) (by simp [Act.eval, e38]) (HOWN.out wr (hC.1 hlk)) (fun _ _ => rfl) [.int .i64 (f.W ea : Nat), .int .i64 (f.W eb : Nat), .int .i64 (mk : Nat)] 91 (U 62) (hC.2.1 l28 hlk) (by simp [Act.eval, e62]) rfl (by intro u hu; simp at hu; rcases hu with rfl | rfl | rfl <;> rfl) HNB.out (fun k => claimC (([] ++ [(⟨f.W ea, f.W eb, mk⟩ : Claim)]).getD k noClaim)) (fun k hk => by omega) (by simp [claimC]) ?_
          intro v9 w9 hol9 hap9 hne9
          refine hK _ _ trivial ⟨fun h => ?_, fun _ h => ?_, fun _ _ => ?_, fun h => ?_⟩
          · simp at h
          · simp at h
          · simp only [updO, Go.Proofs.Ytmnpefiaelpkfac.upd, beq_self_eq_true, cond_true]; exact ⟨hol9, hap9.ofBelow (hC.1 hlk), hne9⟩
          · have h9 := (hC.2.2.2 (by simpa using h)).1
            simp [hlk] at h9
        refine StepsE.run rfl ?_ ?_
        · intro L U wr hC hP hlk hcl haf A K hFm hK
          simp [Aft, Region.binds] at haf
          have g0 : U 34 = (.pointer (some ⟨g, 0, none⟩)) := hP 0 34 (by simp [haf]) rfl
          have e34 : A.tmps[34]? = some (.pointer (some ⟨g, 0, none⟩)) := hFm.is 0 34 rfl g0
          have HC : Hid _ := hC
          clear hC
          refine ⟨?_⟩
          go_simp
          refine hK _ _ rfl ?_
          obtain ⟨c0, cB, c1, cS⟩ := HC.out
          refine ⟨fun h => c0 (by simpa using h), (fun h1 h2 => by have h9 := cB (by simpa using h1) (by simpa using h2); simpa [updO, Go.Proofs.Ytmnpefiaelpkfac.upd] using h9), (fun h1 h2 => by have h9 := c1 (by simpa using h1) (by simpa using h2); simpa [updO, Go.Proofs.Ytmnpefiaelpkfac.upd] using h9), fun h => ?_⟩
          have h9 := cS (by simpa using h)
          exact ⟨by simp [h9.1], h9.2⟩
        refine StepsE.run rfl ?_ ?_
        · intro L U wr hC hP hlk hcl haf A K hFm hK
          simp [Aft, Region.binds] at haf
          have g30 : U 64 = (.pointer (some ⟨g, 0, none⟩)) := hP 30 64 (by simp [haf]) rfl
          have e64 : A.tmps[64]? = some (.pointer (some ⟨g, 0, none⟩)) := hFm.is 30 64 rfl g30
          have HC : Hid _ := hC
          clear hC
          refine ⟨?_⟩
          go_simp
          refine hK _ _ rfl ?_
          obtain ⟨c0, cB, c1, cS⟩ := HC.out
          refine ⟨fun h => c0 (by simpa using h), (fun h1 h2 => by have h9 := cB (by simpa using h1) (by simpa using h2); simpa [updO, Go.Proofs.Ytmnpefiaelpkfac.upd] using h9), (fun h1 h2 => by have h9 := c1 (by simpa using h1) (by simpa using h2); simpa [updO, Go.Proofs.Ytmnpefiaelpkfac.upd] using h9), fun h => ?_⟩
          have h9 := cS (by simpa using h)
          exact ⟨by simp [h9.1], h9.2⟩
        refine StepsE.run rfl ?_ StepsE.nil
        · intro L U wr hC hP hlk hcl haf A K hFm hK
          simp [Aft, Region.binds] at haf
          have g31 : U 65 = (.pointer (some ⟨g, 9, none⟩)) := hP 31 65 (by simp [haf]) rfl
          have e65 : A.tmps[65]? = some (.pointer (some ⟨g, 9, none⟩)) := hFm.is 31 65 rfl g31
          have e63 : A.tmps[63]? = some (U 63) := hFm.got 29 63 rfl
          have l31 : L 31 = true := by simp [haf]
          have l29 : L 29 = true := by simp [haf]
          have a31 := hcl 31 _ rfl l31
          simp [Aft, Region.binds] at a31
          have l30 : L 30 = true := by simp [a31]
          have a29 := hcl 29 _ rfl l29
          simp [Aft, Region.binds] at a29
          have l4 : L 4 = true := by simp [a29]
          have l28 : L 28 = true := by simp [a29]
          have a30 := hcl 30 _ rfl l30
          simp [Aft, Region.binds] at a30
          have l0 : L 0 = true := by simp [a30]
          have a4 := hcl 4 _ rfl l4
          simp [Aft, Region.binds] at a4
          have l3 : L 3 = true := by simp [a4]
          have a28 := hcl 28 _ rfl l28
          simp [Aft, Region.binds] at a28
          have l27 : L 27 = true := by simp [a28]
          have a3 := hcl 3 _ rfl l3
          simp [Aft, Region.binds] at a3
          have l2 : L 2 = true := by simp [a3]
          have a27 := hcl 27 _ rfl l27
          simp [Aft, Region.binds] at a27
          have l13 : L 13 = true := by simp [a27]
          have l22 : L 22 = true := by simp [a27]
          have l26 : L 26 = true := by simp [a27]
          have a2 := hcl 2 _ rfl l2
          simp [Aft, Region.binds] at a2
          have l1 : L 1 = true := by simp [a2]
          have a13 := hcl 13 _ rfl l13
          simp [Aft, Region.binds] at a13
          have l12 : L 12 = true := by simp [a13]
          have a22 := hcl 22 _ rfl l22
          simp [Aft, Region.binds] at a22
          have l21 : L 21 = true := by simp [a22]
          have a26 := hcl 26 _ rfl l26
          simp [Aft, Region.binds] at a26
          have l25 : L 25 = true := by simp [a26]
          have a12 := hcl 12 _ rfl l12
          simp [Aft, Region.binds] at a12
          have l9 : L 9 = true := by simp [a12]
          have l11 : L 11 = true := by simp [a12]
          have a21 := hcl 21 _ rfl l21
          simp [Aft, Region.binds] at a21
          have l18 : L 18 = true := by simp [a21]
          have l20 : L 20 = true := by simp [a21]
          have a25 := hcl 25 _ rfl l25
          simp [Aft, Region.binds] at a25
          have l24 : L 24 = true := by simp [a25]
          have a9 := hcl 9 _ rfl l9
          simp [Aft, Region.binds] at a9
          have l8 : L 8 = true := by simp [a9]
          have a11 := hcl 11 _ rfl l11
          simp [Aft, Region.binds] at a11
          have l10 : L 10 = true := by simp [a11]
          have a18 := hcl 18 _ rfl l18
          simp [Aft, Region.binds] at a18
          have l17 : L 17 = true := by simp [a18]
          have a20 := hcl 20 _ rfl l20
          simp [Aft, Region.binds] at a20
          have l19 : L 19 = true := by simp [a20]
          have a24 := hcl 24 _ rfl l24
          simp [Aft, Region.binds] at a24
          have l23 : L 23 = true := by simp [a24]
          have a8 := hcl 8 _ rfl l8
          simp [Aft, Region.binds] at a8
          have l7 : L 7 = true := by simp [a8]
          have a17 := hcl 17 _ rfl l17
          simp [Aft, Region.binds] at a17
          have l16 : L 16 = true := by simp [a17]
          have a7 := hcl 7 _ rfl l7
          simp [Aft, Region.binds] at a7
          have l6 : L 6 = true := by simp [a7]
          have a16 := hcl 16 _ rfl l16
          simp [Aft, Region.binds] at a16
          have l15 : L 15 = true := by simp [a16]
          have a6 := hcl 6 _ rfl l6
          simp [Aft, Region.binds] at a6
          have l5 : L 5 = true := by simp [a6]
          have a15 := hcl 15 _ rfl l15
          simp [Aft, Region.binds] at a15
          have l14 : L 14 = true := by simp [a15]
          refine ⟨?_⟩
          obtain ⟨hol9, hap9, hne9⟩ := hC.2.2.1 l29 hlk
          have HKK : Hid _ := HSET.out wr (U 63) hol9 hap9 hne9
          obtain ⟨k4, k5⟩ := HFZ.out wr (U 63) hap9
          obtain ⟨ao9, cc9, hv9, -, -, -, -⟩ := hol9.shape
          obtain ⟨nl, hnl⟩ : ∃ nl, nl = 0 + 1 := ⟨_, rfl⟩
          rw [← hnl] at hv9
          clear hnl
          have e63 : A.tmps[63]? = some (.slice ao9 nl cc9) := hFm.is 29 63 rfl hv9
          rw [hv9] at HKK
          clear hol9 hap9 hne9 hC
          go_simp
          refine hK (.tuple #[]) _ trivial ⟨fun h => ?_, fun h1 h2 => ?_, fun h1 h2 => ?_, fun _ => ⟨?_, HKK.out⟩⟩
          · simp [l29] at h
          · simp [l29] at h2
          · simp at h2
          · simp [l0, l1, l2, l3, l4, l5, l6, l7, l8, l9, l10, l11, l12, l13, l14, l15, l16, l17, l18, l19, l20, l21, l22, l23, l24, l25, l26, l27, l28, l29, l30, l31]
      intro L U5 V5 hall hC hP
      have hE := (hC.2.2.2 (hall 32 (by decide))).2
      rw [hE5] at hE
      obtain ⟨v9, hC9, hM9, hF9⟩ := hE
      clear hC hP hall hE5 hM5 HM0 HM1 HFZ HOWN HSET hC4
      simp only [setM_some, setM_none, setM_nil]
      replace hM9 := hM4.trans hM9 HF4.out
      have HF9 : Hid (∀ b, Ft g x { yc with vC := v9 } sc.ns b → Ft g x y s.ns b ∨ w.heap.size ≤ b) := fun b hb => by
        rcases hF9 b hb with h9 | h9
        · exact HF4.out b h9
        · exact Or.inr (Nat.le_trans hM4.size h9)
      have hsc := hC9.small
      have HIJ : Hid (Inv f.np f.P sc.ns sc.S sc.sg [(⟨f.W ea, f.W eb, mk⟩ : Claim)] []) := HI4.out.2.addClaim _ (by have := HEQ.out; have := HR4.out.2; show f.W ea < _; omega) (by have := HEQ.out; have := HR4.out.2; show f.W eb < _; omega)
      clear hF9 hM4
      go_wp2_with fail
      refine (join_any g x f mk _ _ V5 hC9 HIJ.out (mu_le (Nat.le_trans hsc.2 hsc.1) (by simp))).mono ?_
      rintro e w6 ⟨rfl, y6, T, tg, hJ, hC6, hM6, hF6⟩
      have HJ : Hid (Joins f.np f.P sc.ns sc.S sc.sg [(⟨f.W ea, f.W eb, mk⟩ : Claim)] T tg) := hJ
      have HF6 : Hid (∀ b, Ft g x y6 sc.ns b → Ft g x y s.ns b ∨ w.heap.size ≤ b) := fun b hb => by
        rcases hF6 b hb with h9 | h9
        · exact HF9.out b h9
        · exact Or.inr (Nat.le_trans hM9.size h9)
      replace hM6 := hM9.trans hM6 HF9.out
      clear hJ hF6 hC9 hM9
      obtain ⟨-, -, -, -, -, -, c6, -, -, -⟩ := hC6.cells
      have q6 := hC6.frozen 6
      have hg6 := hC6.lt
      have hCm := hC6.setMerged (mk + 1)
      have hMm := hM6.set (a := ⟨g, 6, none⟩) (v := .int .i64 ((mk + 1 : Nat) : Int)) (Or.inl (Or.inl rfl))
      clear hC6 hM6
      go_wp2
      go_roundg (f.ne - (mk + 1))
      case measure => have h1 := HR.out.2.2.1; omega
      case rel =>
        refine ⟨mk + 1, y6, ⟨sc.ns, T, tg, []⟩, ⟨.eq HR4.out.1 HI4.out.1 hlt ?_ ?_, by omega, rfl, HF6.out⟩, hCm, hMm⟩
        · rw [← HE.out.2.2]; exact HR4.out.2
        · rw [← HE.out.1, ← HE.out.2.1]; exact HJ.out
    · have hmk2 : mk = f.ne := by omega
      subst hmk2
      obtain ⟨aq, cq, hvq, -, -, -, -⟩ := hC.eqs.shape
      rw [hvq] at c1
      obtain ⟨ap, cp, hvp, -, -, -, -⟩ := hC.parts.shape
      rw [hvp] at c4
      have hltI : ¬ ((f.ne : Int) < (f.ne : Int)) := by omega
      clear hvq hvp
      go_wp2
      go_quiet (fail)
      have hCa := hC.drewN nq
      have hMa := hM.drewN nq
      have c4a : (wr.drewN nq).cell? ⟨g, 4, none⟩ = some (.slice ap f.np cp) := c4
      clear hC hM c1 c6 c4
      generalize wr.drewN nq = wa at hCa hMa c4a ⊢
      go_wp2_with fail
      refine (placeTo_any g x f f.ne y' s' f.np wa hCa HF.out.1 HI.out.1 HI.out.2 (Nat.le_refl _)).mono ?_
      rintro e w4 ⟨rfl, y4, s4, hR4, hn4, hC4, hM4, hF4⟩
      go_wp2
      go_end0
      have hsm4 := hCa.small
      refine ⟨rfl, y4, s4, HR.out.1.trans hR4, by rw [hn4]; omega, hC4, hMa.trans hM4 HR.out.2.2.2, fun b hb => ?_⟩
      rcases hF4 b hb with h9 | h9
      · exact HR.out.2.2.2 b h9
      · exact Or.inr (Nat.le_trans hMa.size h9)
end Euf
end Go.Proofs.Ytmnpefiaelpkfac
/- Contracts of isNode, copied and keep; they prove no statement of the seat. -/
namespace Go.Proofs.Ytmnpefiaelpkfac
open Go.RowKit
set_option linter.unusedVariables false
namespace Euf
/-- A slice of ints, wherever it lies. -/
def AI (w : World) (v : Value) (zs : List Int) : Prop :=
  ∃ ao cap, v = .slice ao zs.length cap ∧ zs.length ≤ 1000000 ∧ (zs = [] ∨ ∃ b off, ao = some ⟨b, off, none⟩ ∧ b < w.heap.size ∧ ∀ i, i < zs.length → w.cell? ⟨b, off + i, none⟩ = some (.int .i64 (zs.getD i 0)))
theorem AI.below {w w' : World} {v : Value} {zs : List Int} (h : AI w v zs) (hb : Below w.heap.size w w') : AI w' v zs := by
  obtain ⟨ao, cap, h1, h2, h3⟩ := h
  refine ⟨ao, cap, h1, h2, h3.imp id ?_⟩
  rintro ⟨b, off, k1, k2, k3⟩
  exact ⟨b, off, k1, Nat.lt_of_lt_of_le k2 hb.size, fun i hi => (hb.cell (p := ⟨b, off + i, none⟩) k2).trans (k3 i hi)⟩
def okIn (n : Nat) (z : Int) : Bool := decide (0 ≤ z) && decide (z < n)

set_option maxRecDepth 20000 in
set_option maxHeartbeats 4000000 in
theorem isNode_any (g : Nat) (a : Option Addr) (n cap : Nat) (v : Value) (zs : List Int) (r : Bool) (w : World) (h0 : w.cell? ⟨g, 0, none⟩ = some (.slice a n cap)) (hn : n ≤ 1000000) (hv : AI w v zs) (hr : zs.all (okIn n) = r) :
    Calls Try.prog 20 #[.pointer (some ⟨g, 0, none⟩), v] w fun e w' => e = .returned (.bool r) ∧ Below w.heap.size w w' := by
  obtain ⟨ao, cp, rfl, hlen, hseg⟩ := hv
  have HR : Hid (zs.all (okIn n) = r) := hr
  clear hr
  go_enter Try.func20, Try.ntmps20
  go_wp2
  go_loopw [9] (fun v9 wr => ∃ k : Nat, v9 = .int .i64 (k : Nat) ∧ k ≤ zs.length ∧ Hid ((zs.take k).all (okIn n) = true) ∧ wr = w) (fun v _ => zs.length - (intOf v).toNat)
  case atStart => exact ⟨0, rfl, Nat.zero_le _, by show _ = _; simp, rfl⟩
  case round =>
    obtain ⟨k, rfl, hk, HA, rfl⟩ := hrel
    by_cases hlt : k < zs.length
    · obtain ⟨z, hz⟩ : ∃ z, z = zs.getD k 0 := ⟨_, rfl⟩
      rcases hseg with h9 | ⟨b, off, rfl, hb, hc⟩
      · subst h9; simp at hlt
      have cu := hc k hlt
      rw [← hz] at cu
      have hget : zs[k] = z := by rw [hz, List.getD_eq_getElem?_getD, List.getElem?_eq_getElem hlt]; rfl
      have hltI : (k : Int) < (zs.length : Int) := by omega
      have HTK : Hid (zs.take (k + 1) = zs.take k ++ [z]) := by show _ = _; rw [List.take_succ_eq_append_getElem hlt, hget]
      have HIN : Hid (z ∈ zs) := by show _ ∈ _; rw [← hget]; exact List.getElem_mem hlt
      clear hz hget hc
      by_cases h1 : z < 0
      · have HF : Hid (r = false) := by
          show _ = _
          rw [← HR.out, List.all_eq_false]
          exact ⟨z, HIN.out, by simp [okIn]; omega⟩
        go_wp2
        go_ret
        exact ⟨by rw [HF.out]; rfl, Below.refl _ _⟩
      · by_cases h2 : z < n
        · have h3 : ¬ ((n : Int) ≤ z) := by omega
          go_wp2
          go_roundw
          case rel => exact ⟨k + 1, by go_num, by omega, by show _ = _; rw [HTK.out, List.all_append, HA.out]; simp [okIn]; omega, (by first | rfl | trivial)⟩
          case measure => simp [intOf]; omega
        · have h3 : ((n : Int) ≤ z) := by omega
          have HF : Hid (r = false) := by
            show _ = _
            rw [← HR.out, List.all_eq_false]
            exact ⟨z, HIN.out, by simp [okIn]; omega⟩
          go_wp2
          go_ret
          exact ⟨by rw [HF.out]; rfl, Below.refl _ _⟩
    · have hk2 : k = zs.length := by omega
      have hltI : ¬ ((k : Int) < (zs.length : Int)) := by omega
      have HF : Hid (r = true) := by
        show _ = _
        have := HA.out
        rw [hk2, List.take_length] at this
        rw [← HR.out, this]
      go_wp2
      go_ret
      exact ⟨by rw [HF.out]; rfl, Below.refl _ _⟩
end Euf
end Go.Proofs.Ytmnpefiaelpkfac
