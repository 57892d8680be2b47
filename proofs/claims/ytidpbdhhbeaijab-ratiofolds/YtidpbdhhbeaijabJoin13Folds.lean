/- Joined: Q1, Reg, RegF, Q2: words and contracts; no statement of the seat is proved here. -/
import Derived.Test.YtidpbdhhbeaijabJoin12Folds
import Derived.WalkKit
import Derived.RegionTactic
/- Contracts of ratio's small calls: quotient, isOne, lowest, Whole, IsWhole, Num, Den, Sign; they prove no statement of the seat. -/
namespace Go.Proofs.Ytidpbdhhbeaijab
open Go.RowKit

set_option maxHeartbeats 1000000 in
theorem quotient_any (va vb : Value) (x y q : Int) (w : World) (ha : AInt w va x) (hb : AInt w vb y) (hy : y ≠ 0) (hq : x.fdiv y = q) :
    Calls Try.prog 33 #[va, vb] w fun e w' => ∃ s a n c, e = .returned (.agg #[.bool s, .slice a n c]) ∧ AInt w' (.agg #[.bool s, .slice a n c]) q ∧ Below w.heap.size w w' := by
  obtain ⟨na, ao, n, cap, rfl⟩ := ha.shape
  obtain ⟨nb, bo, m, cap', rfl⟩ := hb.shape
  have HY : Hid (y ≠ 0) := hy
  have HQ : Hid (x.fdiv y = q) := hq
  clear hy hq
  have R0 := Blk.new ((w.alloc (.cells #[.bool na, .slice ao n cap] 25 (0, 0))).alloc (.cells #[.bool nb, .slice bo m cap'] 25 (0, 0))) 25 #[.bool false, .slice none 0 0]
  simp only [World.size_alloc] at R0
  have hbw : Below w.heap.size w (((w.alloc (.cells #[.bool na, .slice ao n cap] 25 (0, 0))).alloc (.cells #[.bool nb, .slice bo m cap'] 25 (0, 0))).alloc (.cells #[.bool false, .slice none 0 0] 25 (0, 0))) := by go_grown
  have ha1 := ha.below hbw
  have hb1 := hb.below hbw
  go_enter Try.func33, Try.ntmps33
  go_wp2_with fail
  refine (div_h _ _ x y q _ _ ha1 hb1 HY.out HQ.out rfl).mono ?_
  rintro e w1 ⟨s, a, n1, c, s', a', n', c', rfl, h1, h2, hb2⟩
  have R1 := ((R0.stay hb2).alloc (.cells #[.bool s, .slice a n1 c] 25 (0, 0))).alloc (.cells #[.bool s', .slice a' n' c'] 25 (0, 0))
  have Q1 := (Blk.new w1 25 #[.bool s, .slice a n1 c]).alloc (.cells #[.bool s', .slice a' n' c'] 25 (0, 0))
  have hq1 := (h1.below (below_new w1 (.cells #[.bool s, .slice a n1 c] 25 (0, 0)))).below (below_new _ (.cells #[.bool s', .slice a' n' c'] 25 (0, 0)))
  have hbw2 := ((hbw.step hb2 (Nat.le_refl _)).step (below_new w1 (.cells #[.bool s, .slice a n1 c] 25 (0, 0))) (Nat.le_refl _)).step (below_new _ (.cells #[.bool s', .slice a' n' c'] 25 (0, 0))) (Nat.le_refl _)
  obtain ⟨q0, q1, -, -⟩ := Q1.two
  obtain ⟨r0, r1, rf0, rf1⟩ := R1.two
  have hlt := (R0.stay hb2).lt
  go_wp2
  refine bodyPost_ret (v := .agg #[.bool s, .slice a n1 c]) (by simp [results, Try.results33, go_sem, r0, r1]) rfl ?_
  exact ⟨s, a, n1, c, rfl, hq1.store2 R1 _ _ _ _, below_store2 hbw2 (by omega) _ _⟩

theorem bits_one {xs : List Nat} (hd : Digs 4294967296 xs) (hn : Norm xs) (h : 0 < val 4294967296 xs) : ((blen xs : Int) == 1) = (val 4294967296 xs == 1) := by
  have h1 := blen_le_iff hd hn 1
  have h0 := blen_le_iff hd hn 0
  simp at h1 h0
  rw [Bool.eq_iff_iff, beq_iff_eq, beq_iff_eq]
  constructor
  · intro e; have := h1.1 (by omega); omega
  · intro e
    have := h1.2 (by omega)
    have h2 : ¬ blen xs = 0 := fun k => by have := h0.1 k; omega
    omega

set_option maxHeartbeats 1000000 in
theorem isOne_any (va : Value) (x : Int) (r : Bool) (w : World) (ha : AInt w va x) (hx : 0 < x) (hr : (x == 1) = r) :
    Calls Try.prog 55 #[va] w fun e w' => e = .returned (.bool r) ∧ Below w.heap.size w w' := by
  obtain ⟨na, xs, hva, hxe, hxl⟩ := ha
  have HR : Hid (((blen xs : Int) == 1) = r) := by
    show _ = _
    obtain ⟨_, _, _, _, _, _, hd, hn, h3⟩ := hva
    have h4 : x.natAbs = val 4294967296 xs := by rw [hxe, sv_natAbs]
    rw [bits_one hd hn (by omega), ← hr, Bool.eq_iff_iff, beq_iff_eq, beq_iff_eq]
    omega
  clear hr hx hxe
  obtain ⟨ao, cap, rfl, hva'⟩ := id hva
  clear hva'
  have hbw := below_new w (.cells #[.bool na, .slice ao xs.length cap] 25 (0, 0))
  go_enter Try.func55, Try.ntmps55
  go_wp2_with fail
  refine (bits_any _ na xs _ (hva.below hbw)).mono ?_
  rintro e w1 ⟨rfl, hb1⟩
  have hr := HR.out
  go_wp2
  go_ret
  exact ⟨rfl, hbw.step hb1 (Nat.le_refl _)⟩

set_option maxHeartbeats 1000000 in
theorem lowest_any (va vb : Value) (x y : Int) (q : Rat) (w : World) (ha : AInt w va x) (hb : AInt w vb y) (hx : q.num = x) (hy : (q.den : Int) = y) :
    Calls Try.prog 36 #[va, vb] w fun e w' => ∃ x a n c y e' m f, e = .returned (.agg #[.bool x, .slice a n c, .bool y, .slice e' m f]) ∧ QP w' x a n c y e' m f q ∧ Below w.heap.size w w' := by
  subst hx hy
  obtain ⟨na, ao, n, cap, rfl⟩ := ha.shape
  obtain ⟨nb, bo, m, cap', rfl⟩ := hb.shape
  have A0 := ((Blk.new w 25 #[.bool na, .slice ao n cap]).alloc (.cells #[.bool nb, .slice bo m cap'] 25 (0, 0))).alloc (.cells #[.bool false, .slice none 0 0, .bool false, .slice none 0 0] 27 (0, 0))
  have B0 := (Blk.new (w.alloc (.cells #[.bool na, .slice ao n cap] 25 (0, 0))) 25 #[.bool nb, .slice bo m cap']).alloc (.cells #[.bool false, .slice none 0 0, .bool false, .slice none 0 0] 27 (0, 0))
  have R0 := Blk.new ((w.alloc (.cells #[.bool na, .slice ao n cap] 25 (0, 0))).alloc (.cells #[.bool nb, .slice bo m cap'] 25 (0, 0))) 27 #[.bool false, .slice none 0 0, .bool false, .slice none 0 0]
  simp only [World.size_alloc] at B0 R0
  have hbw : Below w.heap.size w (((w.alloc (.cells #[.bool na, .slice ao n cap] 25 (0, 0))).alloc (.cells #[.bool nb, .slice bo m cap'] 25 (0, 0))).alloc (.cells #[.bool false, .slice none 0 0, .bool false, .slice none 0 0] 27 (0, 0))) := by go_grown
  have ha1 := ha.below hbw
  have hb1 := hb.below hbw
  by_cases h1 : q.den = 1
  · have HD : Hid (q.den = 1) := h1
    clear h1
    go_enter Try.func36, Try.ntmps36
    go_wp2_with fail
    refine (isOne_any _ _ true _ hb1 (den_pos q) (by rw [HD.out]; rfl)).mono ?_
    rintro e w1 ⟨rfl, hb2⟩
    have R1 := R0.stay hb2
    obtain ⟨a0, a1, -, -⟩ := (A0.stay hb2).two
    obtain ⟨r0, r1, r2, r3⟩ := R1.four
    obtain ⟨f0, f1, f2, f3⟩ := R1.frozen4
    go_wp2
    refine bodyPost_ret (v := .agg #[.bool na, .slice ao n cap, .bool false, .slice none 0 0]) (by simp [results, Try.results36, go_sem, r0, r1, r2, r3]) rfl ?_
    refine ⟨_, _, _, _, _, _, _, _, rfl, ?_, below_store4 (hbw.step hb2 (Nat.le_refl _)) (by omega) _ _ _ _⟩
    refine QP.keepI ?_ (keepI_four (noI_slice _ _ _) (noI_slice _ _ _) R1 _ _ _ _ _ _ _ _)
    exact ⟨ha1.below hb2, by rw [dz_one HD.out]; exact AInt.zero _⟩
  · have HD : Hid (q.den ≠ 1) := h1
    clear h1
    go_enter Try.func36, Try.ntmps36
    go_wp2_with fail
    refine (isOne_any _ _ false _ hb1 (den_pos q) (by rw [beq_eq_false_iff_ne]; have := HD.out; omega)).mono ?_
    rintro e w1 ⟨rfl, hb2⟩
    have R1 := R0.stay hb2
    obtain ⟨a0, a1, -, -⟩ := (A0.stay hb2).two
    obtain ⟨b0, b1, -, -⟩ := (B0.stay hb2).two
    obtain ⟨r0, r1, r2, r3⟩ := R1.four
    obtain ⟨f0, f1, f2, f3⟩ := R1.frozen4
    go_wp2
    refine bodyPost_ret (v := .agg #[.bool na, .slice ao n cap, .bool nb, .slice bo m cap']) (by simp [results, Try.results36, go_sem, r0, r1, r2, r3]) rfl ?_
    refine ⟨_, _, _, _, _, _, _, _, rfl, ?_, below_store4 (hbw.step hb2 (Nat.le_refl _)) (by omega) _ _ _ _⟩
    refine QP.keepI ?_ (keepI_four (noI_slice _ _ _) (noI_slice _ _ _) R1 _ _ _ _ _ _ _ _)
    exact ⟨ha1.below hb2, by rw [dz_not HD.out]; exact hb1.below hb2⟩
end Go.Proofs.Ytidpbdhhbeaijab
/- A region that draws its order, by what holds at any time: one step for each operation, whatever came ahead of it; no statement of the seat is proved here. -/
namespace Go.Proofs.Ytidpbdhhbeaijab
open Go Go.RowKit

/-- All that the operation waits for is listed. -/
def Aft (o : Oper) (L : Nat → Bool) : Bool := o.after.toList.all fun e => !Region.binds .any e || L e.on
/-- One step, whenever operation k may come up. -/
def StepOK (P : Program) (ops : Array Oper) (Q : Exit → Act → World → Prop) (I : (Nat → Bool) → Act → World → Prop) (k : Nat) (o : Oper) : Prop :=
  ∀ L a w, I L a w → L k = false → Aft o L = true → ∀ K : Act → World → Prop, (∀ a' w', I (fun j => j == k || L j) a' w' → K a' w') →
    if Region.wanted o (yielded ops a.tmps) = true then Oper.wp P o a w K Q else K (a.put o.dst undef) w
def StepsOK (P : Program) (ops : Array Oper) (Q : Exit → Act → World → Prop) (I : (Nat → Bool) → Act → World → Prop) : Nat → List Oper → Prop
  | _, [] => True
  | k, o :: os => StepOK P ops Q I k o ∧ StepsOK P ops Q I (k + 1) os
theorem StepsOK.nil {P : Program} {ops : Array Oper} {Q : Exit → Act → World → Prop} {I : (Nat → Bool) → Act → World → Prop} {k : Nat} : StepsOK P ops Q I k [] := trivial
theorem StepsOK.cons {P : Program} {ops : Array Oper} {Q : Exit → Act → World → Prop} {I : (Nat → Bool) → Act → World → Prop} {k : Nat} {o : Oper} {os : List Oper} (h : StepOK P ops Q I k o) (hs : StepsOK P ops Q I (k + 1) os) : StepsOK P ops Q I k (o :: os) := ⟨h, hs⟩
/-- What is waited for stands ahead. -/
def inOrder : Nat → List Oper → Bool
  | _, [] => true
  | k, o :: os => (o.after.toList.all fun e => !Region.binds .any e || decide (e.on < k)) && inOrder (k + 1) os

theorem cnt_lt {p q : Nat → Bool} : ∀ {l : List Nat}, (∀ x, p x = true → q x = true) → ∀ {i : Nat}, i ∈ l → q i = true → p i = false → l.countP p < l.countP q
  | [], _, _, hi, _, _ => by cases hi
  | x :: l, h, i, hi, hq, hp => by
    have hle : l.countP p ≤ l.countP q := List.countP_mono_left (fun y _ hy => h y hy)
    rcases List.mem_cons.1 hi with e | e
    · subst e
      simp only [List.countP_cons, hq, hp]
      simp
      omega
    · have ih := cnt_lt (l := l) h e hq hp
      simp only [List.countP_cons]
      cases hx : p x with
      | false => simp; split <;> omega
      | true => simp [h x hx]; omega

theorem steps_at {P : Program} {ops : Array Oper} {Q : Exit → Act → World → Prop} {I : (Nat → Bool) → Act → World → Prop} : ∀ {l : List Oper} {k i : Nat} {o : Oper}, StepsOK P ops Q I k l → l[i]? = some o → StepOK P ops Q I (k + i) o
  | [], _, _, _, _, h => by simp at h
  | x :: l, k, 0, o, h, hi => by simp at hi; subst hi; exact h.1
  | x :: l, k, i + 1, o, h, hi => by
    have := steps_at (i := i) h.2 (by simpa using hi)
    rw [Nat.add_assoc, Nat.add_comm 1 i] at this
    exact this
theorem order_at : ∀ {l : List Oper} {k i : Nat} {o : Oper}, inOrder k l = true → l[i]? = some o → (o.after.toList.all fun e => !Region.binds .any e || decide (e.on < k + i)) = true
  | [], _, _, _, _, h => by simp at h
  | x :: l, k, 0, o, h, hi => by
    simp at hi; subst hi
    unfold inOrder at h
    exact (Bool.and_eq_true_iff.1 h).1
  | x :: l, k, i + 1, o, h, hi => by
    unfold inOrder at h
    have := order_at (i := i) (Bool.and_eq_true_iff.1 h).2 (by simpa using hi)
    rw [Nat.add_assoc, Nat.add_comm 1 i] at this
    exact this

theorem ready_iff {ops : Array Oper} {listed : Array Bool} {i : Nat} : i ∈ Region.ready .any ops listed ↔ i < ops.size ∧ listed.getD i true = false ∧ ∃ o, ops[i]? = some o ∧ Aft o (fun j => listed.getD j false) = true := by
  unfold Region.ready Aft
  simp only [List.mem_filter, List.mem_range, Bool.and_eq_true, Bool.not_eq_true']
  constructor
  · rintro ⟨h1, h2, h3⟩
    refine ⟨h1, h2, ops[i], by simp [h1], ?_⟩
    simpa [h1] using h3
  · rintro ⟨h1, h2, o, h3, h4⟩
    refine ⟨h1, h2, ?_⟩
    rw [h3]
    simpa using h4

theorem wpAny_inv {P : Program} {ops : Array Oper} {Q : Exit → Act → World → Prop} (I : (Nat → Bool) → Act → World → Prop) (hord : inOrder 0 ops.toList = true) (hs : StepsOK P ops Q I 0 ops.toList)
    (hd : ∀ L a w, I L a w → (∀ i, i < ops.size → L i = true) → Q .normal a w) : ∀ (fuel : Nat) (listed : Array Bool) (a : Act) (w : World), listed.size = ops.size → (List.range ops.size).countP (fun i => !listed.getD i true) ≤ fuel → I (fun j => listed.getD j false) a w → wpAny P .any ops Q fuel listed a w := by
  have same : ∀ (listed : Array Bool) i, i < listed.size → listed.getD i true = listed.getD i false := by
    intro listed i hi
    simp [Array.getD, hi]
  have none_ready : ∀ (listed : Array Bool), listed.size = ops.size → Region.ready .any ops listed = [] → ∀ i, i < ops.size → listed.getD i false = true := by
    intro listed hsz hr i
    induction i using Nat.strongRecOn with
    | ind i ih =>
      intro hi
      cases hb : listed.getD i false with
      | true => rfl
      | false =>
        exfalso
        have ho : ops[i]? = some ops[i] := by simp [hi]
        have h1 := order_at (i := i) (o := ops[i]) hord (by rw [Array.getElem?_toList]; exact ho)
        have : i ∈ Region.ready .any ops listed := by
          refine ready_iff.2 ⟨hi, by rw [same listed i (by omega)]; exact hb, ops[i], ho, ?_⟩
          unfold Aft
          rw [List.all_eq_true] at h1 ⊢
          intro e he
          have h2 := h1 e he
          simp only [Bool.or_eq_true, decide_eq_true_eq, Nat.zero_add] at h2 ⊢
          rcases h2 with h2 | h2
          · exact Or.inl h2
          · exact Or.inr (ih e.on h2 (by omega))
        rw [hr] at this
        cases this
  intro fuel
  induction fuel with
  | zero =>
    intro listed a w hsz hc hI
    have hall : ∀ i, i < ops.size → listed.getD i true = true := by
      intro i hi
      have h0 := Nat.le_zero.1 hc
      rw [List.countP_eq_zero] at h0
      have := h0 i (List.mem_range.2 hi)
      simpa using this
    refine ⟨?_, hd _ _ _ hI (fun i hi => by rw [← same listed i (by omega)]; exact hall i hi)⟩
    rw [List.eq_nil_iff_forall_not_mem]
    intro i hi
    obtain ⟨h1, h2, _⟩ := ready_iff.1 hi
    rw [hall i h1] at h2
    cases h2
  | succ fuel ih =>
    intro listed a w hsz hc hI
    refine ⟨fun hr => hd _ _ _ hI (none_ready listed hsz hr), fun i hi => ?_⟩
    obtain ⟨h1, h2, o, ho, haf⟩ := ready_iff.1 hi
    have hst := steps_at (i := i) hs (by simpa using ho)
    rw [Nat.zero_add] at hst
    refine wpOp_step ho (fun K hK => hst _ a w hI (by rw [← same listed i (by omega)]; exact h2) haf K (fun a' w' h' => hK a' w' ?_))
    refine ih _ a' w' (by simpa using hsz) ?_ ?_
    · have := cnt_lt (p := fun j => !(listed.setIfInBounds i true).getD j true) (q := fun j => !listed.getD j true) (l := List.range ops.size) (i := i) ?_ (List.mem_range.2 h1) (by simp [h2]) ?_
      · omega
      · intro x hx
        by_cases hxi : x = i
        · subst hxi; simp [h2]
        · simp only [Bool.not_eq_true'] at hx ⊢
          by_cases hxs : x < listed.size
          · simp [Array.getD, hxs, Ne.symm hxi] at hx ⊢; exact hx
          · simp [Array.getD, hxs] at hx
      · simp [Array.getD, show i < listed.size by omega]
    · have e : (fun j => (listed.setIfInBounds i true).getD j false) = (fun j => j == i || listed.getD j false) := by
        funext x
        by_cases hxi : x = i
        · subst hxi; simp [Array.getD, show x < listed.size by omega]
        · by_cases hxs : x < listed.size
          · simp [Array.getD, hxs, Ne.symm hxi, hxi]
          · simp [Array.getD, hxs, hxi]
      rw [e]
      exact h'

/-- A region that draws its order, by what holds at any time. -/
theorem wp_region_inv {P : Program} {ops : Array Oper} {Q : Exit → Act → World → Prop} {id : Nat} {a : Act} {w : World} (hm : P.follows .mixedOrders = true) (I : (Nat → Bool) → Act → World → Prop)
    (hord : inOrder 0 ops.toList = true) (h0 : I (fun _ => false) a w.drew) (hd : ∀ L a w, I L a w → (∀ i, i < ops.size → L i = true) → Q .normal a w) (hs : StepsOK P ops Q I 0 ops.toList) : (Code.region id ops true).wp P Q a w := by
  refine wp_region_any hm (wpAny_inv I hord hs hd ops.size _ a _ (by simp) ?_ ?_)
  · refine Nat.le_trans List.countP_le_length ?_
    simp
  · have e : (fun j => (Array.replicate ops.size false).getD j false) = fun _ => false := by
      funext x
      simp [Array.getD]
    rw [e]
    exact h0

/-- Slot s holds v from now on. -/
def upd (U : Nat → Value) (s : Nat) (v : Value) : Nat → Value := fun t => bif t == s then v else U t
/-- The frame a, with what U says in the slots. -/
def putAll (a : Act) (slots : List Nat) (U : Nat → Value) : Act := slots.foldl (fun b s => b.put (some s) (U s)) a
theorem putAll_self (a : Act) : ∀ (slots : List Nat), putAll a slots (fun s => a.tmps.getD s undef) = a := by
  intro slots
  induction slots with
  | nil => rfl
  | cons s l ih =>
    have e : a.put (some s) (a.tmps.getD s undef) = a := by
      unfold Act.put
      simp only
      have : a.tmps.setIfInBounds s (a.tmps.getD s undef) = a.tmps := by
        apply Array.ext
        · simp
        · intro i h1 h2
          rw [Array.getElem_setIfInBounds]
          split
          · rename_i h; subst h; simp [Array.getD, h2]
          · rfl
      rw [this]
    unfold putAll at ih ⊢
    rw [List.foldl_cons, e]
    exact ih

/-- A region that draws its order: what its slots hold (U) and the world, by what is listed (L). -/
def StepU (P : Program) (ops : Array Oper) (Q : Exit → Act → World → Prop) (a : Act) (slots : List Nat) (F : (Nat → Bool) → (Nat → Value) → World → Prop) (k : Nat) (o : Oper) : Prop :=
  ∀ L U w, F L U w → L k = false → Aft o L = true → ∀ K : Act → World → Prop, (∀ U' a' w', a' = putAll a slots U' → F (fun j => j == k || L j) U' w' → K a' w') →
    if Region.wanted o (yielded ops (putAll a slots U).tmps) = true then Oper.wp P o (putAll a slots U) w K Q else K ((putAll a slots U).put o.dst undef) w
def StepsU (P : Program) (ops : Array Oper) (Q : Exit → Act → World → Prop) (a : Act) (slots : List Nat) (F : (Nat → Bool) → (Nat → Value) → World → Prop) : Nat → List Oper → Prop
  | _, [] => True
  | k, o :: os => StepU P ops Q a slots F k o ∧ StepsU P ops Q a slots F (k + 1) os
theorem StepsU.nil {P : Program} {ops : Array Oper} {Q : Exit → Act → World → Prop} {a : Act} {slots : List Nat} {F : (Nat → Bool) → (Nat → Value) → World → Prop} {k : Nat} : StepsU P ops Q a slots F k [] := trivial
theorem StepsU.cons {P : Program} {ops : Array Oper} {Q : Exit → Act → World → Prop} {a : Act} {slots : List Nat} {F : (Nat → Bool) → (Nat → Value) → World → Prop} {k : Nat} {o : Oper} {os : List Oper}
    (h : ∀ L U w, F L U w → L k = false → Aft o L = true → ∀ K : Act → World → Prop, (∀ U' a' w', a' = putAll a slots U' → F (fun j => j == k || L j) U' w' → K a' w') →
      if Region.wanted o (yielded ops (putAll a slots U).tmps) = true then Oper.wp P o (putAll a slots U) w K Q else K ((putAll a slots U).put o.dst undef) w)
    (hs : StepsU P ops Q a slots F (k + 1) os) : StepsU P ops Q a slots F k (o :: os) := ⟨h, hs⟩
theorem StepsU.plain {P : Program} {ops : Array Oper} {Q : Exit → Act → World → Prop} {a : Act} {slots : List Nat} {F : (Nat → Bool) → (Nat → Value) → World → Prop} {k : Nat} {o : Oper} {os : List Oper} (hg : o.guard = none)
    (h : ∀ L U w, F L U w → L k = false → Aft o L = true → ∀ K : Act → World → Prop, (∀ U' a' w', a' = putAll a slots U' → F (fun j => j == k || L j) U' w' → K a' w') → Oper.wp P o (putAll a slots U) w K Q)
    (hs : StepsU P ops Q a slots F (k + 1) os) : StepsU P ops Q a slots F k (o :: os) := by
  refine ⟨fun L U w hF hL haf K hK => ?_, hs⟩
  have hw : Region.wanted o (yielded ops (putAll a slots U).tmps) = true := by simp [Region.wanted, hg]
  rw [if_pos hw]
  exact h L U w hF hL haf K hK
/-- A goal that is not looked into. -/
structure Gate (p : Prop) : Prop where
  out : p
theorem StepsU.run {P : Program} {ops : Array Oper} {Q : Exit → Act → World → Prop} {a : Act} {slots : List Nat} {F : (Nat → Bool) → (Nat → Value) → World → Prop} {k : Nat} {o : Oper} {os : List Oper} (hg : o.guard = none)
    (h : ∀ L U w, F L U w → L k = false → Aft o L = true → ∀ (A : Act) (K : Act → World → Prop), A = putAll a slots U → (∀ U' a' w', a' = putAll a slots U' → F (fun j => j == k || L j) U' w' → K a' w') → Gate (Oper.wp P o A w K Q))
    (hs : StepsU P ops Q a slots F (k + 1) os) : StepsU P ops Q a slots F k (o :: os) :=
  StepsU.plain hg (fun L U w hF hL haf K hK => (h L U w hF hL haf _ K rfl hK).out) hs
theorem StepsU.cond {P : Program} {ops : Array Oper} {Q : Exit → Act → World → Prop} {a : Act} {slots : List Nat} {F : (Nat → Bool) → (Nat → Value) → World → Prop} {k : Nat} {o : Oper} {os : List Oper}
    (h : ∀ L U w, F L U w → L k = false → Aft o L = true → ∀ (A : Act) (K : Act → World → Prop), A = putAll a slots U → (∀ U' a' w', a' = putAll a slots U' → F (fun j => j == k || L j) U' w' → K a' w') → Gate (if Region.wanted o (yielded ops A.tmps) = true then Oper.wp P o A w K Q else K (A.put o.dst undef) w))
    (hs : StepsU P ops Q a slots F (k + 1) os) : StepsU P ops Q a slots F k (o :: os) :=
  StepsU.cons (fun L U w hF hL haf K hK => (h L U w hF hL haf _ K rfl hK).out) hs
theorem rd {A a : Act} {slots : List Nat} {U : Nat → Value} (hA : A = putAll a slots U) (s : Nat) (h : (putAll a slots U).tmps[s]? = some (U s)) {v : Value} (hv : U s = v) : A.tmps[s]? = some v := by rw [hA, h, hv]
theorem StepsU.steps {P : Program} {ops : Array Oper} {Q : Exit → Act → World → Prop} {a : Act} {slots : List Nat} {F : (Nat → Bool) → (Nat → Value) → World → Prop} : ∀ {l : List Oper} {k : Nat}, StepsU P ops Q a slots F k l →
    StepsOK P ops Q (fun L a' w' => ∃ U, a' = putAll a slots U ∧ F L U w') k l
  | [], _, _ => trivial
  | o :: l, k, h => by
    refine ⟨?_, h.2.steps⟩
    rintro L _ w' ⟨U, rfl, hF⟩ hL haf K hK
    exact h.1 L U w' hF hL haf K (fun U' a' w'' e hF' => hK a' w'' ⟨U', e, hF'⟩)
theorem wp_region_U {P : Program} {ops : Array Oper} {Q : Exit → Act → World → Prop} {id : Nat} {a : Act} {w : World} (hm : P.follows .mixedOrders = true) (slots : List Nat) (F : (Nat → Bool) → (Nat → Value) → World → Prop)
    (hord : inOrder 0 ops.toList = true) (h0 : ∀ U, F (fun _ => false) U w.drew) (hs : StepsU P ops Q a slots F 0 ops.toList) (hd : ∀ L U w', (∀ i, i < ops.size → L i = true) → F L U w' → Q .normal (putAll a slots U) w') : (Code.region id ops true).wp P Q a w := by
  refine wp_region_inv hm (fun L a' w' => ∃ U, a' = putAll a slots U ∧ F L U w') hord ⟨_, (putAll_self a slots).symm, h0 _⟩ ?_ hs.steps
  rintro L _ w' ⟨U, rfl, hF⟩ hall
  exact hd L U w' hall hF
/-- A frame's slots, those of the mask by U. -/
def setM (U : Nat → Value) : List (Option Nat) → List Value → List Value
  | [], l => l
  | some s :: m, _ :: l => U s :: setM U m l
  | none :: m, v :: l => v :: setM U m l
  | _ :: _, [] => []
theorem setM_nil (U : Nat → Value) (l : List Value) : setM U [] l = l := by unfold setM; rfl
theorem setM_some (U : Nat → Value) (s : Nat) (m : List (Option Nat)) (v : Value) (l : List Value) : setM U (some s :: m) (v :: l) = U s :: setM U m l := by rw [setM]
theorem setM_none (U : Nat → Value) (m : List (Option Nat)) (v : Value) (l : List Value) : setM U (none :: m) (v :: l) = v :: setM U m l := by rw [setM]
theorem wp_region_M {P : Program} {ops : Array Oper} {Q : Exit → Act → World → Prop} {id : Nat} {l : List Value} {d : List Deferred} {w : World} (hm : P.follows .mixedOrders = true) (slots : List Nat) (mask : List (Option Nat)) (hmask : ∀ U, putAll ⟨l.toArray, d⟩ slots U = ⟨(setM U mask l).toArray, d⟩) (F : (Nat → Bool) → (Nat → Value) → World → Prop)
    (hord : inOrder 0 ops.toList = true) (h0 : ∀ U, F (fun _ => false) U w.drew) (hs : StepsU P ops Q ⟨l.toArray, d⟩ slots F 0 ops.toList) (hd : ∀ L U w', (∀ i, i < ops.size → L i = true) → F L U w' → Q .normal ⟨(setM U mask l).toArray, d⟩ w') : (Code.region id ops true).wp P Q ⟨l.toArray, d⟩ w := by
  refine wp_region_U hm slots F hord h0 hs (fun L U w' h1 h2 => ?_)
  rw [hmask]
  exact hd L U w' h1 h2
end Go.Proofs.Ytidpbdhhbeaijab
/- What slots and variables hold in a region that draws its order; no statement of the seat is proved here. -/
namespace Go.Proofs.Ytidpbdhhbeaijab
open Go Go.RowKit

def IS (v : Value) : Value → World → Prop := fun u _ => u = v
def INT (z : Int) : Value → World → Prop := fun u w => AInt w u z
def RNM (z : Int) (N : Nat) : Value → World → Prop := fun u w => RNum w u z N
def RAT (q : Rat) : Value → World → Prop := fun u w => QV w u q
def T2 (p q : Value → World → Prop) : Value → World → Prop := fun u w => ∃ a b, u = .tuple #[a, b] ∧ p a w ∧ q b w
def T3 (p q r : Value → World → Prop) : Value → World → Prop := fun u w => ∃ a b c, u = .tuple #[a, b, c] ∧ p a w ∧ q b w ∧ r c w
/-- What stays while machine numbers stay. -/
def Mono (p : Value → World → Prop) : Prop := ∀ u w w', KeepI w w' → p u w → p u w'
theorem mo_is {v : Value} : Mono (IS v) := fun _ _ _ _ h => h
theorem mo_int {z : Int} : Mono (INT z) := fun _ _ _ hk h => AInt.keepI h hk
theorem mo_rnm {z : Int} {N : Nat} : Mono (RNM z N) := fun _ _ _ hk h => RNum.keepI h hk
theorem mo_rat {q : Rat} : Mono (RAT q) := fun _ _ _ hk h => by
  obtain ⟨x, a, n, c, y, e, m, f, rfl, h⟩ := h
  exact (h.keepI hk).val
theorem mo_t2 {p q : Value → World → Prop} (hp : Mono p) (hq : Mono q) : Mono (T2 p q) := fun _ w w' hk h => by
  obtain ⟨a, b, rfl, h1, h2⟩ := h
  exact ⟨a, b, rfl, hp _ _ _ hk h1, hq _ _ _ hk h2⟩
theorem mo_t3 {p q r : Value → World → Prop} (hp : Mono p) (hq : Mono q) (hr : Mono r) : Mono (T3 p q r) := fun _ w w' hk h => by
  obtain ⟨a, b, c, rfl, h1, h2, h3⟩ := h
  exact ⟨a, b, c, rfl, hp _ _ _ hk h1, hq _ _ _ hk h2, hr _ _ _ hk h3⟩
theorem mv {p : Value → World → Prop} (hp : Mono p) {w w' : World} (hk : KeepI w w') {b : Prop} {u : Value} (h : b → p u w) : b → p u w' := fun k => hp _ _ _ hk (h k)
theorem KeepI.refl (w : World) : KeepI w w := fun _ _ _ h => h
theorem keepI_new (w : World) (o : Obj) : KeepI w (w.alloc o) := KeepI.below (below_new w o)

/-- A variable made in the region: it is at least at B. -/
def NEW (t : TypeId) (B : Nat) (w : World) (p v : Value) : Prop := ∃ b cs, p = .pointer (some ⟨b, 0, none⟩) ∧ B ≤ b ∧ v = .agg cs ∧ Blk t w b cs ∧ ∀ u ∈ cs.toList, NoI u
theorem NEW.below {t : TypeId} {B : Nat} {w w' : World} {p v : Value} (h : NEW t B w p v) (hb : Below w.heap.size w w') : NEW t B w' p v := by
  obtain ⟨b, cs, h1, h2, h3, h4, h5⟩ := h
  exact ⟨b, cs, h1, h2, h3, h4.stay hb, h5⟩
theorem NEW.mk {t : TypeId} {B : Nat} {w : World} {cs : Array Value} (hB : B ≤ w.heap.size) (h : ∀ u ∈ cs.toList, NoI u) : NEW t B (w.alloc (.cells cs t (0, 0))) (.pointer (some ⟨w.heap.size, 0, none⟩)) (.agg cs) := ⟨_, _, rfl, hB, rfl, Blk.new _ _ _, h⟩
theorem NEW.apart {t : TypeId} {B : Nat} {w : World} {p v : Value} (h : NEW t B w p v) : p ≠ .pointer (some ⟨w.heap.size, 0, none⟩) := by
  obtain ⟨b, cs, h1, h2, h3, h4, h5⟩ := h
  rw [h1]
  intro e
  have h6 := h4.lt
  injection e with e
  injection e with e
  injection e with e
  omega
theorem noI2 (x : Bool) (a : Option Addr) (n c : Nat) : ∀ u ∈ (#[.bool x, .slice a n c] : Array Value).toList, NoI u := by
  intro u hu; simp at hu; rcases hu with rfl | rfl
  · exact noI_bool _
  · exact noI_slice _ _ _
theorem noI4 (x : Bool) (a : Option Addr) (n c : Nat) (y : Bool) (e : Option Addr) (m f : Nat) : ∀ u ∈ (#[.bool x, .slice a n c, .bool y, .slice e m f] : Array Value).toList, NoI u := by
  intro u hu; simp at hu; rcases hu with rfl | rfl | rfl | rfl
  · exact noI_bool _
  · exact noI_slice _ _ _
  · exact noI_bool _
  · exact noI_slice _ _ _
theorem keepI_two {t : TypeId} {w : World} {b : Nat} {x : Bool} {a : Option Addr} {n c : Nat} (h : Blk t w b #[.bool x, .slice a n c]) (y : Bool) (a' : Option Addr) (n' c' : Nat) :
    KeepI w ((w.setCell ⟨b, 0, none⟩ (.bool y)).setCell ⟨b, 1, none⟩ (.slice a' n' c')) := by
  have h0 := h.set 0 (.bool y)
  simp at h0
  exact (keepI_set h (noI2 _ _ _ _) _ _).trans (keepI_set h0 (noI2 _ _ _ _) _ _)
theorem Blk.over2 {t : TypeId} {w : World} {b : Nat} {p q : Value} (h : Blk t w b #[p, q]) (p' q' : Value) : Blk t ((w.setCell ⟨b, 0, none⟩ p').setCell ⟨b, 1, none⟩ q') b #[p', q'] := by
  have k := (h.set 0 p').set 1 q'; simpa using k
theorem Blk.other2 {t : TypeId} {w : World} {b d : Nat} {cs : Array Value} (h : Blk t w b cs) (hne : d ≠ b) (p' q' : Value) : Blk t ((w.setCell ⟨d, 0, none⟩ p').setCell ⟨d, 1, none⟩ q') b cs := (h.other hne _).other hne _
/-- A store into another block. -/
theorem NEW.other2 {t : TypeId} {B : Nat} {w : World} {p v : Value} (h : NEW t B w p v) {d : Nat} (hne : p ≠ .pointer (some ⟨d, 0, none⟩)) (p' q' : Value) : NEW t B ((w.setCell ⟨d, 0, none⟩ p').setCell ⟨d, 1, none⟩ q') p v := by
  obtain ⟨b, cs, h1, h2, h3, h4, h5⟩ := h
  exact ⟨b, cs, h1, h2, h3, h4.other2 (fun e => hne (by rw [h1, e])) _ _, h5⟩
theorem NEW.other4 {t : TypeId} {B : Nat} {w : World} {p v : Value} (h : NEW t B w p v) {d : Nat} (hne : p ≠ .pointer (some ⟨d, 0, none⟩)) (p' q' r' s' : Value) : NEW t B ((((w.setCell ⟨d, 0, none⟩ p').setCell ⟨d, 1, none⟩ q').setCell ⟨d, 2, none⟩ r').setCell ⟨d, 3, none⟩ s') p v := by
  obtain ⟨b, cs, h1, h2, h3, h4, h5⟩ := h
  exact ⟨b, cs, h1, h2, h3, h4.other4 (fun e => hne (by rw [h1, e])) _ _ _ _, h5⟩
theorem NEW.old {t : TypeId} {B : Nat} {w : World} {p v : Value} (h : NEW t B w p v) {d : Nat} (hd : d < B) : p ≠ .pointer (some ⟨d, 0, none⟩) := by
  obtain ⟨b, cs, h1, h2, h3, h4, h5⟩ := h
  rw [h1]
  intro e
  injection e with e
  injection e with e
  injection e with e
  omega
theorem NEW.over2 {t : TypeId} {B : Nat} {w : World} {b : Nat} {p q : Value} (hB : B ≤ b) (h : Blk t w b #[p, q]) (x : Bool) (a : Option Addr) (n c : Nat) :
    NEW t B ((w.setCell ⟨b, 0, none⟩ (.bool x)).setCell ⟨b, 1, none⟩ (.slice a n c)) (.pointer (some ⟨b, 0, none⟩)) (.agg #[.bool x, .slice a n c]) := ⟨b, _, rfl, hB, rfl, h.over2 _ _, noI2 _ _ _ _⟩
theorem NEW.over4 {t : TypeId} {B : Nat} {w : World} {b : Nat} {p q r s : Value} (hB : B ≤ b) (h : Blk t w b #[p, q, r, s]) (x : Bool) (a : Option Addr) (n c : Nat) (y : Bool) (e : Option Addr) (m f : Nat) :
    NEW t B ((((w.setCell ⟨b, 0, none⟩ (.bool x)).setCell ⟨b, 1, none⟩ (.slice a n c)).setCell ⟨b, 2, none⟩ (.bool y)).setCell ⟨b, 3, none⟩ (.slice e m f)) (.pointer (some ⟨b, 0, none⟩)) (.agg #[.bool x, .slice a n c, .bool y, .slice e m f]) := ⟨b, _, rfl, hB, rfl, h.over4 _ _ _ _, noI4 _ _ _ _ _ _ _ _⟩
/-- An older variable, by its value. -/
def BlkV (t : TypeId) (w : World) (b : Nat) (v : Value) : Prop := ∃ cs, v = .agg cs ∧ Blk t w b cs
theorem BlkV.stay {t : TypeId} {w w' : World} {b : Nat} {v : Value} (h : BlkV t w b v) (hb : Below w.heap.size w w') : BlkV t w' b v := by
  obtain ⟨cs, h1, h2⟩ := h
  exact ⟨cs, h1, h2.stay hb⟩
theorem BlkV.other2 {t : TypeId} {w : World} {b : Nat} {v : Value} (h : BlkV t w b v) {d : Nat} (hne : d ≠ b) (p' q' : Value) : BlkV t ((w.setCell ⟨d, 0, none⟩ p').setCell ⟨d, 1, none⟩ q') b v := by
  obtain ⟨cs, h1, h2⟩ := h
  exact ⟨cs, h1, h2.other2 hne _ _⟩
theorem BlkV.other4 {t : TypeId} {w : World} {b : Nat} {v : Value} (h : BlkV t w b v) {d : Nat} (hne : d ≠ b) (p' q' r' s' : Value) : BlkV t ((((w.setCell ⟨d, 0, none⟩ p').setCell ⟨d, 1, none⟩ q').setCell ⟨d, 2, none⟩ r').setCell ⟨d, 3, none⟩ s') b v := by
  obtain ⟨cs, h1, h2⟩ := h
  exact ⟨cs, h1, h2.other4 hne _ _ _ _⟩
theorem stored_old {t : TypeId} {w : World} {b : Nat} {u : Value} {cs : Array Value} (hu : u = .agg cs) (h : Blk t w b cs) : BlkV t w b u := ⟨cs, hu, h⟩
theorem stored_new {t : TypeId} {B : Nat} {w : World} {p u p' u' : Value} (hp : p = p') (hu : u = u') (h : NEW t B w p' u') : NEW t B w p u := by rw [hp, hu]; exact h
theorem new_zero {t : TypeId} {B : Nat} {w : World} {p u z : Value} {b : Bool} (hb : b = false) (h : NEW t B w p z) : NEW t B w p (bif b then u else z) := by rw [hb]; exact h
theorem flip_v {P : Value → Prop} {b : Bool} (hb : b = false) {u u' z : Value} (h : P (bif b then u else z)) : P (bif b then u' else z) := by rw [hb] at h ⊢; exact h
end Go.Proofs.Ytidpbdhhbeaijab
/- Contracts of ratio's Whole, IsWhole, Num, Sign, Den, Neg, Floor, Ceil; they prove no statement of the seat. -/
namespace Go.Proofs.Ytidpbdhhbeaijab
open Go.RowKit

set_option maxHeartbeats 1000000 in
theorem whole_any (va : Value) (z : Int) (w : World) (ha : AInt w va z) :
    Calls Try.prog 20 #[va] w fun e w' => ∃ x a n c y e' m f, e = .returned (.agg #[.bool x, .slice a n c, .bool y, .slice e' m f]) ∧ QP w' x a n c y e' m f ((z : Rat)) ∧ Below w.heap.size w w' := by
  obtain ⟨x, a, n, c, rfl⟩ := ha.shape
  go_enter Try.func20, Try.ntmps20
  go_wp2
  refine bodyPost_ret (v := .agg #[.bool x, .slice a n c, .bool false, .slice none 0 0]) (by simp [results, Try.results20, go_sem]) rfl ?_
  exact ⟨_, _, _, _, _, _, _, _, rfl, QP.whole (ha.below (by go_grown)), by go_grown⟩

set_option maxHeartbeats 2000000 in
theorem isWhole_any (v : Value) (q : Rat) (r : Bool) (w : World) (hv : QV w v q) (hr : (q.den == 1) = r) :
    Calls Try.prog 37 #[v] w fun e w' => e = .returned (.bool r) ∧ Below w.heap.size w w' := by
  obtain ⟨x, a, n, c, y, e', m, f, rfl, h⟩ := hv
  have oX := Blk.new w 27 #[.bool x, .slice a n c, .bool y, .slice e' m f]
  have hbw := below_new w (.cells #[.bool x, .slice a n c, .bool y, .slice e' m f] 27 (0, 0))
  have h1 := h.below hbw
  go_enter Try.func37, Try.ntmps37
  obtain ⟨c0, c1, c2, c3⟩ := oX.four
  go_wp2_with fail
  refine (sign_h _ (dz q) _ h1.2).mono ?_
  rintro e w1 ⟨rfl, hb⟩
  have hr' : ((dz q).sign == 0) = r := by
    rw [← hr, Bool.eq_iff_iff, beq_iff_eq, beq_iff_eq]; exact dz_sign q
  clear hr
  go_wp2
  go_ret
  exact ⟨rfl, hbw.step hb (Nat.le_refl _)⟩

set_option maxHeartbeats 2000000 in
theorem qsign_any (v : Value) (q : Rat) (r : Int) (w : World) (hv : QV w v q) (hr : q.num.sign = r) :
    Calls Try.prog 15 #[v] w fun e w' => e = .returned (.int .i64 r) ∧ Below w.heap.size w w' := by
  obtain ⟨x, a, n, c, y, e', m, f, rfl, h⟩ := hv
  have oX := Blk.new w 27 #[.bool x, .slice a n c, .bool y, .slice e' m f]
  have hbw := below_new w (.cells #[.bool x, .slice a n c, .bool y, .slice e' m f] 27 (0, 0))
  have h1 := h.below hbw
  go_enter Try.func15, Try.ntmps15
  obtain ⟨c0, c1, c2, c3⟩ := oX.four
  go_wp2_with fail
  refine (sgn_h _ q.num r _ h1.1 hr).mono ?_
  rintro e w1 ⟨rfl, hb⟩
  clear hr
  go_wp2
  go_ret
  exact ⟨rfl, hbw.step hb (Nat.le_refl _)⟩

set_option maxHeartbeats 2000000 in
theorem qnum_any (v : Value) (q : Rat) (w : World) (hv : QV w v q) :
    Calls Try.prog 22 #[v] w fun e w' => ∃ s a n c, e = .returned (.agg #[.bool s, .slice a n c]) ∧ AInt w' (.agg #[.bool s, .slice a n c]) (q.num) ∧ Below w.heap.size w w' := by
  obtain ⟨x, a, n, c, y, e', m, f, rfl, h⟩ := hv
  go_enter Try.func22, Try.ntmps22
  go_wp2
  refine bodyPost_ret (v := .agg #[.bool x, .slice a n c]) (by simp [results, Try.results22, go_sem]) rfl ?_
  exact ⟨_, _, _, _, rfl, h.1.below (by go_grown), by go_grown⟩

set_option maxHeartbeats 2000000 in
theorem den_any (v : Value) (q : Rat) (w : World) (hv : QV w v q) :
    Calls Try.prog 31 #[v] w fun e w' => ∃ s a n c, e = .returned (.agg #[.bool s, .slice a n c]) ∧ AInt w' (.agg #[.bool s, .slice a n c]) ((q.den : Int)) ∧ Below w.heap.size w w' := by
  obtain ⟨x, a, n, c, y, e', m, f, rfl, h⟩ := hv
  have oX := (Blk.new w 27 #[.bool x, .slice a n c, .bool y, .slice e' m f]).alloc (.cells #[.bool false, .slice none 0 0] 25 (0, 0))
  have rR := Blk.new (w.alloc (.cells #[.bool x, .slice a n c, .bool y, .slice e' m f] 27 (0, 0))) 25 #[.bool false, .slice none 0 0]
  simp only [World.size_alloc] at rR
  have hbw : Below w.heap.size w ((w.alloc (.cells #[.bool x, .slice a n c, .bool y, .slice e' m f] 27 (0, 0))).alloc (.cells #[.bool false, .slice none 0 0] 25 (0, 0))) := by go_grown
  have h1 := h.below hbw
  go_enter Try.func31, Try.ntmps31
  /- ((w.alloc (.cells #[.bool x, .slice a n c, .bool y, .slice e' m f] 27 (0, 0))).alloc (.cells #[.bool false, .slice none 0 0] 25 (0, 0))) = W -/
  have ltX := oX.lt
  have ltR := rR.lt
  have geR : w.heap.size ≤ w.heap.size + 1 := Nat.le_succ _
  have neRX : w.heap.size + 1 ≠ w.heap.size := Nat.succ_ne_self _
  obtain ⟨c0, c1, c2, c3⟩ := oX.four
  by_cases hd : q.den = 1
  · have HD : Hid (q.den = 1) := hd
    clear hd
    go_wp2_with fail
    refine (isWhole_any _ q true _ h1.val (by rw [HD.out]; rfl)).mono ?_
    rintro e w1 ⟨rfl, hb⟩
    go_wp2_with fail
    refine (from_any 1 _ (by decide) (by decide)).mono ?_
    rintro e w2 ⟨v2, rfl, h2, hb2⟩
    obtain ⟨s, a2, n2, c2', rfl⟩ := h2.shape
    have R2 := (rR.stay hb).stay hb2
    obtain ⟨r0, r1, f0, f1⟩ := R2.two
    go_wp2
    refine bodyPost_ret (v := .agg #[.bool s, .slice a2 n2 c2']) (by simp [results, Try.results31, go_sem, r0, r1]) rfl ?_
    refine ⟨_, _, _, _, rfl, ?_, below_store2 ((hbw.step hb (Nat.le_refl _)).step hb2 (Nat.le_refl _)) geR _ _⟩
    rw [HD.out]
    exact h2.store2 R2 _ _ _ _
  · have HD : Hid (q.den ≠ 1) := hd
    clear hd
    go_wp2_with fail
    refine (isWhole_any _ q false _ h1.val (by rw [beq_eq_false_iff_ne]; exact HD.out)).mono ?_
    rintro e w1 ⟨rfl, hb⟩
    have R1 := rR.stay hb
    obtain ⟨r0, r1, f0, f1⟩ := R1.two
    clear c0 c1 c2 c3
    obtain ⟨c0, c1, c2, c3⟩ := (oX.stay hb).four
    go_wp2
    refine bodyPost_ret (v := .agg #[.bool y, .slice e' m f]) (by simp [results, Try.results31, go_sem, r0, r1]) rfl ?_
    refine ⟨_, _, _, _, rfl, ?_, below_store2 (hbw.step hb (Nat.le_refl _)) geR _ _⟩
    have k := h1.2
    rw [dz_not HD.out] at k
    exact (k.below hb).store2 R1 _ _ _ _

set_option maxHeartbeats 2000000 in
theorem qneg_any (v : Value) (q : Rat) (w : World) (hv : QV w v q) :
    Calls Try.prog 38 #[v] w fun e w' => ∃ x a n c y e' m f, e = .returned (.agg #[.bool x, .slice a n c, .bool y, .slice e' m f]) ∧ QP w' x a n c y e' m f (-q) ∧ Below w.heap.size w w' := by
  obtain ⟨x, a, n, c, y, e', m, f, rfl, h⟩ := hv
  have oX := (Blk.new w 27 #[.bool x, .slice a n c, .bool y, .slice e' m f]).alloc (.cells #[.bool false, .slice none 0 0, .bool false, .slice none 0 0] 27 (0, 0))
  have rR := Blk.new (w.alloc (.cells #[.bool x, .slice a n c, .bool y, .slice e' m f] 27 (0, 0))) 27 #[.bool false, .slice none 0 0, .bool false, .slice none 0 0]
  simp only [World.size_alloc] at rR
  have hbw : Below w.heap.size w ((w.alloc (.cells #[.bool x, .slice a n c, .bool y, .slice e' m f] 27 (0, 0))).alloc (.cells #[.bool false, .slice none 0 0, .bool false, .slice none 0 0] 27 (0, 0))) := by go_grown
  have h1 := h.below hbw
  go_enter Try.func38, Try.ntmps38
  go_wp2
  generalize ((w.alloc (.cells #[.bool x, .slice a n c, .bool y, .slice e' m f] 27 (0, 0))).alloc (.cells #[.bool false, .slice none 0 0, .bool false, .slice none 0 0] 27 (0, 0))) = W at oX rR hbw h1 ⊢
  have ltX := oX.lt
  have ltR := rR.lt
  have geR : w.heap.size ≤ w.heap.size + 1 := Nat.le_succ _
  have neRX : w.heap.size + 1 ≠ w.heap.size := Nat.succ_ne_self _
  refine wp_region_M (by kernel_rfl) [3, 4, 5, 6, 7, 8] [none, none, none, some 3, some 4, some 5, some 6, some 7, some 8] (fun U => by kernel_rfl) (fun L U wr => Below w.heap.size w wr ∧ KeepI W wr ∧ W.heap.size ≤ wr.heap.size ∧ Blk 27 wr (w.heap.size) #[.bool x, .slice a n c, .bool y, .slice e' m f] ∧ BlkV 27 wr (w.heap.size + 1) (bif L 6 then U 8 else .agg #[.bool false, .slice none 0 0, .bool false, .slice none 0 0]) ∧ (L 0 = true → IS (.pointer (some ⟨w.heap.size, 0, none⟩)) (U 3) wr) ∧ (L 1 = true → IS (.agg #[.bool x, .slice a n c]) (U 4) wr) ∧ (L 2 = true → INT (-q.num) (U 5) wr) ∧ (L 3 = true → IS (.pointer (some ⟨w.heap.size, 2, none⟩)) (U 6) wr) ∧ (L 4 = true → IS (.agg #[.bool y, .slice e' m f]) (U 7) wr) ∧ (L 5 = true → RAT (-q) (U 8) wr) ∧ (L 6 = true → L 5 = true)) (by kernel_rfl) ?_ ?_ ?_
  · exact fun U => ⟨hbw.drew, KeepI.below (Below.refl _ _).drew, Nat.le_refl _, oX.drew, ⟨_, rfl, rR.drew⟩, (fun h => by cases h), (fun h => by cases h), (fun h => by cases h), (fun h => by cases h), (fun h => by cases h), (fun h => by cases h), (fun h => by cases h)⟩
  · refine StepsU.run rfl ?_ ?_
    · intro L U wr hF hlk haf A K hA hK
      have HA : Hid (A = putAll _ _ U) := hA
      clear hA
      simp [Aft, Region.binds] at haf
      obtain ⟨fb, fk, fs, oX, rR, f0, f1, f2, f3, f4, f5, s6⟩ := hF
      have e1 : A.tmps[1]? = some (.pointer (some ⟨w.heap.size, 0, none⟩)) := by rw [HA.out]; kernel_rfl
      refine ⟨?_⟩
      go_simp
      refine hK (upd U 3 (.pointer (some ⟨w.heap.size, 0, none⟩))) _ _ ?_ ?_
      · rw [HA.out]; kernel_rfl
      · exact ⟨fb, fk, fs, oX, rR, (fun _ => rfl), f1, f2, f3, f4, f5, s6⟩
    refine StepsU.run rfl ?_ ?_
    · intro L U wr hF hlk haf A K hA hK
      have HA : Hid (A = putAll _ _ U) := hA
      clear hA
      simp [Aft, Region.binds] at haf
      obtain ⟨fb, fk, fs, oX, rR, f0, f1, f2, f3, f4, f5, s6⟩ := hF
      have g0 := f0 (by simp [haf])
      have e3 := rd HA.out 3 (by kernel_rfl) g0
      obtain ⟨c0, c1, c2, c3⟩ := oX.four
      refine ⟨?_⟩
      go_simp
      refine hK (upd U 4 (.agg #[.bool x, .slice a n c])) _ _ ?_ ?_
      · rw [HA.out]; kernel_rfl
      · exact ⟨fb, fk, fs, oX, rR, f0, (fun _ => rfl), f2, f3, f4, f5, s6⟩
    refine StepsU.run rfl ?_ ?_
    · intro L U wr hF hlk haf A K hA hK
      have HA : Hid (A = putAll _ _ U) := hA
      clear hA
      simp [Aft, Region.binds] at haf
      obtain ⟨fb, fk, fs, oX, rR, f0, f1, f2, f3, f4, f5, s6⟩ := hF
      have g1 := f1 (by simp [haf])
      have e4 := rd HA.out 4 (by kernel_rfl) g1
      refine ⟨?_⟩
      go_simp
      refine (neg_any _ q.num _ (h1.1.keepI fk)).mono ?_
      rintro e w1 ⟨v5, rfl, hr, hb⟩
      go_simp
      refine hK (upd U 5 v5) _ _ ?_ ?_
      · rw [HA.out]; kernel_rfl
      · exact ⟨(fb.step hb (Nat.le_refl _)), (fk.trans (KeepI.below hb)), (Nat.le_trans fs hb.size), (oX.stay hb), (rR.stay hb), (mv mo_is (KeepI.below hb) f0), (mv mo_is (KeepI.below hb) f1), (fun _ => hr), (mv mo_is (KeepI.below hb) f3), (mv mo_is (KeepI.below hb) f4), (mv mo_rat (KeepI.below hb) f5), s6⟩
    refine StepsU.run rfl ?_ ?_
    · intro L U wr hF hlk haf A K hA hK
      have HA : Hid (A = putAll _ _ U) := hA
      clear hA
      simp [Aft, Region.binds] at haf
      obtain ⟨fb, fk, fs, oX, rR, f0, f1, f2, f3, f4, f5, s6⟩ := hF
      have e1 : A.tmps[1]? = some (.pointer (some ⟨w.heap.size, 0, none⟩)) := by rw [HA.out]; kernel_rfl
      refine ⟨?_⟩
      go_simp
      refine hK (upd U 6 (.pointer (some ⟨w.heap.size, 2, none⟩))) _ _ ?_ ?_
      · rw [HA.out]; kernel_rfl
      · exact ⟨fb, fk, fs, oX, rR, f0, f1, f2, (fun _ => rfl), f4, f5, s6⟩
    refine StepsU.run rfl ?_ ?_
    · intro L U wr hF hlk haf A K hA hK
      have HA : Hid (A = putAll _ _ U) := hA
      clear hA
      simp [Aft, Region.binds] at haf
      obtain ⟨fb, fk, fs, oX, rR, f0, f1, f2, f3, f4, f5, s6⟩ := hF
      have g3 := f3 (by simp [haf])
      have e6 := rd HA.out 6 (by kernel_rfl) g3
      obtain ⟨c0, c1, c2, c3⟩ := oX.four
      refine ⟨?_⟩
      go_simp
      refine hK (upd U 7 (.agg #[.bool y, .slice e' m f])) _ _ ?_ ?_
      · rw [HA.out]; kernel_rfl
      · exact ⟨fb, fk, fs, oX, rR, f0, f1, f2, f3, (fun _ => rfl), f5, s6⟩
    refine StepsU.run rfl ?_ ?_
    · intro L U wr hF hlk haf A K hA hK
      have HA : Hid (A = putAll _ _ U) := hA
      clear hA
      simp [Aft, Region.binds] at haf
      obtain ⟨fb, fk, fs, oX, rR, f0, f1, f2, f3, f4, f5, s6⟩ := hF
      have g2 := f2 (by simp [haf])
      obtain ⟨px, pa, pn, pc, hp⟩ := AInt.shape g2
      have e5 := rd HA.out 5 (by kernel_rfl) hp
      rw [hp] at g2
      have g4 := f4 (by simp [haf])
      have e7 := rd HA.out 7 (by kernel_rfl) g4
      refine ⟨?_⟩
      go_simp
      have hs6 : L 6 = false := by cases h : L 6 with | false => rfl | true => rw [s6 h] at hlk; cases hlk
      refine hK (upd U 8 (.agg #[.bool px, .slice pa pn pc, .bool y, .slice e' m f])) _ _ ?_ ?_
      · rw [HA.out]; kernel_rfl
      · exact ⟨fb, fk, fs, oX, (flip_v (P := fun v => BlkV _ _ _ v) hs6 rR), f0, f1, f2, f3, f4, (fun _ => ⟨_, _, _, _, _, _, _, _, rfl, g2, h1.2.keepI fk⟩), (fun _ => rfl)⟩
    refine StepsU.run rfl ?_ StepsU.nil
    · intro L U wr hF hlk haf A K hA hK
      have HA : Hid (A = putAll _ _ U) := hA
      clear hA
      simp [Aft, Region.binds] at haf
      obtain ⟨fb, fk, fs, oX, rR, f0, f1, f2, f3, f4, f5, s6⟩ := hF
      have g5 := f5 (by simp [haf])
      obtain ⟨px, pa, pn, pc, qx, qa, qn, qc, hsrc, -⟩ := g5
      have e8 := rd HA.out 8 (by kernel_rfl) hsrc
      have e2 : A.tmps[2]? = some (.pointer (some ⟨w.heap.size + 1, 0, none⟩)) := by rw [HA.out]; kernel_rfl
      simp only [hlk, cond_false] at rR
      obtain ⟨cs, hcs, hblk⟩ := rR
      injection hcs with hcs
      subst hcs
      obtain ⟨c0, c1, c2, c3⟩ := hblk.four
      obtain ⟨q0, q1, q2, q3⟩ := hblk.frozen4
      refine ⟨?_⟩
      go_simp
      have hk := keepI_four (noI_slice _ _ _) (noI_slice _ _ _) hblk px pa pn pc qx qa qn qc
      refine hK U _ _ ?_ ?_
      · exact HA.out
      · exact ⟨(below_store4 fb geR _ _ _ _), (fk.trans hk), (by simpa using fs), (oX.other4 neRX _ _ _ _), (stored_old hsrc (hblk.over4 _ _ _ _)), (mv mo_is hk f0), (mv mo_is hk f1), (mv mo_int hk f2), (mv mo_is hk f3), (mv mo_is hk f4), (mv mo_rat hk f5), (fun _ => by simp [haf])⟩
  intro L U wr hall hF
  obtain ⟨fb, fk, fs, oX, rR, f0, f1, f2, f3, f4, f5, s6⟩ := hF
  clear s6
  have g0 := f0 (hall 0 (by decide))
  have g1 := f1 (hall 1 (by decide))
  have g2 := f2 (hall 2 (by decide))
  have g3 := f3 (hall 3 (by decide))
  have g4 := f4 (hall 4 (by decide))
  have g5 := f5 (hall 5 (by decide))
  rw [hall 6 (by decide), cond_true] at rR
  clear hall f0 f1 f2 f3 f4 f5
  replace ltX := Nat.lt_of_lt_of_le ltX fs
  replace ltR := Nat.lt_of_lt_of_le ltR fs
  simp only [setM_some, setM_none, setM_nil]
  obtain ⟨cs, hcs, B⟩ := rR
  obtain ⟨px, pa, pn, pc, qx, qa, qn, qc, hv, hq⟩ := g5
  rw [hv] at hcs
  injection hcs with hcs
  subst hcs
  obtain ⟨r0, r1, r2, r3⟩ := B.four
  go_wp2
  refine bodyPost_ret (v := .agg #[.bool px, .slice pa pn pc, .bool qx, .slice qa qn qc]) (by simp [results, Try.results38, go_sem, r0, r1, r2, r3]) rfl ?_
  exact ⟨_, _, _, _, _, _, _, _, rfl, hq, fb⟩

end Go.Proofs.Ytidpbdhhbeaijab
