/- Joined: Cut, LinX, LinA, LinY: words and contracts; no statement of the seat is proved here. -/
import Derived.Test.YteefniagebcagaaGreatDoorJoin20Tells
import Derived.Test.YteefniagebcagaaGreatDoorJoin9Tells
import Derived.Laws.Externs
import Derived.Test.YteefniagebcagaaGreatDoorJoin15Tells
import Derived.Maps.OwnOps
import Derived.Test.YteefniagebcagaaGreatDoorJoin14Tells
import Derived.Test.YteefniagebcagaaGreatDoorJoin5Tells
import Derived.Carry
/- strings.Cut at a stroke, and what the two Parses answer of a text with or without one; no statement of the seat is proved here. -/
namespace Go.Proofs.YteefniagebcagaaGreatDoor
open Go.RowKit

/-- What a whole number's Parse answers of a text: the code, the number. -/
def PR (l : List Nat) (c z : Int) : Prop := (¬ Good l ∧ c = 10 ∧ z = 0) ∨ (Good l ∧ c = ec (pval l) ∧ z = hz (pval l))
theorem PR.same {l : List Nat} {c z c' z' : Int} (h : PR l c z) (h' : PR l c' z') : c = c' ∧ z = z' := by
  rcases h with ⟨a, b, d⟩ | ⟨a, b, d⟩ <;> rcases h' with ⟨a', b', d'⟩ | ⟨a', b', d'⟩
  · exact ⟨b.trans b'.symm, d.trans d'.symm⟩
  · exact absurd a' a
  · exact absurd a a'
  · exact ⟨b.trans b'.symm, d.trans d'.symm⟩
theorem parse_z (s : ByteArray) (w : World) (hl : s.size ≤ 10000) :
    Calls Tryz.prog 52 #[.string s] w fun e w' => ∃ x a n c co z, e = .returned (.tuple #[.agg #[.bool x, .slice a n c], .int .i64 co]) ∧ AInt w' (.agg #[.bool x, .slice a n c]) z ∧ Hid (PR (bs s) co z) ∧ Below w.heap.size w w' := by
  refine (parse_any s w hl).mono ?_
  rintro e w' ⟨v, c, rfl, hb, hp⟩
  have key : ∃ z, AInt w' v z ∧ PR (bs s) c z := by
    rcases hp with ⟨h1, h2, h3⟩ | ⟨h1, h2⟩
    · exact ⟨0, h3, Or.inl ⟨h1, h2, rfl⟩⟩
    · obtain ⟨h3, h4⟩ := h2.code
      exact ⟨_, h4, Or.inr ⟨h1, h3, rfl⟩⟩
  obtain ⟨z, h1, h2⟩ := key
  obtain ⟨x, a, n, c', rfl⟩ := h1.shape
  exact ⟨x, a, n, c', c, z, rfl, h1, h2, hb⟩
theorem rparse_z (s : ByteArray) (w : World) (hl : s.size ≤ 10000) :
    Calls Tryz.prog 54 #[.string s] w fun e w' => ∃ x a n c co z, e = .returned (.tuple #[.agg #[.bool x, .slice a n c], .int .i64 co]) ∧ RNum w' (.agg #[.bool x, .slice a n c]) z 400 ∧ Hid (PR (bs s) co z) ∧ Below w.heap.size w w' := by
  refine (rparse_any s w hl).mono ?_
  rintro e w' ⟨v, c, rfl, hb, hp⟩
  have key : ∃ z, RNum w' v z 400 ∧ PR (bs s) c z := by
    rcases hp with ⟨h1, h2, h3⟩ | ⟨h1, h2⟩
    · exact ⟨0, h3, Or.inl ⟨h1, h2, rfl⟩⟩
    · rcases h2 with ⟨a1, a2, a3⟩ | ⟨a1, a2, a3⟩
      · exact ⟨_, a3, Or.inr ⟨h1, by rw [ec_of a2]; exact a1, (hz_of a2).symm⟩⟩
      · exact ⟨0, a3, Or.inr ⟨h1, by rw [ec_not (Nat.not_lt.2 a2)]; exact a1, (if_neg (Nat.not_lt.2 a2)).symm⟩⟩
  obtain ⟨z, h1, h2⟩ := key
  obtain ⟨x, a, n, c', rfl⟩ := h1.shape
  exact ⟨x, a, n, c', c, z, rfl, h1, h2, hb⟩

end Go.Proofs.YteefniagebcagaaGreatDoor
/- Words for maps of whole numbers by ints, and the number that a text is, as functions; they prove no statement of the seat. -/
namespace Go.Proofs.YteefniagebcagaaGreatDoor
open Go Go.RowKit Go.Maps
set_option linter.unusedVariables false

/-- Is it a plain text of digits? -/
def plainQ (l : List Nat) : Bool := decide (0 < l.length) && !(decide (l.getD 0 0 = 48) && decide (1 < l.length)) && (List.range l.length).all fun i => decide (48 ≤ l.getD i 0) && decide (l.getD i 0 ≤ 57)
theorem plainQ_iff (l : List Nat) : plainQ l = true ↔ Plain l := by
  unfold plainQ Plain
  simp only [Bool.and_eq_true, decide_eq_true_eq, Bool.not_eq_true', Bool.and_eq_false_iff, decide_eq_false_iff_not, List.all_eq_true, List.mem_range]
  constructor
  · rintro ⟨⟨h1, h2⟩, h3⟩
    exact ⟨h1, fun h => h2.elim (fun k => k h.1) (fun k => k h.2), h3⟩
  · rintro ⟨h1, h2, h3⟩
    refine ⟨⟨h1, ?_⟩, h3⟩
    by_cases h : l.getD 0 0 = 48
    · exact Or.inr fun k => h2 ⟨h, k⟩
    · exact Or.inl h
def goodQ (l : List Nat) : Bool := plainQ (pbody l) && !(pneg l && decide (pbody l = [48]))
theorem goodQ_iff (l : List Nat) : goodQ l = true ↔ Good l := by
  unfold goodQ Good GoodB
  rw [Bool.and_eq_true, plainQ_iff]
  simp only [Bool.not_eq_true', Bool.and_eq_false_iff, decide_eq_false_iff_not]
  constructor
  · rintro ⟨h1, h2⟩
    refine ⟨h1, fun h => h2.elim (fun k => ?_) (fun k => k h.2)⟩
    rw [h.1] at k; cases k
  · rintro ⟨h1, h2⟩
    refine ⟨h1, ?_⟩
    cases hp : pneg l with
    | false => exact Or.inl rfl
    | true => exact Or.inr fun k => h2 ⟨hp, k⟩
/-- The code that Parse tells of a text, and the number. -/
def pcd (s : ByteArray) : Int := if goodQ (bs s) = true then ec (pval (bs s)) else 10
def pzd (s : ByteArray) : Int := if goodQ (bs s) = true then hz (pval (bs s)) else 0
theorem pr_of (s : ByteArray) : PR (bs s) (pcd s) (pzd s) := by
  unfold pcd pzd
  by_cases h : goodQ (bs s) = true
  · rw [if_pos h, if_pos h]; exact Or.inr ⟨(goodQ_iff _).1 h, rfl, rfl⟩
  · rw [if_neg h, if_neg h]; exact Or.inl ⟨fun k => h ((goodQ_iff _).2 k), rfl, rfl⟩
theorem pzd_lim (s : ByteArray) : (pzd s).natAbs < lim := by
  unfold pzd
  split
  · unfold hz; split
    · assumption
    · decide
  · decide
theorem parse_h (s : ByteArray) (w : World) (hl : s.size ≤ 10000) :
    Calls Tryz.prog 52 #[.string s] w fun e w' => ∃ x a n c, e = .returned (.tuple #[.agg #[.bool x, .slice a n c], .int .i64 (pcd s)]) ∧ AInt w' (.agg #[.bool x, .slice a n c]) (pzd s) ∧ Below w.heap.size w w' := by
  refine (parse_z s w hl).mono ?_
  rintro e w' ⟨x, a, n, c, co, z, rfl, h1, h2, hb⟩
  obtain ⟨e1, e2⟩ := h2.out.same (pr_of s)
  subst e1 e2
  exact ⟨x, a, n, c, rfl, h1, hb⟩
theorem rparse_h (s : ByteArray) (w : World) (hl : s.size ≤ 10000) :
    Calls Tryz.prog 54 #[.string s] w fun e w' => ∃ x a n c, e = .returned (.tuple #[.agg #[.bool x, .slice a n c], .int .i64 (pcd s)]) ∧ RNum w' (.agg #[.bool x, .slice a n c]) (pzd s) 400 ∧ Below w.heap.size w w' := by
  refine (rparse_z s w hl).mono ?_
  rintro e w' ⟨x, a, n, c, co, z, rfl, h1, h2, hb⟩
  obtain ⟨e1, e2⟩ := h2.out.same (pr_of s)
  subst e1 e2
  exact ⟨x, a, n, c, rfl, h1, hb⟩

/-- A value put into a sorted list. -/
def insL {α : Type} (x : Nat × α) : List (Nat × α) → List (Nat × α)
  | [] => [x]
  | y :: r => if x.1 < y.1 then x :: y :: r else y :: insL x r
def setL {α : Type} (l : List (Nat × α)) (v : Nat) (x : α) : List (Nat × α) := insL (v, x) (l.filter fun p => decide (p.1 ≠ v))
/-- The map's datum: each value stands for itself. -/
def mRd (v : Value) : Option (DataW Value × List MemPlace) := some (.held v, [])
def mE (p : Nat × Value) : Lit × DataW Value := (.int .i64 p.1, .held p.2)
def mDt (l : List (Nat × Value)) : DataW Value := .map (l.map mE)
theorem mDt_ins (x : Nat × Value) : ∀ (l : List (Nat × Value)), DataW.insert (mE x) (l.map mE) = (insL x l).map mE
  | [] => rfl
  | y :: r => by
    simp only [List.map_cons, DataW.insert, insL, mE, Lit.before, decide_eq_true_eq, Int.ofNat_lt]
    split
    · rfl
    · rw [List.map_cons]; exact congrArg _ (mDt_ins x r)
theorem mDt_put (l : List (Nat × Value)) (v : Nat) (x : Value) : (mDt l).put (.int .i64 v) (.held x) = mDt (setL l v x) := by
  unfold mDt DataW.put setL
  simp only []
  rw [List.filter_map, ← mDt_ins (v, x)]
  congr 2
  congr 1
  refine List.filter_congr fun p _ => ?_
  simp [mE, Lit.sameKey]
  by_cases h : p.1 = v
  · simp [h]
  · simp [h]; omega
def lookL {α : Type} (l : List (Nat × α)) (v : Nat) (z : α) : α := match l.find? (fun p => decide (p.1 = v)) with | some p => p.2 | none => z
theorem mDt_at (l : List (Nat × Value)) (v : Nat) (z : Value) : (mDt l).atKey (.int .i64 v) (.held z) = .held (lookL l v z) := by
  unfold mDt DataW.atKey lookL
  simp only []
  rw [List.find?_map]
  have e : ((fun p : Lit × DataW Value => p.1.sameKey (.int .i64 v)) ∘ mE) = fun p => decide (p.1 = v) := by
    funext p
    simp [mE, Lit.sameKey]
    omega
  rw [e]
  cases l.find? (fun p => decide (p.1 = v)) <;> rfl
/-- The map's values are the numbers. -/
def MEl (w : World) : List (Nat × Value) → List (Nat × Int) → Prop
  | [], [] => True
  | p :: l, q :: c => p.1 = q.1 ∧ AInt w p.2 q.2 ∧ MEl w l c
  | _, _ => False
theorem MEl.keep {w w' : World} (hk : KeepN w w') : ∀ {l : List (Nat × Value)} {c : List (Nat × Int)}, MEl w l c → MEl w' l c
  | [], [], _ => trivial
  | p :: l, q :: c, h => ⟨h.1, h.2.1.keepN hk, MEl.keep hk h.2.2⟩
  | [], _ :: _, h => h.elim
  | _ :: _, [], h => h.elim
theorem MEl.ins {w : World} {v : Nat} {x : Value} {z : Int} (hx : AInt w x z) : ∀ {l : List (Nat × Value)} {c : List (Nat × Int)}, MEl w l c → MEl w (insL (v, x) l) (insL (v, z) c)
  | [], [], _ => ⟨rfl, hx, trivial⟩
  | p :: l, q :: c, h => by
    unfold insL
    rw [h.1]
    by_cases hlt : v < q.1
    · rw [if_pos hlt, if_pos hlt]; exact ⟨rfl, hx, h⟩
    · rw [if_neg hlt, if_neg hlt]; exact ⟨h.1, h.2.1, MEl.ins hx h.2.2⟩
  | [], _ :: _, h => h.elim
  | _ :: _, [], h => h.elim
theorem MEl.del {w : World} {v : Nat} : ∀ {l : List (Nat × Value)} {c : List (Nat × Int)}, MEl w l c → MEl w (l.filter fun p => decide (p.1 ≠ v)) (c.filter fun p => decide (p.1 ≠ v))
  | [], [], _ => trivial
  | p :: l, q :: c, h => by
    rw [List.filter_cons, List.filter_cons, h.1]
    by_cases hlt : q.1 ≠ v
    · rw [decide_eq_true hlt]; exact ⟨h.1, h.2.1, MEl.del h.2.2⟩
    · rw [decide_eq_false hlt]; exact MEl.del h.2.2
  | [], _ :: _, h => h.elim
  | _ :: _, [], h => h.elim
theorem MEl.set {w : World} {v : Nat} {x : Value} {z : Int} (hx : AInt w x z) {l : List (Nat × Value)} {c : List (Nat × Int)} (h : MEl w l c) : MEl w (setL l v x) (setL c v z) := h.del.ins hx
theorem MEl.look {w : World} {v : Nat} {y : Value} (hy : AInt w y 0) : ∀ {l : List (Nat × Value)} {c : List (Nat × Int)}, MEl w l c → AInt w (lookL l v y) (coef c v)
  | [], [], _ => hy
  | p :: l, q :: c, h => by
    unfold lookL coef
    rw [List.find?_cons, h.1]
    by_cases hv : q.1 = v
    · rw [decide_eq_true hv, if_pos hv]; exact h.2.1
    · rw [decide_eq_false hv, if_neg hv]; exact MEl.look hy h.2.2
  | [], _ :: _, h => h.elim
  | _ :: _, [], h => h.elim
theorem MEl.keys {w : World} : ∀ {l : List (Nat × Value)} {c : List (Nat × Int)}, MEl w l c → l.map (·.1) = c.map (·.1)
  | [], [], _ => rfl
  | p :: l, q :: c, h => by rw [List.map_cons, List.map_cons, h.1, MEl.keys h.2.2]
  | [], _ :: _, h => h.elim
  | _ :: _, [], h => h.elim
theorem insL_mem {α : Type} {x y : Nat × α} : ∀ {l : List (Nat × α)}, y ∈ insL x l ↔ y = x ∨ y ∈ l
  | [] => by simp [insL]
  | z :: r => by
    unfold insL
    split
    · simp
    · rw [List.mem_cons, insL_mem, List.mem_cons]
      constructor
      · rintro (h | h | h) <;> simp [h]
      · rintro (h | h | h) <;> simp [h]
theorem insL_rise {x : Nat × Int} : ∀ {l : List (Nat × Int)}, Rise l → (∀ p ∈ l, p.1 ≠ x.1) → Rise (insL x l)
  | [], _, _ => List.pairwise_singleton _ _
  | y :: r, h, hn => by
    unfold insL
    by_cases hlt : x.1 < y.1
    · rw [if_pos hlt]
      refine List.pairwise_cons.2 ⟨fun q hq => ?_, h⟩
      rcases List.mem_cons.1 hq with rfl | hq
      · exact hlt
      · have := h.head q hq; omega
    · rw [if_neg hlt]
      have hne := hn y (List.mem_cons_self ..)
      refine List.pairwise_cons.2 ⟨fun q hq => ?_, insL_rise h.tail fun p hp => hn p (List.mem_cons_of_mem _ hp)⟩
      rcases insL_mem.1 hq with rfl | hq
      · omega
      · exact h.head q hq
theorem setL_rise {l : List (Nat × Int)} (h : Rise l) (v : Nat) (z : Int) : Rise (setL l v z) :=
  insL_rise (List.Pairwise.filter _ h) fun p hp => by have := (List.mem_filter.1 hp).2; simpa using this
theorem setL_mem {l : List (Nat × Int)} {v : Nat} {z : Int} {p : Nat × Int} (h : p ∈ setL l v z) : p = (v, z) ∨ p ∈ l := by
  rcases insL_mem.1 h with h | h
  · exact Or.inl h
  · exact Or.inr (List.mem_filter.1 h).1
/-- A map that the call has made. -/
def MapR (w : World) (b n : Nat) (l : List (Nat × Value)) : Prop := w.ownsMap Tryz.prog 3 mRd b n (mDt l)
theorem Tryz.keyed_int : Keyed Tryz.prog 3 := int_keyed Tryz.underlying3
theorem Tryz.und_map : Tryz.prog.underlying 130 = some (.map 3 31) := by kernel_rfl
theorem Tryz.zero_int (w : World) : (zeroValue 31).run Tryz.prog w = .ok (.agg #[.bool false, .slice none 0 0]) w := by kernel_rfl
theorem keyOf_var (v : Nat) (h : v < 4096) : keyOf Tryz.prog 3 (.int .i64 v) = some (.int .i64 v) := keyOf_int_mk Tryz.underlying3 (by simp [Lit.wf, IntKind.min, IntKind.max, IntKind.signed, IntKind.bits]; omega)
theorem MapR.below {w w' : World} {b n : Nat} {l : List (Nat × Value)} (h : MapR w b n l) (hb : Below w.heap.size w w') : MapR w' b n l := by
  have hlt := World.ownsMap.lt h
  obtain ⟨es, clock, h1, F, hs, hD⟩ := h
  exact ⟨es, clock, (hb.block b hlt).trans h1, F, hs, hD⟩
/-- What an update of the map leaves. -/
theorem KeepN.map {w w' : World} {b n : Nat} {l : List (Nat × Value)} (h : MapR w b n l) (hg : w.grownBy w' (some b)) : KeepN w w' := by
  obtain ⟨es, clock, h1, F, hs, hD⟩ := h
  refine ⟨fun p x hp => ?_, fun g cs hg' => ?_⟩
  · have hlt := World.block_lt_of_cell? w _ hp
    have hne : p.block ≠ b := fun e => by
      unfold World.cell? at hp
      rw [e, h1] at hp
      simp at hp
    have := hg.block p.block hlt (fun e => hne (Option.some.inj e))
    unfold World.cell? at hp ⊢
    rw [this]
    exact hp
  · have hlt : g < w.heap.size := (Array.getElem?_eq_some_iff.1 hg').1
    rw [hg.block g hlt (fun e => by cases e; rw [h1] at hg'; cases hg')]
    exact hg'
/-- The value by a key, at the operation. -/
theorem wpList_lookup_m (w : World) {ops : Array Oper} {rest : List Oper} {o : Oper} {a : Act} {Q : Exit → Act → World → Prop}
    (hg : o.guard = none) (m x : Operand) (hop : o.op = Op.lookup 130 m x false) (b n : Nat) (l : List (Nat × Value)) (v : Nat)
    (hm : a.eval m = .map (some b)) (hown : MapR w b n l) (hx : a.eval x = .int .i64 v) (hv : v < 4096)
    (hK : wpList Tryz.prog ops Q rest (a.put o.dst (lookL l v (.agg #[.bool false, .slice none 0 0]))) w) : wpList Tryz.prog ops Q (o :: rest) a w := by
  refine wpList_plain hg fun K' hK' => ?_
  obtain ⟨u, ps, hrun, hu⟩ := World.ownsMap.lookup hown Tryz.keyed_int Tryz.und_map (Tryz.zero_int w) (zd := .held (.agg #[.bool false, .slice none 0 0])) (zp := []) rfl (keyOf_var v hv)
  rw [mDt_at] at hu
  unfold mRd at hu
  injection hu with hu
  injection hu with hu1 hu2
  injection hu1 with hu1
  subst hu1
  unfold Oper.wp
  simp [execOp, hop, hm, hx, hrun, Result.andThen]
  exact hK' _ _ hK
theorem wpList_update_m (w : World) {ops : Array Oper} {rest : List Oper} {o : Oper} {a : Act} {Q : Exit → Act → World → Prop}
    (hg : o.guard = none) (m x y : Operand) (hop : o.op = Op.mapUpdate 130 m x y) (b n : Nat) (l : List (Nat × Value)) (v : Nat) (u : Value)
    (hm : a.eval m = .map (some b)) (hown : MapR w b n l) (hn : n < 100000) (hx : a.eval x = .int .i64 v) (hv : v < 4096) (hy : a.eval y = u)
    (hK : ∀ w', MapR w' b (n + 1) (setL l v u) → w.grownBy w' (some b) → wpList Tryz.prog ops Q rest (a.put o.dst undef) w') : wpList Tryz.prog ops Q (o :: rest) a w := by
  refine wpList_mapUpdate_own w hg m x y 130 hop 3 31 Tryz.keyed_int Tryz.und_map mRd b n (mDt l) hm hown (by unfold maxLen; omega) _ u _ hx hy (keyOf_var v hv) (.held u) [] rfl ?_
  intro w' h1 h2
  rw [mDt_put] at h1
  exact hK w' h1 h2
end Go.Proofs.YteefniagebcagaaGreatDoor
/- Contracts of linear's Num, isVar, Var, Rest, IsNum; they prove no statement of the seat. -/
namespace Go.Proofs.YteefniagebcagaaGreatDoor
open Go.RowKit
set_option linter.unusedVariables false

set_option maxHeartbeats 1000000 in
theorem lnum_any (va : Value) (z : Int) (w : World) (ha : AInt w va z) :
    Calls Tryz.prog 53 #[va] w fun e w' => ∃ ao n cap x a m c, e = .returned (.agg #[.slice ao n cap, .bool x, .slice a m c]) ∧ TP w' ao n cap x a m c [] z ∧ Below w.heap.size w w' := by
  obtain ⟨x, a, m, c, rfl⟩ := ha.shape
  go_enter Tryz.func53, Tryz.ntmps53
  go_wp2
  refine bodyPost_ret (v := .agg #[.slice none 0 0, .bool x, .slice a m c]) (by simp [results, Tryz.results53, go_sem]) rfl ?_
  have hb : Below w.heap.size w ((w.alloc (.cells #[.bool x, .slice a m c] 31 (0, 0))).alloc (.cells #[.slice none 0 0, .bool x, .slice a m c] 33 (0, 0))) := by go_grown
  exact ⟨_, _, _, _, _, _, _, rfl, ⟨rfl, Nat.le_refl _, Nat.zero_le _, fun _ => rfl, PArr.nil _ _, ha.below hb, Fine.nil⟩, hb⟩

theorem isVar_any (v : Int) (w : World) :
    Calls Tryz.prog 72 #[.int .i64 v] w fun e w' => e = .returned (.bool (decide (0 ≤ v ∧ v < 4096))) ∧ w' = w := by
  by_cases h0 : 0 ≤ v
  · by_cases h1 : v < 4096
    · go_enter Tryz.func72, Tryz.ntmps72
      go_wp2
      go_ret
      simp [h0, h1]
    · go_enter Tryz.func72, Tryz.ntmps72
      go_wp2
      go_ret
      simp [h1]
  · go_enter Tryz.func72, Tryz.ntmps72
    go_wp2
    go_ret
    rw [decide_eq_false (fun h => by omega)]
    simp

theorem lrest_any (v : Value) (ps : List (Nat × Int)) (r : Int) (w : World) (hv : TermR w v ps r) :
    Calls Tryz.prog 30 #[v] w fun e w' => ∃ x a m c, e = .returned (.agg #[.bool x, .slice a m c]) ∧ AInt w' (.agg #[.bool x, .slice a m c]) r ∧ Below w.heap.size w w' := by
  obtain ⟨ao, n, cap, x, a, m, c, rfl, h⟩ := hv
  go_enter Tryz.func30, Tryz.ntmps30
  go_wp2
  refine bodyPost_ret (v := .agg #[.bool x, .slice a m c]) (by simp [results, Tryz.results30, go_sem]) rfl ?_
  have hb : Below w.heap.size w ((w.alloc (.cells #[.slice ao n cap, .bool x, .slice a m c] 33 (0, 0))).alloc (.cells #[.bool x, .slice a m c] 31 (0, 0))) := by go_grown
  exact ⟨_, _, _, _, rfl, h.rest.below hb, hb⟩

theorem isNum_any (v : Value) (ps : List (Nat × Int)) (r : Int) (w : World) (hv : TermR w v ps r) :
    Calls Tryz.prog 29 #[v] w fun e w' => e = .returned (.bool (decide (ps = []))) ∧ Below w.heap.size w w' := by
  obtain ⟨ao, n, cap, x, a, m, c, rfl, h⟩ := hv
  have hE : decide (ps = []) = ((n : Int) == 0) := by
    rw [← h.len]
    cases ps with
    | nil => rfl
    | cons p r => simp; omega
  have HE : Hid (decide (ps = []) = ((n : Int) == 0)) := hE
  clear hE
  go_enter Tryz.func29, Tryz.ntmps29
  go_wp2
  go_ret
  rw [HE.out]
  exact ⟨rfl, by go_grown⟩

theorem from_h (n : Int) (w : World) (h1 : -9223372036854775808 ≤ n) (h2 : n ≤ 9223372036854775807) :
    Calls Tryz.prog 73 #[.int .i64 n] w fun e w' => ∃ x a m c, e = .returned (.agg #[.bool x, .slice a m c]) ∧ AInt w' (.agg #[.bool x, .slice a m c]) n ∧ Below w.heap.size w w' := by
  refine (from_any n w h1 h2).mono ?_
  rintro e w' ⟨v, rfl, h, hb⟩
  obtain ⟨x, a, m, c, rfl⟩ := h.shape
  exact ⟨x, a, m, c, rfl, h, hb⟩

theorem one_lt_lim : (1 : Int).natAbs < lim := by have := word_lim; simp; omega
set_option maxHeartbeats 2000000 in
theorem lvar_any (v : Int) (w : World) :
    Calls Tryz.prog 27 #[.int .i64 v] w fun e w' => ∃ ao n cap x a m c ps, e = .returned (.tuple #[.agg #[.slice ao n cap, .bool x, .slice a m c], .int .i64 (if 0 ≤ v ∧ v < 4096 then 0 else 30)]) ∧
      TP w' ao n cap x a m c ps 0 ∧ ps = (if 0 ≤ v ∧ v < 4096 then [(v.toNat, 1)] else []) ∧ Below w.heap.size w w' := by
  have oR := Blk.new w 33 #[.slice none 0 0, .bool false, .slice none 0 0]
  have hbw := below_new w (.cells #[.slice none 0 0, .bool false, .slice none 0 0] 33 (0, 0))
  by_cases hv : 0 ≤ v ∧ v < 4096
  · have hd : decide (0 ≤ v ∧ v < 4096) = true := decide_eq_true hv
    have HV : Hid (0 ≤ v ∧ v < 4096) := hv
    rw [if_pos hv, if_pos hv]
    clear hv
    go_enter Tryz.func27, Tryz.ntmps27
    go_wp2_with fail
    refine (isVar_any v _).mono ?_
    rintro e w1 ⟨rfl, rfl⟩
    go_wp2_with fail
    refine (from_h 1 _ (by decide) (by decide)).mono ?_
    rintro e w1 ⟨x, a, m, c, rfl, h1, hb⟩
    replace oR := oR.stay hb
    replace hbw := hbw.step hb (Nat.le_refl _)
    obtain ⟨r0, r1, r2⟩ := oR.three
    obtain ⟨f0, f1, f2⟩ := oR.frozen3
    have ltR := oR.lt
    go_wp2
    refine bodyPost_ret (v := .tuple #[.agg #[.slice (some ⟨w1.heap.size, 0, none⟩) 1 1, .bool false, .slice none 0 0], .int .i64 0]) (by simp [results, Tryz.results27, go_sem, ltR, r0, r1, r2]) rfl ?_
    obtain ⟨K1, B1, _⟩ := resT (by decide) (by decide) oR hbw (Nat.le_refl _) (some ⟨w1.heap.size, 0, none⟩) 1 1 false none 0 0
    have hn := below_new (((w1.setCell ⟨w.heap.size, 0, none⟩ (.slice (some ⟨w1.heap.size, 0, none⟩) 1 1)).setCell ⟨w.heap.size, 1, none⟩ (.bool false)).setCell ⟨w.heap.size, 2, none⟩ (.slice none 0 0)) (.cells #[.int .i64 v, .bool x, .slice a m c] 116 (0, 0))
    have hnew := Blk.new (((w1.setCell ⟨w.heap.size, 0, none⟩ (.slice (some ⟨w1.heap.size, 0, none⟩) 1 1)).setCell ⟨w.heap.size, 1, none⟩ (.bool false)).setCell ⟨w.heap.size, 2, none⟩ (.slice none 0 0)) 116 #[.int .i64 v, .bool x, .slice a m c]
    simp only [World.size_setCell] at hnew
    have hvv := HV.out
    refine ⟨_, _, _, _, _, _, _, _, rfl, ⟨rfl, Nat.le_refl _, by unfold maxLen; decide, (fun h => by cases h), Or.inr ⟨_, 0, _, rfl, hnew, fun i hi => ?_⟩, AInt.zero _, ?_⟩, rfl, B1.step hn (Nat.le_refl _)⟩
    · have : i = 0 := by simpa using hi
      subst this
      refine ⟨x, a, m, c, ?_, rfl, rfl, (h1.keepP K1).below hn⟩
      simp
      omega
    · refine ⟨List.pairwise_singleton _ _, fun p hp => ?_⟩
      obtain rfl : p = (v.toNat, 1) := by simpa using hp
      exact ⟨by simp, one_lt_lim, by simp; omega⟩
  · have hd : decide (0 ≤ v ∧ v < 4096) = false := decide_eq_false hv
    rw [if_neg hv, if_neg hv]
    clear hv
    go_enter Tryz.func27, Tryz.ntmps27
    go_wp2_with fail
    refine (isVar_any v _).mono ?_
    rintro e w1 ⟨rfl, rfl⟩
    go_wp2
    refine bodyPost_ret (v := .tuple #[.agg #[.slice none 0 0, .bool false, .slice none 0 0], .int .i64 30]) (by simp [results, Tryz.results27, go_sem]) rfl ?_
    exact ⟨_, _, _, _, _, _, _, _, rfl, TP.zero _, rfl, hbw⟩
end Go.Proofs.YteefniagebcagaaGreatDoor
/- Contract of linear's gathered; they prove no statement of the seat. -/
namespace Go.Proofs.YteefniagebcagaaGreatDoor
open Go.RowKit
set_option linter.unusedVariables false

/-- Plain parts in a row. -/
def MArr (w : World) (ao : Option Addr) (ms : List (Int × ByteArray)) : Prop :=
  ms = [] ∨ ∃ (g o : Nat), ao = some ⟨g, o, none⟩ ∧ ∀ i, i < ms.length → w.cell? ⟨g, o + i * 2, none⟩ = some (.int .i64 (ms.getD i (0, ⟨#[]⟩)).1) ∧ w.cell? ⟨g, o + i * 2 + 1, none⟩ = some (.string (ms.getD i (0, ⟨#[]⟩)).2)
theorem MArr.below {w w' : World} {ao : Option Addr} {ms : List (Int × ByteArray)} (h : MArr w ao ms) (hb : Below w.heap.size w w') : MArr w' ao ms := by
  rcases h with h | ⟨g, o, h1, h2⟩
  · exact Or.inl h
  · refine Or.inr ⟨g, o, h1, fun i hi => ?_⟩
    obtain ⟨k1, k2⟩ := h2 i hi
    exact ⟨(hb.cell (World.block_lt_of_cell? w _ k1)).trans k1, (hb.cell (World.block_lt_of_cell? w _ k2)).trans k2⟩
theorem MArr.at {w : World} {ao : Option Addr} {ms : List (Int × ByteArray)} (h : MArr w ao ms) (i : Nat) (hi : i < ms.length) : ∃ g o, ao = some ⟨g, o, none⟩ ∧ w.cell? ⟨g, o + i * 2, none⟩ = some (.int .i64 (ms.getD i (0, ⟨#[]⟩)).1) ∧ w.cell? ⟨g, o + i * 2 + 1, none⟩ = some (.string (ms.getD i (0, ⟨#[]⟩)).2) := by
  rcases h with h | ⟨g, o, h1, h2⟩
  · rw [h] at hi; simp at hi
  · exact ⟨g, o, h1, h2 i hi⟩
theorem MEl.below {w w' : World} {l : List (Nat × Value)} {c : List (Nat × Int)} (h : MEl w l c) (hb : Below w.heap.size w w') : MEl w' l c := h.keep (KeepN.below hb)
theorem isVar_h (v : Int) (w : World) : Calls Tryz.prog 72 #[.int .i64 v] w fun e w' => e = .returned (.bool (decide (0 ≤ v ∧ v < 4096))) ∧ Below w.heap.size w w' := by
  refine (isVar_any v w).mono ?_
  rintro e w' ⟨rfl, rfl⟩
  exact ⟨rfl, Below.refl _ _⟩
/-- What the parts come to: the code, the coefficients. -/
def gth : List (Int × ByteArray) → List (Nat × Int) → Int × List (Nat × Int)
  | [], cs => (0, cs)
  | m :: r, cs => if ¬ (0 ≤ m.1 ∧ m.1 < 4096) then (30, []) else if pcd m.2 ≠ 0 then (pcd m.2, []) else if ¬ (coef cs m.1.toNat + pzd m.2).natAbs < lim then (11, []) else gth r (setL cs m.1.toNat (coef cs m.1.toNat + pzd m.2))
theorem gth_step {ms : List (Int × ByteArray)} {k : Nat} (hk : k < ms.length) {v : Int} {S : ByteArray} (hp : ms.getD k (0, ⟨#[]⟩) = (v, S)) (cs : List (Nat × Int)) : gth (ms.drop k) cs = if ¬ (0 ≤ v ∧ v < 4096) then (30, []) else if pcd S ≠ 0 then (pcd S, []) else if ¬ (coef cs v.toNat + pzd S).natAbs < lim then (11, []) else gth (ms.drop (k + 1)) (setL cs v.toNat (coef cs v.toNat + pzd S)) := by
  rw [List.getD_eq_getElem?_getD, List.getElem?_eq_getElem hk] at hp
  simp at hp
  rw [List.drop_eq_getElem_cons hk, hp, gth]

set_option maxRecDepth 20000 in
set_option maxHeartbeats 8000000 in
theorem gathered_any (ao : Option Addr) (n cap : Nat) (ms : List (Int × ByteArray)) (w : World) (hm : MArr w ao ms) (hl : ms.length = n) (hn : n ≤ 4096) (hs : ∀ p ∈ ms, p.2.size ≤ 10000) :
    Calls Tryz.prog 78 #[.slice ao n cap] w fun e w' => ∃ mv c, e = .returned (.tuple #[mv, .int .i64 c]) ∧ c = (gth ms []).1 ∧ (c = 0 → ∃ b l, mv = .map (some b) ∧ w.heap.size ≤ b ∧ MapR w' b ms.length l ∧ MEl w' l (gth ms []).2) ∧ Below w.heap.size w w' := by
  have HM : Hid (MArr w ao ms) := hm
  have HLN : Hid (ms.length = n) := hl
  have HS : Hid (∀ p ∈ ms, p.2.size ≤ 10000) := hs
  clear hm hl hs
  have hmm := @run_makeMap Tryz.prog
  have hbw := Below.refl w.heap.size w
  go_enter Tryz.func78, Tryz.ntmps78
  go_wp2
  go_loopw [13] (fun i wl => ∃ (k : Nat) (l : List (Nat × Value)) (cs : List (Nat × Int)), k ≤ n ∧ i = .int .i64 k ∧ MapR wl w.heap.size k l ∧ MEl wl l cs ∧ Hid (gth ms [] = gth (ms.drop k) cs) ∧ Below w.heap.size w wl) (fun i _ => n - (intOf i).toNat)
  case atStart => exact ⟨0, [], [], Nat.zero_le _, rfl, World.ownsMap_made _ _ _ _, trivial, rfl, hbw.alloc (Nat.le_refl _) _⟩
  case round =>
    rename World => wl
    clear hbw hmm
    obtain ⟨k, l, cs, hk, hi9, hL, hMl, HI, hbw⟩ := hrel
    subst hi9
    by_cases h0 : k < n
    · obtain ⟨gE, oE, had, k1, k2⟩ := HM.out.at k (by rw [HLN.out]; exact h0)
      subst had
      obtain ⟨v, hpv⟩ : ∃ x9, x9 = (ms.getD k (0, ⟨#[]⟩)).1 := ⟨_, rfl⟩
      obtain ⟨S, hps⟩ : ∃ x9, x9 = (ms.getD k (0, ⟨#[]⟩)).2 := ⟨_, rfl⟩
      rw [← hpv] at k1
      rw [← hps] at k2
      have HPV : Hid (ms.getD k (0, ⟨#[]⟩) = (v, S)) := by show _ = _; rw [hpv, hps]
      clear hpv hps
      have A0 := (hbw.cell (p := ⟨gE, oE + k * 2, none⟩) (World.block_lt_of_cell? w _ k1)).trans k1
      have A1 := (hbw.cell (p := ⟨gE, oE + k * 2 + 1, none⟩) (World.block_lt_of_cell? w _ k2)).trans k2
      clear k1 k2
      have HST : Hid (gth ms [] = _) := HI.out.trans (gth_step (by rw [HLN.out]; exact h0) HPV.out cs)
      have HSS : Hid (S.size ≤ 10000) := by
        have e9 := HPV.out
        rw [List.getD_eq_getElem?_getD, List.getElem?_eq_getElem (by rw [HLN.out]; exact h0)] at e9
        simp at e9
        have := HS.out _ (List.getElem_mem (by rw [HLN.out]; exact h0))
        rw [e9] at this
        exact this
      have hn := below_new wl (.cells #[.int .i64 v, .string S] 103 (0, 0))
      have oP := Blk.new wl 103 #[.int .i64 v, .string S]
      have lwP : w.heap.size ≤ wl.heap.size := by have := hbw.size; (try simp at this); omega
      replace hL := hL.below hn
      replace hMl := hMl.below hn
      replace hbw := hbw.step hn (Nat.le_refl _)
      clear hn
      have ltP := oP.lt
      obtain ⟨Pc0, Pc1, Pk0, Pk1⟩ := oP.two
      go_wp2_with fail
      refine (isVar_h v _).mono ?_
      rintro e w1 ⟨rfl, hb⟩
      clear Pc0 Pc1 Pk0 Pk1
      replace oP := oP.stay hb
      replace ltP := oP.lt
      replace hL := hL.below hb
      replace hMl := hMl.below hb
      replace hbw := hbw.step hb (Nat.le_refl _)
      clear hb
      clear A0 A1
      by_cases hv : 0 ≤ v ∧ v < 4096
      · obtain ⟨pv, rfl⟩ : ∃ pv : Nat, v = pv := ⟨v.toNat, by omega⟩
        have hv4 : ((pv : Nat) : Int) < 4096 := hv.2
        have hv3 : pv < 4096 := by omega
        have HV : Hid ((0 : Int) ≤ (pv : Nat) ∧ ((pv : Nat) : Int) < 4096) := hv
        clear hv
        obtain ⟨Pc0, Pc1, Pk0, Pk1⟩ := oP.two
        go_wp2_with fail
        refine (parse_h S _ HSS.out).mono ?_
        rintro e w2 ⟨xC, aC, nC, cC, rfl, hC, hb⟩
        clear Pc0 Pc1 Pk0 Pk1
        replace oP := oP.stay hb
        replace ltP := oP.lt
        replace hL := hL.below hb
        replace hMl := hMl.below hb
        replace hbw := hbw.step hb (Nat.le_refl _)
        clear hb
        have hn := below_new w2 (.cells #[.bool xC, .slice aC nC cC] 31 (0, 0))
        have oC := Blk.new w2 31 #[.bool xC, .slice aC nC cC]
        have nePC : wl.heap.size ≠ w2.heap.size := by have := ltP; (try simp at this); omega
        have lwC : w.heap.size ≤ w2.heap.size := by have := hbw.size; (try simp at this); omega
        replace oP := oP.stay hn
        replace ltP := oP.lt
        replace hL := hL.below hn
        replace hMl := hMl.below hn
        replace hC := hC.below hn
        replace hbw := hbw.step hn (Nat.le_refl _)
        clear hn
        have ltC := oC.lt
        by_cases hc : pcd S = 0
        · have HC : Hid (pcd S = 0) := hc
          have hc2 : (pcd S != 0) = false := by rw [hc]; rfl
          clear hc
          obtain ⟨Pc0, Pc1, Pk0, Pk1⟩ := oP.two
          obtain ⟨Cc0, Cc1, Ck0, Ck1⟩ := oC.two
          go_wp2_with (at_lookup; refine wpList_lookup_m _ rfl _ _ rfl w.heap.size k l pv rfl hL rfl hv3 ?_)
          refine (add_h _ _ (coef cs pv) (pzd S) _ (hMl.look (AInt.zero _)) hC).mono ?_
          rintro e w3 ⟨xD, aD, nD, cD, rfl, hD, hb⟩
          clear Pc0 Pc1 Pk0 Pk1
          clear Cc0 Cc1 Ck0 Ck1
          replace oP := oP.stay hb
          replace ltP := oP.lt
          replace oC := oC.stay hb
          replace ltC := oC.lt
          replace hL := hL.below hb
          replace hMl := hMl.below hb
          replace hC := hC.below hb
          replace hbw := hbw.step hb (Nat.le_refl _)
          clear hb
          have hn := below_new w3 (.cells #[.bool xD, .slice aD nD cD] 31 (0, 0))
          have oD := Blk.new w3 31 #[.bool xD, .slice aD nD cD]
          have nePD : wl.heap.size ≠ w3.heap.size := by have := ltP; (try simp at this); omega
          have neCD : w2.heap.size ≠ w3.heap.size := by have := ltC; (try simp at this); omega
          have lwD : w.heap.size ≤ w3.heap.size := by have := hbw.size; (try simp at this); omega
          replace oP := oP.stay hn
          replace ltP := oP.lt
          replace oC := oC.stay hn
          replace ltC := oC.lt
          replace hL := hL.below hn
          replace hMl := hMl.below hn
          replace hC := hC.below hn
          replace hD := hD.below hn
          replace hbw := hbw.step hn (Nat.le_refl _)
          clear hn
          have ltD := oD.lt
          by_cases hbig : (coef cs pv + pzd S).natAbs < lim
          · have E1 : ec (coef cs pv + pzd S) = 0 := if_pos hbig
            rw [hz_of hbig] at hD
            have HBG : Hid ((coef cs pv + pzd S).natAbs < lim) := hbig
            clear hbig
            obtain ⟨Pc0, Pc1, Pk0, Pk1⟩ := oP.two
            obtain ⟨Dc0, Dc1, Dk0, Dk1⟩ := oD.two
            go_wp2_with (at_mapUpdate; refine wpList_update_m _ rfl _ _ _ rfl w.heap.size k l pv _ rfl hL (by omega) rfl hv3 rfl ?_; intro w9 hL9 hg9)
            have hK9 := KeepN.map hL hg9
            go_roundw
            case rel =>
              refine ⟨k + 1, _, _, by omega, by go_num, hL9, (hMl.keep hK9).set (hD.keepN hK9), ?_, hbw.grown hg9 hbw.size (fun j hj => by cases hj; exact Nat.le_refl _)⟩
              have h9 := HST.out
              rw [if_neg (not_not_intro HV.out), if_neg (not_not_intro HC.out), if_neg (not_not_intro (by simpa using HBG.out))] at h9
              exact h9
            case measure => simp [intOf]; omega
          · have E1 : ec (coef cs pv + pzd S) = 11 := if_neg hbig
            have HBG : Hid (¬ (coef cs pv + pzd S).natAbs < lim) := hbig
            clear hbig
            go_wp2
            go_ret2
            have h9 := HST.out
            rw [if_neg (not_not_intro HV.out), if_neg (not_not_intro HC.out), if_pos (by simpa using HBG.out)] at h9
            rw [h9]
            exact ⟨_, _, rfl, rfl, (fun h => by cases h), hbw⟩
        · have HC : Hid (pcd S ≠ 0) := hc
          have hc2 : (pcd S != 0) = true := by rw [bne_iff_ne]; exact hc
          clear hc
          go_wp2
          go_ret2
          have h9 := HST.out
          rw [if_neg (not_not_intro HV.out), if_pos HC.out] at h9
          rw [h9]
          exact ⟨_, _, rfl, rfl, (fun h => absurd h HC.out), hbw⟩
      · have hv2 : decide ((0 : Int) ≤ v ∧ v < 4096) = false := decide_eq_false hv
        have HV : Hid (¬ ((0 : Int) ≤ v ∧ v < 4096)) := hv
        clear hv
        go_wp2
        go_ret2
        have h9 := HST.out
        rw [if_pos HV.out] at h9
        rw [h9]
        exact ⟨_, _, rfl, rfl, (fun h => by cases h), hbw⟩
    · have hkq : k = n := by omega
      subst hkq
      have HE : Hid (gth ms [] = (0, cs)) := by
        have h9 := HI.out
        rw [List.drop_eq_nil_of_le (by rw [HLN.out]; exact Nat.le_refl _)] at h9
        exact h9
      go_wp2
      go_ret2
      rw [HE.out]
      exact ⟨_, _, rfl, rfl, fun _ => ⟨_, _, rfl, Nat.le_refl _, by rw [HLN.out]; exact hL, hMl⟩, hbw⟩

end Go.Proofs.YteefniagebcagaaGreatDoor
