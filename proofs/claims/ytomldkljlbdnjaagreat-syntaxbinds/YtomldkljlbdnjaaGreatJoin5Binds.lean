/- Joined: SynR, SynS, SynT, SynU: words and contracts; no statement of the seat is proved here. -/
import Derived.Test.YtomldkljlbdnjaaGreatJoin3Binds
import Derived.Test.YtomldkljlbdnjaaGreatJoin4Binds
/- The reader of package syntax: what it holds, and what stands next. No statement of the seat is proved here. -/
namespace Go.Proofs.YtomldkljlbdnjaaGreat
open Go.RowKit
set_option linter.unusedVariables false
set_option linter.unusedSimpArgs false
namespace Syn
open Euf (OL App Stop)
open Lex (T TL tx bs tkC)

/-- A token as a value. -/
def TV (t : T) : Value := .agg #[.int .i64 (t.k : Int), .string (tx t.x), .int .i64 (t.a : Int)]
/-- The token at a place; one without a text at the end. -/
def nx (ts : List T) (en i : Nat) : T := ts.getD i ⟨0, [], en⟩
/-- A reader at g: its tokens, the text's end, how many are taken, how deep it is. -/
structure RD (w : World) (g : Nat) (v : Value) (ts : List T) (en i dp : Nat) : Prop where
  blk : Blk 66 w g #[v, .int .i64 (en : Int), .int .i64 (i : Int), .int .i64 (dp : Int)]
  list : TL w v ts
  ne : v.ownBlock ≠ some g
  few : ts.length ≤ 65536
  ahead : i ≤ 100000
section
variable {w w' : World} {g : Nat} {v : Value} {ts : List T} {en i dp : Nat}
theorem RD.c0 (h : RD w g v ts en i dp) : w.cell? ⟨g, 0, none⟩ = some v := h.blk.cell 0
theorem RD.c1 (h : RD w g v ts en i dp) : w.cell? ⟨g, 1, none⟩ = some (.int .i64 (en : Int)) := h.blk.cell 1
theorem RD.c2 (h : RD w g v ts en i dp) : w.cell? ⟨g, 2, none⟩ = some (.int .i64 (i : Int)) := h.blk.cell 2
theorem RD.c3 (h : RD w g v ts en i dp) : w.cell? ⟨g, 3, none⟩ = some (.int .i64 (dp : Int)) := h.blk.cell 3
theorem RD.lt (h : RD w g v ts en i dp) : g < w.heap.size := h.blk.lt
theorem RD.below (h : RD w g v ts en i dp) (hb : Below w.heap.size w w') : RD w' g v ts en i dp :=
  ⟨h.blk.stay hb, h.list.stay fun b k => hb.block b (h.list.lt k), h.ne, h.few, h.ahead⟩
/-- One more is taken. -/
theorem RD.taken (h : RD w g v ts en i dp) (j : Nat) (hj : j ≤ 100000) : RD (w.setCell ⟨g, 2, none⟩ (.int .i64 (j : Int))) g v ts en j dp :=
  ⟨h.blk.set 2 _, h.list.stay fun b k => heap_setCell_other w _ b _ (fun e => h.ne ((show b = g from e) ▸ k)), h.ne, h.few, hj⟩
theorem RD.deep (h : RD w g v ts en i dp) (j : Nat) : RD (w.setCell ⟨g, 3, none⟩ (.int .i64 (j : Int))) g v ts en i j :=
  ⟨h.blk.set 3 _, h.list.stay fun b k => heap_setCell_other w _ b _ (fun e => h.ne ((show b = g from e) ▸ k)), h.ne, h.few, h.ahead⟩
theorem RD.fresh (h : RD w g v ts en i dp) {a : Addr} (ha : a.block ≠ g) (hv : v.ownBlock ≠ some a.block) (x : Value) : RD (w.setCell a x) g v ts en i dp :=
  ⟨h.blk.other ha x, h.list.stay fun b k => heap_setCell_other w a b x (fun e => hv ((show b = a.block from e) ▸ k)), h.ne, h.few, h.ahead⟩
theorem RD.alloc (h : RD w g v ts en i dp) (o : Obj) : RD (w.alloc o) g v ts en i dp := h.below (by go_grown)
theorem RD.own (h : RD w g v ts en i dp) {n : Nat} (hn : w.heap.size ≤ n) : v.ownBlock ≠ some n := fun k => absurd (h.list.lt k) (by omega)
end
/-- Only the reader's own block and new ones. -/
abbrev MvR (g : Nat) (w w' : World) : Prop := Sat.Mv (fun b => b = g) w w'
set_option maxHeartbeats 1000000 in
theorem ahead_any (g : Nat) (v : Value) (ts : List T) (en i dp k : Nat) (w : World) (h : RD w g v ts en i dp) (hk : k ≤ 100) :
    Calls Tryz.prog 134 #[.pointer (some ⟨g, 0, none⟩), .int .i64 (k : Nat)] w fun e w' => e = .returned (TV (nx ts en (i + k))) ∧ Below w.heap.size w w' := by
  have c0 := h.c0
  have c1 := h.c1
  have c2 := h.c2
  have hlg := h.lt
  have hl := h.list
  have hf := h.few
  have ha := h.ahead
  clear h
  have hik : wrap64 ((i : Int) + (k : Int)) = ((i + k : Nat) : Int) := by
    unfold wrap64; omega
  by_cases hlt : i + k < ts.length
  · have hltI : ((i + k : Nat) : Int) < (ts.length : Int) := by omega
    have hz : ¬ ((i + k : Nat) : Int) < 0 := by omega
    rcases hl with ⟨-, h0⟩ | ⟨b, cap, cur, rfl, hb, h1, h2, h3, h4⟩
    · exact absurd hlt (by omega)
    have hl : TL w (.slice (some ⟨b, 0, none⟩) ts.length cap) ts := Or.inr ⟨b, cap, cur, rfl, hb, h1, h2, h3, h4⟩
    have q0 := OL.cell hl hlt (j := 0) (by decide)
    have q1 := OL.cell hl hlt (j := 1) (by decide)
    have q2 := OL.cell hl hlt (j := 2) (by decide)
    have hnx : nx ts en (i + k) = ts.getD (i + k) ⟨0, [], 0⟩ := by unfold nx; simp [hlt]
    rw [hnx]
    simp only [tkC, Lex.tv] at q0 q1 q2
    generalize ts.getD (i + k) ⟨0, [], 0⟩ = t at q0 q1 q2 ⊢
    have hlb := OL.lt hl (b := b) rfl
    replace q0 : w.cell? ⟨b, (i + k) * 3, none⟩ = some (.int .i64 t.k) := q0
    replace q1 : w.cell? ⟨b, (i + k) * 3 + 1, none⟩ = some (.string (tx t.x)) := q1
    replace q2 : w.cell? ⟨b, (i + k) * 3 + 2, none⟩ = some (.int .i64 t.a) := q2
    clear hnx hb h1 h2 h3 h4 hl
    go_enter Tryz.func134, Tryz.ntmps134
    go_wp2
    refine bodyPost_ret (v := TV t) (by simp [results, Tryz.results134, go_sem, TV, tx]) rfl ?_
    exact ⟨rfl, by go_grown⟩
  · have hltI : ¬ ((i + k : Nat) : Int) < (ts.length : Int) := by omega
    have hnx : nx ts en (i + k) = ⟨0, [], en⟩ := by unfold nx; simp [List.getD_eq_getElem?_getD, List.getElem?_eq_none (Nat.le_of_not_lt hlt)]
    rw [hnx]
    obtain ⟨q, cap, rfl⟩ : ∃ q cap, v = .slice q ts.length cap := by
      rcases hl with ⟨rfl, h0⟩ | ⟨b, cap, cur, rfl, -⟩
      · exact ⟨none, 0, by rw [h0]⟩
      · exact ⟨_, _, rfl⟩
    clear hl hnx
    go_enter Tryz.func134, Tryz.ntmps134
    go_wp2
    refine bodyPost_ret (v := TV ⟨0, [], en⟩) (by simp [results, Tryz.results134, go_sem, TV, tx]) rfl ?_
    exact ⟨rfl, by go_grown⟩
set_option maxHeartbeats 1000000 in
theorem next_any (g : Nat) (v : Value) (ts : List T) (en i dp : Nat) (w : World) (h : RD w g v ts en i dp) :
    Calls Tryz.prog 108 #[.pointer (some ⟨g, 0, none⟩)] w fun e w' => e = .returned (TV (nx ts en i)) ∧ Below w.heap.size w w' := by
  have HA : Hid (∀ w', Below w.heap.size w w' → Calls Tryz.prog 134 #[.pointer (some ⟨g, 0, none⟩), .int .i64 0] w' fun e w'' => e = .returned (TV (nx ts en i)) ∧ Below w'.heap.size w' w'') :=
    fun w' hb => ahead_any g v ts en i dp 0 w' (h.below hb) (by omega)
  have hlg := h.lt
  generalize nx ts en i = t at HA ⊢
  clear h
  go_enter Tryz.func108, Tryz.ntmps108
  go_wp2_with (go_at_call 134; refine (HA.out _ (by go_grown)).mono ?_; rintro e w1 ⟨rfl, hb⟩; have hb0 := (show Below w.heap.size w (w.alloc (.cells #[.int .i64 0, .string ByteArray.empty, .int .i64 0] 43 (0, 0))) by go_grown).step hb (by simp); have B := (Blk.new w 43 #[.int .i64 0, .string ByteArray.empty, .int .i64 0]).stay hb; have r0 := B.cell 0; have r1 := B.cell 1; have r2 := B.cell 2; have q0 := B.frozen 0; have q1 := B.frozen 1; have q2 := B.frozen 2; clear hb B; simp only [TV])
  refine bodyPost_ret (v := TV t) (by simp [results, Tryz.results108, go_sem, TV, r0, r1, r2]) rfl ?_
  exact ⟨rfl, by go_grown⟩
set_option maxHeartbeats 1000000 in
theorem take_any (g : Nat) (v : Value) (ts : List T) (en i dp : Nat) (w : World) (h : RD w g v ts en i dp) (hi : i < 100000) :
    Calls Tryz.prog 137 #[.pointer (some ⟨g, 0, none⟩)] w fun e w' => e = .returned (TV (nx ts en i)) ∧ RD w' g v ts en (i + 1) dp ∧ MvR g w w' := by
  have HA : Hid (∀ w', Below w.heap.size w w' → RD w' g v ts en i dp ∧ Calls Tryz.prog 108 #[.pointer (some ⟨g, 0, none⟩)] w' fun e w'' => e = .returned (TV (nx ts en i)) ∧ Below w'.heap.size w' w'') :=
    fun w' hb => ⟨h.below hb, next_any g v ts en i dp w' (h.below hb)⟩
  have hlg := h.lt
  generalize nx ts en i = t at HA ⊢
  have H : Hid (RD w g v ts en i dp) := h
  clear h
  go_enter Tryz.func137, Tryz.ntmps137
  go_wp2_with (go_at_call 108; refine ((HA.out _ (by go_grown)).2).mono ?_; rintro e w1 ⟨rfl, hb⟩; have hb0 := (show Below w.heap.size w (w.alloc (.cells #[.int .i64 0, .string ByteArray.empty, .int .i64 0] 43 (0, 0))) by go_grown).step hb (by simp); have B := (Blk.new w 43 #[.int .i64 0, .string ByteArray.empty, .int .i64 0]).stay hb; have r0 := B.cell 0; have r1 := B.cell 1; have r2 := B.cell 2; have q0 := B.frozen 0; have q1 := B.frozen 1; have q2 := B.frozen 2; have R1 := (HA.out _ hb0).1; have g2 := R1.c2; have g3 := R1.blk.frozen 2; have hg1 : g < w1.heap.size := R1.lt; have hbl := B.lt; have HR : Hid (RD w1 g v ts en i dp) := R1; clear hb B R1; simp only [TV])
  refine bodyPost_ret (v := TV t) (by simp [results, Tryz.results137, go_sem, TV, hbl, hg1, r0, r1, r2]) rfl ?_
  refine ⟨rfl, ?_, ?_⟩
  · have hn1 : v.ownBlock ≠ some w.heap.size := H.out.own (Nat.le_refl _)
    have hn2 : w.heap.size ≠ g := by omega
    refine RD.alloc (RD.fresh (RD.fresh (RD.fresh (RD.taken HR.out (i + 1) (by omega)) hn2 hn1 _) hn2 hn1 _) hn2 hn1 _) _
  · refine Sat.Mv.alloc (Sat.Mv.set (Sat.Mv.set (Sat.Mv.set (Sat.Mv.set (Sat.Mv.below hb0) ?_ _) ?_ _) ?_ _) ?_ _) _ <;> first | exact Or.inl rfl | exact Or.inr (Nat.le_refl _)
end Syn
end Go.Proofs.YtomldkljlbdnjaaGreat
/- The reader of package syntax: is this next, a fault. No statement of the seat is proved here. -/
namespace Go.Proofs.YtomldkljlbdnjaaGreat
open Go.RowKit
set_option linter.unusedVariables false
set_option linter.unusedSimpArgs false
namespace Syn
open Euf (OL App Stop)
open Lex (T TL tx bs tkC FV hide)

/-- Texts as cells. -/
def stC (L : List (List UInt8)) (i : Nat) : List Value := [.string (tx (L.getD i []))]
theorem field_text (x : ByteArray) (k a : Int) (w : World) : (Instr.field 43 (Value.agg #[.int .i64 k, .string x, .int .i64 a]) 1).run Tryz.prog w = .ok (.string x) w := by kernel_rfl
theorem field_place (x : ByteArray) (k a : Int) (w : World) : (Instr.field 43 (Value.agg #[.int .i64 k, .string x, .int .i64 a]) 2).run Tryz.prog w = .ok (.int .i64 a) w := by kernel_rfl
/-- Are these the next tokens' texts? -/
def Sees (ts : List T) (en i : Nat) (L : List (List UInt8)) : Prop := ∀ j, j < L.length → (nx ts en (i + j)).x = L.getD j []
instance (ts : List T) (en i : Nat) (L : List (List UInt8)) : Decidable (Sees ts en i L) := by unfold Sees; exact inferInstance
set_option maxRecDepth 4000 in
set_option maxHeartbeats 1000000 in
theorem fault_any (g c : Nat) (v : Value) (ts : List T) (en i dp : Nat) (w : World) (h : RD w g v ts en i dp) :
    Calls Tryz.prog 58 #[.pointer (some ⟨g, 0, none⟩), .int .i64 (c : Nat)] w fun e w' => e = .returned (FV c (nx ts en i).a) ∧ Below w.heap.size w w' := by
  have HA : Hid (∀ w', Below w.heap.size w w' → Calls Tryz.prog 108 #[.pointer (some ⟨g, 0, none⟩)] w' fun e w'' => e = .returned (TV (nx ts en i)) ∧ Below w'.heap.size w' w'') :=
    fun w' hb => next_any g v ts en i dp w' (h.below hb)
  have hlg := h.lt
  generalize nx ts en i = t at HA ⊢
  clear h
  go_enter Tryz.func58, Tryz.ntmps58
  go_wp2_with (go_at_call 108; refine (HA.out _ (by go_grown)).mono ?_; rintro e w1 ⟨rfl, hb⟩; have hb0 := (show Below w.heap.size w (w.alloc (.cells #[.int .i64 0, .int .i64 0] 62 (0, 0))) by go_grown).step hb (by simp); have B := (Blk.new w 62 #[.int .i64 0, .int .i64 0]).stay hb; obtain ⟨r0, r1, q0, q1⟩ := B.two; clear hb B; simp only [TV]; have F2 := fun w => field_place (tx t.x) t.k t.a w)
  refine bodyPost_ret (v := FV c t.a) (by simp [results, Tryz.results58, go_sem, FV, r0, r1]) rfl ?_
  exact ⟨rfl, by go_grown⟩
set_option maxRecDepth 4000 in
set_option maxHeartbeats 1000000 in
theorem sees_any (g : Nat) (v : Value) (ts : List T) (en i dp b cap : Nat) (L : List (List UInt8)) (w : World) (h : RD w g v ts en i dp) (hL : OL 1 9 w (.slice (some ⟨b, 0, none⟩) L.length cap) L.length (stC L)) (hs : L.length ≤ 100) :
    Calls Tryz.prog 99 #[.pointer (some ⟨g, 0, none⟩), .slice (some ⟨b, 0, none⟩) L.length cap] w fun e w' => e = .returned (.bool (decide (Sees ts en i L))) ∧ Below w.heap.size w w' := by
  have HA : Hid (∀ w' (k : Nat), Below w.heap.size w w' → k < L.length → Calls Tryz.prog 134 #[.pointer (some ⟨g, 0, none⟩), .int .i64 k] w' fun e w'' => e = .returned (TV (nx ts en (i + k))) ∧ Below w'.heap.size w' w'') :=
    fun w' k hb hk => ahead_any g v ts en i dp k w' (h.below hb) (by omega)
  have HL : Hid (∀ w' (k : Nat), Below w.heap.size w w' → k < L.length → w'.cell? ⟨b, k, none⟩ = some (.string (tx (L.getD k [])))) := fun w' k hb hk => by
    have h1 := OL.cell (hL.stay fun b hb' => hb.block b (hL.lt hb')) hk (j := 0) (by decide)
    simpa [stC] using h1
  have hbl := hL.lt (b := b) rfl
  have HS : Hid (Sees ts en i L ↔ ∀ j, j < L.length → (nx ts en (i + j)).x = L.getD j []) := Iff.rfl
  obtain ⟨n, hn⟩ : ∃ n, n = L.length := ⟨_, rfl⟩
  rw [← hn] at HA HL HS hs ⊢
  have hnI : (n : Int) ≤ 100 := by omega
  have HN : Hid (n = L.length) := hn
  have hlg := h.lt
  clear h hL hn
  go_enter Tryz.func99, Tryz.ntmps99
  go_wp2
  go_loopw [9] (fun v9 wr => ∃ (k : Nat), v9 = .int .i64 (k : Nat) ∧ k ≤ n ∧ Hid (Below w.heap.size w wr ∧ ∀ j, j < k → (nx ts en (i + j)).x = L.getD j [])) (fun v _ => n - (intOf v).toNat)
  case atStart => exact ⟨0, rfl, Nat.zero_le _, Below.refl _ _, fun j hj => absurd hj (Nat.not_lt_zero _)⟩
  case round =>
    rename World => wl
    obtain ⟨k, rfl, hk, H⟩ := hrel
    by_cases hlt : k < n
    · have hltI : (k : Int) < (n : Int) := by omega
      have q0 := HL.out wl k H.out.1 hlt
      have hbw : b < wl.heap.size := Nat.lt_of_lt_of_le hbl H.out.1.size
      have hb0 : Below w.heap.size w wl := H.out.1
      have HK : Hid (∀ j, j < k → (nx ts en (i + j)).x = L.getD j []) := H.out.2
      have HC := hide <| HA.out wl k H.out.1 hlt
      clear H
      obtain ⟨y, hy⟩ : ∃ y, y = L.getD k [] := ⟨_, rfl⟩
      obtain ⟨t, ht⟩ : ∃ t, t = nx ts en (i + k) := ⟨_, rfl⟩
      rw [← hy] at q0
      rw [← ht] at HC
      have HE : Hid (y = L.getD k [] ∧ t = nx ts en (i + k)) := ⟨hy, ht⟩
      clear hy ht
      by_cases he : t.x = y
      · have hek : tx t.x = tx y := by rw [he]
        go_wp2_with fail
        refine (HC.out).mono ?_
        rintro e w1 ⟨rfl, hb⟩
        have hb1 : Below w.heap.size w w1 := hb0.step hb (Nat.le_refl _)
        clear hb
        simp only [TV, hek]
        have F1 := fun w => field_text (tx y) t.k t.a w
        go_wp2
        refine ⟨⟨k + 1, by go_num, by omega, hb1, fun j hj => ?_⟩, by simp [intOf]; omega⟩
        by_cases hjk : j < k
        · exact HK.out j hjk
        · obtain rfl : j = k := by omega
          rw [← HE.out.1, ← HE.out.2]; exact he
      · have hel : ((tx t.x).toList == (tx y).toList) = false := by
          rw [ByteArray.toList_eq, ByteArray.toList_eq]
          simpa [tx] using he
        have hno : ¬ Sees ts en i L := fun s => by
          have s1 := (HS.out.1 s) k hlt
          rw [← HE.out.1, ← HE.out.2] at s1
          exact he s1
        have HNO : Hid (¬ Sees ts en i L) := hno
        clear he hno
        go_wp2_with fail
        refine (HC.out).mono ?_
        rintro e w1 ⟨rfl, hb⟩
        have hb1 : Below w.heap.size w w1 := hb0.step hb (Nat.le_refl _)
        clear hb
        simp only [TV]
        have F1 := fun w => field_text (tx t.x) t.k t.a w
        go_wp2
        go_ret
        exact ⟨congrArg (fun b => Ending.returned (Value.bool b)) (decide_eq_false HNO.out).symm, hb1⟩
    · have hltI : ¬ (k : Int) < (n : Int) := by omega
      have hyes : Sees ts en i L := HS.out.2 fun j hj => H.out.2 j (by omega)
      have HY : Hid (Sees ts en i L) := hyes
      have hb0 : Below w.heap.size w wl := H.out.1
      clear H hyes
      go_wp2
      go_ret
      exact ⟨congrArg (fun b => Ending.returned (Value.bool b)) (decide_eq_true HY.out).symm, hb0⟩
end Syn
end Go.Proofs.YtomldkljlbdnjaaGreat
/- The reader of package syntax: passes. No statement of the seat is proved here. -/
namespace Go.Proofs.YtomldkljlbdnjaaGreat
open Go.RowKit
set_option linter.unusedVariables false
set_option linter.unusedSimpArgs false
namespace Syn
open Euf (OL App Stop)
open Lex (T TL tx bs tkC FV)

theorem sees_one (ts : List T) (en i : Nat) (x : List UInt8) : Sees ts en i [x] ↔ (nx ts en i).x = x :=
  ⟨fun h => by simpa using h 0 (by simp), fun h j hj => by
    obtain rfl : j = 0 := by simp at hj; omega
    simpa using h⟩
set_option maxRecDepth 4000 in
set_option maxHeartbeats 1000000 in
theorem passes_any (g : Nat) (v : Value) (ts : List T) (en i dp : Nat) (x : List UInt8) (w : World) (h : RD w g v ts en i dp) (hi : i < 100000) :
    Calls Tryz.prog 55 #[.pointer (some ⟨g, 0, none⟩), .string (tx x)] w fun e w' => e = .returned (.bool (decide ((nx ts en i).x = x))) ∧ RD w' g v ts en (if (nx ts en i).x = x then i + 1 else i) dp ∧ MvR g w w' := by
  have HA : Hid (∀ w', Below w.heap.size w w' → RD w' g v ts en i dp ∧ (OL 1 9 w' (.slice (some ⟨w.heap.size, 0, none⟩) 1 1) 1 (stC [x]) → Calls Tryz.prog 99 #[.pointer (some ⟨g, 0, none⟩), .slice (some ⟨w.heap.size, 0, none⟩) 1 1] w' fun e w'' => e = .returned (.bool (decide ((nx ts en i).x = x))) ∧ Below w'.heap.size w' w'')) :=
    fun w' hb => ⟨h.below hb, fun hL => (sees_any g v ts en i dp w.heap.size 1 [x] w' (h.below hb) hL (by simp)).mono fun e w'' hh => ⟨by rw [hh.1]; exact congrArg (fun b => Ending.returned (Value.bool b)) (decide_eq_decide.2 (sees_one ts en i x)), hh.2⟩⟩
  have HO : OL 1 9 (w.alloc (.cells #[.string (tx x)] 9 (0, 0))) (.slice (some ⟨w.heap.size, 0, none⟩) 1 1) 1 (stC [x]) := by
    refine Or.inr ⟨w.heap.size, 1, #[.string (tx x)], rfl, heap_alloc_new w _, Nat.le_refl _, by decide, rfl, fun a ha b hb => ?_⟩
    obtain rfl : a = 0 := by omega
    obtain rfl : b = 0 := by omega
    simp [stC]
  have HO' : Hid (OL 1 9 (w.alloc (.cells #[.string (tx x)] 9 (0, 0))) (.slice (some ⟨w.heap.size, 0, none⟩) 1 1) 1 (stC [x])) := HO
  have hb0 : Below w.heap.size w (w.alloc (.cells #[.string (tx x)] 9 (0, 0))) := by go_grown
  have hlg := h.lt
  clear h HO
  by_cases hx : (nx ts en i).x = x
  · rw [if_pos hx]
    rw [decide_eq_true hx] at HA ⊢
    clear hx
    go_enter Tryz.func55, Tryz.ntmps55
    go_wp2_with fail
    refine (((HA.out _ hb0).2) HO'.out).mono ?_
    rintro e w1 ⟨rfl, hb⟩
    have hb1 : Below w.heap.size w w1 := hb0.step hb (by simp)
    have R1 := (HA.out _ hb1).1
    have g2 := R1.c2
    have g3 := R1.blk.frozen 2
    have hg1 : g < w1.heap.size := R1.lt
    have HR : Hid (RD w1 g v ts en i dp) := R1
    clear hb R1 hb0
    go_wp2
    go_ret
    exact ⟨rfl, RD.taken HR.out (i + 1) (by omega), by exact Sat.Mv.set (F := fun b => b = g) (a := ⟨g, 2, none⟩) (Sat.Mv.below hb1) (Or.inl rfl) _⟩
  · rw [if_neg hx]
    rw [decide_eq_false hx] at HA ⊢
    clear hx
    go_enter Tryz.func55, Tryz.ntmps55
    go_wp2_with fail
    refine (((HA.out _ hb0).2) HO'.out).mono ?_
    rintro e w1 ⟨rfl, hb⟩
    have hb1 : Below w.heap.size w w1 := hb0.step hb (by simp)
    have HR : Hid (RD w1 g v ts en i dp) := (HA.out _ hb1).1
    clear hb hb0
    go_wp2
    go_ret
    exact ⟨rfl, HR.out, Sat.Mv.below hb1⟩
end Syn
end Go.Proofs.YtomldkljlbdnjaaGreat
/- The reader of package syntax: want. No statement of the seat is proved here. -/
namespace Go.Proofs.YtomldkljlbdnjaaGreat
open Go.RowKit
set_option linter.unusedVariables false
set_option linter.unusedSimpArgs false
namespace Syn
open Euf (OL App Stop)
open Lex (T TL tx bs tkC FV)
/-- An end by a panic with a fault. -/
def Gives (e : Ending) (c a : Nat) : Prop := e = .panicked [{ v := .iface 62 (FV c a), recovered := false }]
set_option maxRecDepth 4000 in
set_option maxHeartbeats 1000000 in
theorem want_any (g : Nat) (v : Value) (ts : List T) (en i dp : Nat) (x : List UInt8) (w : World) (h : RD w g v ts en i dp) (hi : i < 100000) :
    Calls Tryz.prog 101 #[.pointer (some ⟨g, 0, none⟩), .string (tx x)] w fun e w' => MvR g w w' ∧ (((nx ts en i).x = x ∧ e = .returned (.tuple #[]) ∧ RD w' g v ts en (i + 1) dp) ∨ ((nx ts en i).x ≠ x ∧ Gives e 110 (nx ts en i).a)) := by
  have HP : Hid (Calls Tryz.prog 55 #[.pointer (some ⟨g, 0, none⟩), .string (tx x)] w fun e w' => e = .returned (.bool (decide ((nx ts en i).x = x))) ∧ RD w' g v ts en (if (nx ts en i).x = x then i + 1 else i) dp ∧ MvR g w w') :=
    passes_any g v ts en i dp x w h hi
  have hlg := h.lt
  clear h
  by_cases hx : (nx ts en i).x = x
  · rw [if_pos hx, decide_eq_true hx] at HP
    have HX : Hid ((nx ts en i).x = x) := hx
    clear hx
    go_enter Tryz.func101, Tryz.ntmps101
    go_wp2_with fail
    refine HP.out.mono ?_
    rintro e w1 ⟨rfl, R1, M1⟩
    have HR : Hid (RD w1 g v ts en (i + 1) dp ∧ MvR g w w1) := ⟨R1, M1⟩
    clear R1 M1
    go_wp2
    go_end0
    exact ⟨HR.out.2, Or.inl ⟨HX.out, rfl, HR.out.1⟩⟩
  · rw [if_neg hx, decide_eq_false hx] at HP
    have HX : Hid ((nx ts en i).x ≠ x) := hx
    clear hx
    go_enter Tryz.func101, Tryz.ntmps101
    go_wp2_with fail
    refine HP.out.mono ?_
    rintro e w1 ⟨rfl, R1, M1⟩
    have HR : Hid (RD w1 g v ts en i dp ∧ MvR g w w1) := ⟨R1, M1⟩
    have HF : Hid (Calls Tryz.prog 58 #[.pointer (some ⟨g, 0, none⟩), .int .i64 110] w1 fun e w' => e = .returned (FV 110 (nx ts en i).a) ∧ Below w1.heap.size w1 w') := fault_any g 110 v ts en i dp w1 R1
    clear R1 M1
    go_wp2_with fail
    refine HF.out.mono ?_
    rintro e w2 ⟨rfl, hb⟩
    simp only [FV]
    go_wp2
    refine ⟨rfl, (HR.out.2.trans (Sat.Mv.below hb) (fun b hb' => Or.inl hb') : MvR g w w2), Or.inr ⟨HX.out, rfl⟩⟩
end Syn
end Go.Proofs.YtomldkljlbdnjaaGreat
