/- Joined: SynIbCut, SynXCut, SynZCut, SynYaCut: words and contracts; no statement of the seat is proved here. -/
import Derived.Test.YtomldkljlbdnjaaGreatJoin7Binds
import Derived.Test.YtomldkljlbdnjaaGreatJoin6Binds
import Derived.Deep.Cut
/- The texts of SyntaxBinds: their trees. No statement of the seat is proved here. -/
namespace Go.Proofs.YtomldkljlbdnjaaGreat
set_option linter.unusedVariables false
set_option linter.unusedSimpArgs false
namespace Syn
open Lex (T IsNm)
/-- A text of main with an expression to be printed. -/
def its (l : List It) : List It := [.w ([109, 97, 105, 110] : List UInt8), .b, .s ([123] : List UInt8), .b, .w ([112, 114, 105, 110, 116] : List UInt8), .b] ++ l ++ [.s ([59] : List UInt8), .b, .s ([125] : List UInt8)]
/-- A sign between blanks. -/
def bet (x : List UInt8) : List It := [.b, .s x, .b]
def opn : List It := [.s ([40] : List UInt8)]
def cls : List It := [.s ([41] : List UInt8)]
def nA : List It := [.n 0]
def nB : List It := [.n 1]
def nC : List It := [.n 2]
def prs : List (List It × List It) := [
  (nA ++ bet ([43] : List UInt8) ++ nB ++ bet ([42] : List UInt8) ++ nC, nA ++ bet ([43] : List UInt8) ++ opn ++ nB ++ bet ([42] : List UInt8) ++ nC ++ cls),
  (nA ++ bet ([45] : List UInt8) ++ nB ++ bet ([45] : List UInt8) ++ nC, opn ++ nA ++ bet ([45] : List UInt8) ++ nB ++ cls ++ bet ([45] : List UInt8) ++ nC),
  (nA ++ bet ([43] : List UInt8) ++ nB ++ bet ([60] : List UInt8) ++ nC, opn ++ nA ++ bet ([43] : List UInt8) ++ nB ++ cls ++ bet ([60] : List UInt8) ++ nC),
  (nA ++ bet ([124, 124] : List UInt8) ++ nB ++ bet ([38, 38] : List UInt8) ++ nC, nA ++ bet ([124, 124] : List UInt8) ++ opn ++ nB ++ bet ([38, 38] : List UInt8) ++ nC ++ cls),
  (nA ++ bet ([61, 62] : List UInt8) ++ nB ++ bet ([61, 62] : List UInt8) ++ nC, nA ++ bet ([61, 62] : List UInt8) ++ opn ++ nB ++ bet ([61, 62] : List UInt8) ++ nC ++ cls),
  (nA ++ bet ([61, 62] : List UInt8) ++ nB ++ bet ([124, 124] : List UInt8) ++ nC, nA ++ bet ([61, 62] : List UInt8) ++ opn ++ nB ++ bet ([124, 124] : List UInt8) ++ nC ++ cls),
  ([.s ([33] : List UInt8)] ++ nA ++ bet ([61, 61] : List UInt8) ++ nB, opn ++ [.s ([33] : List UInt8)] ++ nA ++ cls ++ bet ([61, 61] : List UInt8) ++ nB),
  ([.s ([45] : List UInt8)] ++ nA ++ [.s ([46] : List UInt8)] ++ nB ++ bet ([42] : List UInt8) ++ nC, opn ++ [.s ([45] : List UInt8)] ++ opn ++ nA ++ [.s ([46] : List UInt8)] ++ nB ++ cls ++ cls ++ bet ([42] : List UInt8) ++ nC),
  (nA ++ bet ([61, 61] : List UInt8) ++ nB ++ bet ([38, 38] : List UInt8) ++ nC, opn ++ nA ++ bet ([61, 61] : List UInt8) ++ nB ++ cls ++ bet ([38, 38] : List UInt8) ++ nC)]
def lst : List It := nA ++ bet ([60] : List UInt8) ++ nB ++ bet ([60] : List UInt8) ++ nC
theorem prs_chk : prs.all (fun x => chkI (its x.1) && chkI (its x.2)) = true ∧ chkI (its lst) = true := by decide
/-- The tokens of a template, their places their numbers. -/
def tkt (N : Nat → List UInt8) : Nat → List It → List T
  | _, [] => []
  | j, .w x :: r => ⟨1, x, j⟩ :: tkt N (j + 1) r
  | j, .n i :: r => ⟨1, N i, j⟩ :: tkt N (j + 1) r
  | j, .s x :: r => ⟨3, x, j⟩ :: tkt N (j + 1) r
  | j, .b :: r => tkt N j r
/-- The template's names: v where the name is v, else letters of their own. -/
def tn (a b c : Bool) : Nat → List UInt8
  | 0 => if a then ([118] : List UInt8) else ([97] : List UInt8)
  | 1 => if b then ([118] : List UInt8) else ([98] : List UInt8)
  | _ => if c then ([118] : List UInt8) else ([99] : List UInt8)
/-- What a template is read as. -/
def trd (a b c : Bool) (l : List It) : Res := P 100 120 .program 0 (tkt (tn a b c) 0 (its l))
theorem prs_read : ∀ a b c : Bool, ∀ i, i < 9 → ∃ m m' st st', trd a b c (prs.getD i ([], [])).1 = .ok [.l 7 [], .l 2 m] st ∧ trd a b c (prs.getD i ([], [])).2 = .ok [.l 7 [], .l 2 m'] st' ∧ erL m = erL m' ∧ wfL m (sh 2) = true ∧ wfL m' (sh 2) = true := by
  intro a b c i hi
  match i, hi with
  | 0, _ | 1, _ | 2, _ | 3, _ | 4, _ | 5, _ | 6, _ | 7, _ | 8, _ => cases a <;> cases b <;> cases c <;> exact ⟨_, _, _, _, rfl, rfl, rfl, rfl, rfl⟩
theorem lst_read : ∀ a b c : Bool, trd a b c lst = .bad 110 6 := by
  intro a b c
  cases a <;> cases b <;> cases c <;> rfl
end Syn
end Go.Proofs.YtomldkljlbdnjaaGreat
/- The reader by what is left of its tokens; what a call of it comes to. No statement of the seat is proved here. -/
namespace Go.Proofs.YtomldkljlbdnjaaGreat
open Go.RowKit
set_option linter.unusedVariables false
set_option linter.unusedSimpArgs false
namespace Syn
open Euf (OL App Stop)
open Lex (T TL tx bs tkC FV IsNm)

theorem nx_hd (ts : List T) (en i j : Nat) : nx ts en (i + j) = hd en ((ts.drop i).drop j) := by
  unfold nx hd
  rw [List.drop_drop, List.headD_eq_head?_getD, List.head?_drop, List.getD_eq_getElem?_getD]
theorem nx_hd0 (ts : List T) (en i : Nat) : nx ts en i = hd en (ts.drop i) := nx_hd ts en i 0
/-- A reader at g of whose tokens these are left; its own blocks lie below lo. -/
def Q (w : World) (g lo en dp : Nat) (st : List T) : Prop :=
  ∃ v ts i, RD w g v ts en i dp ∧ st = ts.drop i ∧ i ≤ ts.length ∧ (∀ t ∈ ts, t.x.length ≤ 65536) ∧ g < lo ∧ lo ≤ w.heap.size ∧ ∀ b, v.ownBlock = some b → b < lo
section
variable {w w' : World} {g lo en dp : Nat} {st : List T}
theorem Q.gl (h : Q w g lo en dp st) : g < lo := by obtain ⟨v, ts, i, h1, h2, h3, h4, h5, h6, h7⟩ := h; exact h5
theorem Q.lw (h : Q w g lo en dp st) : lo ≤ w.heap.size := by obtain ⟨v, ts, i, h1, h2, h3, h4, h5, h6, h7⟩ := h; exact h6
theorem Q.lt (h : Q w g lo en dp st) : g < w.heap.size := Nat.lt_of_lt_of_le h.gl h.lw
theorem RD.mv {v : Value} {ts : List T} {i : Nat} (h : RD w g v ts en i dp) {G : Nat → Prop} (m : Sat.Mv G w w') (h1 : ¬ G g) (h2 : ∀ b, v.ownBlock = some b → ¬ G b) : RD w' g v ts en i dp :=
  ⟨(m.other g h.lt h1).trans h.blk, h.list.stay fun b k => m.other b (h.list.lt k) (h2 b k), h.ne, h.few, h.ahead⟩
theorem Q.mv (h : Q w g lo en dp st) {G : Nat → Prop} (m : Sat.Mv G w w') (hG : ∀ b, G b → lo ≤ b) : Q w' g lo en dp st := by
  obtain ⟨v, ts, i, h1, h2, h3, h4, h5, h6, h7⟩ := h
  exact ⟨v, ts, i, h1.mv m (fun k => by have := hG g k; omega) (fun b k kg => by have := hG b kg; have := h7 b k; omega), h2, h3, h4, h5, Nat.le_trans h6 m.size, h7⟩
theorem Q.below (h : Q w g lo en dp st) (hb : Below w.heap.size w w') : Q w' g lo en dp st :=
  h.mv (Sat.Mv.below (F := fun _ => False) hb) (fun b k => k.elim)
theorem Q.alloc (h : Q w g lo en dp st) (o : Obj) : Q (w.alloc o) g lo en dp st := h.mv (Sat.Mv.alloc (Sat.Mv.refl (fun _ => False) _) _) (fun b k => k.elim)
theorem Q.set (h : Q w g lo en dp st) {a : Addr} (ha : lo ≤ a.block) (v : Value) : Q (w.setCell a v) g lo en dp st := h.mv (G := fun b => b = a.block) (Sat.Mv.set (F := fun b => b = a.block) (a := a) (Sat.Mv.refl _ w) (Or.inl rfl) v) (fun b k => by rw [k]; exact ha)
/-- What is deep: the cell. -/
theorem Q.c3 (h : Q w g lo en dp st) : w.cell? ⟨g, 3, none⟩ = some (.int .i64 (dp : Int)) := by obtain ⟨v, ts, i, h1, _⟩ := h; exact h1.c3
theorem Q.f3 (h : Q w g lo en dp st) (o : Nat) : w.frozen? ⟨g, o, none⟩ = false := by obtain ⟨v, ts, i, h1, _⟩ := h; exact h1.blk.frozen o
theorem Q.deep (h : Q w g lo en dp st) (j : Nat) : Q (w.setCell ⟨g, 3, none⟩ (.int .i64 (j : Int))) g lo en j st := by
  obtain ⟨v, ts, i, h1, h2, h3, h4, h5, h6, h7⟩ := h
  exact ⟨v, ts, i, h1.deep j, h2, h3, h4, h5, by simpa using h6, h7⟩
theorem Q.deep' (h : Q w g lo en dp st) (j : Nat) {x : Int} (hx : x = (j : Int)) : Q (w.setCell ⟨g, 3, none⟩ (.int .i64 x)) g lo en j st := hx ▸ h.deep j
theorem Q.small (h : Q w g lo en dp st) : (hd en st).x.length ≤ 65536 := by
  obtain ⟨v, ts, i, h1, rfl, h3, h4, h5, h6, h7⟩ := h
  unfold hd
  cases hs : ts.drop i with
  | nil => simp
  | cons a l => exact h4 a (List.mem_of_mem_drop (i := i) (by rw [hs]; exact List.mem_cons_self ..))
theorem hd_ne {x : List UInt8} (hx : x ≠ []) (h : (hd en st).x = x) : st ≠ [] := by
  intro hs
  subst hs
  exact hx h.symm
theorem Q.room {v : Value} {ts : List T} {i : Nat} (h : RD w g v ts en i dp) (hi : i ≤ ts.length) : i < 100000 := by
  have := h.few
  omega
end
/-- What a call of the reader's comes to. -/
def Ans (sh : World → (Nat → Prop) → Value → List V → Prop) (w : World) (g lo en dp : Nat) (e : Ending) (w' : World) : Res → Prop
  | .ok r st => MvR g w w' ∧ Q w' g lo en dp st ∧ ∃ u, e = .returned u ∧ sh w' (fun b => w.heap.size ≤ b) u r
  | .bad c a => MvR g w w' ∧ Gives e c a
  | .out => False
theorem next_q (w : World) (g lo en dp : Nat) (st : List T) (h : Q w g lo en dp st) :
    Calls Tryz.prog 108 #[.pointer (some ⟨g, 0, none⟩)] w fun e w' => e = .returned (TV (hd en st)) ∧ Below w.heap.size w w' := by
  obtain ⟨v, ts, i, h1, rfl, h3, h4, h5, h6, h7⟩ := h
  rw [← nx_hd0]
  exact next_any g v ts en i dp w h1
theorem fault_q (c : Nat) (w : World) (g lo en dp : Nat) (st : List T) (h : Q w g lo en dp st) :
    Calls Tryz.prog 58 #[.pointer (some ⟨g, 0, none⟩), .int .i64 (c : Nat)] w fun e w' => e = .returned (FV c (hd en st).a) ∧ Below w.heap.size w w' := by
  obtain ⟨v, ts, i, h1, rfl, h3, h4, h5, h6, h7⟩ := h
  rw [← nx_hd0]
  exact fault_any g c v ts en i dp w h1
theorem take_q (w : World) (g lo en dp : Nat) (st : List T) (h : Q w g lo en dp st) (hs : st ≠ []) :
    Calls Tryz.prog 137 #[.pointer (some ⟨g, 0, none⟩)] w fun e w' => e = .returned (TV (hd en st)) ∧ Q w' g lo en dp st.tail ∧ MvR g w w' := by
  obtain ⟨v, ts, i, h1, rfl, h3, h4, h5, h6, h7⟩ := h
  rw [← nx_hd0]
  have hi : i < ts.length := by
    apply Classical.byContradiction
    intro hn
    exact hs (List.drop_eq_nil_of_le (by omega))
  refine (take_any g v ts en i dp w h1 (Q.room h1 h3)).mono ?_
  rintro e w' ⟨k1, k2, k3⟩
  exact ⟨k1, ⟨v, ts, i + 1, k2, by rw [List.tail_drop], hi, h4, h5, Nat.le_trans h6 k3.size, h7⟩, k3⟩
theorem passes_q (x : List UInt8) (hx : x ≠ []) (w : World) (g lo en dp : Nat) (st : List T) (h : Q w g lo en dp st) :
    Calls Tryz.prog 55 #[.pointer (some ⟨g, 0, none⟩), .string (tx x)] w fun e w' => e = .returned (.bool (decide ((hd en st).x = x))) ∧ Q w' g lo en dp (if (hd en st).x = x then st.tail else st) ∧ MvR g w w' := by
  obtain ⟨v, ts, i, h1, rfl, h3, h4, h5, h6, h7⟩ := h
  rw [← nx_hd0]
  refine (passes_any g v ts en i dp x w h1 (Q.room h1 h3)).mono ?_
  rintro e w' ⟨k1, k2, k3⟩
  refine ⟨k1, ?_, k3⟩
  by_cases he : (nx ts en i).x = x
  · rw [if_pos he] at k2 ⊢
    have hi : i < ts.length := by
      apply Classical.byContradiction
      intro hn
      rw [nx_hd0, List.drop_eq_nil_of_le (by omega)] at he
      exact hx he.symm
    exact ⟨v, ts, i + 1, k2, by rw [List.tail_drop], hi, h4, h5, Nat.le_trans h6 k3.size, h7⟩
  · rw [if_neg he] at k2 ⊢
    exact ⟨v, ts, i, k2, rfl, h3, h4, h5, Nat.le_trans h6 k3.size, h7⟩
theorem want_q (x : List UInt8) (hx : x ≠ []) (w : World) (g lo en dp : Nat) (st : List T) (h : Q w g lo en dp st) :
    Calls Tryz.prog 101 #[.pointer (some ⟨g, 0, none⟩), .string (tx x)] w fun e w' => MvR g w w' ∧ (((hd en st).x = x ∧ e = .returned (.tuple #[]) ∧ Q w' g lo en dp st.tail) ∨ ((hd en st).x ≠ x ∧ Gives e 110 (hd en st).a)) := by
  obtain ⟨v, ts, i, h1, rfl, h3, h4, h5, h6, h7⟩ := h
  rw [← nx_hd0]
  refine (want_any g v ts en i dp x w h1 (Q.room h1 h3)).mono ?_
  rintro e w' ⟨k3, ⟨he, k1, k2⟩ | k⟩
  · have hi : i < ts.length := by
      apply Classical.byContradiction
      intro hn
      rw [nx_hd0, List.drop_eq_nil_of_le (by omega)] at he
      exact hx he.symm
    exact ⟨k3, Or.inl ⟨he, k1, ⟨v, ts, i + 1, k2, by rw [List.tail_drop], hi, h4, h5, Nat.le_trans h6 k3.size, h7⟩⟩⟩
  · exact ⟨k3, Or.inr k⟩
theorem nm_ne (h : IsNm ([] : List UInt8)) : False := by
  revert h
  decide
theorem name_q (w : World) (g lo en dp : Nat) (st : List T) (h : Q w g lo en dp st) :
    Calls Tryz.prog 102 #[.pointer (some ⟨g, 0, none⟩)] w fun e w' => MvR g w w' ∧ ((IsNm (hd en st).x ∧ e = .returned (TV (hd en st)) ∧ Q w' g lo en dp st.tail) ∨ (¬ IsNm (hd en st).x ∧ Gives e 110 (hd en st).a)) := by
  have hz := h.small
  obtain ⟨v, ts, i, h1, rfl, h3, h4, h5, h6, h7⟩ := h
  rw [← nx_hd0] at hz ⊢
  refine (name_any g v ts en i dp w h1 (Q.room h1 h3) hz).mono ?_
  rintro e w' ⟨k3, ⟨he, k1, k2⟩ | k⟩
  · have hi : i < ts.length := by
      apply Classical.byContradiction
      intro hn
      rw [nx_hd0, List.drop_eq_nil_of_le (by omega)] at he
      exact nm_ne he
    exact ⟨k3, Or.inl ⟨he, k1, ⟨v, ts, i + 1, k2, by rw [List.tail_drop], hi, h4, h5, Nat.le_trans h6 k3.size, h7⟩⟩⟩
  · exact ⟨k3, Or.inr k⟩
theorem sees_q (w : World) (g lo en dp b cap : Nat) (st : List T) (L : List (List UInt8)) (h : Q w g lo en dp st) (hL : OL 1 9 w (.slice (some ⟨b, 0, none⟩) L.length cap) L.length (stC L)) (hs : L.length ≤ 100) :
    Calls Tryz.prog 99 #[.pointer (some ⟨g, 0, none⟩), .slice (some ⟨b, 0, none⟩) L.length cap] w fun e w' => e = .returned (.bool (decide (seesP en st L))) ∧ Below w.heap.size w w' := by
  obtain ⟨v, ts, i, h1, rfl, h3, h4, h5, h6, h7⟩ := h
  refine (sees_any g v ts en i dp b cap L w h1 hL hs).mono ?_
  rintro e w' ⟨k1, k2⟩
  refine ⟨?_, k2⟩
  rw [k1]
  refine congrArg (fun b => Ending.returned (Value.bool b)) (decide_eq_decide.2 ?_)
  unfold Sees seesP
  constructor
  · intro h j hj; rw [← nx_hd]; exact h j hj
  · intro h j hj; rw [nx_hd]; exact h j hj
theorem sees1_q (x : List UInt8) (w : World) (g lo en dp b : Nat) (st : List T) (h : Q w g lo en dp st) (hc : w.heap[b]? = some (.cells #[.string (tx x)] 9 (0, 0))) :
    Calls Tryz.prog 99 #[.pointer (some ⟨g, 0, none⟩), .slice (some ⟨b, 0, none⟩) 1 1] w fun e w' => e = .returned (.bool (decide ((hd en st).x = x))) ∧ Below w.heap.size w w' := by
  refine (sees_q w g lo en dp b 1 st [x] h ?_ (by simp)).mono ?_
  · refine Or.inr ⟨b, 1, #[.string (tx x)], rfl, hc, Nat.le_refl _, by decide, rfl, fun a ha b hb => ?_⟩
    simp at ha
    obtain rfl : a = 0 := by omega
    obtain rfl : b = 0 := by omega
    simp [stC]
  · rintro e w' ⟨k1, k2⟩
    refine ⟨?_, k2⟩
    rw [k1]
    refine congrArg (fun b => Ending.returned (Value.bool b)) (decide_eq_decide.2 ?_)
    unfold seesP
    constructor
    · intro h; simpa using h 0 (by simp)
    · intro h j hj
      obtain rfl : j = 0 := by simp at hj; omega
      simpa using h
theorem blk1 (w : World) (a : Addr) (v : Value) (ty : TypeId) (C : Array Value) : Blk ty ((w.setCell a v).alloc (.cells C ty (0, 0))) w.heap.size C := by
  have := Blk.new (w.setCell a v) ty C
  simpa using this
theorem MvR.blk {g : Nat} {w w' : World} (m : MvR g w w') {ty : TypeId} {b : Nat} {C : Array Value} (h : Blk ty w b C) (hn : b ≠ g) : Blk ty w' b C := (m.other b h.lt hn).trans h
theorem MvR.to {g : Nat} {w w1 w2 : World} (m : MvR g w w1) (k : MvR g w1 w2) : MvR g w w2 := Sat.Mv.trans m k fun b hb => Or.inl hb
theorem X.slice {w : World} {F : Nat → Prop} {v : Value} {s : Nat} {rows : List (List V)} (h : X w F v (.l s rows)) : ∃ q c, v = .slice q rows.length c := by
  obtain ⟨C, h1, _⟩ := h.open
  obtain ⟨a, cap, h2, _⟩ := h1.shape
  exact ⟨a, cap, h2⟩
theorem bk1 {ty : TypeId} {w : World} {b : Nat} {x0 : Value} (h : Blk ty w b #[x0]) : w.cell? ⟨b, 0, none⟩ = some x0 ∧ w.frozen? ⟨b, 0, none⟩ = false :=
  ⟨h.cell 0, h.frozen 0⟩
theorem bk2 {ty : TypeId} {w : World} {b : Nat} {x0 x1 : Value} (h : Blk ty w b #[x0, x1]) : w.cell? ⟨b, 0, none⟩ = some x0 ∧ w.cell? ⟨b, 1, none⟩ = some x1 ∧ w.frozen? ⟨b, 0, none⟩ = false ∧ w.frozen? ⟨b, 1, none⟩ = false :=
  ⟨h.cell 0, h.cell 1, h.frozen 0, h.frozen 1⟩
theorem bk3 {ty : TypeId} {w : World} {b : Nat} {x0 x1 x2 : Value} (h : Blk ty w b #[x0, x1, x2]) : w.cell? ⟨b, 0, none⟩ = some x0 ∧ w.cell? ⟨b, 1, none⟩ = some x1 ∧ w.cell? ⟨b, 2, none⟩ = some x2 ∧ w.frozen? ⟨b, 0, none⟩ = false ∧ w.frozen? ⟨b, 1, none⟩ = false ∧ w.frozen? ⟨b, 2, none⟩ = false :=
  ⟨h.cell 0, h.cell 1, h.cell 2, h.frozen 0, h.frozen 1, h.frozen 2⟩
theorem bk5 {ty : TypeId} {w : World} {b : Nat} {x0 x1 x2 x3 x4 : Value} (h : Blk ty w b #[x0, x1, x2, x3, x4]) : w.cell? ⟨b, 0, none⟩ = some x0 ∧ w.cell? ⟨b, 1, none⟩ = some x1 ∧ w.cell? ⟨b, 2, none⟩ = some x2 ∧ w.cell? ⟨b, 3, none⟩ = some x3 ∧ w.cell? ⟨b, 4, none⟩ = some x4 ∧ w.frozen? ⟨b, 0, none⟩ = false ∧ w.frozen? ⟨b, 1, none⟩ = false ∧ w.frozen? ⟨b, 2, none⟩ = false ∧ w.frozen? ⟨b, 3, none⟩ = false ∧ w.frozen? ⟨b, 4, none⟩ = false :=
  ⟨h.cell 0, h.cell 1, h.cell 2, h.cell 3, h.cell 4, h.frozen 0, h.frozen 1, h.frozen 2, h.frozen 3, h.frozen 4⟩
theorem bk7 {ty : TypeId} {w : World} {b : Nat} {x0 x1 x2 x3 x4 x5 x6 : Value} (h : Blk ty w b #[x0, x1, x2, x3, x4, x5, x6]) : w.cell? ⟨b, 0, none⟩ = some x0 ∧ w.cell? ⟨b, 1, none⟩ = some x1 ∧ w.cell? ⟨b, 2, none⟩ = some x2 ∧ w.cell? ⟨b, 3, none⟩ = some x3 ∧ w.cell? ⟨b, 4, none⟩ = some x4 ∧ w.cell? ⟨b, 5, none⟩ = some x5 ∧ w.cell? ⟨b, 6, none⟩ = some x6 ∧ w.frozen? ⟨b, 0, none⟩ = false ∧ w.frozen? ⟨b, 1, none⟩ = false ∧ w.frozen? ⟨b, 2, none⟩ = false ∧ w.frozen? ⟨b, 3, none⟩ = false ∧ w.frozen? ⟨b, 4, none⟩ = false ∧ w.frozen? ⟨b, 5, none⟩ = false ∧ w.frozen? ⟨b, 6, none⟩ = false :=
  ⟨h.cell 0, h.cell 1, h.cell 2, h.cell 3, h.cell 4, h.cell 5, h.cell 6, h.frozen 0, h.frozen 1, h.frozen 2, h.frozen 3, h.frozen 4, h.frozen 5, h.frozen 6⟩
theorem X.far {w w' : World} {F F' G : Nat → Prop} {v : Value} {t : V} (h : X w F v t) (m : Sat.Mv G w w') (hG : ∀ b, F b → b < w.heap.size → ¬ G b) (hF : ∀ b, F b → F' b) : X w' F' v t :=
  h.stay fun b k kl => ⟨m.other b kl (hG b k kl), hF b k⟩
/-- A whole variable is written; the world behind it is a new name. -/
theorem store_blk {Pg : Program} {ops : Array Oper} {rest : List Oper} {o : Oper} {a : Act} {w : World} {Qx : Exit → Act → World → Prop} (hgd : o.guard = none) (ty : TypeId) (x y : Operand) (ho : o.op = .store ty x y)
    (b : Nat) (cells : Array Value) (hx : a.eval x = .pointer (some ⟨b, 0, none⟩)) (hy : a.eval y = .agg cells) (t : TypeId) (old : Array Value) (hg : Blk t w b old) (hi : (Pg.info? ty).map (·.size) = some cells.size)
    (hold : old.size = cells.size) (h1 : cells.toList.all (·.oneCell') = true)
    (h : ∀ w', Blk t w' b cells → Sat.Mv (fun k => k = b) w w' → wpList Pg ops Qx rest (a.put o.dst undef) w') : wpList Pg ops Qx (o :: rest) a w :=
  wpList_store_row hgd ty x y ho b cells hx hy t old hg hi hold (by rw [← Array.all_toList]; exact h1) (h _ (setRow_heap w b old cells t (0, 0) hg) ⟨rfl, rfl, rfl, by simp [World.setRow], fun k _ hk => setRow_other w b k cells hk⟩)
/-- The shapes. -/
def ShE (w : World) (F : Nat → Prop) (u : Value) (r : List V) : Prop :=
  ∃ op nm args tys p A B, r = exR op nm args tys p ∧ u = .agg #[.string (tx op), .string (tx nm), A, B, .int .i64 (p : Nat)] ∧ X w F A (.l 0 args) ∧ X w F B (.l 1 tys)
def ShS (w : World) (F : Nat → Prop) (u : Value) (r : List V) : Prop :=
  ∃ kd nm tys exprs body els p A B C D, r = smR kd nm tys exprs body els p ∧ u = .agg #[.string (tx kd), .string (tx nm), A, B, C, D, .int .i64 (p : Nat)] ∧ X w F A (.l 1 tys) ∧ X w F B (.l 0 exprs) ∧ X w F C (.l 2 body) ∧ X w F D (.l 2 els)
def ShL (s : Nat) (w : World) (F : Nat → Prop) (u : Value) (r : List V) : Prop :=
  ∃ rows, r = [.l s rows] ∧ X w F u (.l s rows)
def ShK (w : World) (F : Nat → Prop) (u : Value) (r : List V) : Prop :=
  ∃ nm ifc sup abv fields invs ctors meths p A B C D E, r = clR nm ifc sup abv fields invs ctors meths p ∧ u = .agg #[.string (tx nm), .bool ifc, .string (tx sup), A, B, C, D, E, .int .i64 (p : Nat)] ∧ X w F A (.l 8 abv) ∧ X w F B (.l 4 fields) ∧ X w F C (.l 0 invs) ∧ X w F D (.l 5 ctors) ∧ X w F E (.l 6 meths)
end Syn
end Go.Proofs.YtomldkljlbdnjaaGreat
/- Reading takes tokens off: never more are left, and most parts take one. No statement of the seat is proved here. -/
namespace Go.Proofs.YtomldkljlbdnjaaGreat
open Go.RowKit
set_option linter.unusedVariables false
set_option linter.unusedSimpArgs false
namespace Syn
open Euf (OL App Stop)
open Lex (T TL tx bs tkC FV IsNm hide)
def Out (p : List T → Prop) (x : Res) : Prop := ∀ r s, x = .ok r s → p s
section
variable {p q : List T → Prop} {en : Nat} {st : List T}
theorem Out.ok {r : List V} {s : List T} (h : p s) : Out p (.ok r s) := fun _ _ e => by cases e; exact h
theorem Out.bad {c a : Nat} : Out p (.bad c a) := fun _ _ e => by cases e
theorem Out.out : Out p .out := fun _ _ e => by cases e
theorem Out.mono {x : Res} (h : Out q x) (hi : ∀ s, q s → p s) : Out p x := fun r s e => hi s (h r s e)
theorem Out.to {x : Res} {f : List V → List T → Res} (hx : Out q x) (hf : ∀ r s, q s → Out p (f r s)) : Out p (x.to f) := by
  cases x with
  | ok r s => exact hf r s (hx r s rfl)
  | bad c a => exact Out.bad
  | out => exact Out.out
theorem Out.ifc {C : Prop} [Decidable C] {A B : Res} (hA : C → Out p A) (hB : ¬ C → Out p B) : Out p (if C then A else B) := by
  by_cases h : C
  · rw [if_pos h]; exact hA h
  · rw [if_neg h]; exact hB h
theorem len_tail (st : List T) : st.tail.length ≤ st.length := by cases st <;> simp
theorem hd_len {x : List UInt8} (h : (hd en st).x = x) (hx : x ≠ []) : st.tail.length + 1 = st.length := by
  cases st with
  | nil => exact absurd h.symm hx
  | cons a l => rfl
theorem nm_len (h : IsNm (hd en st).x) : st.tail.length + 1 = st.length := by
  cases st with
  | nil => exact (nm_ne h).elim
  | cons a l => rfl
theorem num_len (h : (hd en st).k = 2) : st.tail.length + 1 = st.length := by
  cases st with
  | nil => simp [hd] at h
  | cons a l => rfl
theorem or_len {x y : List UInt8} (h : (hd en st).x = x ∨ (hd en st).x = y) (hx : x ≠ []) (hy : y ≠ []) : st.tail.length + 1 = st.length := h.elim (fun k => hd_len k hx) (fun k => hd_len k hy)
theorem or4_len {x y z u : List UInt8} (h : (hd en st).x = x ∨ (hd en st).x = y ∨ (hd en st).x = z ∨ (hd en st).x = u) (hx : x ≠ []) (hy : y ≠ []) (hz : z ≠ []) (hu : u ≠ []) : st.tail.length + 1 = st.length :=
  h.elim (fun k => hd_len k hx) (fun k => k.elim (fun k => hd_len k hy) (fun k => or_len k hz hu))
theorem Out.want {x : List UInt8} {k : List T → Res} (hx : x ≠ []) (h : st.tail.length + 1 = st.length → Out p (k st.tail)) : Out p (wantP en x st k) :=
  Out.ifc (fun hc => h (hd_len hc hx)) (fun _ => Out.bad)
theorem Out.name {k : T → List T → Res} (h : st.tail.length + 1 = st.length → Out p (k (hd en st) st.tail)) : Out p (nameP en st k) :=
  Out.ifc (fun hc => h (nm_len hc)) (fun _ => Out.bad)
theorem Out.nest {dp : Nat} {k : Nat → Res} (h : Out p (k (dp + 1))) : Out p (nestP en dp st k) :=
  Out.ifc (fun _ => Out.bad) (fun _ => h)
end
/-- How many tokens are taken at least. -/
def kOf : Cmd → Nat
  | .impl _ _ | .binl _ _ | .post _ | .commaL _ _ | .pred | .listT _ | .invs _ | .alone _ => 0
  | _ => 1
theorem P_len (en : Nat) : ∀ (n : Nat) (c : Cmd) (dp : Nat) (st : List T), Out (fun s => s.length + kOf c ≤ st.length) (P en n c dp st)
  | 0, _, _, _ => Out.out
  | n + 1, c, dp, st => by
    have ih := P_len en n
    have al : ∀ op dp st, st.tail.length + 1 = st.length → Out (fun s => s.length + 1 ≤ st.length) (P en n (.alone op) dp st) := fun op dp st h => by
      cases n with
      | zero => exact Out.out
      | succ n => exact Out.ok (by omega)
    cases c <;> simp only [P, kOf]
    all_goals
      repeat' (first
        | exact Out.bad
        | exact Out.out
        | (refine Out.ok ?_)
        | (refine Out.want (by decide) (fun _ => ?_))
        | (refine Out.name (fun _ => ?_))
        | (refine Out.nest ?_)
        | (refine Out.to (ih _ _ _) ?_; intro _ _ _)
        | (refine Out.ifc ?_ ?_ <;> intro hC <;> (try have hl := hd_len hC (by decide)) <;> (try have hl := nm_len hC) <;> (try have hl := num_len hC) <;> (try have hl := or_len hC (by decide) (by decide)) <;> (try have hl := or4_len hC (by decide) (by decide) (by decide) (by decide)))
        | (refine al _ _ _ (by assumption))
        | (refine (ih _ _ _).mono ?_; intro _ _)
        | (split))
    all_goals have ht := len_tail st
    all_goals have ht2 := len_tail st.tail
    all_goals have ht3 := len_tail st.tail.tail
    all_goals clear ih al
    all_goals try simp only [kOf, List.length_drop] at *
    all_goals first | omega | (split at * <;> omega) | (split <;> omega) | skip
end Syn
end Go.Proofs.YtomldkljlbdnjaaGreat
/- nested, at its four types. No statement of the seat is proved here. -/
namespace Go.Proofs.YtomldkljlbdnjaaGreat
open Go.RowKit
set_option linter.unusedVariables false
set_option linter.unusedSimpArgs false
namespace Syn
open Euf (OL App Stop)
open Lex (T TL tx bs tkC FV IsNm hide)
set_option maxRecDepth 4000 in
set_option maxHeartbeats 1000000 in
theorem nestE_any (fk : Nat) (hent : ∀ args w, (callFunc fk args).run Tryz.prog w = .ok (.enter fk args) w) (w : World) (g lo en dp : Nat) (st : List T) (res : Nat → Res) (h : Q w g lo en dp st) (hne : nestP en dp st res ≠ .out)
    (HR : dp < 100 → ∀ w1, Q w1 g lo en (dp + 1) st → res (dp + 1) ≠ .out → Calls Tryz.prog fk #[.pointer (some ⟨g, 0, none⟩)] w1 fun e w' => Ans ShE w1 g lo en (dp + 1) e w' (res (dp + 1))) :
    Calls Tryz.prog 173 #[.pointer (some ⟨g, 0, none⟩), .func (.func fk) #[.pointer (some ⟨g, 0, none⟩)] #[]] w fun e w' => Ans ShE w g lo en dp e w' (nestP en dp st res) := by
  have hlg := h.lt
  have hgl := h.gl
  have hlw := h.lw
  have a3 := h.c3
  have f3 := h.f3 3
  have hb0 : Below w.heap.size w (w.alloc (.cells #[.string ByteArray.empty, .string ByteArray.empty, .slice none 0 0, .slice none 0 0, .int .i64 0] 49 (0, 0))) := by go_grown
  by_cases hd : 100 ≤ dp
  · unfold nestP
    rw [if_pos hd]
    have hdI : (dp : Int) ≥ 100 := by omega
    have HF : Hid (∀ w', Below w.heap.size w w' → Calls Tryz.prog 58 #[.pointer (some ⟨g, 0, none⟩), .int .i64 111] w' fun e w'' => e = .returned (FV 111 (Syn.hd en st).a) ∧ Below w'.heap.size w' w'') := fun w' hb => fault_q 111 w' g lo en dp st (h.below hb)
    have HB : Hid (Below w.heap.size w (w.alloc (.cells #[.string ByteArray.empty, .string ByteArray.empty, .slice none 0 0, .slice none 0 0, .int .i64 0] 49 (0, 0)))) := hb0
    clear HR hne h hb0
    go_enter Tryz.func173, Tryz.ntmps173
    go_wp2_with fail
    refine (HF.out _ HB.out).mono ?_
    rintro e w1 ⟨rfl, hb⟩
    have hb1 := HB.out.step hb (Nat.le_refl _)
    simp only [FV]
    go_wp2
    exact ⟨rfl, Sat.Mv.below hb1, rfl⟩
  · have hdI : ¬ (dp : Int) ≥ 100 := by omega
    have hdw : wrap64 ((dp : Int) + 1) = ((dp + 1 : Nat) : Int) := by unfold wrap64; omega
    have hdw2 : wrap64 (((dp + 1 : Nat) : Int) - 1) = (dp : Int) := by unfold wrap64; omega
    unfold nestP at hne ⊢
    rw [if_neg hd] at hne ⊢
    have HC := hide <| fun w1 q => HR (by omega) w1 q hne
    have HQ := hide h
    clear HR h hb0
    generalize res (dp + 1) = R at *
    go_enter Tryz.func173, Tryz.ntmps173
    go_wp2_with fail
    refine (HC.out _ (by refine Q.alloc (Q.deep' HQ.out (dp + 1) ?_) _; omega)).mono ?_
    rintro e w1 ha
    cases R with
    | out => exact absurd rfl hne
    | bad c a =>
      obtain ⟨m1, rfl⟩ := ha
      go_wp2
      exact ⟨rfl, MvR.to (Sat.Mv.alloc (Sat.Mv.set (F := fun b => b = g) (a := ⟨g, 3, none⟩) (Sat.Mv.refl _ w) (Or.inl rfl) _) _) m1, rfl⟩
    | ok r st1 =>
      obtain ⟨m1, q1, u, rfl, op, nm, args, tys, p, A, B, rfl, rfl, xA, xB⟩ := ha
      have b1 : Blk 49 w1 w.heap.size #[.string ByteArray.empty, .string ByteArray.empty, .slice none 0 0, .slice none 0 0, .int .i64 0] := m1.blk (blk1 w _ _ _ _) (by omega)
      obtain ⟨qA, cA, rfl⟩ := xA.slice
      obtain ⟨qB, cB, rfl⟩ := xB.slice
      have c1 := q1.c3
      have f1 := q1.f3 3
      have g1 := q1.lt
      have HR : Hid (MvR g ((w.setCell ⟨g, 3, none⟩ (.int .i64 ((dp : Int) + 1))).alloc (.cells #[.string ByteArray.empty, .string ByteArray.empty, .slice none 0 0, .slice none 0 0, .int .i64 0] 49 (0, 0))) w1 ∧ Q w1 g lo en (dp + 1) st1) := ⟨m1, q1⟩
      have HX := hide (And.intro xA xB)
      have HB := hide b1
      clear m1 q1 b1 xA xB
      generalize hn0 : w.heap.size = n0 at *
      have HN : Hid (w.heap.size = n0) := hn0
      clear hn0
      have l1 : n0 < w1.heap.size := HB.out.lt
      go_wp2_with ((show wpList _ _ _ _ _ _); refine store_blk rfl 49 (.tmp 4) (.tmp 30) rfl n0 _ rfl rfl 49 #[.string ByteArray.empty, .string ByteArray.empty, .slice none 0 0, .slice none 0 0, .int .i64 0] (Blk.alloc (Blk.other HB.out (a := ⟨g, 3, none⟩) (by show g ≠ n0; omega) _) _) (by kernel_rfl) rfl rfl ?_; intro w2 b2 m2; have HM := hide m2; obtain ⟨c0, c1, c2, c3, c4, k0, k1, k2, k3, k4⟩ := bk5 b2; clear m2 b2)
      refine bodyPost_ret (v := .agg #[.string (tx op), .string (tx nm), .slice qA args.length cA, .slice qB tys.length cB, .int .i64 (p : Nat)]) (by simp [results, Tryz.results173, go_sem, c0, c1, c2, c3, c4]) rfl ?_
      have hn := HN.out
      have M12 : Sat.Mv (fun b => b = g ∨ b = n0) w1 w2 := Sat.Mv.trans (F := fun b => b = g ∨ b = n0) (Sat.Mv.alloc (Sat.Mv.set (F := fun b => b = g ∨ b = n0) (a := ⟨g, 3, none⟩) (Sat.Mv.refl _ w1) (Or.inl (Or.inl rfl)) _) _) HM.out (fun b hb => Or.inl (Or.inr hb))
      refine ⟨?_, ?_, _, rfl, _, _, _, _, _, _, _, rfl, rfl, HX.out.1.far M12 ?_ ?_, HX.out.2.far M12 ?_ ?_⟩
      · refine Sat.Mv.trans (MvR.to (Sat.Mv.alloc (Sat.Mv.set (F := fun b => b = g) (a := ⟨g, 3, none⟩) (Sat.Mv.refl _ w) (Or.inl rfl) _) _) HR.out.1) M12 (fun b hb => ?_)
        rcases hb with hb | hb
        · exact Or.inl hb
        · exact Or.inr (by omega)
      · exact Q.mv (Q.alloc (Q.deep' HR.out.2 dp rfl) _) HM.out (fun b hb => by have : b = n0 := hb; omega)
      all_goals
        intro b hb
        simp at hb
        first | omega | (intro hl hk; rcases hk with hk | hk <;> omega)
set_option maxRecDepth 4000 in
set_option maxHeartbeats 1000000 in
theorem nestB_any (fk : Nat) (hent : ∀ args w, (callFunc fk args).run Tryz.prog w = .ok (.enter fk args) w) (w : World) (g lo en dp : Nat) (st : List T) (res : Nat → Res) (h : Q w g lo en dp st) (hne : nestP en dp st res ≠ .out)
    (HR : dp < 100 → ∀ w1, Q w1 g lo en (dp + 1) st → res (dp + 1) ≠ .out → Calls Tryz.prog fk #[.pointer (some ⟨g, 0, none⟩)] w1 fun e w' => Ans (ShL 2) w1 g lo en (dp + 1) e w' (res (dp + 1))) :
    Calls Tryz.prog 106 #[.pointer (some ⟨g, 0, none⟩), .func (.func fk) #[.pointer (some ⟨g, 0, none⟩)] #[]] w fun e w' => Ans (ShL 2) w g lo en dp e w' (nestP en dp st res) := by
  have hlg := h.lt
  have hgl := h.gl
  have hlw := h.lw
  have a3 := h.c3
  have f3 := h.f3 3
  by_cases hd : 100 ≤ dp
  · unfold nestP
    rw [if_pos hd]
    have hdI : (dp : Int) ≥ 100 := by omega
    have HF : Hid (Calls Tryz.prog 58 #[.pointer (some ⟨g, 0, none⟩), .int .i64 111] w fun e w'' => e = .returned (FV 111 (Syn.hd en st).a) ∧ Below w.heap.size w w'') := fault_q 111 w g lo en dp st h
    clear HR hne h
    go_enter Tryz.func106, Tryz.ntmps106
    go_wp2_with fail
    refine HF.out.mono ?_
    rintro e w1 ⟨rfl, hb⟩
    simp only [FV]
    go_wp2
    exact ⟨rfl, Sat.Mv.below hb, rfl⟩
  · have hdI : ¬ (dp : Int) ≥ 100 := by omega
    have hdw : wrap64 ((dp : Int) + 1) = ((dp + 1 : Nat) : Int) := by unfold wrap64; omega
    have hdw2 : wrap64 (((dp + 1 : Nat) : Int) - 1) = (dp : Int) := by unfold wrap64; omega
    unfold nestP at hne ⊢
    rw [if_neg hd] at hne ⊢
    have HC := hide <| fun w1 q => HR (by omega) w1 q hne
    have HQ := hide h
    clear HR h
    generalize res (dp + 1) = R at *
    go_enter Tryz.func106, Tryz.ntmps106
    go_wp2_with fail
    refine (HC.out _ (by refine Q.deep' HQ.out (dp + 1) ?_; omega)).mono ?_
    rintro e w1 ha
    cases R with
    | out => exact absurd rfl hne
    | bad c a =>
      obtain ⟨m1, rfl⟩ := ha
      go_wp2
      exact ⟨rfl, MvR.to (Sat.Mv.set (F := fun b => b = g) (a := ⟨g, 3, none⟩) (Sat.Mv.refl _ w) (Or.inl rfl) _) m1, rfl⟩
    | ok r st1 =>
      obtain ⟨m1, q1, u, rfl, rows, rfl, xA⟩ := ha
      have c1 := q1.c3
      have f1 := q1.f3 3
      have g1 := q1.lt
      have HR : Hid (MvR g (w.setCell ⟨g, 3, none⟩ (.int .i64 ((dp : Int) + 1))) w1 ∧ Q w1 g lo en (dp + 1) st1) := ⟨m1, q1⟩
      have HX := hide xA
      clear m1 q1 xA
      go_wp2
      go_ret
      have M12 : MvR g w1 (w1.setCell ⟨g, 3, none⟩ (.int .i64 (dp : Int))) := Sat.Mv.set (F := fun b => b = g) (a := ⟨g, 3, none⟩) (Sat.Mv.refl _ w1) (Or.inl rfl) _
      refine ⟨MvR.to (MvR.to (Sat.Mv.set (F := fun b => b = g) (a := ⟨g, 3, none⟩) (Sat.Mv.refl _ w) (Or.inl rfl) _) HR.out.1) M12, Q.deep' HR.out.2 dp rfl, _, rfl, _, rfl, HX.out.far M12 ?_ ?_⟩
      all_goals
        intro b hb
        simp at hb
        first | omega | (intro hl hk; have hk : b = g := hk; omega)
end Syn
end Go.Proofs.YtomldkljlbdnjaaGreat
