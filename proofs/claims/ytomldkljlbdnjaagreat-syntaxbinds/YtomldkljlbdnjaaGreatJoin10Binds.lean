/- Joined: SynYfCut, SynYuCut, Reg, Reg4: words and contracts; no statement of the seat is proved here. -/
import Derived.Test.YtomldkljlbdnjaaGreatJoin9Binds
import Derived.WalkKit
import Derived.RegionTactic
/- A method of the reader as a word; steps of walks. No statement of the seat is proved here. -/
namespace Go.Proofs.YtomldkljlbdnjaaGreat
open Go.RowKit
set_option linter.unusedVariables false
set_option linter.unusedSimpArgs false
namespace Syn
open Euf (OL App Stop wpList_push)
open Lex (T TL tx bs tkC FV IsNm hide)
/-- What a method without arguments promises, with so much fuel. -/
def Sp (f : FuncId) (sh : World → (Nat → Prop) → Value → List V → Prop) (c : Cmd) (en g lo m : Nat) : Prop :=
  ∀ w dp st, Q w g lo en dp st → P en m c dp st ≠ .out → Calls Tryz.prog f #[.pointer (some ⟨g, 0, none⟩)] w fun e w' => Ans sh w g lo en dp e w' (P en m c dp st)
theorem step_q {f : FuncId} {args : Array Value} {wk wx : World} {g lo en dp : Nat} {st : List T} {post : World → Ending → World → Prop} (Gl : Nat → Prop) (hM : Sat.Mv Gl wk wx) (hq : Q wk g lo en dp st) (hl : ∀ b, Gl b → lo ≤ b)
    (hC : ∀ wz, Q wz g lo en dp st → Calls Tryz.prog f args wz (post wz)) : Calls Tryz.prog f args wx (fun e w' => post wx e w' ∧ Sat.Mv Gl wk wx) :=
  (hC wx (hq.mv hM hl)).mono fun e w' h => ⟨h, hM⟩
theorem mvt {G : Nat → Prop} {w1 w2 w3 : World} (h : Sat.Mv G w1 w2) (k : Sat.Mv G w2 w3) : Sat.Mv G w1 w3 := Sat.Mv.trans h k fun b hb => Or.inl hb
theorem Mv.wide {F G : Nat → Prop} {w w' : World} (h : Sat.Mv F w w') (hs : ∀ b, F b → G b) : Sat.Mv G w w' := ⟨h.os, h.tape, h.output, h.size, fun b hb hn => h.other b hb fun k => hn (hs b k)⟩
/-- A segment: up to a call, and the call. -/
theorem seg {Gl : Nat → Prop} {g : Nat} {w1 wx w2 : World} (h : Sat.Mv Gl w1 wx) (m : MvR g wx w2) : Sat.Mv (fun b => b = g ∨ Gl b) w1 w2 :=
  mvt (Mv.wide h fun b k => Or.inr k) (Mv.wide m fun b k => Or.inl k)
/-- All of it: for who called. -/
theorem Mv.out {G : Nat → Prop} {g : Nat} {w w' : World} (h : Sat.Mv G w w') (hG : ∀ b, G b → b = g ∨ w.heap.size ≤ b) : MvR g w w' :=
  ⟨h.os, h.tape, h.output, h.size, fun b hb hn => h.other b hb fun k => (hG b k).elim hn (fun hk => absurd hb (Nat.not_lt.2 hk))⟩
/-- The same, where a token is left. -/
def Sp1 (f : FuncId) (sh : World → (Nat → Prop) → Value → List V → Prop) (c : Cmd) (en g lo m : Nat) : Prop :=
  ∀ w dp st, Q w g lo en dp st → st ≠ [] → P en m c dp st ≠ .out → Calls Tryz.prog f #[.pointer (some ⟨g, 0, none⟩)] w fun e w' => Ans sh w g lo en dp e w' (P en m c dp st)
/-- The same, with more arguments. -/
def Sp1A (f : FuncId) (args : Array Value) (sh : World → (Nat → Prop) → Value → List V → Prop) (c : Cmd) (en g lo m : Nat) : Prop :=
  ∀ w dp st, Q w g lo en dp st → st ≠ [] → P en m c dp st ≠ .out → Calls Tryz.prog f args w fun e w' => Ans sh w g lo en dp e w' (P en m c dp st)
/-- nested of a method. -/
def SpN (f k : FuncId) (sh : World → (Nat → Prop) → Value → List V → Prop) (c : Cmd) (en g lo m : Nat) : Prop :=
  ∀ w dp st, Q w g lo en dp st → P en m c dp st ≠ .out → Calls Tryz.prog f #[.pointer (some ⟨g, 0, none⟩), .func (.func k) #[.pointer (some ⟨g, 0, none⟩)] #[]] w fun e w' => Ans sh w g lo en dp e w' (P en m c dp st)
theorem new_at1 (w : World) (o o' : Obj) : ((w.alloc o).alloc o').heap[w.heap.size + 1]? = some o' := by
  have := heap_alloc_new (w.alloc o) o'
  simpa using this
theorem new_at2 (w : World) (o o' o'' : Obj) : (((w.alloc o).alloc o').alloc o'').heap[w.heap.size + 1 + 1]? = some o'' := by
  have := heap_alloc_new ((w.alloc o).alloc o') o''
  simpa using this
theorem blk_new1 (w : World) (o : Obj) (ty : TypeId) (C : Array Value) : Blk ty ((w.alloc o).alloc (.cells C ty (0, 0))) (w.heap.size + 1) C := new_at1 w o _
theorem blk_new2 (w : World) (o o' : Obj) (ty : TypeId) (C : Array Value) : Blk ty (((w.alloc o).alloc o').alloc (.cells C ty (0, 0))) (w.heap.size + 1 + 1) C := new_at2 w o o' _
theorem ans_fin {sh : World → (Nat → Prop) → Value → List V → Prop} {w wk wf : World} {g lo en dp : Nat} {u : Value} {r : List V} {st : List T} (GL : Nat → Prop) (sE : Sat.Mv GL wk wf) (m : Sat.Mv (fun b => b = g ∨ GL b) w wk) (hG : ∀ b, (b = g ∨ GL b) → b = g ∨ w.heap.size ≤ b)
    (q : Q wk g lo en dp st) (hl : ∀ b, GL b → lo ≤ b) (hsh : sh wf (fun b => w.heap.size ≤ b) u r) : Ans sh w g lo en dp (.returned u) wf (.ok r st) :=
  ⟨Mv.out (mvt m (Mv.wide sE fun b k => Or.inr k)) hG, q.mv sE hl, u, rfl, hsh⟩
theorem step_sees {wk wx : World} {g lo en dp b : Nat} {st : List T} (Gl : Nat → Prop) (x : List UInt8) (hM : Sat.Mv Gl wk wx) (hq : Q wk g lo en dp st) (hl : ∀ b, Gl b → lo ≤ b) (hb : wx.heap[b]? = some (.cells #[.string (tx x)] 9 (0, 0))) :
    Calls Tryz.prog 99 #[.pointer (some ⟨g, 0, none⟩), .slice (some ⟨b, 0, none⟩) 1 1] wx (fun e w' => (e = .returned (.bool (decide ((hd en st).x = x))) ∧ Below wx.heap.size wx w') ∧ Sat.Mv Gl wk wx) :=
  (sees1_q x wx g lo en dp b st (hq.mv hM hl) hb).mono fun e w' h => ⟨h, hM⟩
/-- The elements of loops. -/
theorem elem0 {en g lo N : Nat} (h : ∀ m, m < N → Sp 157 ShE .expr en g lo m) {dp : Nat} : ∀ m, m < N → ∀ w1 st1, Q w1 g lo en dp st1 → P en m (.elem 0) dp st1 ≠ .out → Calls Tryz.prog 157 #[.pointer (some ⟨g, 0, none⟩)] w1 fun e w' => Ans ShE w1 g lo en dp e w' (P en m (.elem 0) dp st1)
  | 0, _, _, _, _, hn => absurd rfl hn
  | m + 1, hm, w1, st1, q, hn => h m (by omega) w1 dp st1 q hn
theorem elem2 {en g lo N : Nat} (h : ∀ m, m < N → Sp 143 ShS .stmt en g lo m) {dp : Nat} : ∀ m, m < N → ∀ w1 st1, Q w1 g lo en dp st1 → P en m (.elem 2) dp st1 ≠ .out → Calls Tryz.prog 143 #[.pointer (some ⟨g, 0, none⟩)] w1 fun e w' => Ans ShS w1 g lo en dp e w' (P en m (.elem 2) dp st1)
  | 0, _, _, _, _, hn => absurd rfl hn
  | m + 1, hm, w1, st1, q, hn => h m (by omega) w1 dp st1 q hn
theorem num_ne {en : Nat} {st : List T} (h : (hd en st).k = 2) : st ≠ [] := by
  rintro rfl
  simp [hd] at h
theorem nm_ne' {en : Nat} {st : List T} (h : IsNm (hd en st).x) : st ≠ [] := by
  rintro rfl
  exact nm_ne h
theorem step_isname {wk wx : World} {g lo en dp : Nat} {st : List T} (Gl : Nat → Prop) (hM : Sat.Mv Gl wk wx) (hq : Q wk g lo en dp st) (hl : ∀ b, Gl b → lo ≤ b) :
    Calls Tryz.prog 24 #[.string (tx (hd en st).x)] wx (fun e w' => (e = .returned (.bool (decide (IsNm (hd en st).x))) ∧ Below wx.heap.size wx w') ∧ Sat.Mv Gl wk wx) := by
  have hz := hq.small
  have h1 := Lex.isName_any (tx (hd en st).x) wx (by rw [← Lex.bs_length, Lex.bs_tx]; omega)
  rw [Lex.bs_tx] at h1
  refine h1.mono ?_
  rintro e w' ⟨k, rfl⟩
  exact ⟨⟨k, Below.refl _ _⟩, hM⟩
end Syn
end Go.Proofs.YtomldkljlbdnjaaGreat
/- What expression commands answer is an expression's row; a list of one expression opened. No statement of the seat is proved here. -/
namespace Go.Proofs.YtomldkljlbdnjaaGreat
open Go.RowKit
set_option linter.unusedVariables false
set_option linter.unusedSimpArgs false
namespace Syn
open Euf (OL App Stop wpList_push)
open Lex (T TL tx bs tkC FV IsNm hide)
def isE (r : List V) : Prop := ∃ op nm args tys p, r = exR op nm args tys p ∧ (op = ([102, 105, 101, 108, 100] : List UInt8) ∨ op = ([105, 110, 100, 101, 120] : List UInt8) → args.length ≤ 2)
def isE1 (r : List V) : Prop := ∃ e, isE e ∧ r = [.l 0 [e]]
def OutR (p : List V → Prop) (x : Res) : Prop := ∀ r s, x = .ok r s → p r
section
variable {p q : List V → Prop} {en : Nat} {st : List T}
theorem OutR.ok {r : List V} {s : List T} (h : p r) : OutR p (.ok r s) := fun _ _ e => by cases e; exact h
theorem OutR.bad {c a : Nat} : OutR p (.bad c a) := fun _ _ e => by cases e
theorem OutR.out : OutR p .out := fun _ _ e => by cases e
theorem OutR.to {x : Res} {f : List V → List T → Res} (hx : OutR q x) (hf : ∀ r s, q r → OutR p (f r s)) : OutR p (x.to f) := by
  cases x with
  | ok r s => exact hf r s (hx r s rfl)
  | bad c a => exact OutR.bad
  | out => exact OutR.out
theorem OutR.any {x : Res} : OutR (fun _ => True) x := fun _ _ _ => trivial
theorem OutR.ifc {C : Prop} [Decidable C] {A B : Res} (hA : OutR p A) (hB : OutR p B) : OutR p (if C then A else B) := by
  by_cases h : C
  · rw [if_pos h]; exact hA
  · rw [if_neg h]; exact hB
theorem OutR.want {x : List UInt8} {k : List T → Res} (h : OutR p (k st.tail)) : OutR p (wantP en x st k) := OutR.ifc h OutR.bad
theorem OutR.name {k : T → List T → Res} (h : OutR p (k (hd en st) st.tail)) : OutR p (nameP en st k) := OutR.ifc h OutR.bad
theorem OutR.nest {dp : Nat} {k : Nat → Res} (h : OutR p (k (dp + 1))) : OutR p (nestP en dp st k) := OutR.ifc OutR.bad h
end
theorem isE.mk (op nm : List UInt8) (args tys : List (List V)) (p : Nat) (h : op = ([102, 105, 101, 108, 100] : List UInt8) ∨ op = ([105, 110, 100, 101, 120] : List UInt8) → args.length ≤ 2) : isE (exR op nm args tys p) := ⟨_, _, _, _, _, rfl, h⟩
theorem isE.fold : ∀ (ss : List (List V)) (sg : List T), ss ≠ [] → (∀ e ∈ ss, isE e) → isE (foldI ss sg)
  | a :: ss, sg :: gs, _, _ => isE.mk _ _ _ _ _ (by first | (intro _; simp; done) | (rintro (h | h) <;> exact absurd h (by decide)))
  | a :: ss, [], _, h => h a (List.mem_cons_self ..)
/-- What a command's answer is. -/
def ansOf : Cmd → List V → Prop
  | .impl ss _ => fun r => ss ≠ [] → (∀ e ∈ ss, isE e) → isE r
  | .binl _ e | .post e => fun r => isE e → isE r
  | .expr | .implied | .operands _ | .operand | .prefixed _ | .nestOperand | .part _ | .index _ | .primary | .alone _ | .object | .list => isE
  | .inRound | .lastExpr => isE1
  | _ => fun _ => True
theorem P_isE (en : Nat) : ∀ (n : Nat) (c : Cmd) (dp : Nat) (st : List T), OutR (ansOf c) (P en n c dp st)
  | 0, _, _, _ => OutR.out
  | n + 1, c, dp, st => by
    have ih := P_isE en n
    cases c with
    | expr => simp only [P]; refine OutR.nest ?_; exact ih _ _ _
    | implied => exact OutR.to (ih _ _ _) fun r s h => fun r' s' e => ih _ _ _ r' s' e (by simp) (by intro e he; simp at he; subst he; exact h)
    | impl ss sg =>
      refine OutR.ifc (OutR.to (ih _ _ _) fun r s h => fun r' s' e hn ha => ih _ _ _ r' s' e (by simp) ?_) (OutR.ok fun hn ha => isE.fold ss sg hn ha)
      intro e he
      rcases List.mem_append.1 he with he | he
      · exact ha e he
      · simp at he; subst he; exact h
    | operands k => exact OutR.ifc (ih _ _ _) (OutR.to (ih _ _ _) fun r s h => fun r' s' e => ih _ _ _ r' s' e h)
    | binl k e => exact OutR.ifc (OutR.to (ih _ _ _) fun r s h => OutR.ifc (OutR.ok fun _ => isE.mk _ _ _ _ _ (by first | (intro _; simp; done) | (rintro (h | h) <;> exact absurd h (by decide)))) fun r' s' e' h' => ih _ _ _ r' s' e' (isE.mk _ _ _ _ _ (by first | (intro _; simp; done) | (rintro (h | h) <;> exact absurd h (by decide))))) (OutR.ok fun h => h)
    | operand => exact OutR.ifc (ih _ _ _) (OutR.ifc (ih _ _ _) (OutR.to (ih _ _ _) fun r s h => fun r' s' e => ih _ _ _ r' s' e h))
    | prefixed op => exact OutR.to (ih _ _ _) fun r s h => OutR.ok (isE.mk _ _ _ _ _ (by first | (intro _; simp; done) | (rintro (h | h) <;> exact absurd h (by decide))))
    | nestOperand => simp only [P]; refine OutR.nest ?_; exact ih _ _ _
    | post e => exact OutR.ifc (OutR.to (ih _ _ _) fun r s h => fun r' s' e' _ => ih _ _ _ r' s' e' h) (OutR.ifc (OutR.to (ih _ _ _) fun r s h => fun r' s' e' _ => ih _ _ _ r' s' e' h) (OutR.ok fun h => h))
    | part o =>
      simp only [P]
      refine OutR.name ?_
      refine OutR.ifc (OutR.to OutR.any fun r s _ => ?_) (OutR.ok (isE.mk _ _ _ _ _ (by first | (intro _; simp; done) | (rintro (h | h) <;> exact absurd h (by decide)))))
      exact OutR.ok (isE.mk _ _ _ _ _ (by first | (intro _; simp; done) | (rintro (h | h) <;> exact absurd h (by decide))))
    | index l =>
      first | exact OutR.out | skip
      all_goals
        refine OutR.to OutR.any fun r s _ => ?_
        refine OutR.want ?_
        exact OutR.ok (isE.mk _ _ _ _ _ (by first | (intro _; simp; done) | (rintro (h | h) <;> exact absurd h (by decide))))
    | primary =>
      refine OutR.ifc (ih _ _ _) (OutR.ifc (ih _ _ _) (OutR.ifc (OutR.ok (isE.mk _ _ _ _ _ (by first | (intro _; simp; done) | (rintro (h | h) <;> exact absurd h (by decide))))) (OutR.ifc (ih _ _ _) (OutR.ifc (ih _ _ _) (OutR.ifc (OutR.to OutR.any fun r s _ => OutR.ok (isE.mk _ _ _ _ _ (by first | (intro _; simp; done) | (rintro (h | h) <;> exact absurd h (by decide))))) (OutR.ifc ?_ (OutR.ifc (OutR.to (ih _ _ _) fun r s h => OutR.ok ?_) OutR.bad)))))))
      · refine OutR.want ?_; refine OutR.want ?_; exact OutR.ok (isE.mk _ _ _ _ _ (by first | (intro _; simp; done) | (rintro (h | h) <;> exact absurd h (by decide))))
      obtain ⟨e, he, rfl⟩ := h
      exact he
    | alone op => exact OutR.ok (isE.mk _ _ _ _ _ (by first | (intro _; simp; done) | (rintro (h | h) <;> exact absurd h (by decide))))
    | object =>
      first | exact OutR.out | skip
      all_goals
        refine OutR.to OutR.any fun r s _ => ?_
        refine OutR.to OutR.any fun r s _ => ?_
        exact OutR.ok (isE.mk _ _ _ _ _ (by first | (intro _; simp; done) | (rintro (h | h) <;> exact absurd h (by decide))))
    | list =>
      first | exact OutR.out | skip
      all_goals
        refine OutR.to OutR.any fun r s _ => ?_
        refine OutR.want ?_
        refine OutR.to OutR.any fun r s _ => ?_
        refine OutR.want ?_
        refine OutR.to OutR.any fun r s _ => ?_
        refine OutR.want ?_
        exact OutR.ok (isE.mk _ _ _ _ _ (by first | (intro _; simp; done) | (rintro (h | h) <;> exact absurd h (by decide))))
    | inRound =>
      simp only [P]
      refine OutR.want ?_
      refine OutR.to (ih _ _ _) fun r s h => ?_
      refine OutR.want ?_
      exact OutR.ok ⟨r, h, rfl⟩
    | lastExpr =>
      refine OutR.to (ih _ _ _) fun r s h => ?_
      refine OutR.want ?_
      exact OutR.ok ⟨r, h, rfl⟩
    | _ => exact fun _ _ _ => trivial
theorem inRound1 (en n : Nat) (dp : Nat) (st : List T) : ∀ r s, P en n .inRound dp st = .ok r s → ∃ op nm args tys p, r = [.l 0 [exR op nm args tys p]] := fun r s h => by
  obtain ⟨e, ⟨op, nm, args, tys, p, rfl, -⟩, rfl⟩ := P_isE en n .inRound dp st r s h
  exact ⟨op, nm, args, tys, p, rfl⟩
/-- An expression's leaves. -/
theorem XR.ex {w : World} {F : Nat → Prop} {C : List Value} {op nm : List UInt8} {args tys : List (List V)} {p : Nat} (h : XR w F C (exR op nm args tys p)) : ∃ qA cA qB cB, C = [.string (tx op), .string (tx nm), .slice qA args.length cA, .slice qB tys.length cB, .int .i64 (p : Nat)] ∧ X w F (.slice qA args.length cA) (.l 0 args) ∧ X w F (.slice qB tys.length cB) (.l 1 tys) := by
  unfold exR at h
  cases h with
  | cons h0 h =>
  cases h with
  | cons h1 h =>
  cases h with
  | cons h2 h =>
  cases h with
  | cons h3 h =>
  cases h with
  | cons h4 h =>
  cases h
  obtain ⟨qA, cA, rfl⟩ := h2.slice
  obtain ⟨qB, cB, rfl⟩ := h3.slice
  exact ⟨qA, cA, qB, cB, by rw [h0.isS, h1.isS, h4.isA], h2, h3⟩
/-- A list of one expression. -/
theorem X.oneE {w : World} {F : Nat → Prop} {v : Value} {op nm : List UInt8} {args tys : List (List V)} {p : Nat} (h : X w F v (.l 0 [exR op nm args tys p])) : ∃ b cap qA cA qB cB, v = .slice (some ⟨b, 0, none⟩) 1 cap ∧ F b ∧ b < w.heap.size ∧ 1 ≤ cap ∧ cap ≤ maxLen ∧ (∃ cur, cur.size = cap * 5 ∧ w.heap[b]? = some (.cells cur 49 (0, 0))) ∧
    w.cell? ⟨b, 0, none⟩ = some (.string (tx op)) ∧ w.cell? ⟨b, 1, none⟩ = some (.string (tx nm)) ∧ w.cell? ⟨b, 2, none⟩ = some (.slice qA args.length cA) ∧ w.cell? ⟨b, 3, none⟩ = some (.slice qB tys.length cB) ∧ w.cell? ⟨b, 4, none⟩ = some (.int .i64 (p : Nat)) ∧
    X w F (.slice qA args.length cA) (.l 0 args) ∧ X w F (.slice qB tys.length cB) (.l 1 tys) := by
  obtain ⟨C, h1, h2, h3, h4⟩ := h.open
  obtain ⟨qA, cA, qB, cB, hC, xA, xB⟩ := XR.ex ((h4 0 (by simp)).stay (G := F) (w' := w) fun b k _ => ⟨rfl, k.1⟩)
  rcases h1 with ⟨-, hn⟩ | ⟨b, cap, cur, rfl, hg, hle, hmx, hsz, hc⟩
  · simp at hn
  have hb : b < w.heap.size := (Array.getElem?_eq_some_iff.1 hg).1
  have at_ : ∀ j u, j < 5 → (C 0)[j]? = some u → w.cell? ⟨b, j, none⟩ = some u := fun j u hj hu => by
    have := hc 0 (by simp) j hj
    rw [hu] at this
    rw [cell_of_row w b j cur _ (0, 0) hg]
    simpa using this
  refine ⟨b, cap, qA, cA, qB, cB, rfl, h2 b rfl, hb, hle, hmx, ⟨cur, hsz, hg⟩, at_ 0 _ (by decide) (by rw [hC]; rfl), at_ 1 _ (by decide) (by rw [hC]; rfl), at_ 2 _ (by decide) (by rw [hC]; rfl), at_ 3 _ (by decide) (by rw [hC]; rfl), at_ 4 _ (by decide) (by rw [hC]; rfl), xA, xB⟩
end Syn
end Go.Proofs.YtomldkljlbdnjaaGreat
/- A region that draws its order, by what holds at any time: one step for each operation, whatever came ahead of it; no statement of the seat is proved here. -/
namespace Go.Proofs.YtomldkljlbdnjaaGreat
open Go Go.RowKit

/-- All that the operation waits for is listed. -/
def Aft (o : Oper) (L : Nat → Bool) : Bool := o.after.toList.all fun e => !Region.binds .any e || L e.on
/-- One step, whenever operation k may come up. -/
def StepOK (P : Program) (ops : Array Oper) (Q : Exit → Act → World → Prop) (I : (Nat → Bool) → Act → World → Prop) (k : Nat) (o : Oper) : Prop :=
  ∀ L a w, I L a w → L k = false → Aft o L = true → ∀ K : Act → World → Prop, (∀ a' w', I (fun j => j == k || L j) a' w' → K a' w') →
    if Region.wanted o (yielded ops a.tmps) = true then Oper.wp P o a w K Q else K (a.put o.dst undef) w
def StepsOK (P : Program) (ops : Array Oper) (Q : Exit → Act → World → Prop) (I : (Nat → Bool) → Act → World → Prop) : Nat → List Oper → Prop
  | _, [] => True
  | k, o :: os => StepOK P ops Q I k o ∧ StepsOK P ops Q I (k + 1) os
/-- What is waited for stands ahead. -/
def inOrder : Nat → List Oper → Bool
  | _, [] => true
  | k, o :: os => (o.after.toList.all fun e => !Region.binds .any e || decide (e.on < k)) && inOrder (k + 1) os

theorem cnt_lt {p q : Nat → Bool} : ∀ {l : List Nat}, (∀ x, p x = true → q x = true) → ∀ {i : Nat}, i ∈ l → q i = true → p i = false → l.countP p < l.countP q
  | [], _, _, hi, _, _ => by cases hi
  | x :: l, h, i, hi, hq, hp => by
    have hle : l.countP p ≤ l.countP q := List.countP_mono_left (fun y _ hy => h y hy)
    rcases List.mem_cons.1 hi with e | e
    · subst e
      simp only [List.countP_cons, hq, hp]
      simp
      omega
    · have ih := cnt_lt (l := l) h e hq hp
      simp only [List.countP_cons]
      cases hx : p x with
      | false => simp; split <;> omega
      | true => simp [h x hx]; omega

theorem steps_at {P : Program} {ops : Array Oper} {Q : Exit → Act → World → Prop} {I : (Nat → Bool) → Act → World → Prop} : ∀ {l : List Oper} {k i : Nat} {o : Oper}, StepsOK P ops Q I k l → l[i]? = some o → StepOK P ops Q I (k + i) o
  | [], _, _, _, _, h => by simp at h
  | x :: l, k, 0, o, h, hi => by simp at hi; subst hi; exact h.1
  | x :: l, k, i + 1, o, h, hi => by
    have := steps_at (i := i) h.2 (by simpa using hi)
    rw [Nat.add_assoc, Nat.add_comm 1 i] at this
    exact this
theorem order_at : ∀ {l : List Oper} {k i : Nat} {o : Oper}, inOrder k l = true → l[i]? = some o → (o.after.toList.all fun e => !Region.binds .any e || decide (e.on < k + i)) = true
  | [], _, _, _, _, h => by simp at h
  | x :: l, k, 0, o, h, hi => by
    simp at hi; subst hi
    unfold inOrder at h
    exact (Bool.and_eq_true_iff.1 h).1
  | x :: l, k, i + 1, o, h, hi => by
    unfold inOrder at h
    have := order_at (i := i) (Bool.and_eq_true_iff.1 h).2 (by simpa using hi)
    rw [Nat.add_assoc, Nat.add_comm 1 i] at this
    exact this

theorem ready_iff {ops : Array Oper} {listed : Array Bool} {i : Nat} : i ∈ Region.ready .any ops listed ↔ i < ops.size ∧ listed.getD i true = false ∧ ∃ o, ops[i]? = some o ∧ Aft o (fun j => listed.getD j false) = true := by
  unfold Region.ready Aft
  simp only [List.mem_filter, List.mem_range, Bool.and_eq_true, Bool.not_eq_true']
  constructor
  · rintro ⟨h1, h2, h3⟩
    refine ⟨h1, h2, ops[i], by simp [h1], ?_⟩
    simpa [h1] using h3
  · rintro ⟨h1, h2, o, h3, h4⟩
    refine ⟨h1, h2, ?_⟩
    rw [h3]
    simpa using h4

theorem wpAny_inv {P : Program} {ops : Array Oper} {Q : Exit → Act → World → Prop} (I : (Nat → Bool) → Act → World → Prop) (hord : inOrder 0 ops.toList = true) (hs : StepsOK P ops Q I 0 ops.toList)
    (hd : ∀ L a w, I L a w → (∀ i, i < ops.size → L i = true) → Q .normal a w) : ∀ (fuel : Nat) (listed : Array Bool) (a : Act) (w : World), listed.size = ops.size → (List.range ops.size).countP (fun i => !listed.getD i true) ≤ fuel → I (fun j => listed.getD j false) a w → wpAny P .any ops Q fuel listed a w := by
  have same : ∀ (listed : Array Bool) i, i < listed.size → listed.getD i true = listed.getD i false := by
    intro listed i hi
    simp [Array.getD, hi]
  have none_ready : ∀ (listed : Array Bool), listed.size = ops.size → Region.ready .any ops listed = [] → ∀ i, i < ops.size → listed.getD i false = true := by
    intro listed hsz hr i
    induction i using Nat.strongRecOn with
    | ind i ih =>
      intro hi
      cases hb : listed.getD i false with
      | true => rfl
      | false =>
        exfalso
        have ho : ops[i]? = some ops[i] := by simp [hi]
        have h1 := order_at (i := i) (o := ops[i]) hord (by rw [Array.getElem?_toList]; exact ho)
        have : i ∈ Region.ready .any ops listed := by
          refine ready_iff.2 ⟨hi, by rw [same listed i (by omega)]; exact hb, ops[i], ho, ?_⟩
          unfold Aft
          rw [List.all_eq_true] at h1 ⊢
          intro e he
          have h2 := h1 e he
          simp only [Bool.or_eq_true, decide_eq_true_eq, Nat.zero_add] at h2 ⊢
          rcases h2 with h2 | h2
          · exact Or.inl h2
          · exact Or.inr (ih e.on h2 (by omega))
        rw [hr] at this
        cases this
  intro fuel
  induction fuel with
  | zero =>
    intro listed a w hsz hc hI
    have hall : ∀ i, i < ops.size → listed.getD i true = true := by
      intro i hi
      have h0 := Nat.le_zero.1 hc
      rw [List.countP_eq_zero] at h0
      have := h0 i (List.mem_range.2 hi)
      simpa using this
    refine ⟨?_, hd _ _ _ hI (fun i hi => by rw [← same listed i (by omega)]; exact hall i hi)⟩
    rw [List.eq_nil_iff_forall_not_mem]
    intro i hi
    obtain ⟨h1, h2, _⟩ := ready_iff.1 hi
    rw [hall i h1] at h2
    cases h2
  | succ fuel ih =>
    intro listed a w hsz hc hI
    refine ⟨fun hr => hd _ _ _ hI (none_ready listed hsz hr), fun i hi => ?_⟩
    obtain ⟨h1, h2, o, ho, haf⟩ := ready_iff.1 hi
    have hst := steps_at (i := i) hs (by simpa using ho)
    rw [Nat.zero_add] at hst
    refine wpOp_step ho (fun K hK => hst _ a w hI (by rw [← same listed i (by omega)]; exact h2) haf K (fun a' w' h' => hK a' w' ?_))
    refine ih _ a' w' (by simpa using hsz) ?_ ?_
    · have := cnt_lt (p := fun j => !(listed.setIfInBounds i true).getD j true) (q := fun j => !listed.getD j true) (l := List.range ops.size) (i := i) ?_ (List.mem_range.2 h1) (by simp [h2]) ?_
      · omega
      · intro x hx
        by_cases hxi : x = i
        · subst hxi; simp [h2]
        · simp only [Bool.not_eq_true'] at hx ⊢
          by_cases hxs : x < listed.size
          · simp [Array.getD, hxs, Ne.symm hxi] at hx ⊢; exact hx
          · simp [Array.getD, hxs] at hx
      · simp [Array.getD, show i < listed.size by omega]
    · have e : (fun j => (listed.setIfInBounds i true).getD j false) = (fun j => j == i || listed.getD j false) := by
        funext x
        by_cases hxi : x = i
        · subst hxi; simp [Array.getD, show x < listed.size by omega]
        · by_cases hxs : x < listed.size
          · simp [Array.getD, hxs, Ne.symm hxi, hxi]
          · simp [Array.getD, hxs, hxi]
      rw [e]
      exact h'

/-- A region that draws its order, by what holds at any time. -/
theorem wp_region_inv {P : Program} {ops : Array Oper} {Q : Exit → Act → World → Prop} {id : Nat} {a : Act} {w : World} (hm : P.follows .mixedOrders = true) (I : (Nat → Bool) → Act → World → Prop)
    (hord : inOrder 0 ops.toList = true) (h0 : I (fun _ => false) a w.drew) (hd : ∀ L a w, I L a w → (∀ i, i < ops.size → L i = true) → Q .normal a w) (hs : StepsOK P ops Q I 0 ops.toList) : (Code.region id ops true).wp P Q a w := by
  refine wp_region_any hm (wpAny_inv I hord hs hd ops.size _ a _ (by simp) ?_ ?_)
  · refine Nat.le_trans List.countP_le_length ?_
    simp
  · have e : (fun j => (Array.replicate ops.size false).getD j false) = fun _ => false := by
      funext x
      simp [Array.getD]
    rw [e]
    exact h0

/-- Slot s holds v from now on. -/
def upd (U : Nat → Value) (s : Nat) (v : Value) : Nat → Value := fun t => bif t == s then v else U t
/-- The frame a, with what U says in the slots. -/
def putAll (a : Act) (slots : List Nat) (U : Nat → Value) : Act := slots.foldl (fun b s => b.put (some s) (U s)) a
theorem putAll_self (a : Act) : ∀ (slots : List Nat), putAll a slots (fun s => a.tmps.getD s undef) = a := by
  intro slots
  induction slots with
  | nil => rfl
  | cons s l ih =>
    have e : a.put (some s) (a.tmps.getD s undef) = a := by
      unfold Act.put
      simp only
      have : a.tmps.setIfInBounds s (a.tmps.getD s undef) = a.tmps := by
        apply Array.ext
        · simp
        · intro i h1 h2
          rw [Array.getElem_setIfInBounds]
          split
          · rename_i h; subst h; simp [Array.getD, h2]
          · rfl
      rw [this]
    unfold putAll at ih ⊢
    rw [List.foldl_cons, e]
    exact ih

/-- A goal that is not looked into. -/
structure Gate (p : Prop) : Prop where
  out : p
/-- A frame's slots, those of the mask by U. -/
def setM (U : Nat → Value) : List (Option Nat) → List Value → List Value
  | [], l => l
  | some s :: m, _ :: l => U s :: setM U m l
  | none :: m, v :: l => v :: setM U m l
  | _ :: _, [] => []
theorem setM_nil (U : Nat → Value) (l : List Value) : setM U [] l = l := by unfold setM; rfl
theorem setM_some (U : Nat → Value) (s : Nat) (m : List (Option Nat)) (v : Value) (l : List Value) : setM U (some s :: m) (v :: l) = U s :: setM U m l := by rw [setM]
theorem setM_none (U : Nat → Value) (m : List (Option Nat)) (v : Value) (l : List Value) : setM U (none :: m) (v :: l) = v :: setM U m l := by rw [setM]
end Go.Proofs.YtomldkljlbdnjaaGreat
/- A region that draws its order and leaves all that lay there: one predicate for each operation's slot, moved on by one law; no statement of the seat is proved here. -/
namespace Go.Proofs.YtomldkljlbdnjaaGreat
open Go.RowKit
set_option linter.unusedVariables false

/-- The frame A is a with what U says in the slots. -/
structure Frm (a : Act) (sls : List Nat) (U : Nat → Value) (A : Act) : Prop where
  got : ∀ i, i < sls.length → A.tmps[sls.getD i 0]? = some (U (sls.getD i 0))
  old : ∀ s, (sls.contains s) = false → A.tmps[s]? = a.tmps[s]?
theorem put_tmps_same (a : Act) (s : Nat) (v : Value) (h : s < a.tmps.size) : (a.put (some s) v).tmps[s]? = some v := by simp [Act.put, h]
theorem put_tmps_other (a : Act) {s t : Nat} (v : Value) (h : t ≠ s) : (a.put (some s) v).tmps[t]? = a.tmps[t]? := by simp [Act.put, Ne.symm h]
theorem put_size (a : Act) (s : Nat) (v : Value) : (a.put (some s) v).tmps.size = a.tmps.size := by simp [Act.put]
theorem putAll_size (a : Act) : ∀ (sls : List Nat) (U : Nat → Value), (putAll a sls U).tmps.size = a.tmps.size := by
  intro sls
  induction sls generalizing a with
  | nil => intro U; rfl
  | cons s l ih => intro U; show (putAll (a.put (some s) (U s)) l U).tmps.size = _; rw [ih, put_size]
theorem putAll_defers (a : Act) : ∀ (sls : List Nat) (U : Nat → Value), (putAll a sls U).defers = a.defers := by
  intro sls
  induction sls generalizing a with
  | nil => intro U; rfl
  | cons s l ih => intro U; show (putAll (a.put (some s) (U s)) l U).defers = _; rw [ih]; rfl
theorem putAll_other (a : Act) : ∀ (sls : List Nat) (U : Nat → Value) (t : Nat), t ∉ sls → (putAll a sls U).tmps[t]? = a.tmps[t]? := by
  intro sls
  induction sls generalizing a with
  | nil => intro U t _; rfl
  | cons s l ih =>
    intro U t ht
    show (putAll (a.put (some s) (U s)) l U).tmps[t]? = _
    rw [ih _ U t (fun h => ht (List.mem_cons_of_mem _ h)), put_tmps_other _ _ (fun e => by subst e; exact ht (List.mem_cons_self ..))]
theorem putAll_mem (a : Act) : ∀ (sls : List Nat) (U : Nat → Value) (t : Nat), t ∈ sls → t < a.tmps.size → (putAll a sls U).tmps[t]? = some (U t) := by
  intro sls
  induction sls generalizing a with
  | nil => intro U t h; cases h
  | cons s l ih =>
    intro U t ht hsz
    show (putAll (a.put (some s) (U s)) l U).tmps[t]? = _
    by_cases hl : t ∈ l
    · exact ih _ U t hl (by rw [put_size]; exact hsz)
    · rw [putAll_other _ l U t hl]
      rcases List.mem_cons.1 ht with rfl | h
      · exact put_tmps_same _ _ _ hsz
      · exact absurd h hl
theorem act_ext {a b : Act} (hd : a.defers = b.defers) (hs : a.tmps.size = b.tmps.size) (ht : ∀ t : Nat, a.tmps[t]? = b.tmps[t]?) : a = b := by
  cases a; cases b
  simp only at hd hs ht
  subst hd
  congr 1
  exact Array.ext_getElem? ht
theorem putAll_upd (a : Act) (sls : List Nat) (U : Nat → Value) (s : Nat) (v : Value) (hs : s ∈ sls) (hsz : s < a.tmps.size) : (putAll a sls U).put (some s) v = putAll a sls (upd U s v) := by
  refine act_ext ?_ ?_ ?_
  · rw [putAll_defers]; show (putAll a sls U).defers = _; rw [putAll_defers]
  · rw [put_size, putAll_size, putAll_size]
  · intro t
    by_cases e : t = s
    · subst e
      rw [put_tmps_same _ _ _ (by rw [putAll_size]; exact hsz), putAll_mem _ _ _ _ hs hsz]
      simp [upd]
    · rw [put_tmps_other _ _ e]
      by_cases ht : t ∈ sls
      · by_cases hl : t < a.tmps.size
        · rw [putAll_mem _ _ _ _ ht hl, putAll_mem _ _ _ _ ht hl]
          have e' : (t == s) = false := by simp [e]
          simp [upd, e']
        · rw [Array.getElem?_eq_none (by rw [putAll_size]; omega), Array.getElem?_eq_none (by rw [putAll_size]; omega)]
      · rw [putAll_other _ _ _ _ ht, putAll_other _ _ _ _ ht]
end Go.Proofs.YtomldkljlbdnjaaGreat
