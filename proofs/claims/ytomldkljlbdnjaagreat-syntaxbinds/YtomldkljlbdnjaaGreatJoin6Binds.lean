/- Joined: SynV, SynW, SynPCut, SynFcCut: words and contracts; no statement of the seat is proved here. -/
import Derived.Test.YtomldkljlbdnjaaGreatJoin5Binds
/- The reader of package syntax: a name. No statement of the seat is proved here. -/
namespace Go.Proofs.YtomldkljlbdnjaaGreat
open Go.RowKit
set_option linter.unusedVariables false
set_option linter.unusedSimpArgs false
namespace Syn
open Euf (OL App Stop)
open Lex (T TL tx bs tkC FV IsNm)
set_option maxRecDepth 4000 in
set_option maxHeartbeats 1000000 in
theorem name_any (g : Nat) (v : Value) (ts : List T) (en i dp : Nat) (w : World) (h : RD w g v ts en i dp) (hi : i < 100000) (hz : (nx ts en i).x.length ≤ 65536) :
    Calls Tryz.prog 102 #[.pointer (some ⟨g, 0, none⟩)] w fun e w' => MvR g w w' ∧ ((IsNm (nx ts en i).x ∧ e = .returned (TV (nx ts en i)) ∧ RD w' g v ts en (i + 1) dp) ∨ (¬ IsNm (nx ts en i).x ∧ Gives e 110 (nx ts en i).a)) := by
  have hb0 : Below w.heap.size w (w.alloc (.cells #[.int .i64 0, .string ByteArray.empty, .int .i64 0] 43 (0, 0))) := by go_grown
  have HN : Hid (∀ w', Below w.heap.size w w' → RD w' g v ts en i dp ∧ Calls Tryz.prog 108 #[.pointer (some ⟨g, 0, none⟩)] w' fun e w'' => e = .returned (TV (nx ts en i)) ∧ Below w'.heap.size w' w'') :=
    fun w' hb => ⟨h.below hb, next_any g v ts en i dp w' (h.below hb)⟩
  have HT : Hid (∀ w', Below w.heap.size w w' → Calls Tryz.prog 137 #[.pointer (some ⟨g, 0, none⟩)] w' fun e w'' => e = .returned (TV (nx ts en i)) ∧ RD w'' g v ts en (i + 1) dp ∧ MvR g w' w'') :=
    fun w' hb => take_any g v ts en i dp w' (h.below hb) hi
  have HF : Hid (∀ w', Below w.heap.size w w' → Calls Tryz.prog 58 #[.pointer (some ⟨g, 0, none⟩), .int .i64 110] w' fun e w'' => e = .returned (FV 110 (nx ts en i).a) ∧ Below w'.heap.size w' w'') :=
    fun w' hb => fault_any g 110 v ts en i dp w' (h.below hb)
  have HW : Hid (RD w g v ts en i dp) := h
  have hlg := h.lt
  clear h
  generalize nx ts en i = t at *
  have HI : Hid (∀ w', Calls Tryz.prog 24 #[.string (tx t.x)] w' fun e w'' => e = .returned (.bool (decide (IsNm t.x))) ∧ w'' = w') := fun w' => by
    have h1 := Lex.isName_any (tx t.x) w' (by rw [← Lex.bs_length, Lex.bs_tx]; omega)
    rwa [Lex.bs_tx] at h1
  by_cases hx : IsNm t.x
  · rw [decide_eq_true hx] at HI
    have HX : Hid (IsNm t.x) := hx
    clear hx HF
    go_enter Tryz.func102, Tryz.ntmps102
    go_wp2_with fail
    refine (HN.out _ hb0).2.mono ?_
    rintro e w1 ⟨rfl, hb⟩
    have hb1 := hb0.step hb (by simp)
    have B := (Blk.new w 43 #[.int .i64 0, .string ByteArray.empty, .int .i64 0]).stay hb
    clear hb
    simp only [TV]
    have F1 := fun w => field_text (tx t.x) t.k t.a w
    go_wp2_with fail
    refine (HI.out _).mono ?_
    rintro e w' ⟨rfl, rfl⟩
    go_wp2_with fail
    refine (HT.out _ hb1).mono ?_
    rintro e w2 ⟨rfl, R2, M2⟩
    have B2 : Blk 43 w2 w.heap.size #[.int .i64 0, .string ByteArray.empty, .int .i64 0] := (M2.other _ B.lt (by omega)).trans B
    have r0 := B2.cell 0
    have r1 := B2.cell 1
    have r2 := B2.cell 2
    have q0 := B2.frozen 0
    have q1 := B2.frozen 1
    have q2 := B2.frozen 2
    have HR : Hid (RD w2 g v ts en (i + 1) dp ∧ MvR g w w2) := ⟨R2, (Sat.Mv.below hb1 : MvR g w _).trans M2 (fun b hb => Or.inl hb)⟩
    clear R2 M2 B B2
    simp only [TV]
    go_wp2
    refine bodyPost_ret (v := TV t) (by simp [results, Tryz.results102, go_sem, TV, r0, r1, r2]) rfl ?_
    refine ⟨?_, Or.inl ⟨HX.out, rfl, ?_⟩⟩
    · refine Sat.Mv.set (Sat.Mv.set (Sat.Mv.set HR.out.2 ?_ _) ?_ _) ?_ _ <;> exact Or.inr (Nat.le_refl _)
    · have hn1 : v.ownBlock ≠ some w.heap.size := HW.out.own (Nat.le_refl _)
      have hn2 : w.heap.size ≠ g := by omega
      exact RD.fresh (RD.fresh (RD.fresh HR.out.1 hn2 hn1 _) hn2 hn1 _) hn2 hn1 _
  · rw [decide_eq_false hx] at HI
    have HX : Hid (¬ IsNm t.x) := hx
    clear hx HT
    go_enter Tryz.func102, Tryz.ntmps102
    go_wp2_with fail
    refine (HN.out _ hb0).2.mono ?_
    rintro e w1 ⟨rfl, hb⟩
    have hb1 := hb0.step hb (by simp)
    clear hb
    simp only [TV]
    have F1 := fun w => field_text (tx t.x) t.k t.a w
    go_wp2_with fail
    refine (HI.out _).mono ?_
    rintro e w' ⟨rfl, rfl⟩
    go_wp2_with fail
    refine (HF.out _ hb1).mono ?_
    rintro e w2 ⟨rfl, hb⟩
    have hb2 := hb1.step hb (Nat.le_refl _)
    simp only [FV]
    go_wp2
    exact ⟨rfl, Sat.Mv.below hb2, Or.inr ⟨HX.out, rfl⟩⟩
end Syn
end Go.Proofs.YtomldkljlbdnjaaGreat
/- Trees of package api in memory: texts, numbers, flags, places, lists of rows of such. No statement of the seat is proved here. -/
namespace Go.Proofs.YtomldkljlbdnjaaGreat
open Go.RowKit
set_option linter.unusedVariables false
set_option linter.unusedSimpArgs false
namespace Syn
open Euf (OL App Stop)
open Lex (T TL tx bs tkC FV IsNm)

/-- What a leaf holds: a text, a number, a flag, a place, or a list of rows of a sort. -/
inductive V where
  | s (x : List UInt8)
  | n (k : Nat)
  | b (t : Bool)
  | a (p : Nat)
  | l (s : Nat) (rows : List (List V))
/-- How many leaves a row of a sort has: 0 expressions, 1 types, 2 statements, 3 parameters, 4 fields, 5 ctors, 6 methods, 7 classes, 8 texts. -/
def wd : Nat → Nat
  | 0 => 5 | 1 => 6 | 2 => 7 | 3 => 8 | 4 => 9 | 5 => 5 | 6 => 11 | 7 => 9 | _ => 1
def ty : Nat → TypeId
  | 0 => 49 | 1 => 54 | 2 => 47 | 3 => 123 | 4 => 86 | 5 => 89 | 6 => 92 | 7 => 78 | _ => 9
/-- Two lists, element by element. -/
inductive F2 {α β : Type} (R : α → β → Prop) : List α → List β → Prop where
  | nil : F2 R [] []
  | cons {a : α} {b : β} {l : List α} {m : List β} (h : R a b) (t : F2 R l m) : F2 R (a :: l) (b :: m)
def XB (v : Value) : V → Prop
  | .s x => v = .string (tx x)
  | .n k => v = .int .i64 (k : Int)
  | .b t => v = .bool t
  | .a p => v = .int .i64 (p : Int)
  | .l _ rows => v = .slice none 0 0 ∧ rows = []
/-- A leaf lies so in memory, its blocks among F; what a list's elements lead to isn't in the list's own block. -/
def XV (w : World) : Nat → (Nat → Prop) → Value → V → Prop
  | 0, F, v, t => XB v t
  | n + 1, F, v, t => XB v t ∨ ∃ s rows C, t = .l s rows ∧ OL (wd s) (ty s) w v rows.length C ∧ (∀ b, v.ownBlock = some b → F b) ∧ ∀ i, i < rows.length → (C i).length = wd s ∧ F2 (fun u t => XV w n (fun b => F b ∧ v.ownBlock ≠ some b) u t) (C i) (rows.getD i [])
def X (w : World) (F : Nat → Prop) (v : Value) (t : V) : Prop := ∃ n, XV w n F v t
abbrev XR (w : World) (F : Nat → Prop) : List Value → List V → Prop := F2 (X w F)
theorem f2_imp {α β : Type} {R S : α → β → Prop} {l : List α} {m : List β} (h : F2 R l m) (hi : ∀ a b, R a b → S a b) : F2 S l m := by
  induction h with
  | nil => exact .nil
  | cons h _ ih => exact .cons (hi _ _ h) ih
theorem XV.up {w : World} : ∀ {n : Nat} {F : Nat → Prop} {v : Value} {t : V}, XV w n F v t → XV w (n + 1) F v t
  | 0, _, _, _, h => Or.inl h
  | n + 1, _, _, _, h => by
    rcases h with h | ⟨s, rows, C, h1, h2, h3, h4⟩
    · exact Or.inl h
    · exact Or.inr ⟨s, rows, C, h1, h2, h3, fun i hi => ⟨(h4 i hi).1, f2_imp (h4 i hi).2 fun _ _ k => XV.up k⟩⟩
theorem XV.mono {w : World} {F : Nat → Prop} {n m : Nat} {v : Value} {t : V} (hm : n ≤ m) (h : XV w n F v t) : XV w m F v t := by
  induction hm with
  | refl => exact h
  | step _ ih => exact ih.up
theorem XV.stay {w w' : World} : ∀ {n : Nat} {F G : Nat → Prop} (hb : ∀ b, F b → b < w.heap.size → w'.heap[b]? = w.heap[b]? ∧ G b) {v : Value} {t : V}, XV w n F v t → XV w' n G v t
  | 0, _, _, _, _, _, h => h
  | n + 1, _, _, hb, _, _, h => by
    rcases h with h | ⟨s, rows, C, h1, h2, h3, h4⟩
    · exact Or.inl h
    · exact Or.inr ⟨s, rows, C, h1, h2.stay fun b k => (hb b (h3 b k) (h2.lt k)).1, fun b k => (hb b (h3 b k) (h2.lt k)).2, fun i hi => ⟨(h4 i hi).1, f2_imp (h4 i hi).2 fun _ _ k => XV.stay (fun b kb kl => ⟨(hb b kb.1 kl).1, (hb b kb.1 kl).2, kb.2⟩) k⟩⟩
theorem X.stay {w w' : World} {F G : Nat → Prop} {v : Value} {t : V} (h : X w F v t) (hb : ∀ b, F b → b < w.heap.size → w'.heap[b]? = w.heap[b]? ∧ G b) : X w' G v t :=
  let ⟨n, h⟩ := h; ⟨n, h.stay hb⟩
theorem XR.stay {w w' : World} {F G : Nat → Prop} {v : List Value} {t : List V} (h : XR w F v t) (hb : ∀ b, F b → b < w.heap.size → w'.heap[b]? = w.heap[b]? ∧ G b) : XR w' G v t :=
  f2_imp h fun _ _ k => k.stay hb
theorem X.s (w : World) (F : Nat → Prop) (x : List UInt8) : X w F (.string (tx x)) (.s x) := ⟨0, rfl⟩
theorem X.b (w : World) (F : Nat → Prop) (k : Bool) : X w F (.bool k) (.b k) := ⟨0, rfl⟩
theorem X.a (w : World) (F : Nat → Prop) (k : Nat) : X w F (.int .i64 (k : Int)) (.a k) := ⟨0, rfl⟩
theorem X.nil (w : World) (F : Nat → Prop) (s : Nat) : X w F (.slice none 0 0) (.l s []) := ⟨0, rfl, rfl⟩
theorem XV.isS {w : World} {F : Nat → Prop} {n : Nat} {v : Value} {x : List UInt8} (h : XV w n F v (.s x)) : v = .string (tx x) := by
  cases n with
  | zero => exact h
  | succ n => rcases h with h | ⟨_, _, _, h, _⟩; exact h; cases h
theorem X.isS {w : World} {F : Nat → Prop} {v : Value} {x : List UInt8} (h : X w F v (.s x)) : v = .string (tx x) := let ⟨_, h⟩ := h; h.isS
theorem X.isN {w : World} {F : Nat → Prop} {v : Value} {x : Nat} (h : X w F v (.n x)) : v = .int .i64 (x : Int) := by
  obtain ⟨n, h⟩ := h
  cases n with
  | zero => exact h
  | succ n => rcases h with h | ⟨_, _, _, h, _⟩; exact h; cases h
theorem X.isA {w : World} {F : Nat → Prop} {v : Value} {x : Nat} (h : X w F v (.a x)) : v = .int .i64 (x : Int) := by
  obtain ⟨n, h⟩ := h
  cases n with
  | zero => exact h
  | succ n => rcases h with h | ⟨_, _, _, h, _⟩; exact h; cases h
theorem X.isB {w : World} {F : Nat → Prop} {v : Value} {x : Bool} (h : X w F v (.b x)) : v = .bool x := by
  obtain ⟨n, h⟩ := h
  cases n with
  | zero => exact h
  | succ n => rcases h with h | ⟨_, _, _, h, _⟩; exact h; cases h
/-- One height for finitely many. -/
theorem heights {w : World} {F : Nat → Prop} {l : List Value} {m : List V} (h : XR w F l m) : ∃ n, F2 (fun v t => XV w n F v t) l m := by
  induction h with
  | nil => exact ⟨0, .nil⟩
  | cons h _ ih =>
    obtain ⟨a, ha⟩ := h
    obtain ⟨b, hb⟩ := ih
    exact ⟨max a b, .cons (ha.mono (Nat.le_max_left _ _)) (f2_imp hb fun _ _ k => k.mono (Nat.le_max_right _ _))⟩
theorem heights2 {w : World} {F : Nat → Prop} (C : Nat → List Value) (D : Nat → List V) : ∀ k : Nat, (∀ i, i < k → XR w F (C i) (D i)) → ∃ n, ∀ i, i < k → F2 (fun v t => XV w n F v t) (C i) (D i)
  | 0, _ => ⟨0, fun i hi => absurd hi (Nat.not_lt_zero _)⟩
  | k + 1, h => by
    obtain ⟨a, ha⟩ := heights2 C D k fun i hi => h i (by omega)
    obtain ⟨b, hb⟩ := heights (h k (by omega))
    refine ⟨max a b, fun i hi => ?_⟩
    by_cases e : i = k
    · subst e; exact f2_imp hb fun _ _ k => k.mono (Nat.le_max_right _ _)
    · exact f2_imp (ha i (by omega)) fun _ _ k => k.mono (Nat.le_max_left _ _)
theorem X.mk {w : World} {F : Nat → Prop} {v : Value} {s : Nat} {rows : List (List V)} (C : Nat → List Value) (ho : OL (wd s) (ty s) w v rows.length C) (hF : ∀ b, v.ownBlock = some b → F b) (hl : ∀ i, i < rows.length → (C i).length = wd s) (hx : ∀ i, i < rows.length → XR w (fun b => F b ∧ v.ownBlock ≠ some b) (C i) (rows.getD i [])) : X w F v (.l s rows) := by
  obtain ⟨n, hn⟩ := heights2 C (fun i => rows.getD i []) rows.length hx
  exact ⟨n + 1, Or.inr ⟨s, rows, C, rfl, ho, hF, fun i hi => ⟨hl i hi, hn i hi⟩⟩⟩
theorem X.open {w : World} {F : Nat → Prop} {v : Value} {s : Nat} {rows : List (List V)} (h : X w F v (.l s rows)) : ∃ C, OL (wd s) (ty s) w v rows.length C ∧ (∀ b, v.ownBlock = some b → F b) ∧ (∀ i, i < rows.length → (C i).length = wd s) ∧ ∀ i, i < rows.length → XR w (fun b => F b ∧ v.ownBlock ≠ some b) (C i) (rows.getD i []) := by
  obtain ⟨n, h⟩ := h
  have base : XB v (.l s rows) → _ := fun (h : v = .slice none 0 0 ∧ rows = []) => show ∃ C, OL (wd s) (ty s) w v rows.length C ∧ (∀ b, v.ownBlock = some b → F b) ∧ (∀ i, i < rows.length → (C i).length = wd s) ∧ ∀ i, i < rows.length → XR w (fun b => F b ∧ v.ownBlock ≠ some b) (C i) (rows.getD i []) by
    obtain ⟨rfl, rfl⟩ := h
    exact ⟨fun _ => [], OL.nil _ _ _ _, (fun b k => by cases k), (fun i hi => absurd hi (Nat.not_lt_zero _)), fun i hi => absurd hi (Nat.not_lt_zero _)⟩
  cases n with
  | zero => exact base h
  | succ n =>
    rcases h with h | ⟨s', rows', C, h1, h2, h3, h4⟩
    · exact base h
    · cases h1
      exact ⟨C, h2, h3, fun i hi => (h4 i hi).1, fun i hi => f2_imp (h4 i hi).2 fun _ _ k => ⟨n, k⟩⟩
theorem X.one {w : World} {F : Nat → Prop} {v : Value} {t : V} (h : X w F v t) : v.oneCell' = true := by
  cases t with
  | s x => rw [h.isS]; rfl
  | n x => rw [h.isN]; rfl
  | b x => rw [h.isB]; rfl
  | a x => rw [h.isA]; rfl
  | l s rows =>
    obtain ⟨C, h1, _⟩ := h.open
    obtain ⟨a, cap, rfl, _⟩ := h1.shape
    rfl
theorem XR.one {w : World} {F : Nat → Prop} {l : List Value} {m : List V} (h : XR w F l m) : ∀ u ∈ l, u.oneCell' = true := by
  induction h with
  | nil => intro u hu; cases hu
  | cons h _ ih => intro u hu; rcases List.mem_cons.1 hu with rfl | hu; exact h.one; exact ih u hu
/-- A list of rows that is being made: the elements don't lie in its own block. -/
structure LS (w : World) (base s : Nat) (v : Value) (rows : List (List V)) (C : Nat → List Value) : Prop where
  ol : OL (wd s) (ty s) w v rows.length C
  own : ∀ b, v.ownBlock = some b → base ≤ b
  len : ∀ i, i < rows.length → (C i).length = wd s
  el : ∀ i, i < rows.length → XR w (fun b => base ≤ b ∧ v.ownBlock ≠ some b) (C i) (rows.getD i [])
theorem LS.nil (w : World) (base s : Nat) : LS w base s (.slice none 0 0) [] (fun _ => []) :=
  ⟨OL.nil _ _ _ _, (fun b k => by cases k), (fun i hi => absurd hi (Nat.not_lt_zero _)), fun i hi => absurd hi (Nat.not_lt_zero _)⟩
theorem LS.x {w : World} {base s : Nat} {v : Value} {rows : List (List V)} {C : Nat → List Value} (h : LS w base s v rows C) : X w (fun b => base ≤ b) v (.l s rows) :=
  X.mk C h.ol h.own h.len h.el
theorem LS.stay {w w' : World} {base s : Nat} {v : Value} {rows : List (List V)} {C : Nat → List Value} (h : LS w base s v rows C) (hb : ∀ b, base ≤ b → b < w.heap.size → w'.heap[b]? = w.heap[b]?) : LS w' base s v rows C :=
  ⟨h.ol.stay fun b k => hb b (h.own b k) (h.ol.lt k), h.own, h.len, fun i hi => (h.el i hi).stay fun b k kl => ⟨hb b k.1 kl, k⟩⟩
def putC (C : Nat → List Value) (n : Nat) (r : List Value) (i : Nat) : List Value := if i = n then r else C i
theorem LS.push {w w' : World} {base s : Nat} {v v' : Value} {rows : List (List V)} {C : Nat → List Value} {r : List Value} {t : List V} (h : LS w base s v rows C) (ho : OL (wd s) (ty s) w' v' (rows.length + 1) (putC C rows.length r)) (ha : App v v' w w') (hlb : base ≤ w.heap.size) (hlr : r.length = wd s) (hr : XR w (fun b => base ≤ b ∧ v.ownBlock ≠ some b) r t) : LS w' base s v' (rows ++ [t]) (putC C rows.length r) := by
  have hs : ∀ b, (base ≤ b ∧ v.ownBlock ≠ some b) → b < w.heap.size → w'.heap[b]? = w.heap[b]? ∧ (base ≤ b ∧ v'.ownBlock ≠ some b) := fun b k kl => ⟨ha.other b kl k.2, k.1, by
    rcases ha.at_ with e | ⟨c, e, hc⟩
    · rw [e]; exact k.2
    · rw [e]; intro hh; injection hh with hh; omega⟩
  refine ⟨by rw [List.length_append]; exact ho, fun b k => ?_, fun i hi => ?_, fun i hi => ?_⟩
  · rcases ha.at_ with e | ⟨c, e, hc⟩
    · rw [e] at k; exact h.own b k
    · rw [e] at k; injection k with k; omega
  · unfold putC
    split
    · exact hlr
    · rw [List.length_append] at hi; simp at hi; exact h.len i (by omega)
  · rw [List.length_append] at hi
    simp at hi
    unfold putC
    split
    · rename_i e
      subst e
      simpa [List.getD_eq_getElem?_getD] using hr.stay hs
    · have hi' : i < rows.length := by omega
      have := (h.el i hi').stay hs
      simpa [List.getD_eq_getElem?_getD, List.getElem?_append_left hi'] using this
end Syn
end Go.Proofs.YtomldkljlbdnjaaGreat
/- The pure reader of programs, by fuel. No statement of the seat is proved here. -/
namespace Go.Proofs.YtomldkljlbdnjaaGreat
open Go.RowKit
set_option linter.unusedVariables false
set_option linter.unusedSimpArgs false
namespace Syn
open Euf (OL App Stop)
open Lex (T TL tx bs tkC FV IsNm)

/-- What reading comes to: leaves and the tokens that are left, a fault, or no fuel. -/
inductive Res where
  | ok (r : List V) (st : List T)
  | bad (c a : Nat)
  | out
def Res.to (x : Res) (f : List V → List T → Res) : Res :=
  match x with
  | .ok r st => f r st
  | .bad c a => .bad c a
  | .out => .out
@[simp] theorem Res.to_ok (r : List V) (st : List T) (f : List V → List T → Res) : (Res.ok r st).to f = f r st := rfl
@[simp] theorem Res.to_bad (c a : Nat) (f : List V → List T → Res) : (Res.bad c a).to f = .bad c a := rfl
@[simp] theorem Res.to_out (f : List V → List T → Res) : Res.out.to f = .out := rfl
def hd (en : Nat) (st : List T) : T := st.headD ⟨0, [], en⟩
def wantP (en : Nat) (x : List UInt8) (st : List T) (k : List T → Res) : Res := if (hd en st).x = x then k st.tail else .bad 110 (hd en st).a
def nameP (en : Nat) (st : List T) (k : T → List T → Res) : Res := if IsNm (hd en st).x then k (hd en st) st.tail else .bad 110 (hd en st).a
def nestP (en dp : Nat) (st : List T) (k : Nat → Res) : Res := if 100 ≤ dp then .bad 111 (hd en st).a else k (dp + 1)
def seesP (en : Nat) (st : List T) (L : List (List UInt8)) : Prop := ∀ j, j < L.length → (hd en (st.drop j)).x = L.getD j []
instance (en : Nat) (st : List T) (L : List (List UInt8)) : Decidable (seesP en st L) := by unfold seesP; exact inferInstance
def exR (op nm : List UInt8) (args tys : List (List V)) (at_ : Nat) : List V := [.s op, .s nm, .l 0 args, .l 1 tys, .a at_]
def tyR (k : Nat) (nm : List UInt8) (nl : Bool) (elem pred : List (List V)) (at_ : Nat) : List V := [.n k, .s nm, .b nl, .l 1 elem, .l 0 pred, .a at_]
def smR (kd nm : List UInt8) (tys exprs body els : List (List V)) (at_ : Nat) : List V := [.s kd, .s nm, .l 1 tys, .l 0 exprs, .l 2 body, .l 2 els, .a at_]
def meR (nm : List UInt8) (ps : List (List V)) (res : List V) (body : List (List V)) (ab : Bool) (at_ : Nat) : List V := [.s nm, .l 3 ps] ++ res ++ [.l 2 body, .b ab, .a at_]
def ctR (ps : List (List V)) (hs : Bool) (sup body : List (List V)) (at_ : Nat) : List V := [.l 3 ps, .b hs, .l 0 sup, .l 2 body, .a at_]
def clR (nm : List UInt8) (ifc : Bool) (sup : List UInt8) (above fields invs ctors meths : List (List V)) (at_ : Nat) : List V := [.s nm, .b ifc, .s sup, .l 8 above, .l 4 fields, .l 0 invs, .l 5 ctors, .l 6 meths, .a at_]
def sOf : V → List UInt8
  | .s x => x
  | _ => []
def lOf : V → List (List V)
  | .l _ x => x
  | _ => []
def aOf : V → Nat
  | .a x => x
  | _ => 0
def bOf : V → Bool
  | .b x => x
  | _ => false
abbrev gS (r : List V) (i : Nat) : List UInt8 := sOf (r.getD i (.n 0))
abbrev gL (r : List V) (i : Nat) : List (List V) := lOf (r.getD i (.n 0))
abbrev gA (r : List V) (i : Nat) : Nat := aOf (r.getD i (.n 0))
abbrev gB (r : List V) (i : Nat) : Bool := bOf (r.getD i (.n 0))
def betw (l : List V) (sg : T) (r : List V) : List V := exR sg.x [] [l, r] [] sg.a
/-- The level of a sign. -/
def lvl (x : List UInt8) : Nat :=
  if x = ([61, 62] : List UInt8) then 1 else if x = ([124, 124] : List UInt8) then 2 else if x = ([38, 38] : List UInt8) then 3
  else if x = ([61, 61] : List UInt8) ∨ x = ([33, 61] : List UInt8) ∨ x = ([60] : List UInt8) ∨ x = ([60, 61] : List UInt8) ∨ x = ([62] : List UInt8) ∨ x = ([62, 61] : List UInt8) then 4
  else if x = ([43] : List UInt8) ∨ x = ([45] : List UInt8) then 5 else if x = ([42] : List UInt8) ∨ x = ([47] : List UInt8) ∨ x = ([37] : List UInt8) then 6 else 0
/-- Sides with signs between, from the right. -/
def foldI : List (List V) → List T → List V
  | a :: ss, sg :: gs => betw a sg (foldI ss gs)
  | a :: _, [] => a
  | [], _ => []
/-- The statement by which an expression becomes something. -/
def tgt (e : List V) (at_ : Nat) : Option (List V) :=
  if gS e 0 = ([118, 97, 114] : List UInt8) then some (smR ([115, 101, 116] : List UInt8) (gS e 1) [] [] [] [] at_)
  else if gS e 0 = ([102, 105, 101, 108, 100] : List UInt8) then some (smR ([102, 105, 101, 108, 100] : List UInt8) (gS e 1) [] (gL e 2) [] [] at_)
  else if gS e 0 = ([105, 110, 100, 101, 120] : List UInt8) then some (smR ([101, 108, 101, 109] : List UInt8) [] [] (gL e 2) [] [] at_)
  else none
inductive Cmd where
  | expr | implied | impl (ss : List (List V)) (sg : List T) | operands (k : Nat) | binl (k : Nat) (e : List V)
  | operand | prefixed (op : List UInt8) | nestOperand | post (e : List V) | part (o : List V) | index (l : List V)
  | primary | alone (op : List UInt8) | object | list | inRound | round (s : Nat) | commas (s : Nat) | commaL (s : Nat) (acc : List (List V)) | elem (s : Nat)
  | curly (s : Nat) | curlyL (s : Nat) (acc : List (List V)) | nameText
  | typ | wholeType | listT (t : List V) | plainType | pred | param
  | block | stmts | stmt | lastExpr | let_ | branch | nestBranch | otherwise | loop | invs (acc : List (List V)) | giveBack | wordless
  | program | classes (acc : List (List V)) | class_ | iface | members (c : List V) | member (c : List V) | field | ctor | method | abstract | head | result
/-- The reader. -/
def P (en : Nat) : Nat → Cmd → Nat → List T → Res
  | 0, _, _, _ => .out
  | n + 1, c, dp, st =>
    match c with
    | .expr => nestP en dp st fun d => P en n .implied d st
    | .implied => (P en n (.operands 2) dp st).to fun e st => P en n (.impl [e] []) dp st
    | .impl ss sg => if (hd en st).x = ([61, 62] : List UInt8) then (P en n (.operands 2) dp st.tail).to fun e st1 => P en n (.impl (ss ++ [e]) (sg ++ [hd en st])) dp st1 else .ok (foldI ss sg) st
    | .operands k => if k = 7 then P en n .operand dp st else (P en n (.operands (k + 1)) dp st).to fun e st => P en n (.binl k e) dp st
    | .binl k e => if lvl (hd en st).x = k then (P en n (.operands (k + 1)) dp st.tail).to fun r st1 => if k = 4 then .ok (betw e (hd en st) r) st1 else P en n (.binl k (betw e (hd en st) r)) dp st1 else .ok e st
    | .operand => if (hd en st).x = ([45] : List UInt8) then P en n (.prefixed ([110, 101, 103] : List UInt8)) dp st else if (hd en st).x = ([33] : List UInt8) then P en n (.prefixed ([110, 111, 116] : List UInt8)) dp st
        else (P en n .primary dp st).to fun e st => P en n (.post e) dp st
    | .prefixed op => (P en n .nestOperand dp st.tail).to fun e st1 => .ok (exR op [] [e] [] (hd en st).a) st1
    | .nestOperand => nestP en dp st fun d => P en n .operand d st
    | .post e => if (hd en st).x = ([46] : List UInt8) then (P en n (.part e) dp st.tail).to fun e st => P en n (.post e) dp st
        else if (hd en st).x = ([91] : List UInt8) then (P en n (.index e) dp st).to fun e st => P en n (.post e) dp st else .ok e st
    | .part o => nameP en st fun t st => if (hd en st).x = ([40] : List UInt8) then (P en n (.round 0) dp st).to fun r st => .ok (exR ([99, 97, 108, 108] : List UInt8) t.x (o :: gL r 0) [] t.a) st else .ok (exR ([102, 105, 101, 108, 100] : List UInt8) t.x [o] [] t.a) st
    | .index _ => .out
    | .primary => if (hd en st).k = 2 then P en n (.alone ([110, 117, 109] : List UInt8)) dp st else if IsNm (hd en st).x then P en n (.alone ([118, 97, 114] : List UInt8)) dp st
        else if (hd en st).x = ([116, 114, 117, 101] : List UInt8) ∨ (hd en st).x = ([102, 97, 108, 115, 101] : List UInt8) ∨ (hd en st).x = ([110, 117, 108, 108] : List UInt8) ∨ (hd en st).x = ([116, 104, 105, 115] : List UInt8) then .ok (exR (hd en st).x [] [] [] (hd en st).a) st.tail
        else if (hd en st).x = ([110, 101, 119] : List UInt8) then P en n .object dp st
        else if (hd en st).x = ([108, 105, 115, 116] : List UInt8) then P en n .list dp st
        else if (hd en st).x = ([108, 101, 110] : List UInt8) then (P en n .inRound dp st.tail).to fun r st1 => .ok (exR ([108, 101, 110] : List UInt8) [] (gL r 0) [] (hd en st).a) st1
        else if (hd en st).x = ([114, 101, 97, 100] : List UInt8) then wantP en ([40] : List UInt8) st.tail fun st1 => wantP en ([41] : List UInt8) st1 fun st2 => .ok (exR ([114, 101, 97, 100] : List UInt8) [] [] [] (hd en st).a) st2
        else if (hd en st).x = ([40] : List UInt8) then (P en n .inRound dp st).to fun r st => .ok ((gL r 0).getD 0 []) st
        else .bad 110 (hd en st).a
    | .alone op => .ok (exR op (hd en st).x [] [] (hd en st).a) st.tail
    | .object => .out
    | .list => .out
    | .inRound => wantP en ([40] : List UInt8) st fun st => (P en n .expr dp st).to fun e st => wantP en ([41] : List UInt8) st fun st => .ok [.l 0 [e]] st
    | .round s => wantP en ([40] : List UInt8) st fun st => if (hd en st).x = ([41] : List UInt8) then .ok [.l s []] st.tail else (P en n (.commas s) dp st).to fun r st => wantP en ([41] : List UInt8) st fun st => .ok r st
    | .commas s => (P en n (.elem s) dp st).to fun e st => P en n (.commaL s [e]) dp st
    | .commaL s acc => if (hd en st).x = ([44] : List UInt8) then (P en n (.elem s) dp st.tail).to fun e st => P en n (.commaL s (acc ++ [e])) dp st else .ok [.l s acc] st
    | .elem s => if s = 0 then P en n .expr dp st else if s = 2 then P en n .stmt dp st else if s = 3 then P en n .param dp st else if s = 6 then P en n .abstract dp st else P en n .nameText dp st
    | .curly s => wantP en ([123] : List UInt8) st fun st => P en n (.curlyL s []) dp st
    | .curlyL s acc => if (hd en st).x = ([125] : List UInt8) then .ok [.l s acc] st.tail else (P en n (.elem s) dp st).to fun e st => P en n (.curlyL s (acc ++ [e])) dp st
    | .nameText => nameP en st fun t st => .ok [.s t.x] st
    | .typ => .out
    | .wholeType => .out
    | .listT _ => .out
    | .plainType => .out
    | .pred => .out
    | .param => .out
    | .block => nestP en dp st fun d => P en n .stmts d st
    | .stmts => P en n (.curly 2) dp st
    | .stmt => if (hd en st).x = ([108, 101, 116] : List UInt8) then P en n .let_ dp st else if (hd en st).x = ([105, 102] : List UInt8) then P en n .branch dp st else if (hd en st).x = ([119, 104, 105, 108, 101] : List UInt8) then P en n .loop dp st
        else if (hd en st).x = ([114, 101, 116, 117, 114, 110] : List UInt8) then P en n .giveBack dp st
        else if (hd en st).x = ([97, 115, 115, 101, 114, 116] : List UInt8) ∨ (hd en st).x = ([112, 114, 105, 110, 116] : List UInt8) then (P en n .lastExpr dp st.tail).to fun e st1 => .ok (smR (hd en st).x [] [] (gL e 0) [] [] (hd en st).a) st1
        else P en n .wordless dp st
    | .lastExpr => (P en n .expr dp st).to fun e st => wantP en ([59] : List UInt8) st fun st => .ok [.l 0 [e]] st
    | .let_ => .out
    | .branch => .out
    | .nestBranch => .out
    | .otherwise => .out
    | .loop => .out
    | .invs _ => .out
    | .giveBack => .out
    | .wordless => .out
    | .program => (P en n (.classes []) dp st).to fun cs st => (P en n .block dp st).to fun b st => if st = [] then .ok [.l 7 (gL cs 0), .l 2 (gL b 0)] st else .bad 110 (hd en st).a
    | .classes acc => if (hd en st).x = ([109, 97, 105, 110] : List UInt8) then .ok [.l 7 acc] st.tail else (P en n .class_ dp st).to fun c st => P en n (.classes (acc ++ [c])) dp st
    | .class_ => .out
    | .iface => .out
    | .members _ => .out
    | .member _ => .out
    | .field => .out
    | .ctor => .out
    | .method => .out
    | .abstract => .out
    | .head => .out
    | .result => .out
end Syn
end Go.Proofs.YtomldkljlbdnjaaGreat
/- More fuel changes no answer; the tokens of a given text. No statement of the seat is proved here. -/
namespace Go.Proofs.YtomldkljlbdnjaaGreat
set_option linter.unusedVariables false
set_option linter.unusedSimpArgs false
namespace Syn
open Lex (T IsNm)
/-- With more fuel an answer stays. -/
def Le (x y : Res) : Prop := x ≠ .out → y = x
section
variable {en : Nat} {st : List T}
theorem Le.refl (x : Res) : Le x x := fun _ => rfl
theorem Le.to {x y : Res} {f g : List V → List T → Res} (h : Le x y) (hf : ∀ r s, Le (f r s) (g r s)) : Le (x.to f) (y.to g) := by
  intro hn
  cases x with
  | ok r s => rw [h (by simp)] at *; exact hf r s hn
  | bad c a => rw [h (by simp)]; rfl
  | out => exact absurd rfl hn
theorem Le.ifc {C : Prop} [Decidable C] {A B A' B' : Res} (hA : Le A A') (hB : Le B B') : Le (if C then A else B) (if C then A' else B') := by
  by_cases h : C
  · rw [if_pos h, if_pos h]; exact hA
  · rw [if_neg h, if_neg h]; exact hB
theorem Le.want {x : List UInt8} {k k' : List T → Res} (h : Le (k st.tail) (k' st.tail)) : Le (wantP en x st k) (wantP en x st k') := Le.ifc h (Le.refl _)
theorem Le.name {k k' : T → List T → Res} (h : Le (k (hd en st) st.tail) (k' (hd en st) st.tail)) : Le (nameP en st k) (nameP en st k') := Le.ifc h (Le.refl _)
theorem Le.nest {dp : Nat} {k k' : Nat → Res} (h : Le (k (dp + 1)) (k' (dp + 1))) : Le (nestP en dp st k) (nestP en dp st k') := Le.ifc (Le.refl _) h
end
theorem P_le (en : Nat) : ∀ (n m : Nat) (hm : n ≤ m) (c : Cmd) (dp : Nat) (st : List T), Le (P en n c dp st) (P en m c dp st)
  | 0, _, _, _, _, _ => fun h => absurd rfl h
  | n + 1, 0, h, _, _, _ => absurd h (by omega)
  | n + 1, m + 1, h, c, dp, st => by
    have ih := P_le en n m (by omega)
    cases c
    all_goals simp only [P]
    all_goals
      repeat' (first
        | exact Le.refl _
        | exact ih _ _ _
        | (refine Le.want ?_)
        | (refine Le.name ?_)
        | (refine Le.nest ?_)
        | (refine Le.to (ih _ _ _) ?_; intro _ _)
        | (refine Le.ifc ?_ ?_)
        | split)
theorem P_stay (en : Nat) {n m : Nat} {c : Cmd} {dp : Nat} {st : List T} (hm : n ≤ m) (h : P en n c dp st ≠ .out) : P en m c dp st = P en n c dp st := P_le en n m hm c dp st h
theorem P_det (en : Nat) {n m : Nat} {c : Cmd} {dp : Nat} {st : List T} (h : P en n c dp st ≠ .out) (k : P en m c dp st ≠ .out) : P en m c dp st = P en n c dp st := by
  rcases Nat.le_total n m with hm | hm
  · exact P_stay en hm h
  · exact (P_stay en hm k).symm
end Syn
namespace Lex
/-- The tokens of a text, by fuel. -/
def lexF : Nat → List UInt8 → Nat → Option (List T)
  | 0, _, _ => none
  | n + 1, l, p =>
    if l.length ≤ sk l then some []
    else match tk (l.drop (sk l)) with
      | .ok k m => (lexF n (l.drop (sk l + m)) (p + (sk l + m))).map fun ts => ⟨k, (l.drop (sk l)).take m, p + sk l⟩ :: ts
      | .bad _ _ => none
theorem lexF_lx : ∀ (n : Nat) (l : List UInt8) (p : Nat) (ts : List T), lexF n l p = some ts → Lx l p ts 0 0
  | 0, _, _, _, h => by cases h
  | n + 1, l, p, ts, h => by
    unfold lexF at h
    split at h
    · rename_i h1
      injection h with h
      subst h
      exact .done h1
    · rename_i h1
      split at h
      · rename_i k m hk
        cases hr : lexF n (l.drop (sk l + m)) (p + (sk l + m)) with
        | none => rw [hr] at h; cases h
        | some u =>
          rw [hr] at h
          simp only [Option.map_some, Option.some.injEq] at h
          subst h
          exact .tok (by omega) hk (lexF_lx n _ _ _ hr)
      · cases h
def exT : List UInt8 := ([109, 97, 105, 110, 32, 123, 32, 112, 114, 105, 110, 116, 32, 49, 32, 43, 32, 50, 32, 42, 32, 51, 59, 32, 125] : List UInt8)
def exTs : List T := [⟨1, ([109, 97, 105, 110] : List UInt8), 0⟩, ⟨3, ([123] : List UInt8), 5⟩, ⟨1, ([112, 114, 105, 110, 116] : List UInt8), 7⟩, ⟨2, ([49] : List UInt8), 13⟩, ⟨3, ([43] : List UInt8), 15⟩, ⟨2, ([50] : List UInt8), 17⟩, ⟨3, ([42] : List UInt8), 19⟩, ⟨2, ([51] : List UInt8), 21⟩, ⟨3, ([59] : List UInt8), 22⟩, ⟨3, ([125] : List UInt8), 24⟩]
theorem exT_lex : lexF 20 exT 0 = some exTs := by rfl
end Lex
namespace Syn
open Lex (T IsNm)
def exE : List V := exR ([43] : List UInt8) [] [exR ([110, 117, 109] : List UInt8) ([49] : List UInt8) [] [] 13, exR ([42] : List UInt8) [] [exR ([110, 117, 109] : List UInt8) ([50] : List UInt8) [] [] 17, exR ([110, 117, 109] : List UInt8) ([51] : List UInt8) [] [] 21] [] 19] [] 15
def exM : List (List V) := [smR ([112, 114, 105, 110, 116] : List UInt8) [] [] [exE] [] [] 7]
theorem exT_P : P 25 60 .program 0 Lex.exTs = .ok [.l 7 [], .l 2 exM] [] := by rfl
end Syn
end Go.Proofs.YtomldkljlbdnjaaGreat
