/- Joined: SynRf, SynZtCut, SynZkCut, SynZuCut: words and contracts; no statement of the seat is proved here. -/
import Derived.RangeFuncNested
import Derived.RangeFuncBound
import Derived.RangeFuncCalls
import Derived.RangeFuncLeaves
import Derived.Shelf.Abstract
import Derived.OwnWalkIn
import Derived.TacticsInMore
import Derived.LoopNIn
import Derived.LoopIn
import Derived.WalkKit
import Derived.Test.YtomldkljlbdnjaaGreatJoin4Binds
import Derived.Test.YtomldkljlbdnjaaGreatJoin3Binds
import Derived.Test.YtomldkljlbdnjaaGreatJoin12Binds
import Derived.Test.YtomldkljlbdnjaaGreatJoin11Binds
/- A range over a function whose values lead to memory: what is handed over is told of at the round's world; no statement of the seat is proved here. -/
namespace Go.Proofs.YtomldkljlbdnjaaGreat
open Go.RowKit
set_option linter.unusedVariables false
namespace Syn
/-- The loop's two blocks. -/
structure Rdy (w : World) (r : Loop) (W : World) : Prop where
  l : W.heap[w.heap.size + 1]? = some (.loop r)
  d : W.heap[w.heap.size]? = some (.deferred (some []))
theorem Rdy.below {w W W' : World} {r : Loop} (h : Rdy w r W) (hb : Below W.heap.size W W') : Rdy w r W' :=
  ⟨(hb.block _ (Array.getElem?_eq_some_iff.1 h.l).1).trans h.l, (hb.block _ (Array.getElem?_eq_some_iff.1 h.d).1).trans h.d⟩
theorem Rdy.put {w W : World} {r : Loop} (h : Rdy w r W) (r' : Loop) : Rdy w r' (W.putObj (w.heap.size + 1) (.loop r')) :=
  ⟨World.putObj_heap_same (Array.getElem?_eq_some_iff.1 h.l).1, (World.putObj_heap_other (by omega)).trans h.d⟩
/-- What a round leaves. -/
def RPost (St : Nat → World → Prop) (Sx : Code → World → Prop) (w : World) (k : Nat) (W : World) : Exit → Act → World → Prop
  | .normal, _, W' => (W'.heap[w.heap.size + 1]? = W.heap[w.heap.size + 1]? ∧ W'.heap[w.heap.size]? = W.heap[w.heap.size]?) ∧ St (k + 1) W'
  | .ret, _, W' => (W'.heap[w.heap.size + 1]? = W.heap[w.heap.size + 1]? ∧ W'.heap[w.heap.size]? = W.heap[w.heap.size]?) ∧ Sx .ret W'
  | .exit i, _, W' => (W'.heap[w.heap.size + 1]? = W.heap[w.heap.size + 1]? ∧ W'.heap[w.heap.size]? = W.heap[w.heap.size]?) ∧ Sx (.exit i) W'
  | _, _, _ => False
theorem mv_put {F : Nat → Prop} {w W : World} (h : Sat.Mv F w W) {l : Nat} (hl : w.heap.size ≤ l) (o : Obj) : Sat.Mv F w (W.putObj l o) :=
  ⟨h.os, h.tape, h.output, by simp; exact h.size, fun b hb hn => (World.putObj_heap_other (by omega)).trans (h.other b hb hn)⟩
theorem blk_put {ty : TypeId} {W : World} {b : Nat} {cs : Array Value} (h : Blk ty W b cs) {l : Nat} (hl : b ≠ l) (o : Obj) : Blk ty (W.putObj l o) b cs := (World.putObj_heap_other hl).trans h
end Syn
end Go.Proofs.YtomldkljlbdnjaaGreat
/- slices.Backward over tokens, walked as an iterator. No statement of the seat is proved here. -/
namespace Go.Proofs.YtomldkljlbdnjaaGreat
open Go.RowKit Go.Shelf
attribute [local go_sem] Oper.semAt_some
set_option linter.unusedVariables false
set_option linter.unusedSimpArgs false
namespace Syn
open Euf (OL App Stop)
open Lex (T TL tx bs tkC FV IsNm hide)
set_option maxRecDepth 20000 in
set_option maxHeartbeats 4000000 in
theorem back_in (l bS : Nat) (q : Option Addr) (cS : Nat) (sg : List T) (hle : sg.length ≤ 65536)
    (St : Nat → World → Prop) (hSt : ∀ k W, St k W → Blk 39 W bS #[.slice q sg.length cS] ∧ TL W (.slice q sg.length cS) sg)
    (Ok : Nat → Array Value → World → Prop) (hOk : ∀ k W, k < sg.length → St k W → Ok k #[.int .i64 ((sg.length - 1 - k : Nat) : Int), TV (sg.getD (sg.length - 1 - k) ⟨0, [], 0⟩)] W)
    (Rd Dn : World → Prop)
    (hY : ∀ k x W, St k W → Ok k x W → Rd W → YieldAt Fence.wide 6 Tryz.prog l x W fun e W' => (e = .returned (.bool true) ∧ St (k + 1) W' ∧ Rd W') ∨ (e = .returned (.bool false) ∧ Dn W'))
    (W1 : World) (hS : St 0 W1) (hR : Rd W1) :
    CallsIn Fence.wide 7 Tryz.prog 190 #[.func (.yield l) #[] #[], .pointer (some ⟨bS, 0, none⟩)] W1 fun e W' => (∃ v, e = .returned v) ∧ ((∃ k, k = sg.length ∧ St k W' ∧ Rd W') ∨ Dn W') := by
  have HST := hide hSt
  have HOK := hide hOk
  have HY := hide hY
  have HS : Hid (St 0 W1 ∧ Rd W1) := ⟨hS, hR⟩
  have q1 := (hSt 0 W1 hS).1.cell 0
  have hw1 : wrap64 ((sg.length : Int) - 1) = (sg.length : Int) - 1 - ((0 : Nat) : Int) := by unfold wrap64; omega
  clear hSt hOk hY hS hR
  obtain ⟨n, hn⟩ : ∃ n, n = sg.length := ⟨_, rfl⟩
  rw [← hn] at hle hw1 q1
  have HN := hide hn
  clear hn
  refine callsIn_of_wp Tryz.func190 rfl trivial ?_
  simp only [Tryz.ntmps190, List.size_toArray, List.length_cons, List.length_nil, Nat.reduceAdd, Nat.reduceSub, Array.replicate_succ, Array.replicate_zero, List.push_toArray, List.append_toArray, List.nil_append, List.cons_append]
  gi_wp2
  gi_loopw [3] (fun v3 wr => ∃ k : Nat, v3 = .int .i64 ((n : Int) - 1 - (k : Int)) ∧ k ≤ n ∧ St k wr ∧ Rd wr) (fun v3 _ => (intOf v3 + 1).toNat)
  case atStart => exact ⟨0, by simp, Nat.zero_le _, HS.out⟩
  case round =>
    obtain ⟨k, rfl, hkn, hSk, hRk⟩ := hrel
    obtain ⟨hbx, htl⟩ := HST.out k wr hSk
    have q2 : wr.cell? ⟨bS, 0, none⟩ = some (.slice q n cS) := by rw [HN.out]; exact hbx.cell 0
    clear HS q1
    by_cases hk : k < n
    · obtain ⟨j, hj⟩ : ∃ j, j = n - 1 - k := ⟨_, rfl⟩
      have hjI : (n : Int) - 1 - (k : Int) = (j : Int) := by omega
      have hjn : j < n := by omega
      rw [hjI]
      have hge : (j : Int) ≥ 0 := by omega
      have hjI2 : (j : Int) < (n : Int) := by omega
      have hw2 : wrap64 ((j : Int) - 1) = (n : Int) - 1 - ((k + 1 : Nat) : Int) := by unfold wrap64; omega
      have htl2 : OL 3 43 wr (.slice q n cS) n (Lex.tkC sg) := by rw [HN.out]; exact htl
      obtain ⟨b, cap, hv, -, -⟩ := htl2.open j hjn
      simp only [Value.slice.injEq] at hv
      obtain ⟨rfl, -, rfl⟩ := hv
      have t0 := htl2.cell (i := j) hjn (j := 0) (by omega)
      have t1 := htl2.cell (i := j) hjn (j := 1) (by omega)
      have t2 := htl2.cell (i := j) hjn (j := 2) (by omega)
      obtain ⟨tk, htk⟩ : ∃ tk, tk = sg.getD j ⟨0, [], 0⟩ := ⟨_, rfl⟩
      have hok := HOK.out k wr (by rw [← HN.out]; exact hk) hSk
      rw [← HN.out, ← hj, ← htk] at hok
      simp only [TV] at hok
      have e0 : (Lex.tkC sg j)[0]? = some (.int .i64 (tk.k : Nat)) := by rw [htk]; rfl
      have e1 : (Lex.tkC sg j)[1]? = some (.string (tx tk.x)) := by rw [htk]; rfl
      have e2 : (Lex.tkC sg j)[2]? = some (.int .i64 (tk.a : Nat)) := by rw [htk]; rfl
      rw [e0] at t0
      rw [e1] at t1
      rw [e2] at t2
      rw [Nat.add_zero] at t0
      obtain ⟨fn, tmps, assign, body, hy, hR⟩ := HY.out k _ wr hSk hok hRk
      have HJ := hide hjI
      clear e0 e1 e2 htk hok hSk hRk htl htl2 hbx hj hjI
      gi_wp2
      refine hR.mono ?_
      rintro e W3 (⟨rfl, hS3, hR3⟩ | ⟨rfl, hD3⟩)
      · gi_wp2
        go_roundw
        case rel => exact ⟨k + 1, congrArg (Value.int IntKind.i64) (by have := HJ.out; omega), by omega, hS3, hR3⟩
        case measure => simp [intOf] <;> omega
      · gi_wp2
        refine bodyPost_ret (results_none rfl _ _ _) rfl ?_
        exact ⟨⟨_, rfl⟩, .inr hD3⟩
    · obtain rfl : k = n := by omega
      have hkI : ¬ ((k : Int) - 1 - (k : Int)) ≥ 0 := by omega
      gi_wp2
      go_end0
      exact ⟨⟨_, rfl⟩, .inl ⟨by rw [← HN.out]; exact hSk, hRk⟩⟩
end Syn
end Go.Proofs.YtomldkljlbdnjaaGreat
/- A class under way: its block and four lists that grow. No statement of the seat is proved here. -/
namespace Go.Proofs.YtomldkljlbdnjaaGreat
open Go.RowKit
set_option linter.unusedVariables false
set_option linter.unusedSimpArgs false
namespace Syn
open Euf (OL App Stop)
open Lex (T TL tx bs tkC FV IsNm hide)
theorem LF.stay2 {w w' : World} {F F' : Nat → Prop} {s : Nat} {v : Value} {rows : List (List V)} {C : Nat → List Value} (h : LF w F s v rows C) (hb : ∀ b, F b → b < w.heap.size → w'.heap[b]? = w.heap[b]? ∧ F' b) : LF w' F' s v rows C :=
  ⟨h.ol.stay fun b k => (hb b (h.own b k) (h.ol.lt k)).1, fun b k => (hb b (h.own b k) (h.ol.lt k)).2, h.len, fun i hi => (h.el i hi).stay fun b k kl => ⟨(hb b k.1 kl).1, (hb b k.1 kl).2, k.2⟩⟩
end Syn
end Go.Proofs.YtomldkljlbdnjaaGreat
/- What a sign makes of two sides, their blocks among any that take in new ones; slices.Backward's own call. No statement of the seat is proved here. -/
namespace Go.Proofs.YtomldkljlbdnjaaGreat
open Go.RowKit
set_option linter.unusedVariables false
set_option linter.unusedSimpArgs false
namespace Syn
open Euf (OL App Stop)
open Lex (T TL tx bs tkC FV IsNm hide)
set_option maxRecDepth 4000 in
set_option maxHeartbeats 2000000 in
theorem between_gen (w : World) (F : Nat → Prop) (hnew : ∀ b, w.heap.size ≤ b → F b) (sg : T) (op nm : List UInt8) (args tys : List (List V)) (p : Nat) (qA qB : Option Addr) (cA cB : Nat) (op2 nm2 : List UInt8) (args2 tys2 : List (List V)) (p2 : Nat) (qA2 qB2 : Option Addr) (cA2 cB2 : Nat)
    (xA : X w F (.slice qA args.length cA) (.l 0 args)) (xB : X w F (.slice qB tys.length cB) (.l 1 tys)) (xA2 : X w F (.slice qA2 args2.length cA2) (.l 0 args2)) (xB2 : X w F (.slice qB2 tys2.length cB2) (.l 1 tys2)) :
    Calls Tryz.prog 185 #[.agg #[.string (tx op), .string (tx nm), .slice qA args.length cA, .slice qB tys.length cB, .int .i64 (p : Nat)], TV sg, .agg #[.string (tx op2), .string (tx nm2), .slice qA2 args2.length cA2, .slice qB2 tys2.length cB2, .int .i64 (p2 : Nat)]] w fun e w' =>
      Below w.heap.size w w' ∧ ∃ b, F b ∧ b < w'.heap.size ∧ e = .returned (.agg #[.string (tx sg.x), .string { data := #[] }, .slice (some ⟨b, 0, none⟩) 2 2, .slice none 0 0, .int .i64 (sg.a : Nat)]) ∧ X w' F (.slice (some ⟨b, 0, none⟩) 2 2) (.l 0 [exR op nm args tys p, exR op2 nm2 args2 tys2 p2]) := by
  have HX := hide (And.intro xA (And.intro xB (And.intro xA2 xB2)))
  clear xA xB xA2 xB2
  simp only [TV]
  go_enter Tryz.func185, Tryz.ntmps185
  go_wp2
  refine bodyPost_ret (v := .agg #[.string (tx sg.x), .string { data := #[] }, .slice (some ⟨w.heap.size + 1 + 1 + 1 + 1, 0, none⟩) 2 2, .slice none 0 0, .int .i64 (sg.a : Nat)]) (by simp [results, Tryz.results185, go_sem]) rfl ?_
  obtain ⟨W, hW⟩ : ∃ W, W = ((((w.alloc (.cells #[.string (tx op), .string (tx nm), .slice qA args.length cA, .slice qB tys.length cB, .int .i64 (p : Nat)] 49 (0, 0))).alloc (.cells #[.int .i64 (sg.k : Nat), .string (tx sg.x), .int .i64 (sg.a : Nat)] 43 (0, 0))).alloc (.cells #[.string (tx op2), .string (tx nm2), .slice qA2 args2.length cA2, .slice qB2 tys2.length cB2, .int .i64 (p2 : Nat)] 49 (0, 0))).alloc (.cells #[.string (tx sg.x), .string { data := #[] }, .slice (some ⟨w.heap.size + 1 + 1 + 1 + 1, 0, none⟩) 2 2, .slice none 0 0, .int .i64 (sg.a : Nat)] 49 (0, 0))) := ⟨_, rfl⟩
  rw [← hW]
  have hs : W.heap.size = w.heap.size + 1 + 1 + 1 + 1 := by rw [hW]; simp
  have hbW : Below w.heap.size w W := by rw [hW]; go_grown
  have up : ∀ {v : Value} {t : V}, X w F v t → X W F v t := fun h => h.stay fun b hb hl => ⟨hbW.block b hl, hb⟩
  refine ⟨hbW.alloc (by omega) _, w.heap.size + 1 + 1 + 1 + 1, hnew _ (by omega), by simp [hs], rfl, ?_⟩
  exact X.two W _ 0 _ [_, _, _, _, _] [_, _, _, _, _] (exR op nm args tys p) (exR op2 nm2 args2 tys2 p2) hs.symm rfl rfl (hnew _ (by omega)) (.cons (X.s _ _ _) (.cons (X.s _ _ _) (.cons (up HX.out.1) (.cons (up HX.out.2.1) (.cons (X.a _ _ _) .nil))))) (.cons (X.s _ _ _) (.cons (X.s _ _ _) (.cons (up HX.out.2.2.1) (.cons (up HX.out.2.2.2) (.cons (X.a _ _ _) .nil)))))
set_option maxRecDepth 4000 in
set_option maxHeartbeats 2000000 in
theorem backward_any (w : World) (v : Value) (h1 : v.oneCell' = true) :
    Calls Tryz.prog 184 #[v] w fun e w' => e = .returned (.func (.func 190) #[] #[.pointer (some ⟨w.heap.size, 0, none⟩)]) ∧ w' = w.alloc (.cells #[v] 39 (0, 0)) := by
  go_enter Tryz.func184, Tryz.ntmps184
  go_wp2
  exact bodyPost_ret (v := .func (.func 190) #[] #[.pointer (some ⟨w.heap.size, 0, none⟩)]) (by simp [results, Tryz.results184, go_sem]) rfl ⟨rfl, rfl⟩
end Syn
end Go.Proofs.YtomldkljlbdnjaaGreat
