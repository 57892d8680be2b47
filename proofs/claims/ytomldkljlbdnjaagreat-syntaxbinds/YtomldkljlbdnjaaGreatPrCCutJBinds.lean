/- The printer: a part of a list, levels. No statement of the seat is proved here. -/
import Derived.Test.YtomldkljlbdnjaaGreatPrBCutJBinds
import Derived.Test.YtomldkljlbdnjaaGreatJoin10Binds
namespace Go.Proofs.YtomldkljlbdnjaaGreat
open Go Go.RowKit
set_option linter.unusedVariables false
set_option linter.unusedSimpArgs false
namespace Prn
open Lex (bs tx bs_length bs_tx hide)
open Syn (V X XR exR lvl)
open Euf (OL)
/-- How tightly an expression holds together. -/
def elv (op : List UInt8) : Nat := if lvl op ≠ 0 then lvl op else if op = ([110, 101, 103] : List UInt8) ∨ op = ([110, 111, 116] : List UInt8) then 7 else 8
theorem lvl_le (x : List UInt8) : lvl x ≤ 6 := by unfold Syn.lvl; (repeat' split) <;> omega
/-- An expression's value. -/
abbrev eV (op nm : List UInt8) (args tys : List (List V)) (p : Nat) (qA : Option Addr) (cA : Nat) (qB : Option Addr) (cB : Nat) : Value :=
  .agg #[.string (tx op), .string (tx nm), .slice qA args.length cA, .slice qB tys.length cB, .int .i64 (p : Nat)]
set_option maxHeartbeats 1000000 in
set_option maxRecDepth 4000 in
theorem nthE_any (w : World) (F : Nat → Prop) (v : Value) (rows : List (List V)) (i : Nat) (hx : X w F v (.l 0 rows)) (hi : i < rows.length) {op nm : List UInt8} {args tys : List (List V)} {p : Nat} (hr : rows.getD i [] = exR op nm args tys p) :
    Calls Tryz.prog 93 #[v, .int .i64 (i : Int)] w fun e w' => ∃ qA cA qB cB, e = .returned (eV op nm args tys p qA cA qB cB) ∧ Hid (X w F (.slice qA args.length cA) (.l 0 args) ∧ X w F (.slice qB tys.length cB) (.l 1 tys) ∧ Below w.heap.size w w') := by
  obtain ⟨C, hol, hF, hlen, hel⟩ := hx.open
  obtain ⟨b, cap, rfl, hc1, hc2⟩ := hol.open i hi
  have hrow := (hel i hi).stay (G := F) (w' := w) fun b k _ => ⟨rfl, k.1⟩
  have c0 := OL.cell hol hi (j := 0) (by decide)
  have c1 := OL.cell hol hi (j := 1) (by decide)
  have c2 := OL.cell hol hi (j := 2) (by decide)
  have c3 := OL.cell hol hi (j := 3) (by decide)
  have c4 := OL.cell hol hi (j := 4) (by decide)
  rw [hr] at hrow
  obtain ⟨qA, cA, qB, cB, hC, xA, xB⟩ := hrow.ex
  rw [hC] at c0 c1 c2 c3 c4
  simp only [Syn.wd, Nat.add_zero, List.getElem?_cons_zero, List.getElem?_cons_succ] at c0 c1 c2 c3 c4
  have hlt := hol.lt (b := b) rfl
  have hiI : (i : Int) < (rows.length : Int) := by omega
  have HR := hide (And.intro xA xB)
  clear hol hx hel hlen hF hrow hC xA xB hr
  have HB : Hid (Below w.heap.size w (w.alloc (.cells #[.string (tx op), .string (tx nm), .slice qA args.length cA, .slice qB tys.length cB, .int .i64 (p : Nat)] 49 (0, 0)))) := by exact (show Below _ _ _ by go_grown)
  go_enter Tryz.func93, Tryz.ntmps93
  go_wp2
  refine ⟨rfl, eV op nm args tys p qA cA qB cB, by simp [results, Tryz.results93, go_sem], ?_⟩
  exact ⟨qA, cA, qB, cB, rfl, HR.out.1, HR.out.2, HB.out⟩
set_option maxHeartbeats 1000000 in
set_option maxRecDepth 4000 in
theorem exprLevel_any (w : World) (op nm : List UInt8) (args tys : List (List V)) (p : Nat) (qA : Option Addr) (cA : Nat) (qB : Option Addr) (cB : Nat) :
    Calls Tryz.prog 154 #[eV op nm args tys p qA cA qB cB] w fun e w' => e = .returned (.int .i64 (elv op : Nat)) ∧ Hid (Below w.heap.size w w') := by
  obtain ⟨W, hW⟩ : ∃ W, W = w.alloc (.cells #[.string (tx op), .string (tx nm), .slice qA args.length cA, .slice qB tys.length cB, .int .i64 (p : Nat)] 49 (0, 0)) := ⟨_, rfl⟩
  have hb0 : Below w.heap.size w W := by rw [hW]; go_grown
  have hk : Blk 49 W w.heap.size #[.string (tx op), .string (tx nm), .slice qA args.length cA, .slice qB tys.length cB, .int .i64 (p : Nat)] := by rw [hW]; exact Blk.new _ _ _
  have hlt : w.heap.size < W.heap.size := by rw [hW]; simp
  have HC := hide (Syn.signLevel_any op W)
  have HK := hide (And.intro hb0 (And.intro hk hlt))
  clear hb0 hk hlt
  unfold eV
  by_cases h0 : lvl op = 0
  · rw [h0] at HC
    by_cases h1 : op = ([110, 101, 103] : List UInt8)
    · have hI : ((tx op).toList == ([110, 101, 103] : List UInt8)) = true := by rw [Lex.eqT, Lex.bs_tx]; exact decide_eq_true h1
      have he : elv op = 7 := by unfold elv; rw [if_neg (by simp [h0]), if_pos (Or.inl h1)]
      rw [he]
      clear h0 h1 he
      go_enter Tryz.func154, Tryz.ntmps154
      go_wp2_with fail
      rw [← hW]
      refine HC.out.mono ?_
      rintro e w1 ⟨rfl, hb1⟩
      obtain ⟨c0, c1, c2, c3, c4, f0, f1, f2, f3, f4⟩ := Syn.bk5 (HK.out.2.1.stay hb1)
      have HF : Hid (Below w.heap.size w w1) := HK.out.1.trans (hb1.mono (Nat.le_of_lt HK.out.2.2))
      clear HC HK hW hb1
      go_wp2
      go_ret
      exact ⟨rfl, HF⟩
    · have hI : ((tx op).toList == ([110, 101, 103] : List UInt8)) = false := by rw [Lex.eqT, Lex.bs_tx]; exact decide_eq_false h1
      by_cases h2 : op = ([110, 111, 116] : List UInt8)
      · have hI2 : ((tx op).toList == ([110, 111, 116] : List UInt8)) = true := by rw [Lex.eqT, Lex.bs_tx]; exact decide_eq_true h2
        have he : elv op = 7 := by unfold elv; rw [if_neg (by simp [h0]), if_pos (Or.inr h2)]
        rw [he]
        clear h0 h1 h2 he
        go_enter Tryz.func154, Tryz.ntmps154
        go_wp2_with fail
        rw [← hW]
        refine HC.out.mono ?_
        rintro e w1 ⟨rfl, hb1⟩
        obtain ⟨c0, c1, c2, c3, c4, f0, f1, f2, f3, f4⟩ := Syn.bk5 (HK.out.2.1.stay hb1)
        have HF : Hid (Below w.heap.size w w1) := HK.out.1.trans (hb1.mono (Nat.le_of_lt HK.out.2.2))
        clear HC HK hW hb1
        go_wp2
        go_ret
        exact ⟨rfl, HF⟩
      · have hI2 : ((tx op).toList == ([110, 111, 116] : List UInt8)) = false := by rw [Lex.eqT, Lex.bs_tx]; exact decide_eq_false h2
        have he : elv op = 8 := by unfold elv; rw [if_neg (by simp [h0]), if_neg (by rintro (k | k); exact h1 k; exact h2 k)]
        rw [he]
        clear h0 h1 h2 he
        go_enter Tryz.func154, Tryz.ntmps154
        go_wp2_with fail
        rw [← hW]
        refine HC.out.mono ?_
        rintro e w1 ⟨rfl, hb1⟩
        obtain ⟨c0, c1, c2, c3, c4, f0, f1, f2, f3, f4⟩ := Syn.bk5 (HK.out.2.1.stay hb1)
        have HF : Hid (Below w.heap.size w w1) := HK.out.1.trans (hb1.mono (Nat.le_of_lt HK.out.2.2))
        clear HC HK hW hb1
        go_wp2
        go_ret
        exact ⟨rfl, HF⟩
  · have he : elv op = lvl op := by unfold elv; rw [if_pos h0]
    rw [he]
    clear he
    generalize lvl op = K at *
    have hKI : ¬ (K : Int) = 0 := by omega
    go_enter Tryz.func154, Tryz.ntmps154
    go_wp2_with fail
    rw [← hW]
    refine HC.out.mono ?_
    rintro e w1 ⟨rfl, hb1⟩
    have HF : Hid (Below w.heap.size w w1) := HK.out.1.trans (hb1.mono (Nat.le_of_lt HK.out.2.2))
    clear HC HK hW hb1
    go_wp2
    go_ret
    exact ⟨rfl, HF⟩
/-- How tightly the sides of a sign must hold together. -/
def sdL (k : Nat) : Nat := if k = 1 then 2 else if k = 4 then 5 else k
def sdR (k : Nat) : Nat := if k = 1 then 1 else k + 1
set_option maxHeartbeats 1000000 in
set_option maxRecDepth 4000 in
theorem sideLevels_any (w : World) (k : Nat) (hk : k ≤ 6) :
    Calls Tryz.prog 133 #[.int .i64 (k : Nat)] w fun e w' => e = .returned (.tuple #[.int .i64 (sdL k : Nat), .int .i64 (sdR k : Nat)]) ∧ w' = w := by
  match k, hk with
  | 0, _ | 1, _ | 2, _ | 3, _ | 4, _ | 5, _ | 6, _ =>
    go_enter Tryz.func133, Tryz.ntmps133
    go_wp2
    go_ret2
    exact ⟨rfl, rfl⟩
end Prn
end Go.Proofs.YtomldkljlbdnjaaGreat
