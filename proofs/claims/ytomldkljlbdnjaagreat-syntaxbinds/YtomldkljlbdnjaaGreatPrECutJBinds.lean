/- The printer: statements that print, blocks, programs without classes. No statement of the seat is proved here. -/
import Derived.Test.YtomldkljlbdnjaaGreatPrDCutJBinds
namespace Go.Proofs.YtomldkljlbdnjaaGreat
open Go Go.RowKit
set_option linter.unusedVariables false
set_option linter.unusedSimpArgs false
namespace Prn
open Lex (bs tx bs_length bs_tx hide)
open Syn (V X XR exR smR lvl)
open Euf (OL)
abbrev kPrint : List UInt8 := [112, 114, 105, 110, 116]
/-- A statement that prints, as it is printed (the other sorts are not said here). -/
def pS (n tb : Nat) : List V → Option (List UInt8)
  | [.s kd, .s nm, .l 1 tys, .l 0 [e], .l 2 body, .l 2 els, .a p] =>
    if kd = kPrint then
      match pE n e with
      | some x => some (List.replicate tb 9 ++ kPrint ++ [32] ++ x ++ [59] ++ [10])
      | none => none
    else none
  | _ => none
theorem pS_row {n tb : Nat} {row : List V} {x : List UInt8} (h : pS n tb row = some x) : ∃ nm tys e body els p y, row = smR kPrint nm tys [e] body els p ∧ pE n e = some y ∧ x = List.replicate tb 9 ++ kPrint ++ [32] ++ y ++ [59] ++ [10] := by
  unfold pS at h
  split at h
  · rename_i kd nm tys e body els p
    split at h
    · rename_i hk
      split at h
      · rename_i y hy
        injection h with h
        exact ⟨nm, tys, e, body, els, p, y, by rw [hk]; rfl, hy, h.symm⟩
      · cases h
    · cases h
  · cases h
def pL (f : List V → Option (List UInt8)) : List (List V) → Option (List UInt8)
  | [] => some []
  | r :: t => match f r, pL f t with
    | some x, some y => some (x ++ y)
    | _, _ => none
theorem pL_all {f : List V → Option (List UInt8)} : ∀ {rows : List (List V)} {x : List UInt8}, pL f rows = some x → ∃ xs : List (List UInt8), xs.length = rows.length ∧ (∀ i, i < rows.length → f (rows.getD i []) = some (xs.getD i [])) ∧ x = xs.flatten
  | [], x, h => by
    injection h with h
    exact ⟨[], rfl, (fun i hi => absurd hi (Nat.not_lt_zero _)), by rw [← h]; rfl⟩
  | r :: t, x, h => by
    unfold pL at h
    split at h
    · rename_i a b h1 h2
      injection h with h
      obtain ⟨xs, k1, k2, k3⟩ := pL_all h2
      refine ⟨a :: xs, by simp [k1], fun i hi => ?_, by rw [← h, k3]; rfl⟩
      cases i with
      | zero => exact h1
      | succ i => exact k2 i (by simpa using hi)
    · cases h
/-- A statement's value. -/
abbrev sC (kd nm : List UInt8) (qT : Option Addr) (nT cT : Nat) (qE : Option Addr) (nE cE : Nat) (qB : Option Addr) (nB cB : Nat) (qL : Option Addr) (nL cL p : Nat) : Array Value :=
  #[.string (tx kd), .string (tx nm), .slice qT nT cT, .slice qE nE cE, .slice qB nB cB, .slice qL nL cL, .int .i64 (p : Nat)]
set_option maxHeartbeats 4000000 in
set_option maxRecDepth 4000 in
theorem simple_print (B g n : Nat) (w : World) (tb : Nat) (nm : List UInt8) (qT : Option Addr) (nT cT : Nat) (qE : Option Addr) (cE : Nat) (qB : Option Addr) (nB cB : Nat) (qL : Option Addr) (nL cL p : Nat) (e : List V) (x : List UInt8)
    (xE : X w (fun b => b < B) (.slice qE 1 cE) (.l 0 [e])) (hx : pE n e = some x) :
    Wr B g 152 [.agg (sC kPrint nm qT nT cT qE 1 cE qB nB cB qL nL cL p)] tb (kPrint ++ [32] ++ x) w := fun l h hl => by
  obtain ⟨W, hW⟩ : ∃ W, W = w.alloc (.cells (sC kPrint nm qT nT cT qE 1 cE qB nB cB qL nL cL p) 47 (0, 0)) := ⟨_, rfl⟩
  have hbW : Below w.heap.size w W := by rw [hW]; go_grown
  have S1 := St.init (h.low hbW)
  have HBW := hide (And.intro hbW h.size)
  replace xE := tree_low xE hbW
  have hk : Blk 47 W w.heap.size (sC kPrint nm qT nT cT qE 1 cE qB nB cB qL nL cL p) := by rw [hW]; exact Blk.new _ _ _
  obtain ⟨op1, nm1, as1, ts1, p1, rfl⟩ := pE_row hx
  have HN0 := hide (fun (w' : World) (l' : List UInt8) (hs : St B g W l' tb w') => nthE_any w' (fun b => b < B) _ _ 0 (tree_stay xE hs) (by simp) rfl)
  have HE0 := hide (fun (w' : World) (l' : List UInt8) (qC : Option Addr) (cC : Nat) (qD : Option Addr) (cD : Nat) (hs : St B g W l' tb w') (xC : X w' (fun b => b < B) (.slice qC as1.length cC) (.l 0 as1)) (xD : X w' (fun b => b < B) (.slice qD ts1.length cD) (.l 1 ts1)) (hl' : l'.length + x.length ≤ 1000000000) => hs.step (expr_all B g n w' tb op1 nm1 as1 ts1 p1 qC cC qD cD x xC xD hx) hl')
  have HS := hide hk
  have HL : Hid (l.length + x.length + 6 ≤ 1000000000) := by simp only [List.length_append, List.length_cons, List.length_nil] at hl; exact (show _ ≤ _ by omega)
  have HW1 := hide (S1.drew.ws (tx kPrint) (by have := HL.out; show l.length + 5 ≤ _; omega))
  have HEQ : Hid (l ++ bs (tx kPrint) ++ [32] ++ x = l ++ (kPrint ++ [32] ++ x)) := by exact (show l ++ bs (tx kPrint) ++ [32] ++ x = l ++ (kPrint ++ [32] ++ x) by rw [bs_tx]; simp)
  have e0 := eq_f (show kPrint ≠ ([108, 101, 116] : List UInt8) by decide)
  have e1 := eq_f (show kPrint ≠ ([115, 101, 116] : List UInt8) by decide)
  have e2 := eq_f (show kPrint ≠ ([102, 105, 101, 108, 100] : List UInt8) by decide)
  have e3 := eq_f (show kPrint ≠ ([101, 108, 101, 109] : List UInt8) by decide)
  have e4 := eq_f (show kPrint ≠ ([114, 101, 116, 117, 114, 110] : List UInt8) by decide)
  have e5 := eq_f (show kPrint ≠ ([97, 115, 115, 101, 114, 116] : List UInt8) by decide)
  have e6 := eq_t (show kPrint = ([112, 114, 105, 110, 116] : List UInt8) from rfl)
  clear h S1 hk hl xE hx hbW
  unfold eV sC at *
  have HKL : Hid ((bs (tx kPrint)).length = 5) := by exact (show (bs (tx kPrint)).length = 5 by rw [bs_tx]; rfl)
  generalize hkP : tx kPrint = kP at *
  clear hkP
  rw [hW] at HW1
  have HWE := hide hW
  clear hW
  show Calls _ _ #[_, _] _ _
  go_enter Tryz.func152, Tryz.ntmps152
  go_wp2_with fail
  go_cut [3] (fun v3 wx => v3 = .pointer (some ⟨w.heap.size, 0, none⟩) ∧ Hid (St B g W (l ++ bs kP) tb wx))
  case first =>
    go_region_with (go_at_call 73; refine (HW1.out).mono ?_; rintro e w5 ⟨⟨v, rfl⟩, H5⟩)
    all_goals
      go_wp2_with fail
      go_meet
      exact ⟨rfl, by rw [HWE.out]; exact H5⟩
  case rest =>
    obtain ⟨rfl, H5⟩ := hcut
    have HW := hide (H5.out.wb 32 (by have := HL.out; have h5 := HKL.out; rw [List.length_append, h5]; omega))
    clear HW1 H5 e0 e1 e2 e3 e4 e5 e6
    go_wp2_with fail
    refine HW.out.mono ?_
    rintro e w6 ⟨rfl, H6⟩
    have K6 := H6.out.frm.blk HS.out (by decide) (by decide)
    obtain ⟨c0, c1, c2, c3, c4, c5, c6, f0, f1, f2, f3, f4, f5, f6⟩ := Syn.bk7 K6
    have HN := hide (HN0.out w6 _ H6.out)
    clear HW K6 HN0
    go_wp2_with fail
    refine HN.out.mono ?_
    rintro e w7 ⟨qC, cC, qD, cD, rfl, hN⟩
    have T7 := H6.out.low hN.out.2.2
    have HSD := hide (HE0.out w7 _ qC cC qD cD T7 (tree_low hN.out.1 hN.out.2.2) (tree_low hN.out.2.1 hN.out.2.2) (by have := HL.out; have h5 := HKL.out; simp only [List.length_append, List.length_cons, List.length_nil, h5]; omega))
    unfold eV at *
    clear HE0 HN H6 hN T7 c0 c1 c2 c3 c4 c5 c6 f0 f1 f2 f3 f4 f5 f6
    go_wp2_with fail
    refine HSD.out.mono ?_
    rintro e w8 ⟨rfl, H8⟩
    rw [HEQ.out] at H8
    clear HSD
    go_wp2
    first | go_end0 | go_returns
    exact ⟨rfl, H8.out.base HBW.out.1 HBW.out.2⟩
set_option maxHeartbeats 4000000 in
set_option maxRecDepth 4000 in
theorem stmt_print (B g n : Nat) (w : World) (tb : Nat) (ht : tb ≤ 1000) (nm : List UInt8) (qT : Option Addr) (nT cT : Nat) (qE : Option Addr) (cE : Nat) (qB : Option Addr) (nB cB : Nat) (qL : Option Addr) (nL cL p : Nat) (e : List V) (x : List UInt8)
    (xE : X w (fun b => b < B) (.slice qE 1 cE) (.l 0 [e])) (hx : pE n e = some x) :
    Wr B g 125 [.agg (sC kPrint nm qT nT cT qE 1 cE qB nB cB qL nL cL p)] tb (List.replicate tb 9 ++ kPrint ++ [32] ++ x ++ [59] ++ [10]) w := fun l h hl => by
  obtain ⟨W, hW⟩ : ∃ W, W = w.alloc (.cells (sC kPrint nm qT nT cT qE 1 cE qB nB cB qL nL cL p) 47 (0, 0)) := ⟨_, rfl⟩
  have hbW : Below w.heap.size w W := by rw [hW]; go_grown
  have S1 := St.init (h.low hbW)
  have HBW := hide (And.intro hbW h.size)
  replace xE := tree_low xE hbW
  have hk : Blk 47 W w.heap.size (sC kPrint nm qT nT cT qE 1 cE qB nB cB qL nL cL p) := by rw [hW]; exact Blk.new _ _ _
  have HL : Hid (l.length + tb + x.length + 8 ≤ 1000000000) := by simp only [List.length_append, List.length_cons, List.length_nil, List.length_replicate] at hl; exact (show _ ≤ _ by omega)
  have HB := hide (S1.step (beginLine_any B g tb W ht) (by have := HL.out; rw [List.length_replicate]; omega))
  have HSM := hide (fun (w' : World) (hs : St B g W (l ++ List.replicate tb 9) tb w') => hs.step (simple_print B g n w' tb nm qT nT cT qE cE qB nB cB qL nL cL p e x (tree_stay xE hs) hx) (by have := HL.out; simp only [List.length_append, List.length_cons, List.length_nil, List.length_replicate]; omega))
  have HS := hide hk
  have HEQ : Hid (l ++ List.replicate tb 9 ++ (kPrint ++ [32] ++ x) ++ [59] ++ [10] = l ++ (List.replicate tb 9 ++ kPrint ++ [32] ++ x ++ [59] ++ [10])) := by exact (show l ++ List.replicate tb 9 ++ (kPrint ++ [32] ++ x) ++ [59] ++ [10] = l ++ (List.replicate tb 9 ++ kPrint ++ [32] ++ x ++ [59] ++ [10]) by simp)
  have e0 := eq_f (show kPrint ≠ ([105, 102] : List UInt8) by decide)
  have e1 := eq_f (show kPrint ≠ ([119, 104, 105, 108, 101] : List UInt8) by decide)
  clear h S1 hk hl xE hx hbW
  unfold sC at *
  have HKL : Hid ((List.length (kPrint ++ [32] ++ x)) = 6 + x.length) := by exact (show List.length (kPrint ++ [32] ++ x) = 6 + x.length by simp; omega)
  generalize hyy : kPrint ++ [32] ++ x = yy at *
  generalize hkP : tx kPrint = kP at *
  clear hkP hyy
  show Calls _ _ #[_, _] _ _
  go_enter Tryz.func125, Tryz.ntmps125
  go_wp2_with fail
  rw [← hW]
  refine HB.out.mono ?_
  rintro e w2 ⟨rfl, H2⟩
  have K2 := H2.out.frm.blk HS.out (by decide) (by decide)
  obtain ⟨c0, c1, c2, c3, c4, c5, c6, f0, f1, f2, f3, f4, f5, f6⟩ := Syn.bk7 K2
  have HM := hide (HSM.out w2 H2.out)
  clear HB K2 HSM hW H2
  go_wp2_with fail
  refine HM.out.mono ?_
  rintro e w3 ⟨rfl, H3⟩
  have HW := hide (H3.out.wb 59 (by have := HL.out; have := HKL.out; simp only [List.length_append, List.length_cons, List.length_nil, List.length_replicate]; omega))
  clear HM H3 c0 c1 c2 c3 c4 c5 c6 f0 f1 f2 f3 f4 f5 f6
  go_wp2_with fail
  refine HW.out.mono ?_
  rintro e w4 ⟨rfl, H4⟩
  have HW := hide (H4.out.wb 10 (by have := HL.out; have := HKL.out; simp only [List.length_append, List.length_cons, List.length_nil, List.length_replicate]; omega))
  clear H4
  go_wp2_with fail
  refine HW.out.mono ?_
  rintro e w5 ⟨rfl, H5⟩
  rw [HEQ.out] at H5
  clear HW
  go_wp2
  go_end0
  exact ⟨rfl, H5.out.base HBW.out.1 HBW.out.2⟩
end Prn
end Go.Proofs.YtomldkljlbdnjaaGreat
