/- The printer: blocks, programs, Print. No statement of the seat is proved here. -/
import Derived.Test.YtomldkljlbdnjaaGreatPrECutJBinds
namespace Go.Proofs.YtomldkljlbdnjaaGreat
open Go Go.RowKit
set_option linter.unusedVariables false
set_option linter.unusedSimpArgs false
namespace Prn
open Lex (bs tx bs_length bs_tx hide)
open Syn (V X XR exR smR lvl)
open Euf (OL)
/-- A statement's leaves. -/
theorem XR_sm {w : World} {F : Nat → Prop} {C : List Value} {kd nm : List UInt8} {tys exprs body els : List (List V)} {p : Nat} (h : XR w F C (smR kd nm tys exprs body els p)) :
    ∃ qT cT qE cE qB cB qL cL, C = (sC kd nm qT tys.length cT qE exprs.length cE qB body.length cB qL els.length cL p).toList ∧ X w F (.slice qT tys.length cT) (.l 1 tys) ∧ X w F (.slice qE exprs.length cE) (.l 0 exprs) ∧ X w F (.slice qB body.length cB) (.l 2 body) ∧ X w F (.slice qL els.length cL) (.l 2 els) := by
  unfold smR at h
  cases h with
  | cons h0 h =>
  cases h with
  | cons h1 h =>
  cases h with
  | cons h2 h =>
  cases h with
  | cons h3 h =>
  cases h with
  | cons h4 h =>
  cases h with
  | cons h5 h =>
  cases h with
  | cons h6 h =>
  cases h
  obtain ⟨qT, cT, rfl⟩ := h2.slice
  obtain ⟨qE, cE, rfl⟩ := h3.slice
  obtain ⟨qB, cB, rfl⟩ := h4.slice
  obtain ⟨qL, cL, rfl⟩ := h5.slice
  exact ⟨qT, cT, qE, cE, qB, cB, qL, cL, by rw [h0.isS, h1.isS, h6.isA], h2, h3, h4, h5⟩
set_option maxHeartbeats 4000000 in
set_option maxRecDepth 4000 in
theorem block_print (B g n : Nat) (w : World) (tb : Nat) (ht : tb + 1 ≤ 1000) (qR : Option Addr) (cR : Nat) (rows : List (List V)) (x : List UInt8)
    (xR : X w (fun b => b < B) (.slice qR rows.length cR) (.l 2 rows)) (hx : pL (pS n (tb + 1)) rows = some x) :
    Wr B g 74 [.slice qR rows.length cR] tb ([32, 123, 10] ++ x ++ List.replicate tb 9 ++ [125]) w := fun l h hl => by
  obtain ⟨xs, hxl, hxe, rfl⟩ := pL_all hx
  have HL : Hid (l.length + xs.flatten.length + tb + 4 ≤ 1000000000) := by simp only [List.length_append, List.length_cons, List.length_nil, List.length_replicate] at hl; exact (show _ ≤ _ by omega)
  have HO := hide (open_any B g tb w l h (by have := HL.out; omega) (by omega))
  have HX := hide (And.intro xR hxe)
  have HXL := hide hxl
  have HTK : Hid (∀ k, k < rows.length → (xs.take (k + 1)).flatten = (xs.take k).flatten ++ xs.getD k [] ∧ (xs.take k).flatten.length + (xs.getD k []).length ≤ xs.flatten.length) := by
    exact (show ∀ k, k < rows.length → (xs.take (k + 1)).flatten = (xs.take k).flatten ++ xs.getD k [] ∧ (xs.take k).flatten.length + (xs.getD k []).length ≤ xs.flatten.length from fun k hk => by
      have hk' : k < xs.length := by omega
      have e1 : (xs.take (k + 1)).flatten = (xs.take k).flatten ++ xs.getD k [] := by
        rw [List.take_add_one, List.flatten_append, List.getElem?_eq_getElem hk']
        simp [List.getD_eq_getElem?_getD, List.getElem?_eq_getElem hk']
      refine ⟨e1, ?_⟩
      have e2 : xs.flatten = (xs.take (k + 1)).flatten ++ (xs.drop (k + 1)).flatten := by rw [← List.flatten_append, List.take_append_drop]
      have := congrArg List.length e2
      rw [e1] at this
      simp only [List.length_append] at this
      omega)
  clear h xR hx hxe hl hxl
  show Calls _ _ #[_, _] _ _
  go_enter Tryz.func74, Tryz.ntmps74
  go_wp2_with fail
  refine HO.out.mono ?_
  rintro e w1 ⟨rfl, H1⟩
  have HJ0 : Hid (St B g w (l ++ [32, 123, 10] ++ (xs.take 0).flatten) (tb + 1) w1) := by exact (show St B g w (l ++ [32, 123, 10] ++ (xs.take 0).flatten) (tb + 1) w1 by simpa using H1.out)
  clear HO H1
  go_wp2
  go_loopw [5, 10] (fun v5 v10 wr => ∃ k : Nat, v10 = .int .i64 (k : Int) ∧ k ≤ rows.length ∧ Hid (St B g w (l ++ [32, 123, 10] ++ (xs.take k).flatten) (tb + 1) wr)) (fun _ v _ => rows.length - (intOf v).toNat)
  case atStart => exact ⟨0, rfl, Nat.zero_le _, HJ0⟩
  case round =>
    rename World => wl
    clear HJ0
    obtain ⟨k, rfl, hk, HJ⟩ := hrel
    by_cases hlt : k < rows.length
    · have hltI : (k : Int) < (rows.length : Int) := by omega
      obtain ⟨C, hol, hF, hlen, hel⟩ := (tree_stay HX.out.1 HJ.out).open
      obtain ⟨b, cap, hv, hc1, hc2⟩ := hol.open k hlt
      simp only [Value.slice.injEq] at hv
      obtain ⟨rfl, -, rfl⟩ := hv
      have hbd : rows.length ≤ 9223372036854775807 := by unfold maxLen at hc2; omega
      obtain ⟨nm, tys, e, body, els, p, y, hrow, hy, hxk⟩ := pS_row (HX.out.2 k hlt)
      have hXR := (hel k hlt).stay (G := fun b => b < B) (w' := wl) fun b k _ => ⟨rfl, k.1⟩
      rw [hrow] at hXR
      obtain ⟨qT, cT, qE, cE, qB, cB, qL, cL, hC, xT, xE, xB, xL⟩ := XR_sm hXR
      have c0 := OL.cell hol hlt (j := 0) (by decide)
      have c1 := OL.cell hol hlt (j := 1) (by decide)
      have c2 := OL.cell hol hlt (j := 2) (by decide)
      have c3 := OL.cell hol hlt (j := 3) (by decide)
      have c4 := OL.cell hol hlt (j := 4) (by decide)
      have c5 := OL.cell hol hlt (j := 5) (by decide)
      have c6 := OL.cell hol hlt (j := 6) (by decide)
      rw [hC] at c0 c1 c2 c3 c4 c5 c6
      simp only [Syn.wd, Nat.add_zero, List.getElem?_cons_zero, List.getElem?_cons_succ] at c0 c1 c2 c3 c4 c5 c6
      have hbl := hol.lt (b := b) rfl
      obtain ⟨W, hW⟩ : ∃ W, W = wl.alloc (.cells (sC kPrint nm qT tys.length cT qE 1 cE qB body.length cB qL els.length cL p) 47 (0, 0)) := ⟨_, rfl⟩
      have hbW : Below wl.heap.size wl W := by rw [hW]; go_grown
      have SW := HJ.out.low hbW
      obtain ⟨hTK, hTL⟩ := HTK.out k hlt
      have HST := hide (SW.step (stmt_print B g n W (tb + 1) ht nm qT tys.length cT qE cE qB body.length cB qL els.length cL p e y (tree_low xE hbW) hy) (by
        have := HL.out
        rw [← hxk]
        simp only [List.length_append, List.length_cons, List.length_nil]
        omega))
      rw [← hxk] at HST
      have HEQ : Hid (l ++ [32, 123, 10] ++ (xs.take k).flatten ++ xs.getD k [] = l ++ [32, 123, 10] ++ (xs.take (k + 1)).flatten) := by
        exact (show l ++ [32, 123, 10] ++ (xs.take k).flatten ++ xs.getD k [] = l ++ [32, 123, 10] ++ (xs.take (k + 1)).flatten by rw [hTK, List.append_assoc])
      clear hTK hTL SW hbW hXR hrow hy hxk hel hlen hF hol xT xE xB xL hC HJ
      unfold sC at *
      generalize xs.getD k [] = yk at *
      generalize hkP : tx kPrint = kP at *
      clear hkP
      go_wp2_with fail
      rw [← hW]
      refine HST.out.mono ?_
      rintro e w2 ⟨rfl, H2⟩
      rw [HEQ.out] at H2
      clear HST hW c0 c1 c2 c3 c4 c5 c6
      go_wp2
      go_roundw
      case rel => exact ⟨k + 1, by go_num, by omega, H2⟩
      case measure => simp [intOf]; omega
    · have hltI : ¬ (k : Int) < (rows.length : Int) := by omega
      obtain rfl : k = rows.length := by omega
      have hxl := HXL.out
      rw [← hxl, List.take_length] at HJ
      have HCL := hide (close_any B g tb wl _ HJ.out.ps (by have := HL.out; simp only [List.length_append, List.length_cons, List.length_nil]; omega) (by omega))
      have HJ1 := hide (And.intro HJ.out.bel HJ.out.frm)
      have HEQ : Hid (l ++ [32, 123, 10] ++ xs.flatten ++ List.replicate tb 9 ++ [125] = l ++ ([32, 123, 10] ++ xs.flatten ++ List.replicate tb 9 ++ [125])) := by
        exact (show l ++ [32, 123, 10] ++ xs.flatten ++ List.replicate tb 9 ++ [125] = l ++ ([32, 123, 10] ++ xs.flatten ++ List.replicate tb 9 ++ [125]) by simp)
      clear HJ hxl HX
      go_wp2_with fail
      refine HCL.out.mono ?_
      rintro e w2 ⟨rfl, H2⟩
      rw [HEQ.out] at H2
      clear HCL
      go_wp2
      go_end0
      exact ⟨rfl, H2.out.ps, HJ1.out.1.trans H2.out.bel, HJ1.out.2.trans H2.out.frm⟩
abbrev kMain : List UInt8 := [109, 97, 105, 110]
/-- The text of a program without classes whose main has statements that print x. -/
def mainT (x : List UInt8) : List UInt8 := kMain ++ ([32, 123, 10] ++ x ++ [125]) ++ [10]
set_option maxHeartbeats 4000000 in
set_option maxRecDepth 4000 in
theorem program_print (B g n : Nat) (w : World) (qK : Option Addr) (cK : Nat) (qR : Option Addr) (cR : Nat) (rows : List (List V)) (x : List UInt8)
    (xR : X w (fun b => b < B) (.slice qR rows.length cR) (.l 2 rows)) (hx : pL (pS n 1) rows = some x) :
    Wr B g 40 [.agg #[.slice qK 0 cK, .slice qR rows.length cR]] 0 (mainT x) w := fun l h hl => by
  obtain ⟨W, hW⟩ : ∃ W, W = w.alloc (.cells #[.slice qK 0 cK, .slice qR rows.length cR] 26 (0, 0)) := ⟨_, rfl⟩
  have hbW : Below w.heap.size w W := by rw [hW]; go_grown
  have S1 := St.init (h.low hbW)
  have HBW := hide (And.intro hbW h.size)
  have hk : Blk 26 W w.heap.size #[.slice qK 0 cK, .slice qR rows.length cR] := by rw [hW]; exact Blk.new _ _ _
  have HL : Hid (l.length + x.length + 9 ≤ 1000000000) := by unfold mainT at hl; simp only [List.length_append, List.length_cons, List.length_nil] at hl; exact (show _ ≤ _ by omega)
  have HX := hide (And.intro (tree_low xR hbW) hx)
  have HS := hide (And.intro S1 hk)
  have HEQ : Hid (l ++ kMain ++ ([32, 123, 10] ++ x ++ List.replicate 0 9 ++ [125]) ++ [10] = l ++ mainT x) := by exact (show l ++ kMain ++ ([32, 123, 10] ++ x ++ List.replicate 0 9 ++ [125]) ++ [10] = l ++ mainT x by simp [mainT])
  have HWE := hide hW
  clear h S1 hl hbW xR hx hk
  show Calls _ _ #[_, _] _ _
  go_enter Tryz.func40, Tryz.ntmps40
  go_wp2
  rw [← hW]
  clear hW
  go_loopw [5, 9] (fun v5 v9 wr => v9 = .int .i64 0 ∧ wr = W) (fun _ _ _ => 0)
  case atStart => exact ⟨rfl, rfl⟩
  case round =>
    rename World => wl
    obtain ⟨rfl, rfl⟩ := hrel
    have HW := hide (HS.out.1.ws ⟨#[109, 97, 105, 110]⟩ (by have := HL.out; show l.length + 4 ≤ _; omega))
    have K1 := HS.out.2
    obtain ⟨a0, a1, g0, g1⟩ := Syn.bk2 K1
    clear K1
    go_wp2_with fail
    refine HW.out.mono ?_
    rintro e w1 ⟨⟨v, rfl⟩, H1⟩
    have K1 := H1.out.frm.blk HS.out.2 (by decide) (by decide)
    obtain ⟨a0, a1, g0, g1⟩ := Syn.bk2 K1
    have HBL := hide (H1.out.step (block_print B g n w1 0 (by decide) qR cR rows x (tree_stay HX.out.1 H1.out) HX.out.2) (by have := HL.out; simp only [List.length_append, List.length_cons, List.length_nil, List.length_replicate]; show l.length + 4 + _ ≤ _; omega))
    clear HW K1 H1
    go_wp2_with fail
    refine HBL.out.mono ?_
    rintro e w2 ⟨rfl, H2⟩
    have HW := hide (H2.out.wb 10 (by have := HL.out; simp only [List.length_append, List.length_cons, List.length_nil, List.length_replicate]; show l.length + 4 + _ ≤ _; omega))
    clear HBL H2 a0 a1 g0 g1
    go_wp2_with fail
    refine HW.out.mono ?_
    rintro e w3 ⟨rfl, H3⟩
    have H4 : St B g wl (l ++ mainT x) 0 w3 := by rw [← HEQ.out]; exact H3.out
    clear HW H3
    go_wp2
    go_end0
    exact ⟨rfl, H4.base HBW.out.1 HBW.out.2⟩
set_option maxHeartbeats 4000000 in
set_option maxRecDepth 4000 in
/-- Print, of a program without classes whose main prints. -/
theorem Print_print (n : Nat) (w : World) (qK : Option Addr) (cK : Nat) (qR : Option Addr) (cR : Nat) (rows : List (List V)) (x : List UInt8) (xR : X w (fun b => b < w.heap.size) (.slice qR rows.length cR) (.l 2 rows)) (hx : pL (pS n 1) rows = some x) (hl : x.length ≤ 1000000) :
    Calls Tryz.prog 14 #[.agg #[.slice qK 0 cK, .slice qR rows.length cR]] w fun e w' => e = .returned (.string (tx (mainT x))) ∧ Below w.heap.size w w' := by
  obtain ⟨W, hW⟩ : ∃ W, W = (w.alloc (.cells #[.slice qK 0 cK, .slice qR rows.length cR] 26 (0, 0))).alloc (.cells #[.pointer none, .slice none 0 0, .int .i64 0] 98 (0, 0)) := ⟨_, rfl⟩
  have hbW : Below w.heap.size w W := by rw [hW]; go_grown
  have hs : W.heap.size = w.heap.size + 2 := by rw [hW]; simp
  have hk : Blk 26 W w.heap.size #[.slice qK 0 cK, .slice qR rows.length cR] := by rw [hW]; exact (Blk.new _ _ _).alloc _
  have hp : Blk 98 W (w.heap.size + 1) #[.pointer none, .slice none 0 0, .int .i64 0] := by rw [hW]; exact Syn.blk_new1 _ _ _ _
  have hps : PS (w.heap.size + 1) (w.heap.size + 1) [] 0 W := Or.inl ⟨Nat.le_refl _, .slice none 0 0, hp, World.ownsRow_nil _ _ _ _, by simp [Value.ownBlock]⟩
  have HP := hide ((program_print (w.heap.size + 1) (w.heap.size + 1) n W qK cK qR cR rows x ((tree_low xR hbW).stay fun b k _ => ⟨rfl, by have k : b < w.heap.size := k; show b < w.heap.size + 1; omega⟩) hx) [] hps (by simp only [mainT, List.length_append, List.length_cons, List.length_nil]; omega))
  obtain ⟨a0, a1, g0, g1⟩ := Syn.bk2 hk
  have HB := hide hbW
  have HS := hide hs
  clear xR hx hk hp hps hbW hs
  go_enter Tryz.func14, Tryz.ntmps14
  go_wp2_with fail
  rw [← hW]
  refine HP.out.mono ?_
  rintro e w1 ⟨rfl, H1⟩
  have HST := hide (string_p (w.heap.size + 1) (w.heap.size + 1) _ 0 w1 H1.ps (by simp [mainT]) H1.size)
  have HB1 := hide (H1.bel)
  clear HP H1 a0 a1 g0 g1 hW
  go_wp2_with fail
  refine HST.out.mono ?_
  rintro e w2 ⟨rfl, hb2⟩
  rw [List.nil_append]
  have HF : Hid (Below w.heap.size w w2) := by exact HB.out.trans ((HB1.out.trans hb2).mono (by omega))
  clear HB HB1 hb2 HST
  go_wp2
  go_ret
  exact ⟨rfl, HF.out⟩
end Prn
end Go.Proofs.YtomldkljlbdnjaaGreat
