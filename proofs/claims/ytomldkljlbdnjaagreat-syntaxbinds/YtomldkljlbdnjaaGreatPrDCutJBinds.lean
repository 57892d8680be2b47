/- The printer: expressions of numbers, names and signs between. No statement of the seat is proved here. -/
import Derived.Test.YtomldkljlbdnjaaGreatPrCCutJBinds
import Derived.Deep.Cut
import Derived.Deep.DeepCutAuto
namespace Go.Proofs.YtomldkljlbdnjaaGreat
open Go Go.RowKit
set_option linter.unusedVariables false
set_option linter.unusedSimpArgs false
namespace Prn
open Lex (bs tx bs_length bs_tx hide)
open Syn (V X XR exR lvl)
open Euf (OL)
/-- In brackets, if it doesn't hold together so tightly. -/
def sd (op : List UInt8) (k : Nat) (x : List UInt8) : List UInt8 := if k ≤ elv op then x else 40 :: (x ++ [41])
/-- An expression as it is printed: numbers, names, signs between (the other sorts are not said here). -/
def pE : Nat → List V → Option (List UInt8)
  | 0, _ => none
  | n + 1, [.s op, .s nm, .l 0 args, .l 1 tys, .a p] =>
    if op = ([110, 117, 109] : List UInt8) ∨ op = ([118, 97, 114] : List UInt8) then some nm
    else if lvl op ≠ 0 then
      match args with
      | [a, b] =>
        match pE n a, pE n b with
        | some x, some y => some (sd (Syn.gS a 0) (sdL (lvl op)) x ++ 32 :: (op ++ 32 :: sd (Syn.gS b 0) (sdR (lvl op)) y))
        | _, _ => none
      | _ => none
    else none
  | _, _ => none
theorem pE_row {n : Nat} {row : List V} {x : List UInt8} (h : pE n row = some x) : ∃ op nm args tys p, row = exR op nm args tys p := by
  unfold pE at h
  split at h
  · cases h
  · rename_i op nm args tys p; exact ⟨op, nm, args, tys, p, rfl⟩
  · cases h
/-- The promise of expr. -/
def EP (B g n : Nat) : Prop := ∀ (w : World) (tb : Nat) (op nm : List UInt8) (args tys : List (List V)) (p : Nat) (qA : Option Addr) (cA : Nat) (qB : Option Addr) (cB : Nat) (x : List UInt8),
  X w (fun b => b < B) (.slice qA args.length cA) (.l 0 args) → X w (fun b => b < B) (.slice qB tys.length cB) (.l 1 tys) → pE n (exR op nm args tys p) = some x →
  Wr B g 47 [eV op nm args tys p qA cA qB cB] tb x w
/-- The box of an expression that is handed in. -/
abbrev eC (op nm : List UInt8) (args tys : List (List V)) (p : Nat) (qA : Option Addr) (cA : Nat) (qB : Option Addr) (cB : Nat) : Array Value :=
  #[.string (tx op), .string (tx nm), .slice qA args.length cA, .slice qB tys.length cB, .int .i64 (p : Nat)]
theorem tree_stay {B g : Nat} {w0 w : World} {l : List UInt8} {tb : Nat} {v : Value} {t : V} (h : X w0 (fun b => b < B) v t) (hs : St B g w0 l tb w) : X w (fun b => b < B) v t :=
  h.stay fun b k _ => ⟨hs.bel.block b k, k⟩
theorem tree_low {B : Nat} {w0 w : World} {v : Value} {t : V} (h : X w0 (fun b => b < B) v t) (hs : Below w0.heap.size w0 w) : X w (fun b => b < B) v t :=
  h.stay fun b k kl => ⟨hs.block b kl, k⟩
set_option maxHeartbeats 2000000 in
set_option maxRecDepth 4000 in
theorem side_any (B g n : Nat) (hE : EP B g n) (w : World) (tb k : Nat) (op nm : List UInt8) (args tys : List (List V)) (p : Nat) (qA : Option Addr) (cA : Nat) (qB : Option Addr) (cB : Nat) (x : List UInt8)
    (xA : X w (fun b => b < B) (.slice qA args.length cA) (.l 0 args)) (xB : X w (fun b => b < B) (.slice qB tys.length cB) (.l 1 tys)) (hx : pE n (exR op nm args tys p) = some x) :
    Wr B g 131 [eV op nm args tys p qA cA qB cB, .int .i64 (k : Nat)] tb (sd op k x) w := fun l h hl => by
  obtain ⟨W, hW⟩ : ∃ W, W = w.alloc (.cells (eC op nm args tys p qA cA qB cB) 49 (0, 0)) := ⟨_, rfl⟩
  have hbW : Below w.heap.size w W := by rw [hW]; go_grown
  have S1 := St.init (h.low hbW)
  have HBW := hide (And.intro hbW h.size)
  replace xA := tree_low xA hbW
  replace xB := tree_low xB hbW
  have hk : Blk 49 W w.heap.size (eC op nm args tys p qA cA qB cB) := by rw [hW]; exact Blk.new _ _ _
  have HC := hide (exprLevel_any W op nm args tys p qA cA qB cB)
  have HE := hide (fun (w' : World) (l' : List UInt8) (hs : St B g W l' tb w') (hl' : l'.length + x.length ≤ 1000000000) => hs.step (hE w' tb op nm args tys p qA cA qB cB x (tree_stay xA hs) (tree_stay xB hs) hx) hl')
  have HS := hide (And.intro S1 hk)
  have HL := hide hl
  clear h S1 hk hl hE xA xB hx hbW
  unfold sd at HL ⊢
  unfold eV at *
  show Calls _ _ #[_, _, _] _ _
  by_cases hc : k ≤ elv op
  · rw [if_pos hc] at HL ⊢
    generalize elv op = K at *
    have hcI : (K : Int) ≥ (k : Int) := by omega
    go_enter Tryz.func131, Tryz.ntmps131
    go_wp2_with fail
    rw [← hW]
    refine HC.out.mono ?_
    rintro e w1 ⟨rfl, hb1⟩
    have T1 := HS.out.1.low hb1.out
    obtain ⟨c0, c1, c2, c3, c4, f0, f1, f2, f3, f4⟩ := Syn.bk5 (HS.out.2.stay hb1.out)
    have HEE := hide (HE.out w1 l T1 HL.out)
    clear HC HS HE T1 hb1 hW
    go_wp2_with fail
    refine HEE.out.mono ?_
    rintro e w2 ⟨rfl, H2⟩
    clear HEE c0 c1 c2 c3 c4 f0 f1 f2 f3 f4
    go_wp2
    first | go_end0 | go_returns
    exact ⟨rfl, H2.out.base HBW.out.1 HBW.out.2⟩
  · rw [if_neg hc] at HL ⊢
    generalize elv op = K at *
    have hcI : ¬ (K : Int) ≥ (k : Int) := by omega
    have HL2 : Hid (l.length + x.length + 2 ≤ 1000000000) := by have := HL.out; simp only [List.length_cons, List.length_append, List.length_nil] at this; exact (show _ ≤ _ by omega)
    have HEQ : Hid (l ++ [40] ++ x ++ [41] = l ++ 40 :: (x ++ [41])) := by exact (show l ++ [40] ++ x ++ [41] = l ++ 40 :: (x ++ [41]) by simp)
    clear HL
    go_enter Tryz.func131, Tryz.ntmps131
    go_wp2_with fail
    rw [← hW]
    refine HC.out.mono ?_
    rintro e w1 ⟨rfl, hb1⟩
    have T1 := HS.out.1.low hb1.out
    have HW := hide (T1.wb 40 (by have := HL2.out; omega))
    have HK1 := hide HS.out.2
    clear HC HS T1 hb1 hW
    go_wp2_with fail
    refine HW.out.mono ?_
    rintro e w2 ⟨rfl, H2⟩
    have K2 : Blk 49 w2 w.heap.size (eC op nm args tys p qA cA qB cB) := H2.out.frm.blk HK1.out (by decide) (by decide)
    obtain ⟨c0, c1, c2, c3, c4, f0, f1, f2, f3, f4⟩ := Syn.bk5 K2
    have HEE := hide (HE.out w2 _ H2.out (by have := HL2.out; simp only [List.length_append, List.length_cons, List.length_nil]; omega))
    clear HW H2 K2 HE
    go_wp2_with fail
    refine HEE.out.mono ?_
    rintro e w3 ⟨rfl, H3⟩
    have HW := hide (H3.out.wb 41 (by have := HL2.out; simp only [List.length_append, List.length_cons, List.length_nil]; omega))
    clear HEE H3 c0 c1 c2 c3 c4 f0 f1 f2 f3 f4
    go_wp2_with fail
    refine HW.out.mono ?_
    rintro e w4 ⟨rfl, H4⟩
    rw [HEQ.out] at H4
    clear HW
    go_wp2
    go_end0
    exact ⟨rfl, H4.out.base HBW.out.1 HBW.out.2⟩
/-- The text compared, both ways. -/
theorem eq_t {x y : List UInt8} (h : x = y) : ((tx x).toList == y) = true := by rw [Lex.eqT, Lex.bs_tx]; exact decide_eq_true h
theorem eq_f {x y : List UInt8} (h : x ≠ y) : ((tx x).toList == y) = false := by rw [Lex.eqT, Lex.bs_tx]; exact decide_eq_false h
set_option maxHeartbeats 4000000 in
set_option maxRecDepth 4000 in
/-- Signs between. -/
theorem plain_any (B g n : Nat) (hE : EP B g n) (w : World) (tb : Nat) (op nm : List UInt8) (args tys : List (List V)) (p : Nat) (qA : Option Addr) (cA : Nat) (qB : Option Addr) (cB : Nat) (a b : List V) (x y : List UInt8)
    (xA : X w (fun b => b < B) (.slice qA args.length cA) (.l 0 args)) (hl0 : lvl op ≠ 0) (ha : args = [a, b]) (hx : pE n a = some x) (hy : pE n b = some y) :
    Wr B g 97 [eV op nm args tys p qA cA qB cB] tb (sd (Syn.gS a 0) (sdL (lvl op)) x ++ 32 :: (op ++ 32 :: sd (Syn.gS b 0) (sdR (lvl op)) y)) w := fun l h hl => by
  obtain ⟨W, hW⟩ : ∃ W, W = w.alloc (.cells (eC op nm args tys p qA cA qB cB) 49 (0, 0)) := ⟨_, rfl⟩
  have hbW : Below w.heap.size w W := by rw [hW]; go_grown
  have S1 := St.init (h.low hbW)
  have HBW := hide (And.intro hbW h.size)
  replace xA := tree_low xA hbW
  have hk : Blk 49 W w.heap.size (eC op nm args tys p qA cA qB cB) := by rw [hW]; exact Blk.new _ _ _
  obtain ⟨op1, nm1, as1, ts1, p1, rfl⟩ := pE_row hx
  obtain ⟨op2, nm2, as2, ts2, p2, rfl⟩ := pE_row hy
  have HC := hide (Syn.signLevel_any op W)
  have HD := hide (fun w' => sideLevels_any w' (lvl op) (lvl_le op))
  have HN0 := hide (fun (w' : World) (l' : List UInt8) (hs : St B g W l' tb w') => nthE_any w' (fun b => b < B) _ args 0 (tree_stay xA hs) (by rw [ha]; simp) (by rw [ha]; rfl))
  have HN1 := hide (fun (w' : World) (l' : List UInt8) (hs : St B g W l' tb w') => nthE_any w' (fun b => b < B) _ args 1 (tree_stay xA hs) (by rw [ha]; simp) (by rw [ha]; rfl))
  have HE0 := hide (fun (w' : World) (l' : List UInt8) (qC : Option Addr) (cC : Nat) (qD : Option Addr) (cD : Nat) (hs : St B g W l' tb w') (xC : X w' (fun b => b < B) (.slice qC as1.length cC) (.l 0 as1)) (xD : X w' (fun b => b < B) (.slice qD ts1.length cD) (.l 1 ts1)) (hl' : l'.length + (sd op1 (sdL (lvl op)) x).length ≤ 1000000000) => hs.step (side_any B g n hE w' tb (sdL (lvl op)) op1 nm1 as1 ts1 p1 qC cC qD cD x xC xD hx) hl')
  have HE1 := hide (fun (w' : World) (l' : List UInt8) (qC : Option Addr) (cC : Nat) (qD : Option Addr) (cD : Nat) (hs : St B g W l' tb w') (xC : X w' (fun b => b < B) (.slice qC as2.length cC) (.l 0 as2)) (xD : X w' (fun b => b < B) (.slice qD ts2.length cD) (.l 1 ts2)) (hl' : l'.length + (sd op2 (sdR (lvl op)) y).length ≤ 1000000000) => hs.step (side_any B g n hE w' tb (sdR (lvl op)) op2 nm2 as2 ts2 p2 qC cC qD cD y xC xD hy) hl')
  have HS := hide (And.intro S1 hk)
  simp only [Syn.gS, Syn.exR, List.getD_cons_zero, Syn.sOf] at hl ⊢
  generalize sdL (lvl op) = kL at *
  generalize sdR (lvl op) = kR at *
  generalize hXX : sd op1 kL x = XX at *
  generalize hYY : sd op2 kR y = YY at *
  generalize hKK : lvl op = K at *
  have HL : Hid (l.length + XX.length + YY.length + op.length + 2 ≤ 1000000000) := by
    simp only [List.length_append, List.length_cons] at hl; exact (show _ ≤ _ by omega)
  have HEQ : Hid (l ++ XX ++ [32] ++ bs (tx op) ++ [32] ++ YY = l ++ (XX ++ 32 :: (op ++ 32 :: YY))) := by
    exact (show l ++ XX ++ [32] ++ bs (tx op) ++ [32] ++ YY = l ++ (XX ++ 32 :: (op ++ 32 :: YY)) by rw [bs_tx]; simp)
  have hKI : ¬ (K : Int) = 0 := by omega
  have HLo : Hid ((tx op).size = op.length) := by exact (show (tx op).size = op.length by simp [tx, ByteArray.size])
  clear h S1 hk hl hE xA hx hy hbW hXX hYY hKK hl0 ha
  unfold eV eC at *
  show Calls _ _ #[_, _] _ _
  go_enter Tryz.func97, Tryz.ntmps97
  go_wp2_with fail
  rw [← hW]
  refine HC.out.mono ?_
  rintro e w1 ⟨rfl, hb1⟩
  have T1 := HS.out.1.low hb1
  have K1 := HS.out.2.stay hb1
  obtain ⟨c0, c1, c2, c3, c4, f0, f1, f2, f3, f4⟩ := Syn.bk5 K1
  have HT1 := hide T1
  clear HC hb1 T1 hW K1
  go_wp2_with fail
  refine (HD.out w1).mono ?_
  rintro e w' ⟨rfl, rfl⟩
  clear HD
  go_wp2_with fail
  refine (HN0.out w' l HT1.out).mono ?_
  rintro e w2 ⟨qC, cC, qD, cD, rfl, hN⟩
  have T2 := HT1.out.low hN.out.2.2
  have HSD := hide (HE0.out w2 l qC cC qD cD T2 (tree_low hN.out.1 hN.out.2.2) (tree_low hN.out.2.1 hN.out.2.2) (by have := HL.out; omega))
  unfold eV at *
  clear HE0 HN0 HT1 hN T2 c0 c1 c2 c3 c4 f0 f1 f2 f3 f4
  go_wp2_with fail
  refine HSD.out.mono ?_
  rintro e w3 ⟨rfl, H3⟩
  have HW := hide (H3.out.wb 32 (by have := HL.out; simp only [List.length_append]; omega))
  clear HSD H3
  go_wp2_with fail
  refine HW.out.mono ?_
  rintro e w4 ⟨rfl, H4⟩
  have K4 := H4.out.frm.blk HS.out.2 (by decide) (by decide)
  obtain ⟨c0, c1, c2, c3, c4, f0, f1, f2, f3, f4⟩ := Syn.bk5 K4
  have HW := hide (H4.out.drew.ws (tx op) (by have := HL.out; rw [HLo.out]; simp only [List.length_append, List.length_cons, List.length_nil]; omega))
  clear K4 H4
  go_wp2_with fail
  go_cut [6] (fun v6 wx => v6 = .int .i64 (kR : Nat) ∧ Hid (St B g W (l ++ XX ++ [32] ++ bs (tx op)) tb wx))
  case first =>
    go_region_with (go_at_call 73; refine (HW.out).mono ?_; rintro e w5 ⟨⟨v, rfl⟩, H5⟩)
    all_goals
      go_wp2_with fail
      go_meet
      exact ⟨rfl, H5⟩
  case rest =>
    obtain ⟨rfl, H5⟩ := hcut
    clear HW c0 c1 c2 c3 c4 f0 f1 f2 f3 f4
    have HW := hide (H5.out.wb 32 (by have := HL.out; rw [bs_tx]; simp only [List.length_append, List.length_cons, List.length_nil]; omega))
    clear H5
    go_wp2_with fail
    refine HW.out.mono ?_
    rintro e w6 ⟨rfl, H6⟩
    have K6 := H6.out.frm.blk HS.out.2 (by decide) (by decide)
    obtain ⟨c0, c1, c2, c3, c4, f0, f1, f2, f3, f4⟩ := Syn.bk5 K6
    have HN := hide (HN1.out w6 _ H6.out)
    clear HW K6 HN1
    go_wp2_with fail
    refine HN.out.mono ?_
    rintro e w7 ⟨qE, cE, qF, cF, rfl, hN⟩
    have T7 := H6.out.low hN.out.2.2
    have HSD := hide (HE1.out w7 _ qE cE qF cF T7 (tree_low hN.out.1 hN.out.2.2) (tree_low hN.out.2.1 hN.out.2.2) (by have := HL.out; rw [bs_tx]; simp only [List.length_append, List.length_cons, List.length_nil]; omega))
    unfold eV at *
    clear HE1 HN H6 hN T7 c0 c1 c2 c3 c4 f0 f1 f2 f3 f4
    go_wp2_with fail
    refine HSD.out.mono ?_
    rintro e w8 ⟨rfl, H8⟩
    rw [HEQ.out] at H8
    clear HSD
    go_wp2
    go_end0
    exact ⟨rfl, H8.out.base HBW.out.1 HBW.out.2⟩
set_option maxHeartbeats 4000000 in
set_option maxRecDepth 4000 in
theorem expr_step (B g n : Nat) (hE : EP B g n) : EP B g (n + 1) := fun w tb op nm args tys p qA cA qB cB x xA xB hx l h hl => by
  obtain ⟨W, hW⟩ : ∃ W, W = w.alloc (.cells (eC op nm args tys p qA cA qB cB) 49 (0, 0)) := ⟨_, rfl⟩
  have hbW : Below w.heap.size w W := by rw [hW]; go_grown
  have S1 := St.init (h.low hbW)
  have HBW := hide (And.intro hbW h.size)
  replace xA := tree_low xA hbW
  have hk : Blk 49 W w.heap.size (eC op nm args tys p qA cA qB cB) := by rw [hW]; exact Blk.new _ _ _
  unfold pE at hx
  simp only [exR] at hx
  by_cases h0 : op = ([110, 117, 109] : List UInt8) ∨ op = ([118, 97, 114] : List UInt8)
  · rw [if_pos h0] at hx
    obtain rfl : nm = x := by injection hx
    have HW := hide (fun l' (hs : St B g W l' tb W.drew) (hl' : l'.length + nm.length ≤ 1000000000) => hs.ws (tx nm) (by simpa [tx, ByteArray.size] using hl'))
    have HS := hide (And.intro S1 hk)
    have HL := hide hl
    obtain ⟨c0, c1, c2, c3, c4, f0, f1, f2, f3, f4⟩ := Syn.bk5 hk
    have HR : Hid (l ++ bs (tx nm) = l ++ nm) := by exact (show l ++ bs (tx nm) = l ++ nm by rw [bs_tx])
    have h01 : (((tx op).toList == ([110, 117, 109] : List UInt8)) = true) ∨ (((tx op).toList == ([110, 117, 109] : List UInt8)) = false ∧ ((tx op).toList == ([118, 97, 114] : List UInt8)) = true) := by
      by_cases k : op = ([110, 117, 109] : List UInt8)
      · exact Or.inl (eq_t k)
      · exact Or.inr ⟨eq_f k, eq_t (h0.resolve_left k)⟩
    have HWW := hide (HW.out l S1.drew hl)
    clear h h0 hx hE xA xB S1 hk hbW hl HW c0 c1 c2 c3 c4 f0 f1 f2 f3 f4 HS
    rw [hW] at HWW HBW
    clear hW
    unfold eV eC at *
    show Calls _ _ #[_, _] _ _
    rcases h01 with k1 | ⟨k1, k2⟩
    all_goals
      go_enter Tryz.func47, Tryz.ntmps47
      go_wp2_with fail
      go_region_with (go_at_call 73; refine (HWW.out).mono ?_; rintro e w5 ⟨⟨v, rfl⟩, H5⟩)
      all_goals
        rw [HR.out] at H5
        go_wp2
        first | go_end0 | go_returns
        exact ⟨rfl, H5.out.base HBW.out.1 HBW.out.2⟩
  · rw [if_neg h0] at hx
    by_cases hl0 : lvl op = 0
    · rw [if_neg (by simp [hl0])] at hx
      cases hx
    rw [if_pos hl0] at hx
    obtain ⟨a, b, rfl, xa, yb, hxa, hyb, hxe⟩ : ∃ a b, args = [a, b] ∧ ∃ xa yb, pE n a = some xa ∧ pE n b = some yb ∧ sd (Syn.gS a 0) (sdL (lvl op)) xa ++ 32 :: (op ++ 32 :: sd (Syn.gS b 0) (sdR (lvl op)) yb) = x := by
      split at hx
      · rename_i a b
        split at hx
        · rename_i xa yb h1 h2
          injection hx with hx
          exact ⟨a, b, rfl, xa, yb, h1, h2, hx⟩
        · cases hx
      · cases hx
    have hne : ∀ y : List UInt8, lvl y = 0 → op ≠ y := fun y hy e => hl0 (e ▸ hy)
    have e9 := eq_f (fun e => h0 (Or.inl e))
    have e10 := eq_f (fun e => h0 (Or.inr e))
    have e0 := eq_f (hne [110, 101, 103] (by decide))
    have e1 := eq_f (hne [110, 111, 116] (by decide))
    have e2 := eq_f (hne [102, 105, 101, 108, 100] (by decide))
    have e3 := eq_f (hne [99, 97, 108, 108] (by decide))
    have e4 := eq_f (hne [110, 101, 119] (by decide))
    have e5 := eq_f (hne [108, 105, 115, 116] (by decide))
    have e6 := eq_f (hne [105, 110, 100, 101, 120] (by decide))
    have e7 := eq_f (hne [108, 101, 110] (by decide))
    have e8 := eq_f (hne [114, 101, 97, 100] (by decide))
    have HP := hide (fun w' (hs : St B g W l tb w') => hs.step (plain_any B g n hE w' tb op nm [a, b] tys p qA cA qB cB a b xa yb (tree_stay xA hs) hl0 rfl hxa hyb) (by rw [hxe]; exact hl))
    rw [hxe] at HP
    have HS := hide S1
    obtain ⟨c0, c1, c2, c3, c4, f0, f1, f2, f3, f4⟩ := Syn.bk5 hk
    have HWW := hide (HP.out W S1)
    generalize hgl : [a, b] = args at *
    clear h h0 hx hE xA xB S1 hk hbW hl hl0 hxe hxa hyb hgl hne HP
    unfold eV eC at *
    show Calls _ _ #[_, _] _ _
    go_enter Tryz.func47, Tryz.ntmps47
    go_wp2_with fail
    rw [← hW]
    refine HWW.out.mono ?_
    rintro e w5 ⟨rfl, H5⟩
    clear HWW c0 c1 c2 c3 c4 f0 f1 f2 f3 f4
    go_wp2
    first | go_end0 | go_returns
    exact ⟨rfl, H5.out.base HBW.out.1 HBW.out.2⟩
theorem expr_all (B g : Nat) : ∀ n, EP B g n
  | 0 => fun _ _ _ _ _ _ _ _ _ _ _ _ _ _ h => by cases h
  | n + 1 => expr_step B g n (expr_all B g n)
end Prn
end Go.Proofs.YtomldkljlbdnjaaGreat
