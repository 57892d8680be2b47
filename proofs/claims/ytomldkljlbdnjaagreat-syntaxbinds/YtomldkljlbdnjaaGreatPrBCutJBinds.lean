/- The printer's smallest methods. No statement of the seat is proved here. -/
import Derived.Test.YtomldkljlbdnjaaGreatPrACutJBinds
import Derived.Test.YtomldkljlbdnjaaGreatJoin12Binds
namespace Go.Proofs.YtomldkljlbdnjaaGreat
open Go Go.RowKit
set_option linter.unusedVariables false
set_option linter.unusedSimpArgs false
namespace Prn
open Lex (bs tx bs_length bs_tx hide)
open Syn (V X XR exR lvl)

/-- What has been printed since w0. -/
structure St (B g : Nat) (w0 : World) (l : List UInt8) (tb : Nat) (w : World) : Prop where
  ps : PS B g l tb w
  bel : Below B w0 w
  frm : Frm w0 w
theorem St.init {B g : Nat} {l : List UInt8} {tb : Nat} {w : World} (h : PS B g l tb w) : St B g w l tb w := ⟨h, Below.refl _ _, Frm.refl _⟩
theorem St.size {B g : Nat} {w0 : World} {l : List UInt8} {tb : Nat} {w : World} (h : St B g w0 l tb w) : B ≤ w.heap.size := Nat.le_of_lt (Nat.lt_of_le_of_lt h.ps.le h.ps.lt)
theorem PS.low {B g : Nat} {l : List UInt8} {tb : Nat} {w w' : World} (h : PS B g l tb w) (hb : Below w.heap.size w w') : PS B g l tb w' := by
  have one : ∀ p, PB B g p l tb w → PB B g p l tb w' := by
    rintro p ⟨h1, v, h2, h3, h4⟩
    refine ⟨h1, v, (hb.block g (Array.getElem?_eq_some_iff.1 h2).1).trans h2, ⟨h3.1, ?_⟩, h4⟩
    rcases h3.2 with k | ⟨g', cap, cur, k1, k2, k3, k4⟩
    · exact Or.inl k
    · exact Or.inr ⟨g', cap, cur, k1, k2, (hb.block g' (Array.getElem?_eq_some_iff.1 k3).1).trans k3, k4⟩
  exact h.imp (one _) (one _)
theorem Frm.low {w w' : World} (hb : Below w.heap.size w w') : Frm w w' := fun k cur e z h1 _ _ => hb.block k (Array.getElem?_eq_some_iff.1 h1).1
theorem St.low {B g : Nat} {w0 : World} {l : List UInt8} {tb : Nat} {w w' : World} (h : St B g w0 l tb w) (hb : Below w.heap.size w w') : St B g w0 l tb w' :=
  ⟨h.ps.low hb, h.bel.trans (hb.mono h.size), h.frm.trans (Frm.low hb)⟩
theorem St.drew {B g : Nat} {w0 : World} {l : List UInt8} {tb : Nat} {w : World} (h : St B g w0 l tb w) : St B g w0 l tb w.drew := h.low (Below.drew (Below.refl _ _))
theorem St.wb {B g : Nat} {w0 : World} {l : List UInt8} {tb : Nat} {w : World} (h : St B g w0 l tb w) (c : UInt8) (hl : l.length ≤ 1000000000) :
    Calls Tryz.prog 75 #[.pointer (some ⟨g, 0, none⟩), .int .u8 (c.toNat : Int)] w fun e w' => e = .returned .nilIface ∧ Hid (St B g w0 (l ++ [c]) tb w') := by
  refine (writeByte_p B g l tb c w h.ps hl h.size).mono ?_
  rintro e w' ⟨rfl, h1, h2, h3⟩
  exact ⟨rfl, h1, h.bel.trans h2, h.frm.trans h3⟩
theorem St.ws {B g : Nat} {w0 : World} {l : List UInt8} {tb : Nat} {w : World} (h : St B g w0 l tb w) (s : ByteArray) (hl : l.length + s.size ≤ 1000000000) :
    Calls Tryz.prog 73 #[.pointer (some ⟨g, 0, none⟩), .string s] w fun e w' => (∃ v, e = .returned v) ∧ Hid (St B g w0 (l ++ bs s) tb w') := by
  refine (writeString_p B g l tb s w h.ps hl h.size).mono ?_
  rintro e w' ⟨rfl, h1, h2, h3⟩
  exact ⟨⟨_, rfl⟩, h1, h.bel.trans h2, h.frm.trans h3⟩
/-- .. told from an earlier world on. -/
theorem St.base {B g : Nat} {w0 w1 : World} {l : List UInt8} {tb : Nat} {w : World} (h : St B g w1 l tb w) (hb : Below w0.heap.size w0 w1) (hB : B ≤ w0.heap.size) : St B g w0 l tb w :=
  ⟨h.ps, (hb.mono hB).trans h.bel, (Frm.low hb).trans h.frm⟩
theorem PS.size {B g : Nat} {l : List UInt8} {tb : Nat} {w : World} (h : PS B g l tb w) : B ≤ w.heap.size := Nat.le_of_lt (Nat.lt_of_le_of_lt h.le h.lt)
/-- A method that writes x. -/
def Wr (B g : Nat) (f : FuncId) (args : List Value) (tb : Nat) (x : List UInt8) (w : World) : Prop :=
  ∀ l, PS B g l tb w → l.length + x.length ≤ 1000000000 → Calls Tryz.prog f ((Value.pointer (some ⟨g, 0, none⟩)) :: args).toArray w fun e w' => e = .returned (.tuple #[]) ∧ St B g w (l ++ x) tb w'
theorem St.step {B g : Nat} {w0 : World} {l : List UInt8} {tb : Nat} {w : World} (h : St B g w0 l tb w) {f : FuncId} {args : List Value} {x : List UInt8} (hw : Wr B g f args tb x w) (hl : l.length + x.length ≤ 1000000000) :
    Calls Tryz.prog f ((Value.pointer (some ⟨g, 0, none⟩)) :: args).toArray w fun e w' => e = .returned (.tuple #[]) ∧ Hid (St B g w0 (l ++ x) tb w') := by
  refine (hw l h.ps hl).mono ?_
  rintro e w' ⟨rfl, h1⟩
  exact ⟨rfl, h1.ps, h.bel.trans h1.bel, h.frm.trans h1.frm⟩
theorem St.tabs {B g : Nat} {w0 : World} {l : List UInt8} {tb : Nat} {w : World} (h : St B g w0 l tb w) (t : Nat) : St B g w0 l t (w.setCell ⟨g, 2, none⟩ (.int .i64 (t : Nat))) := by
  obtain ⟨p, v, hb⟩ := h.ps.blk
  exact ⟨h.ps.tabs t, h.bel.trans ((Below.refl _ _).setCell (p := ⟨g, 2, none⟩) h.ps.le _), h.frm.trans (Frm.set hb 2 _)⟩
set_option maxHeartbeats 1000000 in
set_option maxRecDepth 4000 in
theorem beginLine_any (B g tb : Nat) (w : World) (ht : tb ≤ 1000) : Wr B g 120 [] tb (List.replicate tb 9) w := fun l h hl => by
  rw [List.length_replicate] at hl
  obtain ⟨p, v, hb⟩ := h.blk
  obtain ⟨c0, c1, c2, f0, f1, f2⟩ := Syn.bk3 hb
  have H0 : Hid (St B g w (l ++ List.replicate 0 9) tb w) := by exact (show St B g w (l ++ List.replicate 0 9) tb w by simpa using St.init h)
  have HLN := hide hl
  clear h hb hl
  show Calls _ _ #[Value.pointer (some ⟨g, 0, none⟩)] _ _
  go_enter Tryz.func120, Tryz.ntmps120
  go_wp2
  go_loopw [6] (fun v6 wr => ∃ k : Nat, v6 = .int .i64 (k : Int) ∧ k ≤ tb ∧ Hid (St B g w (l ++ List.replicate k 9) tb wr)) (fun v _ => tb - (intOf v).toNat)
  case atStart => exact ⟨0, rfl, Nat.zero_le _, H0⟩
  case round =>
    rename World => wl
    clear H0
    obtain ⟨k, rfl, hk, HJ⟩ := hrel
    by_cases hlt : k < tb
    · have hltI : (k : Int) < (tb : Int) := by omega
      have HR : Hid (l ++ List.replicate k 9 ++ [9] = l ++ List.replicate (k + 1) 9) := by
        exact (show l ++ List.replicate k 9 ++ [9] = l ++ List.replicate (k + 1) 9 by rw [List.append_assoc, ← List.replicate_succ'])
      have HL : Hid ((l ++ List.replicate k 9).length ≤ 1000000000) := by
        have := HLN.out
        exact (show (l ++ List.replicate k 9).length ≤ 1000000000 by rw [List.length_append, List.length_replicate]; omega)
      have HWB := hide (HJ.out.wb 9 HL.out)
      clear HJ HL
      go_wp2_with fail
      refine HWB.out.mono ?_
      rintro e w' ⟨rfl, HS⟩
      rw [HR.out] at HS
      clear HWB HR
      go_wp2
      go_roundw
      case rel => exact ⟨k + 1, by go_num, by omega, HS⟩
      case measure => simp [intOf]; omega
    · have hltI : ¬ (k : Int) < (tb : Int) := by omega
      obtain rfl : k = tb := by omega
      clear c0 c1 c2 f0 f1 f2
      go_wp2
      go_end0
      exact ⟨rfl, HJ.out⟩
set_option maxHeartbeats 1000000 in
set_option maxRecDepth 4000 in
/-- The end of a line behind which lines stand deeper. -/
theorem open_any (B g tb : Nat) (w : World) (l : List UInt8) (h : PS B g l tb w) (hl : l.length + 3 ≤ 1000000000) (ht : tb ≤ 1000) :
    Calls Tryz.prog 118 #[.pointer (some ⟨g, 0, none⟩)] w fun e w' => e = .returned (.tuple #[]) ∧ Hid (St B g w (l ++ [32, 123, 10]) (tb + 1) w') := by
  obtain ⟨p, v, hb⟩ := h.blk
  obtain ⟨c0, c1, c2, f0, f1, f2⟩ := Syn.bk3 hb
  have HWS := hide ((St.init h).ws ⟨#[32, 123, 10]⟩ hl)
  clear h hb hl
  go_enter Tryz.func118, Tryz.ntmps118
  go_wp2_with fail
  refine HWS.out.mono ?_
  rintro e w1 ⟨⟨v1, rfl⟩, HS⟩
  clear HWS c0 c1 c2 f0 f1 f2
  obtain ⟨p, v, hb⟩ := HS.out.ps.blk
  obtain ⟨c0, c1, c2, f0, f1, f2⟩ := Syn.bk3 hb
  clear hb
  go_wp2
  go_end0
  have := HS.out.tabs (tb + 1)
  refine ⟨rfl, ?_⟩
  first | exact this | (simpa using this)
set_option maxHeartbeats 1000000 in
set_option maxRecDepth 4000 in
theorem close_any (B g tb : Nat) (w : World) (l : List UInt8) (h : PS B g l (tb + 1) w) (hl : l.length + tb + 1 ≤ 1000000000) (ht : tb ≤ 1000) :
    Calls Tryz.prog 123 #[.pointer (some ⟨g, 0, none⟩)] w fun e w' => e = .returned (.tuple #[]) ∧ Hid (St B g w (l ++ List.replicate tb 9 ++ [125]) tb w') := by
  obtain ⟨p, v, hb⟩ := h.blk
  obtain ⟨c0, c1, c2, f0, f1, f2⟩ := Syn.bk3 hb
  have HT := hide ((St.init h).tabs tb)
  have HLN := hide hl
  clear h hb hl
  go_enter Tryz.func123, Tryz.ntmps123
  go_wp2_with fail
  have HLB : Hid (l.length + (List.replicate tb (9 : UInt8)).length ≤ 1000000000) := by
    have := HLN.out
    exact (show l.length + (List.replicate tb (9 : UInt8)).length ≤ 1000000000 by rw [List.length_replicate]; omega)
  refine (HT.out.step (beginLine_any B g tb _ ht) HLB.out).mono ?_
  rintro e w1 ⟨rfl, HS⟩
  have HLC : Hid ((l ++ List.replicate tb 9).length ≤ 1000000000) := by
    have := HLN.out
    exact (show (l ++ List.replicate tb 9).length ≤ 1000000000 by rw [List.length_append, List.length_replicate]; omega)
  have HW := hide (HS.out.wb 125 HLC.out)
  clear HT HLB HLC HS c0 c1 c2 f0 f1 f2
  go_wp2_with fail
  refine HW.out.mono ?_
  rintro e w2 ⟨rfl, HS⟩
  go_wp2
  go_end0
  exact ⟨rfl, HS⟩
end Prn
end Go.Proofs.YtomldkljlbdnjaaGreat
