/- Contract of arith.divStep; it proves no statement of the seat. -/
import Derived.Test.YtidpbdhhbeaijabDivGJ
namespace Go.Proofs.Ytidpbdhhbeaijab
open Go.RowKit

theorem b_one {u v g u' b T : Nat} (hv : 0 < v) (hg : g = u / v + 1) (h : u' + g * v = u + T * b) (hb : b ≤ 1) : b = 1 := by
  have h1 := Nat.div_add_mod u v
  have h2 := Nat.mod_lt u hv
  rw [Nat.mul_comm] at h1
  rw [hg, Nat.add_mul, Nat.one_mul] at h
  rcases Nat.eq_zero_or_pos b with k | k
  · subst k; omega
  · omega

/-- All blocks but one stay. -/
def But (g : Nat) (w w' : World) : Prop := (∀ B, B ≤ g → Below B w w') ∧ ∀ b, b ≠ g → b < w.heap.size → w'.heap[b]? = w.heap[b]?

theorem But.row {g b : Nat} {w w' : World} (h : But g w w') {k : IntKind} {t : TypeId} {zs : List Nat} (hr : Row k t w b zs) (hne : b ≠ g) : Row k t w' b zs := (h.2 b hne hr.lt).trans hr

theorem But.of {g : Nat} {w w1 w2 : World} (hg : g < w.heap.size) (h : Below w.heap.size w w1) (k : Only g w1 w2) : But g w w2 :=
  ⟨fun B hB => (h.mono (by omega)).trans (k.below hB), fun b hne hb => (k.block b hne).trans (h.block b hb)⟩

set_option maxHeartbeats 2000000 in
theorem divStep_any (g o m cap cap' : Nat) (bo : Option Addr) (pre win post ys : List Nat) (w : World) (hW : Win w g o pre win post) (hwl : win.length = m + 3) (hyl : ys.length = m + 2) (hn : m ≤ 8000) (ht : Seg .u32 w bo ys) (hne : ∀ a, bo = some a → a.block ≠ g) (hdw : Digs 4294967296 win) (hdy : Digs 4294967296 ys)
    (hlt : val 4294967296 win < 4294967296 * val 4294967296 ys) (htop : 0 < ys.getD (m + 1) 0) :
    Calls Try.prog 84 #[.slice (some ⟨g, o, none⟩) (m + 3) cap, .slice bo (m + 2) cap'] w fun e w' => ∃ q : Nat, ∃ win', e = .returned (.int .u32 q) ∧ q < 4294967296 ∧ q = val 4294967296 win / val 4294967296 ys ∧ win'.length = m + 3 ∧ Digs 4294967296 win' ∧ val 4294967296 win' = val 4294967296 win % val 4294967296 ys ∧ Win w' g o pre win' post ∧ But g w w' := by
  have hg := hW.1.lt
  have HV0 : Hid (0 < val 4294967296 ys) := by
    show _ < _
    have h1 := val_two 4294967296 ys m hyl
    have h2 : 0 < (ys.getD (m + 1) 0 * 4294967296 + ys.getD m 0) * 4294967296 ^ m := Nat.mul_pos (by omega) (Nat.pow_pos (by decide))
    omega
  have HVT : Hid (val 4294967296 win < 4294967296 ^ (m + 2 + 1)) := by have := val_lt hdw; rw [hwl] at this; exact this
  go_enter Try.func84, Try.ntmps84
  go_wp2_with fail
  refine (guessLimb_any g o m cap cap' bo pre win post ys _ hW hwl hyl (by omega) ht hdw hdy hlt htop).mono ?_
  rintro e w1 ⟨q, rfl, hq, hlo, hhi, hb1⟩
  have hW1 : Win w1 g o pre win post := ⟨hW.1.keep hb1 hg, hW.2⟩
  have ht1 := ht.below hb1
  have HLO : Hid (val 4294967296 win / val 4294967296 ys ≤ q ∧ q ≤ val 4294967296 win / val 4294967296 ys + 1) := ⟨hlo, hhi⟩
  have HWL : Hid (win.length = m + 2 + 1) := hwl
  have HYL : Hid (ys.length = m + 2) := hyl
  clear hlo hhi hW hwl hyl hlt htop
  go_wp2_with fail
  refine (takeOff_any g o (m + 2) cap cap' q bo pre win post ys _ hW1 HWL.out HYL.out (by omega) ht1 hne hdw hdy hq).mono ?_
  rintro e w2 ⟨b, win1, rfl, hb, hl1, hd1, hv1, hW2, ho2⟩
  have HU1 : Hid (val 4294967296 win1 < 4294967296 ^ (m + 2 + 1)) := by have := val_lt hd1; rw [hl1] at this; exact this
  have HV1 : Hid (val 4294967296 win1 + q * val 4294967296 ys = val 4294967296 win + 4294967296 ^ (m + 2 + 1) * b) := hv1
  have HL1 : Hid (win1.length = m + 2 + 1) := hl1
  have ht2 := ho2.seg ht1 hne
  clear hv1 hl1 hW1
  by_cases hq2 : q ≤ val 4294967296 win / val 4294967296 ys
  · obtain ⟨h1, h2, h3⟩ := step_low hq2 HU1.out HV1.out hb HLO.out.1
    subst h1
    have HQ : Hid (q = val 4294967296 win / val 4294967296 ys ∧ val 4294967296 win1 = val 4294967296 win % val 4294967296 ys) := ⟨h2, h3⟩
    clear h2 h3 hq2
    go_wp2
    go_ret
    exact ⟨q, win1, rfl, hq, HQ.out.1, HL1.out, hd1, HQ.out.2, hW2, But.of hg hb1 ho2⟩
  · have hqe : q = val 4294967296 win / val 4294967296 ys + 1 := by have := HLO.out; omega
    have h1 := b_one HV0.out hqe HV1.out hb
    subst h1
    have HQ : Hid (q = val 4294967296 win / val 4294967296 ys + 1) := hqe
    have hq0 : 0 < q := by rw [hqe]; exact Nat.succ_pos _
    have hq1 : 1 ≤ (q : Int) := by omega
    clear hqe hq2 hq0
    go_wp2_with fail
    refine (putBack_any g o (m + 2) cap cap' bo pre win1 post ys _ hW2 HL1.out HYL.out (by omega) ht2 hne hd1 hdy).mono ?_
    rintro e w3 ⟨c, win2, rfl, hc, hl2, hd2, hv2, hW3, ho3⟩
    have HV2 : Hid (val 4294967296 win2 + 4294967296 ^ (m + 2 + 1) * c = val 4294967296 win1 + val 4294967296 ys) := hv2
    have HL2 : Hid (win2.length = m + 2 + 1) := hl2
    clear hv2 hl2
    go_wp2
    go_ret
    have hu2 := val_lt hd2
    rw [HL2.out] at hu2
    have h5 := step_high HV0.out HQ.out HU1.out HV1.out (by decide) hu2 HV2.out hc
    refine ⟨q - 1, win2, ?_, by omega, by have := HQ.out; omega, HL2.out, hd2, h5.2, hW3, But.of hg hb1 (ho2.trans ho3)⟩
    rw [show (((q - 1 : Nat) : Nat) : Int) = (q : Int) - 1 by omega]
    rfl
end Go.Proofs.Ytidpbdhhbeaijab
