/- Contracts of top and step; they prove no statement of the seat. -/
import Derived.Test.YtlonnhnfmcndfacJoin8Terms
import Derived.Deep.CutRange
import Derived.BigQuiet
namespace Go.Proofs.Ytlonnhnfmcndfac
open Go.RowKit
set_option linter.unusedVariables false
namespace Euf
theorem lawInt : Maps.Keyed Try.prog 3 := Maps.int_keyed uInt
theorem keyInt {n : Nat} (h : n ≤ 9223372036854775807) : keyOf Try.prog 3 (.int .i64 (n : Nat)) = some (.int .i64 (n : Nat)) := Maps.keyOf_int_mk uInt (wfNat h)
theorem uAbove : Try.prog.underlying 86 = some (.map 3 3) := by kernel_rfl
section
variable {w : World} {p g : Nat} {x : Ax} {c : Ac} {N : Nat}
theorem AW.lookA (h : AW w p g x c N) (i : Nat) (hi : i ≤ 10000) {o : Option Nat} (ho : c.ab i = o) : (Instr.lookup 86 (.map (some x.bA)) (.int .i64 (i : Nat)) true).run Try.prog w = .ok (.tuple #[.int .i64 (o.getD 0 : Nat), .bool o.isSome]) w := by
  have := h.above.look lawInt uAbove uInt (zInt _) (keyInt (n := i) (by omega))
  rw [abF_at, ho] at this
  cases o <;> simpa using this
theorem AW.putA (h : AW w p g x c N) (i j : Nat) (hi : i < N) (hj : j ≤ 10000) (hd : ∀ k z, c.ab k = some z → k < N) : ∃ w', (Instr.mapUpdate 86 (.map (some x.bA)) (.int .i64 (i : Nat)) (.int .i64 (j : Nat))).run Try.prog w = .ok () w' ∧ AW w' p g x { c with ab := upd c.ab i (some j) } N ∧ Mv (fun b => b = x.bA) w w' := by
  have hs := h.small
  obtain ⟨w', hrun, hm, ht⟩ := h.above.put lawInt uAbove uInt (by unfold maxLen; omega) (keyInt (n := i) (by omega)) (x := (j : Nat)) (wfNat (by omega)) (abF (upd c.ab i (some j))) (by rw [abF_at, upd_same]; rfl) (abF_other (fun k hk => upd_other _ _ hk))
  have hm2 := hm.tightBy lawInt N (fun v => match v with | .int _ z => z.toNat | _ => 0) (fun k z hz => by
    obtain ⟨a, b, rfl, h1, rfl⟩ := abF_some hz
    show (Int.toNat (a : Int)) < N
    rw [Int.toNat_natCast]
    by_cases e : a = i
    · omega
    · rw [upd_other _ _ e] at h1; exact hd a b h1) (fun k k' z z' hz hz' e => by
    obtain ⟨a, b, rfl, h1, rfl⟩ := abF_some hz
    obtain ⟨a', b', rfl, h1', rfl⟩ := abF_some hz'
    have e2 : Int.toNat (a : Int) = Int.toNat (a' : Int) := e
    rw [Int.toNat_natCast, Int.toNat_natCast] at e2
    rw [e2])
  obtain ⟨k1, k2⟩ := h.turnAbove ht hm2
  exact ⟨w', hrun, k1, k2⟩
end
/-- What 'top' tells. -/
def TopEnd (S : Nat → Spot) (p g : Nat) (x : Ax) (c : Ac) (N : Nat) (i R : Nat) (w w' : World) : Prop :=
  R < N ∧ Up S (AbG c.ab) i R ∧ ¬ AbG c.ab R ∧ ∃ ab', AW w' p g x { c with ab := ab' } N ∧ AbOk N S ab' ∧ (∀ k, AbG ab' k ↔ AbG c.ab k) ∧ Mv (fun b => b = x.bA) w w'

set_option maxRecDepth 20000 in
set_option maxHeartbeats 8000000 in
theorem top_any (S : Nat → Spot) (p g : Nat) (x : Ax) (c : Ac) (N i n : Nat) (w : World) (h : AW w p g x c N) (hab : AbOk N S c.ab) (hi : i < N) (hu : Ups S (i : Int) n) :
    Calls Try.prog 47 #[.pointer (some ⟨p, 0, none⟩), .int .i64 (i : Nat)] w fun e w' => ∃ R : Nat, e = .returned (.int .i64 (R : Nat)) ∧ TopEnd S p g x c N i R w w' := by
  have HA : Hid (AbOk N S c.ab) := hab
  have HU : Hid (Ups S (i : Int) n) := hu
  have hN := h.small
  clear hab hu
  go_enter Try.func47, Try.ntmps47
  go_wp2
  go_loopg [1] n (fun gk v1 wr => ∃ (j : Nat) (ab' : Nat → Option Nat), v1 = .int .i64 (j : Nat) ∧ Hid (Ups S (j : Int) gk ∧ j < N ∧ Up S (AbG c.ab) i j ∧ AbOk N S ab' ∧ (∀ k, AbG ab' k ↔ AbG c.ab k)) ∧ AW wr p g x { c with ab := ab' } N ∧ Mv (fun b => b = x.bA) w wr)
  case atStart => exact ⟨i, c.ab, rfl, ⟨HU.out, hi, .refl _, HA.out, fun k => Iff.rfl⟩, h, Mv.refl _ _⟩
  case round =>
    clear h hi
    obtain ⟨j, ab', rfl, HR, hC, hM⟩ := hrel
    have hj := HR.out.2.1
    obtain ⟨-, -, -, c3, -⟩ := hC.cells
    have hpl := hC.lt
    cases h1 : ab' j with
    | none =>
      have l1 := hC.lookA j (by omega) h1
      simp only [Option.getD_none, Option.isSome_none] at l1
      have HN : Hid (¬ AbG c.ab j) := fun h9 => by
        have := (HR.out.2.2.2.2 j).2 h9
        unfold AbG at this
        rw [h1] at this
        cases this
      clear h1
      go_wp2
      refine bodyPost_ret (v := .int .i64 (j : Nat)) (by simp [results, Try.results47, go_sem]) rfl ?_
      exact ⟨j, rfl, hj, HR.out.2.2.1, HN.out, ab', hC, HR.out.2.2.2.1, HR.out.2.2.2.2, hM⟩
    | some k =>
      have l1 := hC.lookA j (by omega) h1
      simp only [Option.getD_some, Option.isSome_some] at l1
      obtain ⟨-, hk, y, hy1, hy2, hy3⟩ := HR.out.2.2.2.1.up j k h1
      have hp := HR.out.2.2.2.1.path h1
      obtain ⟨m, HM⟩ : ∃ m, Hid (Ups S (k : Int) m ∧ m < gk) := by
        obtain ⟨m', e1, e2⟩ := HR.out.1.nat
        rw [hy1] at e2
        obtain ⟨m, e3, e4, _⟩ := hy3.short e2
        exact ⟨m, e3, by omega⟩
      have HP : Hid (Up S (AbG c.ab) i k) := HR.out.2.2.1.trans (hp.mono (fun q hq => (HR.out.2.2.2.2 q).1 hq))
      clear hy1 hy2 hy3 hp y
      cases h2 : ab' k with
      | none =>
        have l2 := hC.lookA k (by omega) h2
        simp only [Option.getD_none, Option.isSome_none] at l2
        clear h1 h2
        go_wp2
        go_roundg m
        case measure => exact HM.out.2
        case rel => exact ⟨k, ab', rfl, ⟨HM.out.1, hk, HP.out, HR.out.2.2.2.1, HR.out.2.2.2.2⟩, hC, hM⟩
      | some q =>
        have l2 := hC.lookA k (by omega) h2
        simp only [Option.getD_some, Option.isSome_some] at l2
        obtain ⟨-, hq, -⟩ := HR.out.2.2.2.1.up k q h2
        obtain ⟨b1, b2⟩ := HR.out.2.2.2.1.higher h1 h2
        have HB : Hid (AbOk N S (upd ab' j (some q)) ∧ (∀ k, AbG (upd ab' j (some q)) k ↔ AbG c.ab k)) := ⟨b1, fun k => (b2 k).trans (HR.out.2.2.2.2 k)⟩
        obtain ⟨w5, hrun, hC5, hM5⟩ := hC.putA j q hj (by omega) (fun k z hz => (HR.out.2.2.2.1.up k z hz).1)
        replace hM5 := hM.trans hM5 (fun b hb => Or.inl hb)
        clear h1 h2 b1 b2
        go_wp2
        go_roundg m
        case measure => exact HM.out.2
        case rel => exact ⟨k, _, rfl, ⟨HM.out.1, hk, HP.out, HB.out.1, HB.out.2⟩, hC5, hM5⟩
end Euf
end Go.Proofs.Ytlonnhnfmcndfac
