/- The function that Classes hands back, walked; no statement of the seat is proved here. -/
import Derived.Test.YtmnpefiaelpkfacEufRfJClasses
namespace Go.Proofs.Ytmnpefiaelpkfac
open Go.RowKit Go.Shelf
attribute [local go_sem] Oper.semAt_some
set_option linter.unusedVariables false
namespace Euf
set_option maxRecDepth 20000 in
set_option maxHeartbeats 16000000 in
theorem classes1_in (Wr : World) (b13 bX m : Nat) (vO : Value) (vi2 : Nat → Value) (ls : Nat → List Nat) (hxb : Blk 33 Wr bX #[vO]) (hll : LL Wr vO m vi2 ls) (hX : bX ≠ b13) (hfl : ∀ b, FL vO m vi2 b → b ≠ b13 ∧ b < Wr.heap.size) (hb13 : b13 < Wr.heap.size) (hm6 : m ≤ 60) (hls : ∀ k, k < m → 0 < (ls k).length ∧ (ls k).length ≤ 60)
    (St : Nat → World → Prop) (hSt : ∀ k W, St k W ↔ k ≤ m ∧ Mv (OneB b13) Wr W ∧ Blk 3 W b13 #[.int .i64 (k : Nat)])
    (Ok : Nat → Value → World → Prop) (hOk : ∀ k W (b' cap' : Nat), k < m → OL 1 3 W (.slice (some ⟨b', 0, none⟩) (ls k).length cap') (ls k).length (natC (ls k)) → b' ≠ Wr.heap.size + 1 → Ok k (.slice (some ⟨b', 0, none⟩) (ls k).length cap') W)
    (Rd Dn : World → Prop) (hsz : ∀ W, Rd W → Wr.heap.size + 1 < W.heap.size) (hRd : ∀ W W', Rd W → Below W.heap.size W W' → Rd W')
    (hY : ∀ k x W, St k W → Ok k x W → Rd W → YieldAt Fence.wide 6 Try.prog (Wr.heap.size + 1) #[x] W fun e W' => (e = .returned (.bool true) ∧ St (k + 1) W' ∧ Rd W') ∨ (e = .returned (.bool false) ∧ Dn W'))
    (W1 : World) (hS : St 0 W1) (hR : Rd W1) :
    CallsIn Fence.wide 7 Try.prog 18 #[.func (.yield (Wr.heap.size + 1)) #[] #[], .pointer (some ⟨bX, 0, none⟩)] W1 fun e W' => (∃ v, e = .returned v) ∧ ((∃ k, k = m ∧ St k W' ∧ Rd W') ∨ Dn W') := by
  have HX : Hid (Blk 33 Wr bX #[vO] ∧ LL Wr vO m vi2 ls ∧ (∀ b, FL vO m vi2 b → b ≠ b13 ∧ b < Wr.heap.size)) := ⟨hxb, hll, hfl⟩
  have HLS : Hid (∀ k, k < m → 0 < (ls k).length ∧ (ls k).length ≤ 60) := hls
  have HST : Hid (∀ k W, St k W ↔ k ≤ m ∧ Mv (OneB b13) Wr W ∧ Blk 3 W b13 #[.int .i64 (k : Nat)]) := hSt
  have HOK : Hid (∀ k W (b' cap' : Nat), k < m → OL 1 3 W (.slice (some ⟨b', 0, none⟩) (ls k).length cap') (ls k).length (natC (ls k)) → b' ≠ Wr.heap.size + 1 → Ok k (.slice (some ⟨b', 0, none⟩) (ls k).length cap') W) := hOk
  have HRD : Hid ((∀ W, Rd W → Wr.heap.size + 1 < W.heap.size) ∧ (∀ W W', Rd W → Below W.heap.size W W' → Rd W')) := ⟨hsz, hRd⟩
  have HY : Hid (∀ k x W, St k W → Ok k x W → Rd W → YieldAt Fence.wide 6 Try.prog (Wr.heap.size + 1) #[x] W fun e W' => (e = .returned (.bool true) ∧ St (k + 1) W' ∧ Rd W') ∨ (e = .returned (.bool false) ∧ Dn W')) := hY
  have HS : Hid (St 0 W1 ∧ Rd W1) := ⟨hS, hR⟩
  have hm1 := (hSt 0 W1).1 hS
  have k1 : Blk 33 W1 bX #[vO] := (hm1.2.1.other bX hxb.lt hX).trans hxb
  have q1 : W1.cell? ⟨bX, 0, none⟩ = some vO := k1.cell 0
  obtain ⟨aO, cO, hv, -, -, -, -⟩ := hll.out.shape
  subst hv
  clear hxb hll hfl hls hSt hOk hsz hRd hY hS hR hm1 k1
  refine callsIn_of_wp Try.func18 rfl trivial ?_
  simp only [Try.ntmps18, List.size_toArray, List.length_cons, List.length_nil, Nat.reduceAdd, Nat.reduceSub, Array.replicate_succ, Array.replicate_zero, List.push_toArray, List.append_toArray, List.nil_append, List.cons_append]
  gi_wp2
  gi_loopw [7] (fun v7 wr => ∃ k : Nat, v7 = .int .i64 (k : Nat) ∧ St k wr ∧ Rd wr) (fun v7 _ => m - (intOf v7).toNat)
  case atStart => exact ⟨0, rfl, HS.out⟩
  case round =>
    obtain ⟨k, rfl, hSk, hRk⟩ := hrel
    obtain ⟨hk0, hMk, hBk⟩ := (HST.out k wr).1 hSk
    clear HS q1
    by_cases hk : k < m
    · have hkI : (k : Int) < (m : Int) := by omega
      have hlw : LL wr (.slice aO m cO) m vi2 ls := HX.out.2.1.keep (fun b hb => hMk.other b (HX.out.2.2 b hb).2 (HX.out.2.2 b hb).1)
      obtain ⟨bO, cO', hvO, -, -⟩ := hlw.out.open k hk
      injection hvO with hvO1 hvO2 hvO3
      subst hvO1 hvO3
      have qO := hlw.out.cell (i := k) hk (j := 0) (by omega)
      simp only [Nat.add_zero, Nat.mul_one, List.getElem?_cons_zero] at qO
      have hin := hlw.inn k hk
      obtain ⟨bI, cI, hvi, -, -⟩ := hin.open 0 (HLS.out k hk).1
      rw [hvi] at qO hin
      have HCL : Hid (Calls Try.prog 19 #[.slice (some ⟨bI, 0, none⟩) (ls k).length cI] wr fun e w' => ∃ b' cap' : Nat, e = .returned (.slice (some ⟨b', 0, none⟩) (ls k).length cap') ∧ OL 1 3 w' (.slice (some ⟨b', 0, none⟩) (ls k).length cap') (ls k).length (natC (ls k)) ∧ Below wr.heap.size wr w' ∧ wr.heap.size ≤ b') :=
        Clone_any bI cI (ls k) wr hin (HLS.out k hk).1 (by have := (HLS.out k hk).2; omega)
      have HK : Hid (Mv (OneB b13) Wr wr ∧ Blk 3 wr b13 #[.int .i64 (k : Nat)] ∧ Rd wr) := ⟨hMk, hBk, hRk⟩
      clear hMk hBk hRk hSk hlw hin hvi
      gi_wp2_with fail
      refine ⟨trivial, ?_⟩
      refine (callsIn_wide.2 HCL.out).mono ?_
      rintro e W2 ⟨b', cap', rfl, hol, hb2, hge⟩
      have hR2 : Rd W2 := HRD.out.2 _ _ HK.out.2.2 hb2
      have hS2 : St k W2 := (HST.out k W2).2 ⟨by omega, HK.out.1.trans (Mv.below (F := fun _ => False) hb2) (fun b hf => hf.elim), HK.out.2.1.stay hb2⟩
      obtain ⟨fn, tmps, assign, body, hy, hR⟩ := HY.out k _ W2 hS2 (HOK.out k W2 b' cap' hk hol (by have := HRD.out.1 _ HK.out.2.2; omega)) hR2
      clear HCL HK hol hb2 hge hR2 hS2 qO
      gi_wp2
      refine hR.mono ?_
      rintro e W3 (⟨rfl, hS3, hR3⟩ | ⟨rfl, hD3⟩)
      · gi_wp2
        go_roundw
        case rel => exact ⟨k + 1, by go_num, hS3, hR3⟩
        case measure => simp [intOf] <;> omega
      · gi_wp2
        refine bodyPost_ret (results_none rfl _ _ _) rfl ?_
        exact ⟨⟨_, rfl⟩, .inr hD3⟩
    · obtain rfl : k = m := by omega
      have hkI : ¬ ((k : Int) < (k : Int)) := by omega
      gi_wp2
      go_end0
      exact ⟨⟨_, rfl⟩, .inl ⟨hSk, hRk⟩⟩
end Euf
end Go.Proofs.Ytmnpefiaelpkfac
