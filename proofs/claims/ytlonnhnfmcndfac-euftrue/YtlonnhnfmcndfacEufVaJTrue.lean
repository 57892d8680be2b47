/- The value of a node by functions that a seed chooses; no statement of the seat is proved here. -/
import Derived.Test.YtlonnhnfmcndfacEufReJTrue
namespace Go.Proofs.Ytlonnhnfmcndfac
open Go.RowKit
set_option linter.unusedVariables false
namespace Euf
def stB (k : Nat) (b : UInt8) : Nat := (k * 7 + b.toNat) % 1009
def stA (k x : Nat) : Nat := (k * 5 + x + 1) % 1009
def kB (l : List UInt8) (k : Nat) : Nat := l.foldl stB k
def kA (l : List Nat) (k : Nat) : Nat := l.foldl stA k
def kV (sd : List Int) (k : Nat) : Nat := if sd.length = 0 then k % 2 else if (sd.getD (k % sd.length) 0).tmod 3 < 0 then ((sd.getD (k % sd.length) 0).tmod 3 + 3).toNat else ((sd.getD (k % sd.length) 0).tmod 3).toNat
def valF (sd : List Int) (fn : ByteArray) (xs : List Nat) : Nat := kV sd (kA xs (kB fn.data.toList fn.size))
theorem kB_take (l : List UInt8) (k i : Nat) (hi : i < l.length) : kB (l.take (i + 1)) k = (kB (l.take i) k * 7 + (l[i]).toNat) % 1009 := by
  unfold kB
  rw [List.take_succ_eq_append_getElem hi, List.foldl_append]
  rfl
theorem kA_take (l : List Nat) (k i : Nat) (hi : i < l.length) : kA (l.take (i + 1)) k = (kA (l.take i) k * 5 + l[i] + 1) % 1009 := by
  unfold kA
  rw [List.take_succ_eq_append_getElem hi, List.foldl_append]
  rfl
theorem kB_le (l : List UInt8) (k n : Nat) (h : k ≤ n) (hn : 1009 ≤ n) : kB l k ≤ n := by
  induction l generalizing k with
  | nil => exact h
  | cons b l ih => exact ih _ (by have : stB k b < 1009 := Nat.mod_lt _ (by decide); omega)
theorem kA_le (l : List Nat) (k n : Nat) (h : k ≤ n) (hn : 1009 ≤ n) : kA l k ≤ n := by
  induction l generalizing k with
  | nil => exact h
  | cons b l ih => exact ih _ (by have : stA k b < 1009 := Nat.mod_lt _ (by decide); omega)
theorem kV_le (sd : List Int) (k : Nat) : kV sd k ≤ 2 := by
  unfold kV
  split
  · omega
  · generalize sd.getD (k % sd.length) 0 = z
    have h1 : z.tmod 3 < 3 := Int.tmod_lt_of_pos z (by decide)
    have h2 : -3 < z.tmod 3 := Int.lt_tmod_of_pos z (by decide)
    split <;> omega
theorem valF_le (sd : List Int) (fn : ByteArray) (xs : List Nat) : valF sd fn xs ≤ 2 := kV_le _ _
/-- Ints as they came in. -/
def SegZ (w : World) (ao : Option Addr) (zs : List Int) : Prop := zs = [] ∨ ∃ b off, ao = some ⟨b, off, none⟩ ∧ b < w.heap.size ∧ ∀ i, i < zs.length → w.cell? ⟨b, off + i, none⟩ = some (.int .i64 (zs.getD i 0))
theorem SegZ.below {w w' : World} {ao : Option Addr} {zs : List Int} (h : SegZ w ao zs) (hb : Below w.heap.size w w') : SegZ w' ao zs := by
  refine h.imp id ?_
  rintro ⟨b, off, k1, k2, k3⟩
  exact ⟨b, off, k1, Nat.lt_of_lt_of_le k2 hb.size, fun i hi => (hb.cell (p := ⟨b, off + i, none⟩) k2).trans (k3 i hi)⟩
theorem stepB_is (kx : Nat) (b : UInt8) (h : kx ≤ 140737488355328) : (wrap64 ((kx : Int) * 7 + wrap64 (b.toNat : Nat))).tmod 1009 = (((kx * 7 + b.toNat) % 1009 : Nat) : Int) := by
  have hb : b.toNat < 256 := b.toNat_lt
  rw [IntWalk.wrap64_in ((b.toNat : Nat) : Int) (by omega), IntWalk.wrap64_in _ (by omega), Int.tmod_eq_emod_of_nonneg (by omega)]
  omega
set_option maxRecDepth 20000 in
set_option maxHeartbeats 16000000 in
theorem value_any (d : Gd) (aN : Option Addr) (cN : Nat) (vE : Value) (rg : Nat → Value) (aL : Option Addr) (cL : Nat) (vf : Nat → Nat) (k : Nat) (aD : Option Addr) (cD : Nat) (sd : List Int) (w : World) (hr : RG w (.slice aN d.t.nn cN) vE rg d) (hk : k < d.t.nn) (hL : OL 1 3 w (.slice aL k cL) k (fun i => [.int .i64 (vf i : Nat)])) (hv : ∀ i, i < k → vf i ≤ 2) (ha : ∀ b ∈ (d.t.N k).2, b < k) (hal : (d.t.N k).2.length ≤ 20) (hfn : (d.t.N k).1.size ≤ 140737488351232) (hk6 : k ≤ 1000) (hD : SegZ w aD sd) (hdl : sd.length ≤ maxLen) :
    Calls Try.prog 21 #[.agg #[.slice aN d.t.nn cN, vE], .slice aL k cL, .int .i64 (k : Nat), .slice aD sd.length cD] w fun e w' => e = .returned (.int .i64 (valF sd (d.t.N k).1 ((d.t.N k).2.map vf) : Nat)) ∧ Below w.heap.size w w' := by
  have HR : Hid (RG w (.slice aN d.t.nn cN) vE rg d) := hr
  have HL : Hid (OL 1 3 w (.slice aL k cL) k (fun i => [.int .i64 (vf i : Nat)])) := hL
  have HV : Hid ((∀ i, i < k → vf i ≤ 2) ∧ (∀ b ∈ (d.t.N k).2, b < k) ∧ (d.t.N k).2.length ≤ 20) := ⟨hv, ha, hal⟩
  have HD : Hid (SegZ w aD sd) := hD
  clear hL hv ha hD
  obtain ⟨bN, cN', hvN, -, -⟩ := hr.nodes.open k hk
  injection hvN with hvN e2 e3
  clear e2
  subst hvN e3
  have n0 := hr.nodes.cell (i := k) hk (j := 0) (by omega)
  have n1 := hr.nodes.cell (i := k) hk (j := 1) (by omega)
  simp only [Nat.add_zero, List.getElem?_cons_zero, List.getElem?_cons_succ] at n0 n1
  have hbN : bN < w.heap.size := hr.nodes.lt rfl
  obtain ⟨aZ, cZ, hrg, -, -, -, -⟩ := (hr.args k hk).shape
  rw [hrg] at n1
  have HA : Hid (OL 1 3 w (.slice aZ (d.t.N k).2.length cZ) (d.t.N k).2.length (natC (d.t.N k).2)) := by have := hr.args k hk; rw [hrg] at this; exact this
  clear hrg hr
  have hkI : (k : Int) < (d.t.nn : Int) := by omega
  generalize hfk : (d.t.N k).1 = fk at *
  generalize hlk : (d.t.N k).2 = lk at *
  clear hfk hlk
  go_enter Try.func21, Try.ntmps21
  go_wp2
  obtain ⟨W, hW⟩ : ∃ W, W = (w.alloc (.cells #[.slice (some ⟨bN, 0, none⟩) d.t.nn cN, vE] 28)).alloc (.cells #[.string fk, .slice aZ lk.length cZ] 43) := ⟨_, rfl⟩
  rw [← hW]
  have HB : Hid (Below w.heap.size w W) := by show Below _ _ _; rw [hW]; go_grown
  have m0 : W.cell? ⟨w.heap.size + 1, 0, none⟩ = some (.string fk) := by rw [hW]; simp
  have m1 : W.cell? ⟨w.heap.size + 1, 1, none⟩ = some (.slice aZ lk.length cZ) := by rw [hW]; simp
  have hb9 : w.heap.size + 1 < W.heap.size := by rw [hW]; simp
  clear hW n0 n1 hbN
  obtain ⟨b9, hb⟩ : ∃ b9, b9 = w.heap.size + 1 := ⟨_, rfl⟩
  rw [← hb] at m0 m1 hb9 ⊢
  clear hb
  go_loopw [10, 11] (fun v10 v11 wr => ∃ (i kx : Nat), v11 = .int .i64 (i : Nat) ∧ v10 = .int .i64 (kx : Nat) ∧ i ≤ fk.size ∧ W = wr ∧ Hid (kx = kB (fk.data.toList.take i) fk.size)) (fun _ v _ => fk.size - (intOf v).toNat)
  case atStart => exact ⟨0, fk.size, rfl, rfl, Nat.zero_le _, rfl, rfl⟩
  case round =>
    rename World => wl
    obtain ⟨i, kx, rfl, rfl, hi, rfl, HK⟩ := hrel
    have hkx : kx ≤ 140737488355328 := by rw [HK.out]; exact kB_le _ _ _ (by omega) (by omega)
    by_cases hlt : i < fk.size
    · have hltI : (i : Int) < (fk.size : Int) := by omega
      have HS : Hid (kB (fk.data.toList.take (i + 1)) fk.size = (kx * 7 + fk[i].toNat) % 1009) := by
        show _ = _
        rw [HK.out]
        have := kB_take fk.data.toList fk.size i (by simpa using hlt)
        rw [this]
        rfl
      clear HK
      go_wp2
      rw [stepB_is kx _ hkx]
      refine ⟨⟨i + 1, (kx * 7 + fk[i].toNat) % 1009, by go_num, rfl, by omega, trivial, HS.out.symm⟩, by simp [intOf]; omega⟩
    · have hltI : ¬ ((i : Int) < (fk.size : Int)) := by omega
      obtain rfl : i = fk.size := by omega
      have HK2 : Hid (kx = kB fk.data.toList fk.size) := by
        show _ = _
        have := HK.out
        rw [List.take_of_length_le (by simp)] at this
        exact this
      clear HK
      go_wp2
      go_loopw [10, 12] (fun v10 v12 wr => ∃ (j ky : Nat), v12 = .int .i64 (j : Nat) ∧ v10 = .int .i64 (ky : Nat) ∧ j ≤ lk.length ∧ W = wr ∧ Hid (ky = kA ((lk.map vf).take j) kx)) (fun _ v _ => lk.length - (intOf v).toNat)
      case atStart => exact ⟨0, kx, rfl, rfl, Nat.zero_le _, rfl, rfl⟩
      case round =>
        rename World => wm
        obtain ⟨j, ky, rfl, rfl, hj, rfl, HJ⟩ := hrel
        have hky : ky ≤ 140737488355328 := by rw [HJ.out]; exact kA_le _ _ _ (by omega) (by omega)
        by_cases hlj : j < lk.length
        · have hljI : (j : Int) < (lk.length : Int) := by omega
          obtain ⟨bZ, cZ', hvZ, -, -⟩ := HA.out.open j hlj
          injection hvZ with hvZ e2 e3
          clear e2
          subst hvZ e3
          have z0 := HA.out.cell (i := j) hlj (j := 0) (by omega)
          have hbZ : bZ < w.heap.size := HA.out.lt rfl
          have ez : natC lk j = [.int .i64 (lk[j] : Nat)] := by unfold natC; rw [List.getD_eq_getElem?_getD, List.getElem?_eq_getElem hlj]; rfl
          rw [ez] at z0
          simp only [Nat.add_zero, Nat.mul_one, List.getElem?_cons_zero] at z0
          replace z0 := (HB.out.cell (p := ⟨bZ, j, none⟩) hbZ).trans z0
          have hx : lk[j] < k := HV.out.2.1 _ (List.getElem_mem hlj)
          have HS : Hid (kA ((lk.map vf).take (j + 1)) kx = (ky * 5 + vf lk[j] + 1) % 1009) := by
            show _ = _
            rw [HJ.out]
            have := kA_take (lk.map vf) kx j (by simpa using hlj)
            rw [this]
            simp
          have hv2 : vf lk[j] ≤ 2 := HV.out.1 _ hx
          generalize lk[j] = x at z0 hx HS hv2
          have hxI : (x : Int) < (k : Int) := by omega
          obtain ⟨bL, cL', hvL, -, -⟩ := HL.out.open x hx
          injection hvL with hvL e2 e3
          clear e2 ez
          subst hvL e3
          have y0 := HL.out.cell (i := x) hx (j := 0) (by omega)
          have hbL : bL < w.heap.size := HL.out.lt rfl
          simp only [Nat.add_zero, Nat.mul_one, List.getElem?_cons_zero] at y0
          replace y0 := (HB.out.cell (p := ⟨bL, x, none⟩) hbL).trans y0
          generalize vf x = vx at y0 HS hv2
          clear HJ
          go_wp2
          rw [show ((ky : Int) * 5 + (vx : Int) + 1) % 1009 = (((ky * 5 + vx + 1) % 1009 : Nat) : Int) from by omega]
          refine ⟨⟨j + 1, (ky * 5 + vx + 1) % 1009, by go_num, rfl, by omega, trivial, HS.out.symm⟩, by simp [intOf]; omega⟩
        · have hljI : ¬ ((j : Int) < (lk.length : Int)) := by omega
          obtain rfl : j = lk.length := by omega
          have HF : Hid (valF sd fk (lk.map vf) = kV sd ky) := by
            show _ = _
            have := HJ.out
            rw [List.take_of_length_le (by simp), HK2.out] at this
            unfold valF
            rw [this]
          clear HJ HK2 HL HA HV HR
          by_cases hs0 : sd.length = 0
          · have hs1 : ((sd.length : Nat) : Int) = 0 := by omega
            have HE : Hid (valF sd fk (lk.map vf) = ky % 2) := by
              show _ = _
              rw [HF.out]; unfold kV; rw [if_pos hs0]
            go_wp2
            go_ret
            exact ⟨by rw [HE.out]; simp, HB.out⟩
          · rcases HD.out with hz | ⟨bD, offD, hD1, hD2, hD3⟩
            · rw [hz] at hs0; exact absurd rfl hs0
            subst hD1
            have hsp : 0 < sd.length := by omega
            have hpl : ky % sd.length < sd.length := Nat.mod_lt _ hsp
            have d0 := (HB.out.cell (p := ⟨bD, offD + ky % sd.length, none⟩) hD2).trans (hD3 _ hpl)
            have hs1 : ¬ (((sd.length : Nat) : Int) = 0) := by omega
            have HE : Hid (valF sd fk (lk.map vf) = if (sd.getD (ky % sd.length) 0).tmod 3 < 0 then ((sd.getD (ky % sd.length) 0).tmod 3 + 3).toNat else ((sd.getD (ky % sd.length) 0).tmod 3).toNat) := by
              show _ = _
              rw [HF.out]; unfold kV; rw [if_neg hs0]
            obtain ⟨p, hp⟩ : ∃ p, p = ky % sd.length := ⟨_, rfl⟩
            have hpI : (ky : Int) % (sd.length : Int) = (p : Int) := by rw [hp]; simp
            rw [← hp] at d0 hpl HE
            have hpJ : (p : Int) < (sd.length : Int) := by omega
            generalize sd.getD p 0 = z at d0 HE
            have h1 : z.tmod 3 < 3 := Int.tmod_lt_of_pos z (by decide)
            have h2 : -3 < z.tmod 3 := Int.lt_tmod_of_pos z (by decide)
            clear hp HF hD3 HD
            by_cases hz : z.tmod 3 < 0
            · have HE2 : Hid (((valF sd fk (lk.map vf) : Nat) : Int) = z.tmod 3 + 3) := by
                show _ = _
                rw [HE.out, if_pos hz]; omega
              clear HE
              go_wp2
              go_ret
              exact ⟨by rw [HE2.out]; rfl, HB.out⟩
            · have HE2 : Hid (((valF sd fk (lk.map vf) : Nat) : Int) = z.tmod 3) := by
                show _ = _
                rw [HE.out, if_neg hz]; omega
              clear HE
              go_wp2
              go_ret
              exact ⟨by rw [HE2.out]; rfl, HB.out⟩
end Euf
end Go.Proofs.Ytlonnhnfmcndfac
