/- The document's like: one function, and arguments of one class; no statement of the seat is proved here. -/
import Derived.Test.YtmnpefiaelpkfacJoin7Classes
import Derived.Test.YtmnpefiaelpkfacEufReJClasses
namespace Go.Proofs.Ytmnpefiaelpkfac
open Go.RowKit
set_option linter.unusedVariables false
namespace Euf
/-- Are the first j arguments of one class? -/
def argsC (c : Nat → Nat) (x y : List Nat) (j : Nat) : Bool := (List.range j).all fun i => decide (c (x.getD i 0) = c (y.getD i 0))
def likeC (N : Nat → ByteArray × List Nat) (c : Nat → Nat) (i k : Nat) : Bool := decide ((N i).1 = (N k).1) && (decide ((N i).2.length = (N k).2.length) && (!decide ((N i).2.length = 0) && argsC c (N i).2 (N k).2 (N i).2.length))
theorem argsC_succ (c : Nat → Nat) (x y : List Nat) (j : Nat) : argsC c x y (j + 1) = (argsC c x y j && decide (c (x.getD j 0) = c (y.getD j 0))) := by
  unfold argsC
  rw [List.range_succ, List.all_append]
  simp
theorem argsC_no {c : Nat → Nat} {x y : List Nat} {j n : Nat} (h : c (x.getD j 0) ≠ c (y.getD j 0)) (hj : j < n) : argsC c x y n = false := by
  unfold argsC
  rw [List.all_eq_false]
  exact ⟨j, List.mem_range.2 hj, by simpa using h⟩
theorem likeC_iff (N : Nat → ByteArray × List Nat) (c : Nat → Nat) (i k : Nat) : likeC N c i k = true ↔ LikeC N c i k := by
  unfold likeC LikeC argsC
  simp
set_option maxRecDepth 20000 in
set_option maxHeartbeats 16000000 in
theorem like_any (d : Gd) (aN : Option Addr) (cN : Nat) (vE : Value) (rg : Nat → Value) (bC cap : Nat) (c : Nat → Nat) (i k : Nat) (w : World) (hr : RG w (.slice aN d.t.nn cN) vE rg d) (h : CI w bC d.t.nn cap c) (hi : i < d.t.nn) (hk : k < d.t.nn) (hn : d.t.nn ≤ 1000) (hin : ∀ a, a < d.t.nn → ∀ b ∈ (d.t.N a).2, b < d.t.nn) (hal : ∀ a, a < d.t.nn → (d.t.N a).2.length ≤ 20) :
    Calls Try.prog 16 #[.agg #[.slice aN d.t.nn cN, vE], .slice (some ⟨bC, 0, none⟩) d.t.nn cap, .int .i64 (i : Nat), .int .i64 (k : Nat)] w fun e w' => e = .returned (.bool (likeC d.t.N c i k)) ∧ Below w.heap.size w w' := by
  obtain ⟨bN, cN', hvN, -, -⟩ := hr.nodes.open k hk
  injection hvN with hvN e2 e3
  clear e2
  subst hvN e3
  have n0 := hr.nodes.cell (i := i) hi (j := 0) (by omega)
  have n1 := hr.nodes.cell (i := i) hi (j := 1) (by omega)
  have n2 := hr.nodes.cell (i := k) hk (j := 0) (by omega)
  have n3 := hr.nodes.cell (i := k) hk (j := 1) (by omega)
  simp only [Nat.add_zero, List.getElem?_cons_zero, List.getElem?_cons_succ] at n0 n1 n2 n3
  have hbN : bN < w.heap.size := hr.nodes.lt rfl
  obtain ⟨aX, cX, hrg, -, -, -, -⟩ := (hr.args i hi).shape
  obtain ⟨aY, cY, hrg2, -, -, -, -⟩ := (hr.args k hk).shape
  rw [hrg] at n1
  rw [hrg2] at n3
  have HX : Hid (OL 1 3 w (.slice aX (d.t.N i).2.length cX) (d.t.N i).2.length (natC (d.t.N i).2)) := by have := hr.args i hi; rw [hrg] at this; exact this
  have HY : Hid (OL 1 3 w (.slice aY (d.t.N k).2.length cY) (d.t.N k).2.length (natC (d.t.N k).2)) := by have := hr.args k hk; rw [hrg2] at this; exact this
  have HI : Hid ((∀ b ∈ (d.t.N i).2, b < d.t.nn) ∧ (∀ b ∈ (d.t.N k).2, b < d.t.nn)) := ⟨hin i hi, hin k hk⟩
  have hlx : (d.t.N i).2.length ≤ 20 := hal i hi
  have hly : (d.t.N k).2.length ≤ 20 := hal k hk
  have HC : Hid (CI w bC d.t.nn cap c) := h
  have HL : Hid (likeC d.t.N c i k = (decide ((d.t.N i).1 = (d.t.N k).1) && (decide ((d.t.N i).2.length = (d.t.N k).2.length) && (!decide ((d.t.N i).2.length = 0) && argsC c (d.t.N i).2 (d.t.N k).2 (d.t.N i).2.length)))) := rfl
  clear hrg hrg2 hr h hin hal
  have hiI : (i : Int) < (d.t.nn : Int) := by omega
  have hkI : (k : Int) < (d.t.nn : Int) := by omega
  generalize likeC d.t.N c i k = res at HL ⊢
  generalize (d.t.N i).1 = fx at n0 HL
  generalize (d.t.N k).1 = fy at n2 HL
  generalize (d.t.N i).2 = lx at n1 HL HX HI hlx
  generalize (d.t.N k).2 = ly at n3 HL HY HI hly
  obtain ⟨nx, hnx⟩ : ∃ nx, nx = lx.length := ⟨_, rfl⟩
  obtain ⟨ny, hny⟩ : ∃ ny, ny = ly.length := ⟨_, rfl⟩
  have HN : Hid (nx = lx.length ∧ ny = ly.length) := ⟨hnx, hny⟩
  rw [← hnx] at n1 HL HX hlx
  rw [← hny] at n3 HL HY hly
  clear hnx hny
  go_enter Try.func16, Try.ntmps16
  go_wp2
  obtain ⟨W, hW⟩ : ∃ W, W = w.alloc (.cells #[.slice (some ⟨bN, 0, none⟩) d.t.nn cN, vE] 28) := ⟨_, rfl⟩
  rw [← hW]
  have hbW : Below w.heap.size w W := by rw [hW]; go_grown
  have HB : Hid (Below w.heap.size w W) := hbW
  have m0 : W.cell? ⟨w.heap.size, 0, none⟩ = some (.slice (some ⟨bN, 0, none⟩) d.t.nn cN) := by rw [hW]; simp
  have hb4 : w.heap.size < W.heap.size := by rw [hW]; simp
  replace n0 := (hbW.cell (p := ⟨bN, i * 2, none⟩) hbN).trans n0
  replace n1 := (hbW.cell (p := ⟨bN, i * 2 + 1, none⟩) hbN).trans n1
  replace n2 := (hbW.cell (p := ⟨bN, k * 2, none⟩) hbN).trans n2
  replace n3 := (hbW.cell (p := ⟨bN, k * 2 + 1, none⟩) hbN).trans n3
  replace hbN : bN < W.heap.size := by omega
  obtain ⟨b4, hb⟩ : ∃ b4, b4 = w.heap.size := ⟨_, rfl⟩
  rw [← hb] at m0 hb4 ⊢
  clear hb hW hbW
  go_cut [9, 10] (fun v9 v10 wx => ∃ b9 b10 : Nat, v9 = .pointer (some ⟨b9, 0, none⟩) ∧ v10 = .pointer (some ⟨b10, 0, none⟩) ∧ wx.cell? ⟨b9, 0, none⟩ = some (.string fx) ∧ wx.cell? ⟨b9, 1, none⟩ = some (.slice aX nx cX) ∧ wx.cell? ⟨b10, 0, none⟩ = some (.string fy) ∧ wx.cell? ⟨b10, 1, none⟩ = some (.slice aY ny cY) ∧ b9 < wx.heap.size ∧ b10 < wx.heap.size ∧ Hid (Below W.heap.size W wx))
  case first =>
    clear HX HY HI HC HL hlx hly
    go_region
    all_goals (go_wp2_with fail; go_meet; exact ⟨_, _, rfl, rfl, by simp, by simp, by simp, by simp, by simp <;> omega, by simp <;> omega, by show Below _ _ _; go_grown⟩)
  case rest =>
    obtain ⟨b9, b10, rfl, rfl, k0, k1, k2, k3, hb9, hb10, HBC⟩ := hcut
    have HBE : Hid (Below w.heap.size w wc) := HB.out.trans (HBC.out.mono HB.out.size)
    clear n0 n1 n2 n3 m0 hb4 hbN HB HBC
    by_cases h1 : fx = fy
    · subst h1
      by_cases h2 : nx = ny
      · subst h2
        by_cases h3 : nx = 0
        · subst h3
          obtain rfl : res = false := by rw [HL.out]; simp
          clear HL HX HY HI HC
          go_wp2
          go_ret
          exact ⟨rfl, HBE.out⟩
        · have h3I : ¬ ((nx : Int) = 0) := by omega
          have h3B : ((nx : Int) == 0) = false := by simp; omega
          have HR : Hid (res = argsC c lx ly nx) := by show _ = _; rw [HL.out]; simp [h3]
          clear HL
          go_wp2
          go_loopw [11] (fun v11 wr => ∃ (j : Nat), v11 = .int .i64 (j : Nat) ∧ j ≤ nx ∧ Hid (Below wc.heap.size wc wr ∧ argsC c lx ly j = true)) (fun v _ => nx - (intOf v).toNat)
          case atStart => exact ⟨0, rfl, Nat.zero_le _, Below.refl _ _, rfl⟩
          case round =>
            rename World => wl
            obtain ⟨j, rfl, hj, HJ⟩ := hrel
            have hbl := HJ.out.1
            replace k1 := (hbl.cell (p := ⟨b9, 1, none⟩) hb9).trans k1
            replace k3 := (hbl.cell (p := ⟨b10, 1, none⟩) hb10).trans k3
            have l9 : b9 < wl.heap.size := Nat.lt_of_lt_of_le hb9 hbl.size
            have l10 : b10 < wl.heap.size := Nat.lt_of_lt_of_le hb10 hbl.size
            have HBW : Hid (Below w.heap.size w wl) := HBE.out.trans (hbl.mono HBE.out.size)
            clear hbl k0 k2 HBE hb9 hb10
            by_cases hlj : j < nx
            · have hljI : (j : Int) < (nx : Int) := by omega
              obtain ⟨bX, cX', hvX, -, -⟩ := HX.out.open j hlj
              injection hvX with hvX e2 e3
              clear e2
              subst hvX e3
              obtain ⟨bY, cY', hvY, -, -⟩ := HY.out.open j hlj
              injection hvY with hvY e2 e3
              clear e2
              subst hvY e3
              have x0 := HX.out.cell (i := j) hlj (j := 0) (by omega)
              have y0 := HY.out.cell (i := j) hlj (j := 0) (by omega)
              have hbX : bX < w.heap.size := HX.out.lt rfl
              have hbY : bY < w.heap.size := HY.out.lt rfl
              have hjx : j < lx.length := by have := HN.out.1; omega
              have hjy : j < ly.length := by have := HN.out.2; omega
              simp only [natC, Nat.add_zero, Nat.mul_one, List.getElem?_cons_zero] at x0 y0
              have hx : lx.getD j 0 < d.t.nn := HI.out.1 _ (by rw [List.getD_eq_getElem?_getD, List.getElem?_eq_getElem hjx]; exact List.getElem_mem hjx)
              have hy : ly.getD j 0 < d.t.nn := HI.out.2 _ (by rw [List.getD_eq_getElem?_getD, List.getElem?_eq_getElem hjy]; exact List.getElem_mem hjy)
              have HS : Hid (argsC c lx ly (j + 1) = decide (c (lx.getD j 0) = c (ly.getD j 0)) ∧ (c (lx.getD j 0) ≠ c (ly.getD j 0) → res = false)) := ⟨by rw [argsC_succ, HJ.out.2]; rfl, fun h => by rw [HR.out]; exact argsC_no h hlj⟩
              have HB9 : Hid (Below wc.heap.size wc wl) := HJ.out.1
              clear hjx hjy HJ
              generalize lx.getD j 0 = x at x0 hx HS
              generalize ly.getD j 0 = y at y0 hy HS
              have cx := HC.out.cell (i := x) hx (j := 0) (by omega)
              have cy := HC.out.cell (i := y) hy (j := 0) (by omega)
              have hbC : bC < w.heap.size := HC.out.lt rfl
              simp only [Nat.add_zero, Nat.mul_one, List.getElem?_cons_zero] at cx cy
              replace x0 := (HBW.out.cell (p := ⟨bX, j, none⟩) hbX).trans x0
              replace y0 := (HBW.out.cell (p := ⟨bY, j, none⟩) hbY).trans y0
              replace cx := (HBW.out.cell (p := ⟨bC, x, none⟩) hbC).trans cx
              replace cy := (HBW.out.cell (p := ⟨bC, y, none⟩) hbC).trans cy
              have hsz := HBW.out.size
              replace hbX : bX < wl.heap.size := by omega
              replace hbY : bY < wl.heap.size := by omega
              replace hbC : bC < wl.heap.size := by omega
              have hxI : (x : Int) < (d.t.nn : Int) := by omega
              have hyI : (y : Int) < (d.t.nn : Int) := by omega
              clear hsz
              by_cases he : c x = c y
              · have heI : ((c x : Nat) : Int) = ((c y : Nat) : Int) := by omega
                have HS2 : Hid (argsC c lx ly (j + 1) = true) := by show _ = _; rw [HS.out.1]; simp [he]
                clear HS
                go_wp2
                go_quiet (fail)
                go_wp2
                go_roundw
                case rel => exact ⟨j + 1, by go_num, by omega, HB9.out.trans ⟨rfl, rfl, rfl, Nat.le_refl _, fun _ _ => rfl⟩, HS2.out⟩
                case measure => simp [intOf]; omega
              · have heI : ¬ (((c x : Nat) : Int) = ((c y : Nat) : Int)) := by omega
                obtain rfl : res = false := HS.out.2 he
                clear HS
                go_wp2
                go_quiet (fail)
                go_wp2
                go_ret
                exact ⟨rfl, HBW.out.trans ⟨rfl, rfl, rfl, Nat.le_refl _, fun _ _ => rfl⟩⟩
            · have hljI : ¬ ((j : Int) < (nx : Int)) := by omega
              obtain rfl : j = nx := by omega
              obtain rfl : res = true := by rw [HR.out]; exact HJ.out.2
              clear HJ
              go_wp2
              go_ret
              exact ⟨rfl, HBW.out⟩
      · have h2I : ¬ ((nx : Int) = (ny : Int)) := by omega
        have h2B : ((nx : Int) == (ny : Int)) = false := by simp; omega
        obtain rfl : res = false := by rw [HL.out]; simp [h2]
        clear HL HX HY HI HC
        go_wp2
        go_ret
        exact ⟨rfl, HBE.out⟩
    · have h1B : (fx.toList == fy.toList) = false := by
        rw [beq_eq_false_iff_ne]
        intro e9
        apply h1
        rw [Go.ByteArray.toList_eq, Go.ByteArray.toList_eq] at e9
        exact WideShapes.bytes_inj e9
      obtain rfl : res = false := by rw [HL.out]; simp [h1]
      clear HL HX HY HI HC
      go_wp2
      go_ret
      exact ⟨rfl, HBE.out⟩
end Euf
end Go.Proofs.Ytmnpefiaelpkfac
