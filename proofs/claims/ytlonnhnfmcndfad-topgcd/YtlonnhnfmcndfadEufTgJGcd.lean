/- The walk of suretytop.TopGcd: it answers true at every three numbers. -/
import Derived.Test.YtlonnhnfmcndfadEufChJGcd
import Derived.Test.YtlonnhnfmcndfadRegIJGcd
import Derived.Deep.DeepCutAuto
namespace Go.Proofs.Ytlonnhnfmcndfad
open Go.RowKit
set_option linter.unusedVariables false
theorem seven : TextOf { data := #[55] } 7 := ⟨false, [7], by unfold Norm; rfl, by intro x hx; simp at hx; omega, fun _ => rfl, by simp [sv, val], by rfl⟩
theorem sgn0 (v : Value) (z r : Int) (w : World) (hv : AInt w v z) (hr : z.sign = r) :
    Calls Try.prog 21 #[v] w fun e w' => e = .returned (.int .i64 r) ∧ Below w.heap.size w w' := by
  obtain ⟨neg, xs, h1, h2, h3⟩ := hv
  rw [← hr, h2]
  exact sign_any v neg xs w h1
theorem uInts9 : Try.prog.underlying 35 = some (.slice 3) := by kernel_rfl
theorem iInt9 : (Try.prog.info? 3).map (fun i => (i.zero, i.size, i.bytes)) = some (some (.int .i64 0), 1, 8) := by kernel_rfl
namespace Euf

set_option maxRecDepth 20000 in
set_option maxHeartbeats 16000000 in
theorem topGcd_bad (n m k : Int) (w : World) (hbad : n < 1 ∨ m < 1 ∨ k < 0 ∨ 60 < n ∨ 60 < m ∨ 120 < k) :
    Calls Try.prog 6 #[.int .i64 n, .int .i64 m, .int .i64 k] w fun e w' => e = .returned (.bool true) ∧ Below w.heap.size w w' := by
  go_enter Try.func6, Try.ntmps6
  by_cases h0 : n < 1
  · clear hbad
    go_wp2_with fail
    refine (from_any 7 _ (by decide) (by decide)).mono ?_
    rintro e w1 ⟨v1, rfl, ha1, hb1⟩
    go_wp2_with fail
    refine (text_a0 v1 7 _ ha1).mono ?_
    rintro e w2 ⟨S, rfl, hS, hb2⟩
    obtain rfl := hS.same seven
    clear hS
    go_wp2_with fail
    refine (Euf.New_any _).mono ?_
    rintro e w3 ⟨rfl, -, hb3⟩
    have HB : Hid (Below w.heap.size w w3) := (hb1.trans (hb2.mono hb1.size)).trans (hb3.mono (Nat.le_trans hb1.size hb2.size))
    clear hb1 hb2 hb3 ha1
    go_wp2
    go_ret
    exact ⟨rfl, HB.out⟩
  · replace hbad := hbad.resolve_left h0
    by_cases h1 : m < 1
    · clear hbad
      go_wp2_with fail
      refine (from_any 7 _ (by decide) (by decide)).mono ?_
      rintro e w1 ⟨v1, rfl, ha1, hb1⟩
      go_wp2_with fail
      refine (text_a0 v1 7 _ ha1).mono ?_
      rintro e w2 ⟨S, rfl, hS, hb2⟩
      obtain rfl := hS.same seven
      clear hS
      go_wp2_with fail
      refine (Euf.New_any _).mono ?_
      rintro e w3 ⟨rfl, -, hb3⟩
      have HB : Hid (Below w.heap.size w w3) := (hb1.trans (hb2.mono hb1.size)).trans (hb3.mono (Nat.le_trans hb1.size hb2.size))
      clear hb1 hb2 hb3 ha1
      go_wp2
      go_ret
      exact ⟨rfl, HB.out⟩
    · replace hbad := hbad.resolve_left h1
      by_cases h2 : k < 0
      · clear hbad
        go_wp2_with fail
        refine (from_any 7 _ (by decide) (by decide)).mono ?_
        rintro e w1 ⟨v1, rfl, ha1, hb1⟩
        go_wp2_with fail
        refine (text_a0 v1 7 _ ha1).mono ?_
        rintro e w2 ⟨S, rfl, hS, hb2⟩
        obtain rfl := hS.same seven
        clear hS
        go_wp2_with fail
        refine (Euf.New_any _).mono ?_
        rintro e w3 ⟨rfl, -, hb3⟩
        have HB : Hid (Below w.heap.size w w3) := (hb1.trans (hb2.mono hb1.size)).trans (hb3.mono (Nat.le_trans hb1.size hb2.size))
        clear hb1 hb2 hb3 ha1
        go_wp2
        go_ret
        exact ⟨rfl, HB.out⟩
      · replace hbad := hbad.resolve_left h2
        by_cases h3 : 60 < n
        · clear hbad
          go_wp2_with fail
          refine (from_any 7 _ (by decide) (by decide)).mono ?_
          rintro e w1 ⟨v1, rfl, ha1, hb1⟩
          go_wp2_with fail
          refine (text_a0 v1 7 _ ha1).mono ?_
          rintro e w2 ⟨S, rfl, hS, hb2⟩
          obtain rfl := hS.same seven
          clear hS
          go_wp2_with fail
          refine (Euf.New_any _).mono ?_
          rintro e w3 ⟨rfl, -, hb3⟩
          have HB : Hid (Below w.heap.size w w3) := (hb1.trans (hb2.mono hb1.size)).trans (hb3.mono (Nat.le_trans hb1.size hb2.size))
          clear hb1 hb2 hb3 ha1
          go_wp2
          go_ret
          exact ⟨rfl, HB.out⟩
        · replace hbad := hbad.resolve_left h3
          by_cases h4 : 60 < m
          · clear hbad
            go_wp2_with fail
            refine (from_any 7 _ (by decide) (by decide)).mono ?_
            rintro e w1 ⟨v1, rfl, ha1, hb1⟩
            go_wp2_with fail
            refine (text_a0 v1 7 _ ha1).mono ?_
            rintro e w2 ⟨S, rfl, hS, hb2⟩
            obtain rfl := hS.same seven
            clear hS
            go_wp2_with fail
            refine (Euf.New_any _).mono ?_
            rintro e w3 ⟨rfl, -, hb3⟩
            have HB : Hid (Below w.heap.size w w3) := (hb1.trans (hb2.mono hb1.size)).trans (hb3.mono (Nat.le_trans hb1.size hb2.size))
            clear hb1 hb2 hb3 ha1
            go_wp2
            go_ret
            exact ⟨rfl, HB.out⟩
          · replace hbad := hbad.resolve_left h4
            have h5 := hbad
            clear hbad
            go_wp2_with fail
            refine (from_any 7 _ (by decide) (by decide)).mono ?_
            rintro e w1 ⟨v1, rfl, ha1, hb1⟩
            go_wp2_with fail
            refine (text_a0 v1 7 _ ha1).mono ?_
            rintro e w2 ⟨S, rfl, hS, hb2⟩
            obtain rfl := hS.same seven
            clear hS
            go_wp2_with fail
            refine (Euf.New_any _).mono ?_
            rintro e w3 ⟨rfl, -, hb3⟩
            have HB : Hid (Below w.heap.size w w3) := (hb1.trans (hb2.mono hb1.size)).trans (hb3.mono (Nat.le_trans hb1.size hb2.size))
            clear hb1 hb2 hb3 ha1
            go_wp2
            go_ret
            exact ⟨rfl, HB.out⟩

set_option maxRecDepth 20000 in
set_option maxHeartbeats 16000000 in
theorem topGcd_good (n m k : Nat) (w : World) (hn : 0 < n) (hm : 0 < m) (hn6 : n ≤ 60) (hm6 : m ≤ 60) (hk1 : k ≤ 120) :
    Calls Try.prog 6 #[.int .i64 (n : Nat), .int .i64 (m : Nat), .int .i64 (k : Nat)] w fun e w' => e = .returned (.bool true) ∧ Below w.heap.size w w' := by
  have h0 : ¬ ((n : Int) < 1) := by omega
  have h1 : ¬ ((m : Int) < 1) := by omega
  have h2 : ¬ ((k : Int) < 0) := by omega
  have h3 : ¬ ((60 : Int) < (n : Int)) := by omega
  have h4 : ¬ ((60 : Int) < (m : Int)) := by omega
  have h5 : ¬ ((120 : Int) < (k : Int)) := by omega
  go_enter Try.func6, Try.ntmps6
  go_wp2_with fail
  refine (New_any _).mono ?_
  rintro e w1 ⟨rfl, hG, hB⟩
  have hsem := dNew_sem w.heap.size
  have hfh : ∀ b, Fh (w.heap.size + 3) (dNew w.heap.size) b → w.heap.size ≤ b := fun b hb => dNew_fh hb
  have hd0 : (dNew w.heap.size).t.nn = 0 ∧ (dNew w.heap.size).f.ne = 0 ∧ (dNew w.heap.size).f.np = 0 := ⟨rfl, rfl, rfl⟩
  generalize dNew w.heap.size = d at hG hsem hfh hd0
  generalize w.heap.size + 3 = g at hG hfh ⊢
  clear h0 h1 h2 h3 h4 h5
  have HS : Hid _ := And.intro hG (And.intro hB (And.intro hsem (And.intro hfh hd0)))
  have hgl := hG.cw.lt
  clear hsem hfh hd0 hG hB
  go_wp2_with fail
  refine (Node_any g d { data := #[97] } [] none 0 w1 HS.out.1 HS.out.2.2.1.ok.t (by decide) (by simp) (Seg.nil _ _ _) (fun b off h => by cases h) (fun b h => by cases h) (by rw [HS.out.2.2.2.2.2.2]; decide) (by rw [HS.out.2.2.2.2.1]; decide)).mono ?_
  rintro e w2 ⟨r, rfl, hN⟩
  have hC : r = 0 ∧ ∃ d', Ch w w2 g d' (.slice none 0 0) 1 0 [] := by
    obtain ⟨q1, q2, q3, q4, q5, q6, q7⟩ := HS.out
    rcases hN with ⟨h1, _⟩ | ⟨h1, h2, d', k1, k2, k3, k4, k5⟩
    · omega
    · refine ⟨by omega, d', ?_⟩
      have hsz := q2.size
      refine { gw := k2, sem := k1.sem q3, nn := by rw [k1.nn, q5], chain := ?_, ne := by rw [k1.ne.1, q6]; rfl, eqs := fun j hj => absurd hj (Nat.not_lt_zero _), np := by have := k1.np.2; simp at this; omega, list := OL.nil _ _ _ _, ap := (fun b hb => by cases hb), fh := fun b hb => ?_, bel := q2.trans (k3.toBelow hsz (fun b hb => q4 b (fn_fh hb))) }
      · rw [k1.N, q5]
        exact ⟨fun _ => upd_same _ _ _, fun i hi => by omega⟩
      · rcases k1.fh k4 k5 b hb with h9 | h9
        · exact q4 b h9
        · omega
  clear hN HS hgl d
  obtain ⟨rfl, d, hC⟩ := hC
  have hC := hC.push (w1 := w2.alloc (.cells #[.int .i64 ((0 : Nat) : Int)] 3 (0, 0))) (v := .slice (some ⟨w2.heap.size, 0, none⟩) 1 1) ⟨rfl, rfl, rfl, by simp, fun b hb _ => Below.heap_alloc w2 _ b hb, Or.inr ⟨_, rfl, Nat.le_refl _⟩⟩ (Or.inr ⟨w2.heap.size, 1, _, rfl, heap_alloc_new w2 _, Nat.le_refl _, by decide, by simp, fun i hi j hj => by
    obtain rfl : i = 0 := by omega
    obtain rfl : j = 0 := by omega
    rfl⟩)
  have HC : Hid (∃ d, Ch w (w2.alloc (.cells #[.int .i64 ((0 : Nat) : Int)] 3 (0, 0))) g d (.slice (some ⟨w2.heap.size, 0, none⟩) 1 1) 1 1 []) := ⟨_, hC⟩
  clear hC
  go_wp2
  go_loopg [10] (122 - 1) (fun gk v10 wr => ∃ (d : Gd) (nn : Nat), Hid (Ch w wr g d v10 nn nn [] ∧ 122 - nn = gk ∧ 0 < nn ∧ nn ≤ 121 ∧ nn ≤ max (max n m) k + 1))
  case atStart =>
    obtain ⟨d, hC⟩ := HC.out
    exact ⟨d, 1, hC, rfl, by omega, by omega, by omega⟩
  case round =>
    clear HC
    obtain ⟨d, nn, HR⟩ := hrel
    obtain ⟨bC, cC, hv, hcc, hcm⟩ := HR.out.1.list.open 0 HR.out.2.2.1
    subst hv
    have key : (if (if n < m then (m : Int) else (n : Int)) < (k : Int) then (k : Int) else if n < m then (m : Int) else (n : Int)) = ((max (max n m) k : Nat) : Int) := by
      by_cases h : n < m
      · simp only [h, if_true]; split <;> omega
      · simp only [h, if_false]; split <;> omega
    obtain ⟨MX, hMX⟩ : ∃ MX, MX = max (max n m) k := ⟨_, rfl⟩
    rw [← hMX] at key
    have HMX : Hid (MX = max (max n m) k) := hMX
    clear hMX
    go_upto_if 68 with fail
    clear key hC
    by_cases hle : nn ≤ MX
    · have hD : (nn : Int) ≤ (MX : Int) := by omega
      obtain ⟨p, rfl⟩ : ∃ p, nn = p + 1 := ⟨nn - 1, by have := HR.out.2.2.1; omega⟩
      have hp : p ≤ 120 := by have := HR.out.2.2.2.1; omega
      have cp : wr.cell? ⟨bC, p, none⟩ = some (.int .i64 (p : Nat)) := by
        have h9 := HR.out.1.list.cell (i := p) (by omega) (j := 0) (by omega)
        simpa using h9
      have hgl := HR.out.1.gw.cw.lt
      have hbl : bC < wr.heap.size := HR.out.1.list.lt rfl
      go_wp2_with fail
      have hb1 : Below wr.heap.size wr (wr.alloc (.cells #[.int .i64 (p : Nat)] 3 (0, 0))) := (Below.refl _ _).alloc (Nat.le_refl _) _
      have hseg : Seg .i64 (wr.alloc (.cells #[.int .i64 (p : Nat)] 3 (0, 0))) (some ⟨wr.heap.size, 0, none⟩) [p] := Or.inr ⟨wr.heap.size, 0, rfl, fun i hi => by
        obtain rfl : i = 0 := by simpa using hi
        exact cell_of_row _ wr.heap.size 0 _ 3 (0, 0) (heap_alloc_new wr _)⟩
      have hC1 := HR.out.1.below hb1
      refine (Node_any g d { data := #[102] } [p] (some ⟨wr.heap.size, 0, none⟩) 1 _ hC1.gw hC1.sem.ok.t (by decide) (by simp) hseg (fun b off h => by injection h with h; injection h with h _ _; subst h; exact fun hf => by have := HR.out.1.gw.hlt (fn_fh hf); omega) (fun b h => by simp at h; subst h; rw [hC1.nn]; omega) (by have := hC1.np; simp; omega) (by rw [hC1.nn]; omega)).mono ?_
      rintro e w3 ⟨r, rfl, hN⟩
      obtain ⟨rfl, d', hC3⟩ := HR.out.1.node (Nat.succ_pos _) hb1 hN
      have HC3 : Hid (Ch w w3 g d' (.slice (some ⟨bC, 0, none⟩) (p + 1) cC) (p + 1 + 1) (p + 1) []) := hC3
      clear hN hseg hC1 hC3 cp hgl hbl hb1
      have hbl : bC < w3.heap.size := HC3.out.list.lt rfl
      go_wp2_with (at_builtin; refine Stop.of ?_)
      show wpList _ _ _ _ _ _
      have hol3 : OL 1 3 (w3.alloc (.cells #[.int .i64 ((p + 1 : Nat) : Int)] 3 (0, 0))) (.slice (some ⟨bC, 0, none⟩) (p + 1) cC) (p + 1) (fun i => [.int .i64 (i : Nat)]) := HC3.out.list.stay fun b hb => Below.heap_alloc w3 _ b (HC3.out.list.lt hb)
      refine wpList_push rfl (.tmp 83) (.tmp 85) 35 rfl 1 3 _ 8 uInts9 iInt9 (by decide) rfl (by decide) (.slice (some ⟨bC, 0, none⟩) (p + 1) cC) (p + 1) (fun i => [.int .i64 (i : Nat)]) rfl [.int .i64 ((p + 1 : Nat) : Int)] 3 hol3 (fun _ _ => rfl) 1 rfl rfl (by intro u hu; simp at hu; subst hu; rfl) (by omega) (fun i => [.int .i64 (i : Nat)]) (fun k hk => rfl) rfl ?_
      intro v4 w4 hol4 hap4 hne4
      replace hap4 := hap4.of_alloc (fun b hb => HC3.out.list.lt hb)
      have HC4 : Hid (Ch w w4 g d' v4 (p + 1 + 1) (p + 1 + 1) []) := HC3.out.push hap4 hol4
      clear hol3 hol4 hap4 hne4 hbl
      go_wp2
      go_roundg (122 - (p + 1 + 1))
      case measure => have h9 := HR.out.2.1; omega
      case rel => exact ⟨d', p + 1 + 1, HC4.out, rfl, by omega, by have := HMX.out; omega, by have := HMX.out; omega⟩
    · have hD : ¬ ((nn : Int) ≤ (MX : Int)) := by omega
      have hnx : nn = MX + 1 := by have := HR.out.2.2.2.2; have := HMX.out; omega
      have HC : Hid (Ch w wr g d (.slice (some ⟨bC, 0, none⟩) nn cC) nn nn []) := HR.out.1
      have hMn : n < nn := by have := HMX.out; omega
      have hMm : m < nn := by have := HMX.out; omega
      have hMk : k < nn := by have := HMX.out; omega
      have hM1 : nn ≤ 121 := by have := HMX.out; omega
      clear hnx
      clear HR HMX hle
      go_wp2
      have HC0 : Hid (wr.cell? ⟨bC, 0, none⟩ = some (.int .i64 ((0 : Nat) : Int))) := by
        have h9 := HC.out.list.cell (i := 0) (by omega) (j := 0) (by omega)
        show _ = _; simpa using h9
      have HCX : Hid (wr.cell? ⟨bC, n, none⟩ = some (.int .i64 (n : Nat))) := by
        have h9 := HC.out.list.cell (i := n) (by omega) (j := 0) (by omega)
        show _ = _; simpa using h9
      have HBL : Hid (bC < wr.heap.size) := HC.out.list.lt rfl
      have hi1 : (n : Int) < (nn : Int) := by omega
      have hi0 : 0 < nn := by omega
      obtain ⟨B, HBG⟩ : ∃ B, Hid (decide (Nat.gcd n m ∣ k) = B) := ⟨_, rfl⟩
      obtain ⟨V, hV⟩ : ∃ V, V = wr := ⟨_, rfl⟩
      rw [← hV]
      rw [← hV] at HC0 HCX HBL HC
      clear hV
      refine wp_region_E (by kernel_rfl) [some 88, some 89, some 90, some 91, some 92, some 93, some 94, some 95, some 96, some 87, some 97, some 98, some 13, some 14] [none, none, none, none, none, none, none, none, none, none, none, none, none, some 13, some 14, none, none, none, none, none, none, none, none, none, none, none, none, none, none, none, none, none, none, none, none, none, none, none, none, none, none, none, none, none, none, none, none, none, none, none, none, none, none, none, none, none, none, none, none, none, none, none, none, none, none, none, none, none, none, none, none, none, none, none, none, none, none, none, none, none, none, none, none, none, none, none, none, some 87, some 88, some 89, some 90, some 91, some 92, some 93, some 94, some 95, some 96, some 97, some 98] (fun U => by kernel_rfl) [fun u => u = (.pointer (some ⟨g, 0, none⟩)), fun u => u = (.slice (some ⟨bC, 0, none⟩) nn cC), fun u => u = (.int .i64 (n : Nat)), fun u => u = (.pointer (some ⟨bC, n, none⟩)), fun u => u = (.int .i64 (n : Nat)), fun u => u = (.slice (some ⟨bC, 0, none⟩) nn cC), fun u => u = (.pointer (some ⟨bC, 0, none⟩)), fun u => u = (.int .i64 ((0 : Nat) : Int)), fun u => u = (.tuple #[.int .i64 (d.f.ne : Nat), .int .i64 0]), fun u => u = (.tuple #[.int .i64 (d.f.ne : Nat), .int .i64 0]), fun u => u = (.int .i64 (d.f.ne : Nat)), fun u => u = (.int .i64 0), fun u => u = (.int .i64 (d.f.ne : Nat)), fun u => u = (.int .i64 0)] (fun L U wr => (L 8 = false → Below V.heap.size V wr) ∧ (L 8 = true → (L 0 = true ∧ L 1 = true ∧ L 2 = true ∧ L 3 = true ∧ L 4 = true ∧ L 5 = true ∧ L 6 = true ∧ L 7 = true) ∧ ∃ d', Ch w wr g d' (.slice (some ⟨bC, 0, none⟩) nn cC) nn nn [(n, 0)])) (by kernel_rfl) (by decide) (by kernel_rfl) (by kernel_rfl) ?_ ?_ ?_
      · exact fun U => ⟨fun _ => (Below.refl _ _).drew, (fun h => by cases h)⟩
      · refine StepsE.run rfl ?_ ?_
        · intro L U wr hC hP hlk hcl haf A K hFm hK
          simp [Aft, Region.binds] at haf
          have e7 : A.tmps[7]? = some (.pointer (some ⟨g, 0, none⟩)) := (hFm.old 7 (by decide)).trans (by kernel_rfl)
          have HC : Hid _ := hC
          clear hC
          refine ⟨?_⟩
          go_simp
          refine hK _ _ rfl ?_
          obtain ⟨c0, cS⟩ := HC.out
          refine ⟨fun h => c0 (by simpa using h), fun h => ?_⟩
          have h9 := cS (by simpa using h)
          exact ⟨by simp [h9.1], h9.2⟩
        refine StepsE.run rfl ?_ ?_
        · intro L U wr hC hP hlk hcl haf A K hFm hK
          simp [Aft, Region.binds] at haf
          have e10 : A.tmps[10]? = some (.slice (some ⟨bC, 0, none⟩) nn cC) := (hFm.old 10 (by decide)).trans (by kernel_rfl)
          have HC : Hid _ := hC
          clear hC
          refine ⟨?_⟩
          go_simp
          refine hK _ _ rfl ?_
          obtain ⟨c0, cS⟩ := HC.out
          refine ⟨fun h => c0 (by simpa using h), fun h => ?_⟩
          have h9 := cS (by simpa using h)
          exact ⟨by simp [h9.1], h9.2⟩
        refine StepsE.run rfl ?_ ?_
        · intro L U wr hC hP hlk hcl haf A K hFm hK
          simp [Aft, Region.binds] at haf
          have e0 : A.tmps[0]? = some (.int .i64 (n : Nat)) := (hFm.old 0 (by decide)).trans (by kernel_rfl)
          have HC : Hid _ := hC
          clear hC
          refine ⟨?_⟩
          go_simp
          refine hK _ _ rfl ?_
          obtain ⟨c0, cS⟩ := HC.out
          refine ⟨fun h => c0 (by simpa using h), fun h => ?_⟩
          have h9 := cS (by simpa using h)
          exact ⟨by simp [h9.1], h9.2⟩
        refine StepsE.run rfl ?_ ?_
        · intro L U wr hC hP hlk hcl haf A K hFm hK
          simp [Aft, Region.binds] at haf
          have g1 : U 89 = (.slice (some ⟨bC, 0, none⟩) nn cC) := hP 1 89 (by simp [haf]) rfl
          have e89 : A.tmps[89]? = some (.slice (some ⟨bC, 0, none⟩) nn cC) := hFm.is 1 89 rfl g1
          have g2 : U 90 = (.int .i64 (n : Nat)) := hP 2 90 (by simp [haf]) rfl
          have e90 : A.tmps[90]? = some (.int .i64 (n : Nat)) := hFm.is 2 90 rfl g2
          have HC : Hid _ := hC
          clear hC
          refine ⟨?_⟩
          go_simp
          refine hK _ _ rfl ?_
          obtain ⟨c0, cS⟩ := HC.out
          refine ⟨fun h => c0 (by simpa using h), fun h => ?_⟩
          have h9 := cS (by simpa using h)
          exact ⟨by simp [h9.1], h9.2⟩
        refine StepsE.run rfl ?_ ?_
        · intro L U wr hC hP hlk hcl haf A K hFm hK
          simp [Aft, Region.binds] at haf
          have g3 : U 91 = (.pointer (some ⟨bC, n, none⟩)) := hP 3 91 (by simp [haf]) rfl
          have e91 : A.tmps[91]? = some (.pointer (some ⟨bC, n, none⟩)) := hFm.is 3 91 rfl g3
          have hb8 := hC.1 (by cases h : L 8 with | false => rfl | true => have h9 := hcl 8 _ rfl h; simp [Aft, Region.binds, hlk] at h9)
          have m7 := (hb8.cell (p := ⟨bC, n, none⟩) HBL.out).trans HCX.out
          clear hb8
          have HC : Hid _ := hC
          clear hC
          refine ⟨?_⟩
          go_simp
          refine hK _ _ rfl ?_
          obtain ⟨c0, cS⟩ := HC.out
          refine ⟨fun h => c0 (by simpa using h), fun h => ?_⟩
          have h9 := cS (by simpa using h)
          exact ⟨by simp [h9.1], h9.2⟩
        refine StepsE.run rfl ?_ ?_
        · intro L U wr hC hP hlk hcl haf A K hFm hK
          simp [Aft, Region.binds] at haf
          have e10 : A.tmps[10]? = some (.slice (some ⟨bC, 0, none⟩) nn cC) := (hFm.old 10 (by decide)).trans (by kernel_rfl)
          have HC : Hid _ := hC
          clear hC
          refine ⟨?_⟩
          go_simp
          refine hK _ _ rfl ?_
          obtain ⟨c0, cS⟩ := HC.out
          refine ⟨fun h => c0 (by simpa using h), fun h => ?_⟩
          have h9 := cS (by simpa using h)
          exact ⟨by simp [h9.1], h9.2⟩
        refine StepsE.run rfl ?_ ?_
        · intro L U wr hC hP hlk hcl haf A K hFm hK
          simp [Aft, Region.binds] at haf
          have g5 : U 93 = (.slice (some ⟨bC, 0, none⟩) nn cC) := hP 5 93 (by simp [haf]) rfl
          have e93 : A.tmps[93]? = some (.slice (some ⟨bC, 0, none⟩) nn cC) := hFm.is 5 93 rfl g5
          have HC : Hid _ := hC
          clear hC
          refine ⟨?_⟩
          go_simp
          refine hK _ _ rfl ?_
          obtain ⟨c0, cS⟩ := HC.out
          refine ⟨fun h => c0 (by simpa using h), fun h => ?_⟩
          have h9 := cS (by simpa using h)
          exact ⟨by simp [h9.1], h9.2⟩
        refine StepsE.run rfl ?_ ?_
        · intro L U wr hC hP hlk hcl haf A K hFm hK
          simp [Aft, Region.binds] at haf
          have g6 : U 94 = (.pointer (some ⟨bC, 0, none⟩)) := hP 6 94 (by simp [haf]) rfl
          have e94 : A.tmps[94]? = some (.pointer (some ⟨bC, 0, none⟩)) := hFm.is 6 94 rfl g6
          have hb8 := hC.1 (by cases h : L 8 with | false => rfl | true => have h9 := hcl 8 _ rfl h; simp [Aft, Region.binds, hlk] at h9)
          have m7 := (hb8.cell (p := ⟨bC, 0, none⟩) HBL.out).trans HC0.out
          clear hb8
          have HC : Hid _ := hC
          clear hC
          refine ⟨?_⟩
          go_simp
          refine hK _ _ rfl ?_
          obtain ⟨c0, cS⟩ := HC.out
          refine ⟨fun h => c0 (by simpa using h), fun h => ?_⟩
          have h9 := cS (by simpa using h)
          exact ⟨by simp [h9.1], h9.2⟩
        refine StepsE.run rfl ?_ ?_
        · intro L U wr hC hP hlk hcl haf A K hFm hK
          simp [Aft, Region.binds] at haf
          have g0 : U 88 = (.pointer (some ⟨g, 0, none⟩)) := hP 0 88 (by simp [haf]) rfl
          have e88 : A.tmps[88]? = some (.pointer (some ⟨g, 0, none⟩)) := hFm.is 0 88 rfl g0
          have g4 : U 92 = (.int .i64 (n : Nat)) := hP 4 92 (by simp [haf]) rfl
          have e92 : A.tmps[92]? = some (.int .i64 (n : Nat)) := hFm.is 4 92 rfl g4
          have g7 : U 95 = (.int .i64 ((0 : Nat) : Int)) := hP 7 95 (by simp [haf]) rfl
          have e95 : A.tmps[95]? = some (.int .i64 ((0 : Nat) : Int)) := hFm.is 7 95 rfl g7
          have l0 : L 0 = true := by simp [haf]
          have l4 : L 4 = true := by simp [haf]
          have l7 : L 7 = true := by simp [haf]
          have a4 := hcl 4 _ rfl l4
          simp [Aft, Region.binds] at a4
          have l3 : L 3 = true := by simp [a4]
          have a7 := hcl 7 _ rfl l7
          simp [Aft, Region.binds] at a7
          have l6 : L 6 = true := by simp [a7]
          have a3 := hcl 3 _ rfl l3
          simp [Aft, Region.binds] at a3
          have l1 : L 1 = true := by simp [a3]
          have l2 : L 2 = true := by simp [a3]
          have a6 := hcl 6 _ rfl l6
          simp [Aft, Region.binds] at a6
          have l5 : L 5 = true := by simp [a6]
          refine ⟨?_⟩
          have HCr : Hid _ := HC.out.below (hC.1 hlk)
          have HL : Hid (L 0 = true ∧ L 1 = true ∧ L 2 = true ∧ L 3 = true ∧ L 4 = true ∧ L 5 = true ∧ L 6 = true ∧ L 7 = true) := ⟨l0, l1, l2, l3, l4, l5, l6, l7⟩
          clear hC
          have hgl := HCr.out.gw.cw.lt
          go_simp
          refine (Equal_any g d n 0 wr HCr.out.gw (by rw [HCr.out.nn]; omega) (by rw [HCr.out.nn]; omega) (by rw [HCr.out.nn]; omega) (by rw [HCr.out.ne]; simp)).mono ?_
          rintro e w1 ⟨rfl, v9, hG9, hM9, hF9⟩
          go_simp
          refine hK _ _ (rfl) ⟨fun h => by simp at h, fun _ => ⟨by simp [HL.out], HCr.out.equal (by omega) (by omega) hG9 hM9 hF9⟩⟩
        refine StepsE.run rfl ?_ ?_
        · intro L U wr hC hP hlk hcl haf A K hFm hK
          simp [Aft, Region.binds] at haf
          have g8 : U 96 = (.tuple #[.int .i64 (d.f.ne : Nat), .int .i64 0]) := hP 8 96 (by simp [haf]) rfl
          have e96 : A.tmps[96]? = some (.tuple #[.int .i64 (d.f.ne : Nat), .int .i64 0]) := hFm.is 8 96 rfl g8
          have HC : Hid _ := hC
          clear hC
          refine ⟨?_⟩
          go_simp
          refine hK _ _ rfl ?_
          obtain ⟨c0, cS⟩ := HC.out
          refine ⟨fun h => c0 (by simpa using h), fun h => ?_⟩
          have h9 := cS (by simpa using h)
          exact ⟨by simp [h9.1], h9.2⟩
        refine StepsE.run rfl ?_ ?_
        · intro L U wr hC hP hlk hcl haf A K hFm hK
          simp [Aft, Region.binds] at haf
          have g9 : U 87 = (.tuple #[.int .i64 (d.f.ne : Nat), .int .i64 0]) := hP 9 87 (by simp [haf]) rfl
          have e87 : A.tmps[87]? = some (.tuple #[.int .i64 (d.f.ne : Nat), .int .i64 0]) := hFm.is 9 87 rfl g9
          have HC : Hid _ := hC
          clear hC
          refine ⟨?_⟩
          go_simp
          refine hK _ _ rfl ?_
          obtain ⟨c0, cS⟩ := HC.out
          refine ⟨fun h => c0 (by simpa using h), fun h => ?_⟩
          have h9 := cS (by simpa using h)
          exact ⟨by simp [h9.1], h9.2⟩
        refine StepsE.run rfl ?_ ?_
        · intro L U wr hC hP hlk hcl haf A K hFm hK
          simp [Aft, Region.binds] at haf
          have g9 : U 87 = (.tuple #[.int .i64 (d.f.ne : Nat), .int .i64 0]) := hP 9 87 (by simp [haf]) rfl
          have e87 : A.tmps[87]? = some (.tuple #[.int .i64 (d.f.ne : Nat), .int .i64 0]) := hFm.is 9 87 rfl g9
          have HC : Hid _ := hC
          clear hC
          refine ⟨?_⟩
          go_simp
          refine hK _ _ rfl ?_
          obtain ⟨c0, cS⟩ := HC.out
          refine ⟨fun h => c0 (by simpa using h), fun h => ?_⟩
          have h9 := cS (by simpa using h)
          exact ⟨by simp [h9.1], h9.2⟩
        refine StepsE.run rfl ?_ ?_
        · intro L U wr hC hP hlk hcl haf A K hFm hK
          simp [Aft, Region.binds] at haf
          have g10 : U 97 = (.int .i64 (d.f.ne : Nat)) := hP 10 97 (by simp [haf]) rfl
          have e97 : A.tmps[97]? = some (.int .i64 (d.f.ne : Nat)) := hFm.is 10 97 rfl g10
          have HC : Hid _ := hC
          clear hC
          refine ⟨?_⟩
          go_simp
          refine hK _ _ rfl ?_
          obtain ⟨c0, cS⟩ := HC.out
          refine ⟨fun h => c0 (by simpa using h), fun h => ?_⟩
          have h9 := cS (by simpa using h)
          exact ⟨by simp [h9.1], h9.2⟩
        refine StepsE.run rfl ?_ StepsE.nil
        · intro L U wr hC hP hlk hcl haf A K hFm hK
          simp [Aft, Region.binds] at haf
          have g11 : U 98 = (.int .i64 0) := hP 11 98 (by simp [haf]) rfl
          have e98 : A.tmps[98]? = some (.int .i64 0) := hFm.is 11 98 rfl g11
          have HC : Hid _ := hC
          clear hC
          refine ⟨?_⟩
          go_simp
          refine hK _ _ rfl ?_
          obtain ⟨c0, cS⟩ := HC.out
          refine ⟨fun h => c0 (by simpa using h), fun h => ?_⟩
          have h9 := cS (by simpa using h)
          exact ⟨by simp [h9.1], h9.2⟩
      intro L U5 V5 hall hC hP
      obtain ⟨d2, hC2⟩ := (hC.2 (hall 8 (by decide))).2
      have e14 : U5 14 = .int .i64 0 := hP 13 14 rfl
      simp only [setM_some, setM_none, setM_nil]
      rw [e14]
      clear hC hall hP e14 HC HC0 HCX HBL hi1 V
      rename World => V
      have HC : Hid (Ch w V g d2 (.slice (some ⟨bC, 0, none⟩) nn cC) nn nn [(n, 0)]) := hC2
      clear hC2
      go_wp2
      have HC0 : Hid (V.cell? ⟨bC, 0, none⟩ = some (.int .i64 ((0 : Nat) : Int))) := by
        have h9 := HC.out.list.cell (i := 0) (by omega) (j := 0) (by omega)
        show _ = _; simpa using h9
      have HCX : Hid (V.cell? ⟨bC, m, none⟩ = some (.int .i64 (m : Nat))) := by
        have h9 := HC.out.list.cell (i := m) (by omega) (j := 0) (by omega)
        show _ = _; simpa using h9
      have HBL : Hid (bC < V.heap.size) := HC.out.list.lt rfl
      have hi1 : (m : Int) < (nn : Int) := by omega
      refine wp_region_E (by kernel_rfl) [some 100, some 101, some 102, some 103, some 104, some 105, some 106, some 107, some 108, some 99, some 109, some 110, some 15, some 16] [none, none, none, none, none, none, none, none, none, none, none, none, none, none, none, some 15, some 16, none, none, none, none, none, none, none, none, none, none, none, none, none, none, none, none, none, none, none, none, none, none, none, none, none, none, none, none, none, none, none, none, none, none, none, none, none, none, none, none, none, none, none, none, none, none, none, none, none, none, none, none, none, none, none, none, none, none, none, none, none, none, none, none, none, none, none, none, none, none, none, none, none, none, none, none, none, none, none, none, none, none, some 99, some 100, some 101, some 102, some 103, some 104, some 105, some 106, some 107, some 108, some 109, some 110] (fun U => by kernel_rfl) [fun u => u = (.pointer (some ⟨g, 0, none⟩)), fun u => u = (.slice (some ⟨bC, 0, none⟩) nn cC), fun u => u = (.pointer (some ⟨bC, 0, none⟩)), fun u => u = (.int .i64 ((0 : Nat) : Int)), fun u => u = (.slice (some ⟨bC, 0, none⟩) nn cC), fun u => u = (.int .i64 (m : Nat)), fun u => u = (.pointer (some ⟨bC, m, none⟩)), fun u => u = (.int .i64 (m : Nat)), fun u => u = (.tuple #[.int .i64 (d2.f.ne : Nat), .int .i64 0]), fun u => u = (.tuple #[.int .i64 (d2.f.ne : Nat), .int .i64 0]), fun u => u = (.int .i64 (d2.f.ne : Nat)), fun u => u = (.int .i64 0), fun u => u = (.int .i64 (d2.f.ne : Nat)), fun u => u = (.int .i64 0)] (fun L U wr => (L 8 = false → Below V.heap.size V wr) ∧ (L 8 = true → (L 0 = true ∧ L 1 = true ∧ L 2 = true ∧ L 3 = true ∧ L 4 = true ∧ L 5 = true ∧ L 6 = true ∧ L 7 = true) ∧ ∃ d', Ch w wr g d' (.slice (some ⟨bC, 0, none⟩) nn cC) nn nn [(n, 0), (0, m)])) (by kernel_rfl) (by decide) (by kernel_rfl) (by kernel_rfl) ?_ ?_ ?_
      · exact fun U => ⟨fun _ => (Below.refl _ _).drew, (fun h => by cases h)⟩
      · refine StepsE.run rfl ?_ ?_
        · intro L U wr hC hP hlk hcl haf A K hFm hK
          simp [Aft, Region.binds] at haf
          have e7 : A.tmps[7]? = some (.pointer (some ⟨g, 0, none⟩)) := (hFm.old 7 (by decide)).trans (by kernel_rfl)
          have HC : Hid _ := hC
          clear hC
          refine ⟨?_⟩
          go_simp
          refine hK _ _ rfl ?_
          obtain ⟨c0, cS⟩ := HC.out
          refine ⟨fun h => c0 (by simpa using h), fun h => ?_⟩
          have h9 := cS (by simpa using h)
          exact ⟨by simp [h9.1], h9.2⟩
        refine StepsE.run rfl ?_ ?_
        · intro L U wr hC hP hlk hcl haf A K hFm hK
          simp [Aft, Region.binds] at haf
          have e10 : A.tmps[10]? = some (.slice (some ⟨bC, 0, none⟩) nn cC) := (hFm.old 10 (by decide)).trans (by kernel_rfl)
          have HC : Hid _ := hC
          clear hC
          refine ⟨?_⟩
          go_simp
          refine hK _ _ rfl ?_
          obtain ⟨c0, cS⟩ := HC.out
          refine ⟨fun h => c0 (by simpa using h), fun h => ?_⟩
          have h9 := cS (by simpa using h)
          exact ⟨by simp [h9.1], h9.2⟩
        refine StepsE.run rfl ?_ ?_
        · intro L U wr hC hP hlk hcl haf A K hFm hK
          simp [Aft, Region.binds] at haf
          have g1 : U 101 = (.slice (some ⟨bC, 0, none⟩) nn cC) := hP 1 101 (by simp [haf]) rfl
          have e101 : A.tmps[101]? = some (.slice (some ⟨bC, 0, none⟩) nn cC) := hFm.is 1 101 rfl g1
          have HC : Hid _ := hC
          clear hC
          refine ⟨?_⟩
          go_simp
          refine hK _ _ rfl ?_
          obtain ⟨c0, cS⟩ := HC.out
          refine ⟨fun h => c0 (by simpa using h), fun h => ?_⟩
          have h9 := cS (by simpa using h)
          exact ⟨by simp [h9.1], h9.2⟩
        refine StepsE.run rfl ?_ ?_
        · intro L U wr hC hP hlk hcl haf A K hFm hK
          simp [Aft, Region.binds] at haf
          have g2 : U 102 = (.pointer (some ⟨bC, 0, none⟩)) := hP 2 102 (by simp [haf]) rfl
          have e102 : A.tmps[102]? = some (.pointer (some ⟨bC, 0, none⟩)) := hFm.is 2 102 rfl g2
          have hb8 := hC.1 (by cases h : L 8 with | false => rfl | true => have h9 := hcl 8 _ rfl h; simp [Aft, Region.binds, hlk] at h9)
          have m7 := (hb8.cell (p := ⟨bC, 0, none⟩) HBL.out).trans HC0.out
          clear hb8
          have HC : Hid _ := hC
          clear hC
          refine ⟨?_⟩
          go_simp
          refine hK _ _ rfl ?_
          obtain ⟨c0, cS⟩ := HC.out
          refine ⟨fun h => c0 (by simpa using h), fun h => ?_⟩
          have h9 := cS (by simpa using h)
          exact ⟨by simp [h9.1], h9.2⟩
        refine StepsE.run rfl ?_ ?_
        · intro L U wr hC hP hlk hcl haf A K hFm hK
          simp [Aft, Region.binds] at haf
          have e10 : A.tmps[10]? = some (.slice (some ⟨bC, 0, none⟩) nn cC) := (hFm.old 10 (by decide)).trans (by kernel_rfl)
          have HC : Hid _ := hC
          clear hC
          refine ⟨?_⟩
          go_simp
          refine hK _ _ rfl ?_
          obtain ⟨c0, cS⟩ := HC.out
          refine ⟨fun h => c0 (by simpa using h), fun h => ?_⟩
          have h9 := cS (by simpa using h)
          exact ⟨by simp [h9.1], h9.2⟩
        refine StepsE.run rfl ?_ ?_
        · intro L U wr hC hP hlk hcl haf A K hFm hK
          simp [Aft, Region.binds] at haf
          have e1 : A.tmps[1]? = some (.int .i64 (m : Nat)) := (hFm.old 1 (by decide)).trans (by kernel_rfl)
          have HC : Hid _ := hC
          clear hC
          refine ⟨?_⟩
          go_simp
          refine hK _ _ rfl ?_
          obtain ⟨c0, cS⟩ := HC.out
          refine ⟨fun h => c0 (by simpa using h), fun h => ?_⟩
          have h9 := cS (by simpa using h)
          exact ⟨by simp [h9.1], h9.2⟩
        refine StepsE.run rfl ?_ ?_
        · intro L U wr hC hP hlk hcl haf A K hFm hK
          simp [Aft, Region.binds] at haf
          have g4 : U 104 = (.slice (some ⟨bC, 0, none⟩) nn cC) := hP 4 104 (by simp [haf]) rfl
          have e104 : A.tmps[104]? = some (.slice (some ⟨bC, 0, none⟩) nn cC) := hFm.is 4 104 rfl g4
          have g5 : U 105 = (.int .i64 (m : Nat)) := hP 5 105 (by simp [haf]) rfl
          have e105 : A.tmps[105]? = some (.int .i64 (m : Nat)) := hFm.is 5 105 rfl g5
          have HC : Hid _ := hC
          clear hC
          refine ⟨?_⟩
          go_simp
          refine hK _ _ rfl ?_
          obtain ⟨c0, cS⟩ := HC.out
          refine ⟨fun h => c0 (by simpa using h), fun h => ?_⟩
          have h9 := cS (by simpa using h)
          exact ⟨by simp [h9.1], h9.2⟩
        refine StepsE.run rfl ?_ ?_
        · intro L U wr hC hP hlk hcl haf A K hFm hK
          simp [Aft, Region.binds] at haf
          have g6 : U 106 = (.pointer (some ⟨bC, m, none⟩)) := hP 6 106 (by simp [haf]) rfl
          have e106 : A.tmps[106]? = some (.pointer (some ⟨bC, m, none⟩)) := hFm.is 6 106 rfl g6
          have hb8 := hC.1 (by cases h : L 8 with | false => rfl | true => have h9 := hcl 8 _ rfl h; simp [Aft, Region.binds, hlk] at h9)
          have m7 := (hb8.cell (p := ⟨bC, m, none⟩) HBL.out).trans HCX.out
          clear hb8
          have HC : Hid _ := hC
          clear hC
          refine ⟨?_⟩
          go_simp
          refine hK _ _ rfl ?_
          obtain ⟨c0, cS⟩ := HC.out
          refine ⟨fun h => c0 (by simpa using h), fun h => ?_⟩
          have h9 := cS (by simpa using h)
          exact ⟨by simp [h9.1], h9.2⟩
        refine StepsE.run rfl ?_ ?_
        · intro L U wr hC hP hlk hcl haf A K hFm hK
          simp [Aft, Region.binds] at haf
          have g0 : U 100 = (.pointer (some ⟨g, 0, none⟩)) := hP 0 100 (by simp [haf]) rfl
          have e100 : A.tmps[100]? = some (.pointer (some ⟨g, 0, none⟩)) := hFm.is 0 100 rfl g0
          have g3 : U 103 = (.int .i64 ((0 : Nat) : Int)) := hP 3 103 (by simp [haf]) rfl
          have e103 : A.tmps[103]? = some (.int .i64 ((0 : Nat) : Int)) := hFm.is 3 103 rfl g3
          have g7 : U 107 = (.int .i64 (m : Nat)) := hP 7 107 (by simp [haf]) rfl
          have e107 : A.tmps[107]? = some (.int .i64 (m : Nat)) := hFm.is 7 107 rfl g7
          have l0 : L 0 = true := by simp [haf]
          have l3 : L 3 = true := by simp [haf]
          have l7 : L 7 = true := by simp [haf]
          have a3 := hcl 3 _ rfl l3
          simp [Aft, Region.binds] at a3
          have l2 : L 2 = true := by simp [a3]
          have a7 := hcl 7 _ rfl l7
          simp [Aft, Region.binds] at a7
          have l6 : L 6 = true := by simp [a7]
          have a2 := hcl 2 _ rfl l2
          simp [Aft, Region.binds] at a2
          have l1 : L 1 = true := by simp [a2]
          have a6 := hcl 6 _ rfl l6
          simp [Aft, Region.binds] at a6
          have l4 : L 4 = true := by simp [a6]
          have l5 : L 5 = true := by simp [a6]
          refine ⟨?_⟩
          have HCr : Hid _ := HC.out.below (hC.1 hlk)
          have HL : Hid (L 0 = true ∧ L 1 = true ∧ L 2 = true ∧ L 3 = true ∧ L 4 = true ∧ L 5 = true ∧ L 6 = true ∧ L 7 = true) := ⟨l0, l1, l2, l3, l4, l5, l6, l7⟩
          clear hC
          have hgl := HCr.out.gw.cw.lt
          go_simp
          refine (Equal_any g d2 0 m wr HCr.out.gw (by rw [HCr.out.nn]; omega) (by rw [HCr.out.nn]; omega) (by rw [HCr.out.nn]; omega) (by rw [HCr.out.ne]; simp)).mono ?_
          rintro e w1 ⟨rfl, v9, hG9, hM9, hF9⟩
          go_simp
          refine hK _ _ (rfl) ⟨fun h => by simp at h, fun _ => ⟨by simp [HL.out], HCr.out.equal (by omega) (by omega) hG9 hM9 hF9⟩⟩
        refine StepsE.run rfl ?_ ?_
        · intro L U wr hC hP hlk hcl haf A K hFm hK
          simp [Aft, Region.binds] at haf
          have g8 : U 108 = (.tuple #[.int .i64 (d2.f.ne : Nat), .int .i64 0]) := hP 8 108 (by simp [haf]) rfl
          have e108 : A.tmps[108]? = some (.tuple #[.int .i64 (d2.f.ne : Nat), .int .i64 0]) := hFm.is 8 108 rfl g8
          have HC : Hid _ := hC
          clear hC
          refine ⟨?_⟩
          go_simp
          refine hK _ _ rfl ?_
          obtain ⟨c0, cS⟩ := HC.out
          refine ⟨fun h => c0 (by simpa using h), fun h => ?_⟩
          have h9 := cS (by simpa using h)
          exact ⟨by simp [h9.1], h9.2⟩
        refine StepsE.run rfl ?_ ?_
        · intro L U wr hC hP hlk hcl haf A K hFm hK
          simp [Aft, Region.binds] at haf
          have g9 : U 99 = (.tuple #[.int .i64 (d2.f.ne : Nat), .int .i64 0]) := hP 9 99 (by simp [haf]) rfl
          have e99 : A.tmps[99]? = some (.tuple #[.int .i64 (d2.f.ne : Nat), .int .i64 0]) := hFm.is 9 99 rfl g9
          have HC : Hid _ := hC
          clear hC
          refine ⟨?_⟩
          go_simp
          refine hK _ _ rfl ?_
          obtain ⟨c0, cS⟩ := HC.out
          refine ⟨fun h => c0 (by simpa using h), fun h => ?_⟩
          have h9 := cS (by simpa using h)
          exact ⟨by simp [h9.1], h9.2⟩
        refine StepsE.run rfl ?_ ?_
        · intro L U wr hC hP hlk hcl haf A K hFm hK
          simp [Aft, Region.binds] at haf
          have g9 : U 99 = (.tuple #[.int .i64 (d2.f.ne : Nat), .int .i64 0]) := hP 9 99 (by simp [haf]) rfl
          have e99 : A.tmps[99]? = some (.tuple #[.int .i64 (d2.f.ne : Nat), .int .i64 0]) := hFm.is 9 99 rfl g9
          have HC : Hid _ := hC
          clear hC
          refine ⟨?_⟩
          go_simp
          refine hK _ _ rfl ?_
          obtain ⟨c0, cS⟩ := HC.out
          refine ⟨fun h => c0 (by simpa using h), fun h => ?_⟩
          have h9 := cS (by simpa using h)
          exact ⟨by simp [h9.1], h9.2⟩
        refine StepsE.run rfl ?_ ?_
        · intro L U wr hC hP hlk hcl haf A K hFm hK
          simp [Aft, Region.binds] at haf
          have g10 : U 109 = (.int .i64 (d2.f.ne : Nat)) := hP 10 109 (by simp [haf]) rfl
          have e109 : A.tmps[109]? = some (.int .i64 (d2.f.ne : Nat)) := hFm.is 10 109 rfl g10
          have HC : Hid _ := hC
          clear hC
          refine ⟨?_⟩
          go_simp
          refine hK _ _ rfl ?_
          obtain ⟨c0, cS⟩ := HC.out
          refine ⟨fun h => c0 (by simpa using h), fun h => ?_⟩
          have h9 := cS (by simpa using h)
          exact ⟨by simp [h9.1], h9.2⟩
        refine StepsE.run rfl ?_ StepsE.nil
        · intro L U wr hC hP hlk hcl haf A K hFm hK
          simp [Aft, Region.binds] at haf
          have g11 : U 110 = (.int .i64 0) := hP 11 110 (by simp [haf]) rfl
          have e110 : A.tmps[110]? = some (.int .i64 0) := hFm.is 11 110 rfl g11
          have HC : Hid _ := hC
          clear hC
          refine ⟨?_⟩
          go_simp
          refine hK _ _ rfl ?_
          obtain ⟨c0, cS⟩ := HC.out
          refine ⟨fun h => c0 (by simpa using h), fun h => ?_⟩
          have h9 := cS (by simpa using h)
          exact ⟨by simp [h9.1], h9.2⟩
      intro L U6 V6 hall hC hP
      obtain ⟨d3, hC3⟩ := (hC.2 (hall 8 (by decide))).2
      have e16 : U6 16 = .int .i64 0 := hP 13 16 rfl
      simp only [setM_some, setM_none, setM_nil]
      rw [e16]
      clear hC hall hP e16 HC HC0 HCX HBL hi1 V
      rename World => V
      have HC : Hid (Ch w V g d3 (.slice (some ⟨bC, 0, none⟩) nn cC) nn nn [(n, 0), (0, m)]) := hC3
      clear hC3
      go_wp2
      have HC0 : Hid (V.cell? ⟨bC, 0, none⟩ = some (.int .i64 ((0 : Nat) : Int))) := by
        have h9 := HC.out.list.cell (i := 0) (by omega) (j := 0) (by omega)
        show _ = _; simpa using h9
      have HCX : Hid (V.cell? ⟨bC, k, none⟩ = some (.int .i64 (k : Nat))) := by
        have h9 := HC.out.list.cell (i := k) (by omega) (j := 0) (by omega)
        show _ = _; simpa using h9
      have HBL : Hid (bC < V.heap.size) := HC.out.list.lt rfl
      have hi1 : (k : Int) < (nn : Int) := by omega
      refine wp_region_E (by kernel_rfl) [some 112, some 113, some 114, some 115, some 116, some 117, some 118, some 119, some 120, some 111, some 121, some 122, some 17, some 18] [none, none, none, none, none, none, none, none, none, none, none, none, none, none, none, none, none, some 17, some 18, none, none, none, none, none, none, none, none, none, none, none, none, none, none, none, none, none, none, none, none, none, none, none, none, none, none, none, none, none, none, none, none, none, none, none, none, none, none, none, none, none, none, none, none, none, none, none, none, none, none, none, none, none, none, none, none, none, none, none, none, none, none, none, none, none, none, none, none, none, none, none, none, none, none, none, none, none, none, none, none, none, none, none, none, none, none, none, none, none, none, none, none, some 111, some 112, some 113, some 114, some 115, some 116, some 117, some 118, some 119, some 120, some 121, some 122] (fun U => by kernel_rfl) [fun u => u = (.pointer (some ⟨g, 0, none⟩)), fun u => u = (.slice (some ⟨bC, 0, none⟩) nn cC), fun u => u = (.int .i64 (k : Nat)), fun u => u = (.pointer (some ⟨bC, k, none⟩)), fun u => u = (.int .i64 (k : Nat)), fun u => u = (.slice (some ⟨bC, 0, none⟩) nn cC), fun u => u = (.pointer (some ⟨bC, 0, none⟩)), fun u => u = (.int .i64 ((0 : Nat) : Int)), fun u => u = (.tuple #[.bool B, .int .i64 0]), fun u => u = (.tuple #[.bool B, .int .i64 0]), fun u => u = (.bool B), fun u => u = (.int .i64 0), fun u => u = (.bool B), fun u => u = (.int .i64 0)] (fun L U wr => (L 8 = false → Below V.heap.size V wr) ∧ (L 8 = true → (L 0 = true ∧ L 1 = true ∧ L 2 = true ∧ L 3 = true ∧ L 4 = true ∧ L 5 = true ∧ L 6 = true ∧ L 7 = true) ∧ Below w.heap.size w wr)) (by kernel_rfl) (by decide) (by kernel_rfl) (by kernel_rfl) ?_ ?_ ?_
      · exact fun U => ⟨fun _ => (Below.refl _ _).drew, (fun h => by cases h)⟩
      · refine StepsE.run rfl ?_ ?_
        · intro L U wr hC hP hlk hcl haf A K hFm hK
          simp [Aft, Region.binds] at haf
          have e7 : A.tmps[7]? = some (.pointer (some ⟨g, 0, none⟩)) := (hFm.old 7 (by decide)).trans (by kernel_rfl)
          have HC : Hid _ := hC
          clear hC
          refine ⟨?_⟩
          go_simp
          refine hK _ _ rfl ?_
          obtain ⟨c0, cS⟩ := HC.out
          refine ⟨fun h => c0 (by simpa using h), fun h => ?_⟩
          have h9 := cS (by simpa using h)
          exact ⟨by simp [h9.1], h9.2⟩
        refine StepsE.run rfl ?_ ?_
        · intro L U wr hC hP hlk hcl haf A K hFm hK
          simp [Aft, Region.binds] at haf
          have e10 : A.tmps[10]? = some (.slice (some ⟨bC, 0, none⟩) nn cC) := (hFm.old 10 (by decide)).trans (by kernel_rfl)
          have HC : Hid _ := hC
          clear hC
          refine ⟨?_⟩
          go_simp
          refine hK _ _ rfl ?_
          obtain ⟨c0, cS⟩ := HC.out
          refine ⟨fun h => c0 (by simpa using h), fun h => ?_⟩
          have h9 := cS (by simpa using h)
          exact ⟨by simp [h9.1], h9.2⟩
        refine StepsE.run rfl ?_ ?_
        · intro L U wr hC hP hlk hcl haf A K hFm hK
          simp [Aft, Region.binds] at haf
          have e2 : A.tmps[2]? = some (.int .i64 (k : Nat)) := (hFm.old 2 (by decide)).trans (by kernel_rfl)
          have HC : Hid _ := hC
          clear hC
          refine ⟨?_⟩
          go_simp
          refine hK _ _ rfl ?_
          obtain ⟨c0, cS⟩ := HC.out
          refine ⟨fun h => c0 (by simpa using h), fun h => ?_⟩
          have h9 := cS (by simpa using h)
          exact ⟨by simp [h9.1], h9.2⟩
        refine StepsE.run rfl ?_ ?_
        · intro L U wr hC hP hlk hcl haf A K hFm hK
          simp [Aft, Region.binds] at haf
          have g1 : U 113 = (.slice (some ⟨bC, 0, none⟩) nn cC) := hP 1 113 (by simp [haf]) rfl
          have e113 : A.tmps[113]? = some (.slice (some ⟨bC, 0, none⟩) nn cC) := hFm.is 1 113 rfl g1
          have g2 : U 114 = (.int .i64 (k : Nat)) := hP 2 114 (by simp [haf]) rfl
          have e114 : A.tmps[114]? = some (.int .i64 (k : Nat)) := hFm.is 2 114 rfl g2
          have HC : Hid _ := hC
          clear hC
          refine ⟨?_⟩
          go_simp
          refine hK _ _ rfl ?_
          obtain ⟨c0, cS⟩ := HC.out
          refine ⟨fun h => c0 (by simpa using h), fun h => ?_⟩
          have h9 := cS (by simpa using h)
          exact ⟨by simp [h9.1], h9.2⟩
        refine StepsE.run rfl ?_ ?_
        · intro L U wr hC hP hlk hcl haf A K hFm hK
          simp [Aft, Region.binds] at haf
          have g3 : U 115 = (.pointer (some ⟨bC, k, none⟩)) := hP 3 115 (by simp [haf]) rfl
          have e115 : A.tmps[115]? = some (.pointer (some ⟨bC, k, none⟩)) := hFm.is 3 115 rfl g3
          have hb8 := hC.1 (by cases h : L 8 with | false => rfl | true => have h9 := hcl 8 _ rfl h; simp [Aft, Region.binds, hlk] at h9)
          have m7 := (hb8.cell (p := ⟨bC, k, none⟩) HBL.out).trans HCX.out
          clear hb8
          have HC : Hid _ := hC
          clear hC
          refine ⟨?_⟩
          go_simp
          refine hK _ _ rfl ?_
          obtain ⟨c0, cS⟩ := HC.out
          refine ⟨fun h => c0 (by simpa using h), fun h => ?_⟩
          have h9 := cS (by simpa using h)
          exact ⟨by simp [h9.1], h9.2⟩
        refine StepsE.run rfl ?_ ?_
        · intro L U wr hC hP hlk hcl haf A K hFm hK
          simp [Aft, Region.binds] at haf
          have e10 : A.tmps[10]? = some (.slice (some ⟨bC, 0, none⟩) nn cC) := (hFm.old 10 (by decide)).trans (by kernel_rfl)
          have HC : Hid _ := hC
          clear hC
          refine ⟨?_⟩
          go_simp
          refine hK _ _ rfl ?_
          obtain ⟨c0, cS⟩ := HC.out
          refine ⟨fun h => c0 (by simpa using h), fun h => ?_⟩
          have h9 := cS (by simpa using h)
          exact ⟨by simp [h9.1], h9.2⟩
        refine StepsE.run rfl ?_ ?_
        · intro L U wr hC hP hlk hcl haf A K hFm hK
          simp [Aft, Region.binds] at haf
          have g5 : U 117 = (.slice (some ⟨bC, 0, none⟩) nn cC) := hP 5 117 (by simp [haf]) rfl
          have e117 : A.tmps[117]? = some (.slice (some ⟨bC, 0, none⟩) nn cC) := hFm.is 5 117 rfl g5
          have HC : Hid _ := hC
          clear hC
          refine ⟨?_⟩
          go_simp
          refine hK _ _ rfl ?_
          obtain ⟨c0, cS⟩ := HC.out
          refine ⟨fun h => c0 (by simpa using h), fun h => ?_⟩
          have h9 := cS (by simpa using h)
          exact ⟨by simp [h9.1], h9.2⟩
        refine StepsE.run rfl ?_ ?_
        · intro L U wr hC hP hlk hcl haf A K hFm hK
          simp [Aft, Region.binds] at haf
          have g6 : U 118 = (.pointer (some ⟨bC, 0, none⟩)) := hP 6 118 (by simp [haf]) rfl
          have e118 : A.tmps[118]? = some (.pointer (some ⟨bC, 0, none⟩)) := hFm.is 6 118 rfl g6
          have hb8 := hC.1 (by cases h : L 8 with | false => rfl | true => have h9 := hcl 8 _ rfl h; simp [Aft, Region.binds, hlk] at h9)
          have m7 := (hb8.cell (p := ⟨bC, 0, none⟩) HBL.out).trans HC0.out
          clear hb8
          have HC : Hid _ := hC
          clear hC
          refine ⟨?_⟩
          go_simp
          refine hK _ _ rfl ?_
          obtain ⟨c0, cS⟩ := HC.out
          refine ⟨fun h => c0 (by simpa using h), fun h => ?_⟩
          have h9 := cS (by simpa using h)
          exact ⟨by simp [h9.1], h9.2⟩
        refine StepsE.run rfl ?_ ?_
        · intro L U wr hC hP hlk hcl haf A K hFm hK
          simp [Aft, Region.binds] at haf
          have g0 : U 112 = (.pointer (some ⟨g, 0, none⟩)) := hP 0 112 (by simp [haf]) rfl
          have e112 : A.tmps[112]? = some (.pointer (some ⟨g, 0, none⟩)) := hFm.is 0 112 rfl g0
          have g4 : U 116 = (.int .i64 (k : Nat)) := hP 4 116 (by simp [haf]) rfl
          have e116 : A.tmps[116]? = some (.int .i64 (k : Nat)) := hFm.is 4 116 rfl g4
          have g7 : U 119 = (.int .i64 ((0 : Nat) : Int)) := hP 7 119 (by simp [haf]) rfl
          have e119 : A.tmps[119]? = some (.int .i64 ((0 : Nat) : Int)) := hFm.is 7 119 rfl g7
          have l0 : L 0 = true := by simp [haf]
          have l4 : L 4 = true := by simp [haf]
          have l7 : L 7 = true := by simp [haf]
          have a4 := hcl 4 _ rfl l4
          simp [Aft, Region.binds] at a4
          have l3 : L 3 = true := by simp [a4]
          have a7 := hcl 7 _ rfl l7
          simp [Aft, Region.binds] at a7
          have l6 : L 6 = true := by simp [a7]
          have a3 := hcl 3 _ rfl l3
          simp [Aft, Region.binds] at a3
          have l1 : L 1 = true := by simp [a3]
          have l2 : L 2 = true := by simp [a3]
          have a6 := hcl 6 _ rfl l6
          simp [Aft, Region.binds] at a6
          have l5 : L 5 = true := by simp [a6]
          refine ⟨?_⟩
          have HCr : Hid _ := HC.out.below (hC.1 hlk)
          have HL : Hid (L 0 = true ∧ L 1 = true ∧ L 2 = true ∧ L 3 = true ∧ L 4 = true ∧ L 5 = true ∧ L 6 = true ∧ L 7 = true) := ⟨l0, l1, l2, l3, l4, l5, l6, l7⟩
          clear hC
          have hgl := HCr.out.gw.cw.lt
          go_simp
          refine (Same_any g d3 k 0 wr HCr.out.gw HCr.out.sem.ok (by rw [HCr.out.nn]; omega) (by rw [HCr.out.nn]; omega) (by rw [HCr.out.nn]; omega) (by rw [HCr.out.ne]; simp)).mono ?_
          rintro e w1 ⟨y9, s9, rfl, hR9, hns9, hG9, hM9, hF9⟩
          go_simp
          refine hK _ _ (by rw [HCr.out.same hn hm hMn hMm hMk hR9 hns9, HBG.out]; rfl) ⟨fun h => by simp at h, fun _ => ⟨by simp [HL.out], HCr.out.bel.trans (hM9.toBelow HCr.out.bel.size (fun b hb => HCr.out.fh b (Or.inl hb)))⟩⟩
        refine StepsE.run rfl ?_ ?_
        · intro L U wr hC hP hlk hcl haf A K hFm hK
          simp [Aft, Region.binds] at haf
          have g8 : U 120 = (.tuple #[.bool B, .int .i64 0]) := hP 8 120 (by simp [haf]) rfl
          have e120 : A.tmps[120]? = some (.tuple #[.bool B, .int .i64 0]) := hFm.is 8 120 rfl g8
          have HC : Hid _ := hC
          clear hC
          refine ⟨?_⟩
          go_simp
          refine hK _ _ rfl ?_
          obtain ⟨c0, cS⟩ := HC.out
          refine ⟨fun h => c0 (by simpa using h), fun h => ?_⟩
          have h9 := cS (by simpa using h)
          exact ⟨by simp [h9.1], h9.2⟩
        refine StepsE.run rfl ?_ ?_
        · intro L U wr hC hP hlk hcl haf A K hFm hK
          simp [Aft, Region.binds] at haf
          have g9 : U 111 = (.tuple #[.bool B, .int .i64 0]) := hP 9 111 (by simp [haf]) rfl
          have e111 : A.tmps[111]? = some (.tuple #[.bool B, .int .i64 0]) := hFm.is 9 111 rfl g9
          have HC : Hid _ := hC
          clear hC
          refine ⟨?_⟩
          go_simp
          refine hK _ _ rfl ?_
          obtain ⟨c0, cS⟩ := HC.out
          refine ⟨fun h => c0 (by simpa using h), fun h => ?_⟩
          have h9 := cS (by simpa using h)
          exact ⟨by simp [h9.1], h9.2⟩
        refine StepsE.run rfl ?_ ?_
        · intro L U wr hC hP hlk hcl haf A K hFm hK
          simp [Aft, Region.binds] at haf
          have g9 : U 111 = (.tuple #[.bool B, .int .i64 0]) := hP 9 111 (by simp [haf]) rfl
          have e111 : A.tmps[111]? = some (.tuple #[.bool B, .int .i64 0]) := hFm.is 9 111 rfl g9
          have HC : Hid _ := hC
          clear hC
          refine ⟨?_⟩
          go_simp
          refine hK _ _ rfl ?_
          obtain ⟨c0, cS⟩ := HC.out
          refine ⟨fun h => c0 (by simpa using h), fun h => ?_⟩
          have h9 := cS (by simpa using h)
          exact ⟨by simp [h9.1], h9.2⟩
        refine StepsE.run rfl ?_ ?_
        · intro L U wr hC hP hlk hcl haf A K hFm hK
          simp [Aft, Region.binds] at haf
          have g10 : U 121 = (.bool B) := hP 10 121 (by simp [haf]) rfl
          have e121 : A.tmps[121]? = some (.bool B) := hFm.is 10 121 rfl g10
          have HC : Hid _ := hC
          clear hC
          refine ⟨?_⟩
          go_simp
          refine hK _ _ rfl ?_
          obtain ⟨c0, cS⟩ := HC.out
          refine ⟨fun h => c0 (by simpa using h), fun h => ?_⟩
          have h9 := cS (by simpa using h)
          exact ⟨by simp [h9.1], h9.2⟩
        refine StepsE.run rfl ?_ StepsE.nil
        · intro L U wr hC hP hlk hcl haf A K hFm hK
          simp [Aft, Region.binds] at haf
          have g11 : U 122 = (.int .i64 0) := hP 11 122 (by simp [haf]) rfl
          have e122 : A.tmps[122]? = some (.int .i64 0) := hFm.is 11 122 rfl g11
          have HC : Hid _ := hC
          clear hC
          refine ⟨?_⟩
          go_simp
          refine hK _ _ rfl ?_
          obtain ⟨c0, cS⟩ := HC.out
          refine ⟨fun h => c0 (by simpa using h), fun h => ?_⟩
          have h9 := cS (by simpa using h)
          exact ⟨by simp [h9.1], h9.2⟩
      intro L U7 V7 hall hC hP
      have HBW : Hid _ := (hC.2 (hall 8 (by decide))).2
      have e17 : U7 17 = .bool B := hP 12 17 rfl
      have e18 : U7 18 = .int .i64 0 := hP 13 18 rfl
      simp only [setM_some, setM_none, setM_nil]
      rw [e17, e18]
      clear hC hall hP e17 e18 HC HC0 HCX HBL hi1 hi0 V
      rename World => V
      have hbw : Below w.heap.size w V := HBW.out
      clear HBW
      go_wp2_with fail
      refine (from_any (n : Int) V (by omega) (by omega)).mono ?_
      rintro e w4 ⟨va, rfl, hva, hb4⟩
      replace hbw := hbw.trans (hb4.mono hbw.size)
      clear hb4
      go_wp2_with fail
      refine (from_any (m : Int) w4 (by omega) (by omega)).mono ?_
      rintro e w5 ⟨vb, rfl, hvb, hb5⟩
      replace hbw := hbw.trans (hb5.mono hbw.size)
      replace hva := hva.below hb5
      clear hb5
      go_wp2_with fail
      refine (gcd_a0 va vb (n : Int) (m : Int) w5 hva hvb (by omega) (by omega)).mono ?_
      rintro e w6 ⟨vg, rfl, hvg, hb6⟩
      replace hbw := hbw.trans (hb6.mono hbw.size)
      clear hva hvb hb6
      obtain ⟨xD, aD, nD, cD, rfl⟩ := hvg.shape
      have hD : AInt w6 (.agg #[.bool xD, .slice aD nD cD]) ((Nat.gcd n m : Nat) : Int) := by simpa using hvg
      clear hvg
      go_wp2
      have hnew := (Below.refl w6.heap.size w6).alloc (Nat.le_refl _) (.cells #[.bool xD, .slice aD nD cD] 50 (0, 0))
      replace hD := hD.below hnew
      replace hbw := hbw.trans (hnew.mono hbw.size)
      have oD : Blk 50 (w6.alloc (.cells #[.bool xD, .slice aD nD cD] 50 (0, 0))) w6.heap.size #[.bool xD, .slice aD nD cD] := Blk.new w6 _ _
      have ltD := oD.lt
      obtain ⟨bD, hbD⟩ : ∃ bD, bD = w6.heap.size := ⟨_, rfl⟩
      rw [← hbD]
      rw [← hbD] at oD ltD
      clear hnew hbD
      generalize w6.alloc (.cells #[.bool xD, .slice aD nD cD] 50 (0, 0)) = W at hD hbw oD ltD ⊢
      clear w4 w5 w6
      have HGP : Hid (((Nat.gcd n m : Nat) : Int) ≠ 0 ∧ (((Nat.gcd n m : Nat) : Int)).natAbs < 4294967296) := by
        have h8 := Nat.gcd_pos_of_pos_left m hn
        have h9 := Nat.le_of_dvd hn (Nat.gcd_dvd_left n m)
        exact ⟨by omega, by omega⟩
      obtain ⟨zq, HZQ⟩ : ∃ z, Hid ((k : Int).fdiv ((Nat.gcd n m : Nat) : Int) = z) := ⟨_, rfl⟩
      obtain ⟨zr, HZR⟩ : ∃ z, Hid ((k : Int).fmod ((Nat.gcd n m : Nat) : Int) = z) := ⟨_, rfl⟩
      refine wp_region_M (by kernel_rfl) [20, 21, 22, 128, 129, 130, 131, 132, 133, 134, 135] [none, none, none, none, none, none, none, none, none, none, none, none, none, none, none, none, none, none, none, none, some 20, some 21, some 22, none, none, none, none, none, none, none, none, none, none, none, none, none, none, none, none, none, none, none, none, none, none, none, none, none, none, none, none, none, none, none, none, none, none, none, none, none, none, none, none, none, none, none, none, none, none, none, none, none, none, none, none, none, none, none, none, none, none, none, none, none, none, none, none, none, none, none, none, none, none, none, none, none, none, none, none, none, none, none, none, none, none, none, none, none, none, none, none, none, none, none, none, none, none, none, none, none, none, none, none, none, none, none, none, none, some 128, some 129, some 130, some 131, some 132, some 133, some 134, some 135] (fun U => by kernel_rfl) (fun L U wr => Below w.heap.size w wr ∧ KeepI W wr ∧ W.heap.size ≤ wr.heap.size ∧ Blk 50 wr (bD) #[.bool xD, .slice aD nD cD] ∧ (L 0 = true → IS (.int .i64 (k : Nat)) (U 129) wr) ∧ (L 1 = true → INT (k : Int) (U 130) wr) ∧ (L 2 = true → IS (.agg #[.bool xD, .slice aD nD cD]) (U 131) wr) ∧ (L 3 = true → T3 (INT zq) (INT zr) (IS (.int .i64 0)) (U 132) wr) ∧ (L 4 = true → T3 (INT zq) (INT zr) (IS (.int .i64 0)) (U 128) wr) ∧ (L 5 = true → INT zq (U 133) wr) ∧ (L 6 = true → INT zr (U 134) wr) ∧ (L 7 = true → IS (.int .i64 0) (U 135) wr) ∧ (L 8 = true → NEW 50 W.heap.size wr (U 20) (bif L 10 then U 133 else .agg #[.bool false, .slice none 0 0])) ∧ (L 9 = true → NEW 50 W.heap.size wr (U 21) (bif L 11 then U 134 else .agg #[.bool false, .slice none 0 0])) ∧ (L 12 = true → IS (.int .i64 0) (U 22) wr) ∧ (L 10 = true → L 5 = true) ∧ (L 11 = true → L 6 = true) ∧ (L 10 = true → L 8 = true) ∧ (L 11 = true → L 9 = true) ∧ (L 8 = true → L 9 = true → U 20 ≠ U 21)) (by kernel_rfl) ?_ ?_ ?_
      · exact fun U => ⟨hbw.drew, KeepI.below (Below.refl _ _).drew, Nat.le_refl _, oD.drew, (fun h => by cases h), (fun h => by cases h), (fun h => by cases h), (fun h => by cases h), (fun h => by cases h), (fun h => by cases h), (fun h => by cases h), (fun h => by cases h), (fun h => by cases h), (fun h => by cases h), (fun h => by cases h), (fun h => by cases h), (fun h => by cases h), (fun h => by cases h), (fun h => by cases h), (fun h => by cases h)⟩
      · refine StepsU.run rfl ?_ ?_
        · intro L U wr hF hlk haf A K hA hK
          have HA : Hid (A = putAll _ _ U) := hA
          clear hA
          simp [Aft, Region.binds] at haf
          obtain ⟨fb, fk, fs, oD, f0, f1, f2, f3, f4, f5, f6, f7, f8, f9, f12, s10, s11, m8, m9, d8_9⟩ := hF
          have e2 : A.tmps[2]? = some (.int .i64 (k : Nat)) := by rw [HA.out]; kernel_rfl
          refine ⟨?_⟩
          go_simp
          refine hK (upd U 129 (.int .i64 (k : Nat))) _ _ ?_ ?_
          · rw [HA.out]; kernel_rfl
          · exact ⟨fb, fk, fs, oD, (fun _ => rfl), f1, f2, f3, f4, f5, f6, f7, f8, f9, f12, s10, s11, m8, m9, d8_9⟩
        refine StepsU.run rfl ?_ ?_
        · intro L U wr hF hlk haf A K hA hK
          have HA : Hid (A = putAll _ _ U) := hA
          clear hA
          simp [Aft, Region.binds] at haf
          obtain ⟨fb, fk, fs, oD, f0, f1, f2, f3, f4, f5, f6, f7, f8, f9, f12, s10, s11, m8, m9, d8_9⟩ := hF
          have g0 := f0 (by simp [haf])
          have e129 := rd HA.out 129 (by kernel_rfl) g0
          refine ⟨?_⟩
          go_simp
          refine (from_any (k : Int) wr (by omega) (by omega)).mono ?_
          rintro e w1 ⟨v, rfl, ha, hb⟩
          go_simp
          refine hK (upd U 130 v) _ _ ?_ ?_
          · rw [HA.out]; kernel_rfl
          · exact ⟨(fb.step hb (Nat.le_refl _)), (fk.trans (KeepI.below hb)), (Nat.le_trans fs hb.size), (oD.stay hb), (mv mo_is (KeepI.below hb) f0), (fun _ => ha), (mv mo_is (KeepI.below hb) f2), (mv (mo_t3 mo_int mo_int mo_is) (KeepI.below hb) f3), (mv (mo_t3 mo_int mo_int mo_is) (KeepI.below hb) f4), (mv mo_int (KeepI.below hb) f5), (mv mo_int (KeepI.below hb) f6), (mv mo_is (KeepI.below hb) f7), (fun h => (f8 h).below hb), (fun h => (f9 h).below hb), (mv mo_is (KeepI.below hb) f12), s10, s11, m8, m9, d8_9⟩
        refine StepsU.run rfl ?_ ?_
        · intro L U wr hF hlk haf A K hA hK
          have HA : Hid (A = putAll _ _ U) := hA
          clear hA
          simp [Aft, Region.binds] at haf
          obtain ⟨fb, fk, fs, oD, f0, f1, f2, f3, f4, f5, f6, f7, f8, f9, f12, s10, s11, m8, m9, d8_9⟩ := hF
          have e19 : A.tmps[19]? = some (.pointer (some ⟨bD, 0, none⟩)) := by rw [HA.out]; kernel_rfl
          obtain ⟨c0, c1, -, -⟩ := oD.two
          refine ⟨?_⟩
          go_simp
          refine hK (upd U 131 (.agg #[.bool xD, .slice aD nD cD])) _ _ ?_ ?_
          · rw [HA.out]; kernel_rfl
          · exact ⟨fb, fk, fs, oD, f0, f1, (fun _ => rfl), f3, f4, f5, f6, f7, f8, f9, f12, s10, s11, m8, m9, d8_9⟩
        refine StepsU.run rfl ?_ ?_
        · intro L U wr hF hlk haf A K hA hK
          have HA : Hid (A = putAll _ _ U) := hA
          clear hA
          simp [Aft, Region.binds] at haf
          obtain ⟨fb, fk, fs, oD, f0, f1, f2, f3, f4, f5, f6, f7, f8, f9, f12, s10, s11, m8, m9, d8_9⟩ := hF
          have g1 := f1 (by simp [haf])
          have e130 := rd HA.out 130 (by kernel_rfl) rfl
          have g2 := f2 (by simp [haf])
          have e131 := rd HA.out 131 (by kernel_rfl) g2
          refine ⟨?_⟩
          go_simp
          refine (div_one0 _ _ (k : Int) ((Nat.gcd n m : Nat) : Int) wr g1 (hD.keepI fk) HGP.out.1 HGP.out.2).mono ?_
          rintro e w1 ⟨vq, vr, rfl, hq, hr, hb⟩
          go_simp
          refine hK (upd U 132 (.tuple #[vq, vr, .int .i64 0])) _ _ ?_ ?_
          · rw [HA.out]; kernel_rfl
          · exact ⟨(fb.step hb (Nat.le_refl _)), (fk.trans (KeepI.below hb)), (Nat.le_trans fs hb.size), (oD.stay hb), (mv mo_is (KeepI.below hb) f0), (mv mo_int (KeepI.below hb) f1), (mv mo_is (KeepI.below hb) f2), (fun _ => ⟨vq, vr, _, rfl, HZQ.out ▸ hq, HZR.out ▸ hr, rfl⟩), (mv (mo_t3 mo_int mo_int mo_is) (KeepI.below hb) f4), (mv mo_int (KeepI.below hb) f5), (mv mo_int (KeepI.below hb) f6), (mv mo_is (KeepI.below hb) f7), (fun h => (f8 h).below hb), (fun h => (f9 h).below hb), (mv mo_is (KeepI.below hb) f12), s10, s11, m8, m9, d8_9⟩
        refine StepsU.run rfl ?_ ?_
        · intro L U wr hF hlk haf A K hA hK
          have HA : Hid (A = putAll _ _ U) := hA
          clear hA
          simp [Aft, Region.binds] at haf
          obtain ⟨fb, fk, fs, oD, f0, f1, f2, f3, f4, f5, f6, f7, f8, f9, f12, s10, s11, m8, m9, d8_9⟩ := hF
          have g3 := f3 (by simp [haf])
          have e132 := rd HA.out 132 (by kernel_rfl) rfl
          refine ⟨?_⟩
          go_simp
          refine hK (upd U 128 (U 132)) _ _ ?_ ?_
          · rw [HA.out]; kernel_rfl
          · exact ⟨fb, fk, fs, oD, f0, f1, f2, f3, (fun _ => g3), f5, f6, f7, f8, f9, f12, s10, s11, m8, m9, d8_9⟩
        refine StepsU.run rfl ?_ ?_
        · intro L U wr hF hlk haf A K hA hK
          have HA : Hid (A = putAll _ _ U) := hA
          clear hA
          simp [Aft, Region.binds] at haf
          obtain ⟨fb, fk, fs, oD, f0, f1, f2, f3, f4, f5, f6, f7, f8, f9, f12, s10, s11, m8, m9, d8_9⟩ := hF
          have g4 := f4 (by simp [haf])
          obtain ⟨t0, t1, t2, hT, k0, k1, k2⟩ := g4
          have e128 := rd HA.out 128 (by kernel_rfl) hT
          refine ⟨?_⟩
          go_simp
          have hs10 : L 10 = false := by cases h : L 10 with | false => rfl | true => rw [s10 h] at hlk; cases hlk
          refine hK (upd U 133 t0) _ _ ?_ ?_
          · rw [HA.out]; kernel_rfl
          · exact ⟨fb, fk, fs, oD, f0, f1, f2, f3, f4, (fun _ => k0), f6, f7, (fun h => flip_v (P := fun v => NEW _ _ _ _ v) hs10 (f8 h)), f9, f12, (fun _ => rfl), s11, m8, m9, d8_9⟩
        refine StepsU.run rfl ?_ ?_
        · intro L U wr hF hlk haf A K hA hK
          have HA : Hid (A = putAll _ _ U) := hA
          clear hA
          simp [Aft, Region.binds] at haf
          obtain ⟨fb, fk, fs, oD, f0, f1, f2, f3, f4, f5, f6, f7, f8, f9, f12, s10, s11, m8, m9, d8_9⟩ := hF
          have g4 := f4 (by simp [haf])
          obtain ⟨t0, t1, t2, hT, k0, k1, k2⟩ := g4
          have e128 := rd HA.out 128 (by kernel_rfl) hT
          refine ⟨?_⟩
          go_simp
          have hs11 : L 11 = false := by cases h : L 11 with | false => rfl | true => rw [s11 h] at hlk; cases hlk
          refine hK (upd U 134 t1) _ _ ?_ ?_
          · rw [HA.out]; kernel_rfl
          · exact ⟨fb, fk, fs, oD, f0, f1, f2, f3, f4, f5, (fun _ => k1), f7, f8, (fun h => flip_v (P := fun v => NEW _ _ _ _ v) hs11 (f9 h)), f12, s10, (fun _ => rfl), m8, m9, d8_9⟩
        refine StepsU.run rfl ?_ ?_
        · intro L U wr hF hlk haf A K hA hK
          have HA : Hid (A = putAll _ _ U) := hA
          clear hA
          simp [Aft, Region.binds] at haf
          obtain ⟨fb, fk, fs, oD, f0, f1, f2, f3, f4, f5, f6, f7, f8, f9, f12, s10, s11, m8, m9, d8_9⟩ := hF
          have g4 := f4 (by simp [haf])
          obtain ⟨t0, t1, t2, hT, k0, k1, k2⟩ := g4
          have e128 := rd HA.out 128 (by kernel_rfl) hT
          refine ⟨?_⟩
          go_simp
          refine hK (upd U 135 t2) _ _ ?_ ?_
          · rw [HA.out]; kernel_rfl
          · exact ⟨fb, fk, fs, oD, f0, f1, f2, f3, f4, f5, f6, (fun _ => k2), f8, f9, f12, s10, s11, m8, m9, d8_9⟩
        refine StepsU.run rfl ?_ ?_
        · intro L U wr hF hlk haf A K hA hK
          have HA : Hid (A = putAll _ _ U) := hA
          clear hA
          simp [Aft, Region.binds] at haf
          obtain ⟨fb, fk, fs, oD, f0, f1, f2, f3, f4, f5, f6, f7, f8, f9, f12, s10, s11, m8, m9, d8_9⟩ := hF
          have hst : L 10 = false := by cases h : L 10 with | false => rfl | true => rw [m8 h] at hlk; cases hlk
          refine ⟨?_⟩
          go_simp
          have hb := below_new wr (.cells #[.bool false, .slice none 0 0] 50 (0, 0))
          refine hK (upd U 20 (.pointer (some ⟨wr.heap.size, 0, none⟩))) _ _ ?_ ?_
          · rw [HA.out]; kernel_rfl
          · exact ⟨(fb.step hb (Nat.le_refl _)), (fk.trans (KeepI.below hb)), (Nat.le_trans fs hb.size), (oD.stay hb), (mv mo_is (KeepI.below hb) f0), (mv mo_int (KeepI.below hb) f1), (mv mo_is (KeepI.below hb) f2), (mv (mo_t3 mo_int mo_int mo_is) (KeepI.below hb) f3), (mv (mo_t3 mo_int mo_int mo_is) (KeepI.below hb) f4), (mv mo_int (KeepI.below hb) f5), (mv mo_int (KeepI.below hb) f6), (mv mo_is (KeepI.below hb) f7), (fun _ => new_zero hst (NEW.mk fs (noI2 _ _ _ _))), (fun h => (f9 h).below hb), (mv mo_is (KeepI.below hb) f12), s10, s11, (fun _ => rfl), m9, (fun _ h => (f9 h).apart.symm)⟩
        refine StepsU.run rfl ?_ ?_
        · intro L U wr hF hlk haf A K hA hK
          have HA : Hid (A = putAll _ _ U) := hA
          clear hA
          simp [Aft, Region.binds] at haf
          obtain ⟨fb, fk, fs, oD, f0, f1, f2, f3, f4, f5, f6, f7, f8, f9, f12, s10, s11, m8, m9, d8_9⟩ := hF
          have hst : L 11 = false := by cases h : L 11 with | false => rfl | true => rw [m9 h] at hlk; cases hlk
          refine ⟨?_⟩
          go_simp
          have hb := below_new wr (.cells #[.bool false, .slice none 0 0] 50 (0, 0))
          refine hK (upd U 21 (.pointer (some ⟨wr.heap.size, 0, none⟩))) _ _ ?_ ?_
          · rw [HA.out]; kernel_rfl
          · exact ⟨(fb.step hb (Nat.le_refl _)), (fk.trans (KeepI.below hb)), (Nat.le_trans fs hb.size), (oD.stay hb), (mv mo_is (KeepI.below hb) f0), (mv mo_int (KeepI.below hb) f1), (mv mo_is (KeepI.below hb) f2), (mv (mo_t3 mo_int mo_int mo_is) (KeepI.below hb) f3), (mv (mo_t3 mo_int mo_int mo_is) (KeepI.below hb) f4), (mv mo_int (KeepI.below hb) f5), (mv mo_int (KeepI.below hb) f6), (mv mo_is (KeepI.below hb) f7), (fun h => (f8 h).below hb), (fun _ => new_zero hst (NEW.mk fs (noI2 _ _ _ _))), (mv mo_is (KeepI.below hb) f12), s10, s11, m8, (fun _ => rfl), (fun h _ => (f8 h).apart)⟩
        refine StepsU.run rfl ?_ ?_
        · intro L U wr hF hlk haf A K hA hK
          have HA : Hid (A = putAll _ _ U) := hA
          clear hA
          simp [Aft, Region.binds] at haf
          obtain ⟨fb, fk, fs, oD, f0, f1, f2, f3, f4, f5, f6, f7, f8, f9, f12, s10, s11, m8, m9, d8_9⟩ := hF
          have g5 := f5 (by simp [haf])
          obtain ⟨px, pa, pn, pc, hsrc⟩ := AInt.shape g5
          have e133 := rd HA.out 133 (by kernel_rfl) hsrc
          have gA := f8 (by simp [haf])
          simp only [hlk, cond_false] at gA
          obtain ⟨b, cs, hp, hBb, hcs, hblk, -⟩ := gA
          injection hcs with hcs
          subst hcs
          have e20 := rd HA.out 20 (by kernel_rfl) hp
          obtain ⟨c0, c1, q0, q1⟩ := hblk.two
          refine ⟨?_⟩
          go_simp
          have hk := keepI_two hblk px pa pn pc
          refine hK U _ _ ?_ ?_
          · exact HA.out
          · exact ⟨(below_store2 fb (Nat.le_trans hbw.size hBb) _ _), (fk.trans hk), (by simpa using fs), (oD.other2 (Nat.ne_of_gt (Nat.lt_of_lt_of_le ltD hBb)) _ _), (mv mo_is hk f0), (mv mo_int hk f1), (mv mo_is hk f2), (mv (mo_t3 mo_int mo_int mo_is) hk f3), (mv (mo_t3 mo_int mo_int mo_is) hk f4), (mv mo_int hk f5), (mv mo_int hk f6), (mv mo_is hk f7), (fun _ => stored_new hp hsrc (NEW.over2 hBb hblk px pa pn pc)), (fun h => (f9 h).other2 (fun ee => ((d8_9 (by simp [haf]) h).symm) (ee.trans hp.symm)) _ _), (mv mo_is hk f12), (fun _ => by simp [haf]), s11, (fun _ => by simp [haf]), m9, d8_9⟩
        refine StepsU.run rfl ?_ ?_
        · intro L U wr hF hlk haf A K hA hK
          have HA : Hid (A = putAll _ _ U) := hA
          clear hA
          simp [Aft, Region.binds] at haf
          obtain ⟨fb, fk, fs, oD, f0, f1, f2, f3, f4, f5, f6, f7, f8, f9, f12, s10, s11, m8, m9, d8_9⟩ := hF
          have g6 := f6 (by simp [haf])
          obtain ⟨px, pa, pn, pc, hsrc⟩ := AInt.shape g6
          have e134 := rd HA.out 134 (by kernel_rfl) hsrc
          have gA := f9 (by simp [haf])
          simp only [hlk, cond_false] at gA
          obtain ⟨b, cs, hp, hBb, hcs, hblk, -⟩ := gA
          injection hcs with hcs
          subst hcs
          have e21 := rd HA.out 21 (by kernel_rfl) hp
          obtain ⟨c0, c1, q0, q1⟩ := hblk.two
          refine ⟨?_⟩
          go_simp
          have hk := keepI_two hblk px pa pn pc
          refine hK U _ _ ?_ ?_
          · exact HA.out
          · exact ⟨(below_store2 fb (Nat.le_trans hbw.size hBb) _ _), (fk.trans hk), (by simpa using fs), (oD.other2 (Nat.ne_of_gt (Nat.lt_of_lt_of_le ltD hBb)) _ _), (mv mo_is hk f0), (mv mo_int hk f1), (mv mo_is hk f2), (mv (mo_t3 mo_int mo_int mo_is) hk f3), (mv (mo_t3 mo_int mo_int mo_is) hk f4), (mv mo_int hk f5), (mv mo_int hk f6), (mv mo_is hk f7), (fun h => (f8 h).other2 (fun ee => (d8_9 h (by simp [haf])) (ee.trans hp.symm)) _ _), (fun _ => stored_new hp hsrc (NEW.over2 hBb hblk px pa pn pc)), (mv mo_is hk f12), s10, (fun _ => by simp [haf]), m8, (fun _ => by simp [haf]), d8_9⟩
        refine StepsU.run rfl ?_ StepsU.nil
        · intro L U wr hF hlk haf A K hA hK
          have HA : Hid (A = putAll _ _ U) := hA
          clear hA
          simp [Aft, Region.binds] at haf
          obtain ⟨fb, fk, fs, oD, f0, f1, f2, f3, f4, f5, f6, f7, f8, f9, f12, s10, s11, m8, m9, d8_9⟩ := hF
          have g7 := f7 (by simp [haf])
          have e135 := rd HA.out 135 (by kernel_rfl) rfl
          refine ⟨?_⟩
          go_simp
          refine hK (upd U 22 (U 135)) _ _ ?_ ?_
          · rw [HA.out]; kernel_rfl
          · exact ⟨fb, fk, fs, oD, f0, f1, f2, f3, f4, f5, f6, f7, f8, f9, (fun _ => g7), s10, s11, m8, m9, d8_9⟩
      intro L U9 W9 hall hF
      have hbw0 := hbw
      clear hbw
      obtain ⟨hbw, fk, fs, oD, f0, f1, f2, f3, f4, f5, f6, f7, f8, f9, f12, s10, s11, m8, m9, d8_9⟩ := hF
      clear s10 s11 m8 m9
      have g0 := f0 (hall 0 (by decide))
      have g1 := f1 (hall 1 (by decide))
      have g2 := f2 (hall 2 (by decide))
      have g3 := f3 (hall 3 (by decide))
      have g4 := f4 (hall 4 (by decide))
      have g5 := f5 (hall 5 (by decide))
      have g6 := f6 (hall 6 (by decide))
      have g7 := f7 (hall 7 (by decide))
      have g8 := f8 (hall 8 (by decide))
      rw [hall 10 (by decide), cond_true] at g8
      have g9 := f9 (hall 9 (by decide))
      rw [hall 11 (by decide), cond_true] at g9
      have g12 := f12 (hall 12 (by decide))
      replace d8_9 := d8_9 (hall 8 (by decide)) (hall 9 (by decide))
      clear hall f0 f1 f2 f3 f4 f5 f6 f7 f8 f9 f12
      obtain ⟨bQ, csQ, hpQ, lbQ, hcsQ, oQ, -⟩ := g8
      obtain ⟨xQ, aQ, nQ, cQ, hvQ⟩ := AInt.shape g5
      have hQ : AInt _ _ _ := g5
      rw [hvQ] at hQ
      rw [hvQ] at hcsQ
      injection hcsQ with hcsQ
      subst hcsQ
      have ltQ := oQ.lt
      obtain ⟨bR, csR, hpR, lbR, hcsR, oR, -⟩ := g9
      obtain ⟨xR, aR, nR, cR, hvR⟩ := AInt.shape g6
      have hR : AInt _ _ _ := g6
      rw [hvR] at hR
      rw [hvR] at hcsR
      injection hcsR with hcsR
      subst hcsR
      have ltR := oR.lt
      have neQR : bQ ≠ bR := fun h => d8_9 (by rw [hpQ, hpR, h])
      clear d8_9
      have neDQ : bD ≠ bQ := Nat.ne_of_lt (Nat.lt_of_lt_of_le ltD lbQ)
      have lwQ : w.heap.size ≤ bQ := Nat.le_trans hbw0.size lbQ
      have neDR : bD ≠ bR := Nat.ne_of_lt (Nat.lt_of_lt_of_le ltD lbR)
      have lwR : w.heap.size ≤ bR := Nat.le_trans hbw0.size lbR
      clear lbQ lbR
      replace ltD := Nat.lt_of_lt_of_le ltD fs
      clear g0
      clear g1
      clear g2
      clear g3
      clear g4
      clear g5
      clear g6
      clear g7
      clear hbw0
      simp only [setM_some, setM_none, setM_nil]
      rw [hpQ, hpR]
      clear hpQ hpR hvQ hvR
      have e22 : U9 22 = .int .i64 0 := g12
      rw [e22]
      obtain ⟨sg, HSG⟩ : ∃ z, Hid (zr.sign = z) := ⟨_, rfl⟩
      have hsb : (sg == 0) = B := by
        rw [← HSG.out, ← HBG.out, ← HZR.out, Bool.eq_iff_iff]
        simp only [beq_iff_eq, decide_eq_true_eq, Int.sign_eq_zero_iff_zero]
        rw [Int.fmod_eq_emod_of_nonneg _ (by omega), ← Int.natCast_emod]
        constructor
        · intro h9; exact Nat.dvd_of_mod_eq_zero (by omega)
        · intro h9; rw [Nat.mod_eq_zero_of_dvd h9]; rfl
      obtain ⟨c0, c1, -, -⟩ := oR.two
      have HR9 : Hid _ := And.intro hR hbw
      clear e22 g12 hR hbw oR oQ hQ oD hD HGP HZQ HZR
      go_wp2_with fail
      refine (sgn0 _ zr sg _ HR9.out.1 HSG.out).mono ?_
      rintro e w9 ⟨rfl, hb9⟩
      have HB9 : Hid (Below w.heap.size w w9) := HR9.out.2.trans (hb9.mono HR9.out.2.size)
      clear hb9 c0 c1
      go_wp2
      go_ret
      exact ⟨by simp, HB9.out⟩

end Euf
theorem topGcd_any (n m k : Int) (w : World) {p q r : Prop} (hp : p) (hq : q) (hr : r) :
    Calls Try.prog 6 #[.int .i64 n, .int .i64 m, .int .i64 k] w fun e w' => e = .returned (.bool true) ∧ Below w.heap.size w w' := by
  by_cases h : n < 1 ∨ m < 1 ∨ k < 0 ∨ 60 < n ∨ 60 < m ∨ 120 < k
  · exact Euf.topGcd_bad n m k w h
  · obtain ⟨n, rfl⟩ : ∃ n' : Nat, n = n' := ⟨n.toNat, by omega⟩
    obtain ⟨m, rfl⟩ : ∃ m' : Nat, m = m' := ⟨m.toNat, by omega⟩
    obtain ⟨k, rfl⟩ : ∃ k' : Nat, k = k' := ⟨k.toNat, by omega⟩
    exact Euf.topGcd_good n m k w (by omega) (by omega) (by omega) (by omega) (by omega)
end Go.Proofs.Ytlonnhnfmcndfad
