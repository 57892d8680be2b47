/- The contract of climb; it proves no statement of the seat. -/
import Derived.Test.YtlonnhnfmcndfacEufAnJTerms
import Derived.Test.YtlonnhnfmcndfacJoin2Terms
import Derived.Deep.DeepCutAuto
namespace Go.Proofs.Ytlonnhnfmcndfac
open Go.RowKit
set_option linter.unusedVariables false
namespace Euf
theorem uIntsE : Try.prog.underlying 31 = some (.slice 3) := by kernel_rfl
theorem iIntE : (Try.prog.info? 3).map (fun i => (i.zero, i.size, i.bytes)) = some (some (.int .i64 0), 1, 8) := by kernel_rfl
/-- All that climbing goes by. -/
structure KX (w : World) (p g : Nat) (x : Ax) (c : Ac) (d : Gd) (ex : Nat × Nat → Prop) : Prop where
  e : EX w p g x c d
  k : Know d.f d.s c ex
structure KI (d : Gd) (H : List Claim) : Prop where
  inv : Inv d.f.np d.f.P d.s.ns d.s.S d.s.sg [] []
  hist : Hist d.f d.m d.s.ns d.s.S [] H
def Fx2 (x x' : Ax) (n : Nat) : Prop := x'.bS = x.bS ∧ x'.bA = x.bA ∧ (x'.vW.ownBlock = x.vW.ownBlock ∨ ∃ q, x'.vW.ownBlock = some q ∧ n ≤ q) ∧ (x'.vE.ownBlock = x.vE.ownBlock ∨ ∃ q, x'.vE.ownBlock = some q ∧ n ≤ q)
theorem Fx2.refl (x : Ax) (n : Nat) : Fx2 x x n := ⟨rfl, rfl, Or.inl rfl, Or.inl rfl⟩
theorem Fx2.trans {x x' x'' : Ax} {n n' : Nat} (h : Fx2 x x' n) (k : Fx2 x' x'' n') (hn : n ≤ n') : Fx2 x x'' n := by
  refine ⟨k.1.trans h.1, k.2.1.trans h.2.1, ?_, ?_⟩
  · rcases k.2.2.1 with e | ⟨q, e1, e2⟩
    · rw [e]; exact h.2.2.1
    · exact Or.inr ⟨q, e1, by omega⟩
  · rcases k.2.2.2 with e | ⟨q, e1, e2⟩
    · rw [e]; exact h.2.2.2
    · exact Or.inr ⟨q, e1, by omega⟩
theorem Fx2.fy {x x' : Ax} {n p : Nat} (h : Fx2 x x' n) : ∀ b, Fy p x' b → Fy p x b ∨ n ≤ b := by
  rintro b (hb | hb | hb | hb | hb)
  · exact Or.inl (Or.inl hb)
  · exact Or.inl (Or.inr (Or.inl (hb.trans h.1)))
  · exact Or.inl (Or.inr (Or.inr (Or.inl (hb.trans h.2.1))))
  · rcases h.2.2.1 with e | ⟨q, e1, e2⟩
    · exact Or.inl (Or.inr (Or.inr (Or.inr (Or.inl (e.symm.trans hb)))))
    · right
      have := e1.symm.trans hb
      injection this with this
      omega
  · rcases h.2.2.2 with e | ⟨q, e1, e2⟩
    · exact Or.inl (Or.inr (Or.inr (Or.inr (Or.inr (e.symm.trans hb)))))
    · right
      have := e1.symm.trans hb
      injection this with this
      omega
/-- What a step of climbing asks for or writes down. -/
def StepC (s : Sx) (f : Fx) (R y : Nat) (c c2 : Ac) : Prop :=
  ((∀ q, c.se q = true → c2.se q = true) ∧ (∀ q ∈ c.wt, q ∈ c2.wt) ∧ c2.ab = c.ab ∧ (∀ q, c2.se q = true → c.se q = true ∨ (q.1 < s.ns ∧ q.2 < s.ns ∧ (∃ r, Anc s.S q.1 r ∧ Anc s.S q.2 r) ∧ q ∈ c2.wt)) ∧ (∀ q ∈ c2.wt, c2.se q = true)) ∧
  (((s.S R).why = -1 ∧ c2.eq = c.eq ∧ Asked c2.se (f.P R).front.toNat (f.P y).front.toNat ∧ Asked c2.se (f.P R).arg.toNat (f.P y).arg.toNat) ∨ ((s.S R).why ≠ -1 ∧ c2.eq = c.eq ++ [(s.S R).why])) ∧ c2.wt.length ≤ c.wt.length + 2
/-- What 'climb' leaves. -/
def ClimbEnd (p g : Nat) (x : Ax) (c : Ac) (d : Gd) (ex : Nat × Nat → Prop) (i M : Nat) (w w' : World) : Prop :=
  ∃ (x' : Ax) (c' : Ac), KX w' p g x' c' d ex ∧ Up d.s.S (AbG c'.ab) i M ∧ ¬ AbG c'.ab M ∧ (∀ k, AbG c.ab k → AbG c'.ab k) ∧ (∀ q, c.se q = true → c'.se q = true) ∧ mes d.s.ns c' ≤ mes d.s.ns c ∧ Mv (Fy p x) w w' ∧ Fx2 x x' w.heap.size

set_option maxRecDepth 20000 in
set_option maxHeartbeats 32000000 in
theorem climb_any (p g : Nat) (x : Ax) (c : Ac) (d : Gd) (ex : Nat × Nat → Prop) (H : List Claim) (i M : Nat) (w : World) (h : KX w p g x c d ex) (hK : KI d H) (hi : i < d.s.ns) (hM : M < d.s.ns) (hAM : Anc d.s.S i M) (hGM : ¬ AbG c.ab M) (hmes : mes d.s.ns c ≤ 100000) :
    Calls Try.prog 35 #[.pointer (some ⟨p, 0, none⟩), .int .i64 (i : Nat), .int .i64 (M : Nat)] w fun e w' => e = .returned (.tuple #[]) ∧ ClimbEnd p g x c d ex i M w w' := by
  have HK : Hid (KI d H) := hK
  have HX : Hid (KX w p g x c d ex) := h
  have HIM : Hid (Anc d.s.S i M ∧ ¬ AbG c.ab M ∧ mes d.s.ns c ≤ 100000) := ⟨hAM, hGM, hmes⟩
  obtain ⟨n0, hn0⟩ := hK.inv.ups i hi
  have HN0 : Hid (Ups d.s.S (i : Int) n0) := hn0
  have hN := h.e.aw.small
  obtain ⟨q0, -, -, -, -⟩ := h.e.aw.cells
  obtain ⟨-, -, -, -, c4, -, -, -, -, -⟩ := h.e.gw.cw.cells
  obtain ⟨gp, cp, hvp, hgp, -⟩ := h.e.gw.cw.part (i := i) (Nat.lt_of_lt_of_le hi h.e.gw.cw.small.2)
  rw [hvp] at c4
  have HVP : Hid (d.x.vP = .slice (some ⟨gp, 0, none⟩) d.f.np cp) := hvp
  have hpl := h.e.aw.lt
  have hgl := h.e.gw.cw.lt
  clear h hK hAM hGM hmes hn0 hvp
  go_enter Try.func35, Try.ntmps35
  go_wp2_with fail
  refine (top_any d.s.S p g x c d.s.ns i n0 w HX.out.e.aw HX.out.k.ab hi HN0.out).mono ?_
  rintro e w1 ⟨R0, rfl, hT⟩
  obtain ⟨t1, t2, t3, ab1, hE1, t5, t6, hM1⟩ := hT.ex HX.out.e
  obtain ⟨nR, HNR⟩ : ∃ nR, Hid (Ups d.s.S (R0 : Int) nR) := by
    obtain ⟨m, hm, _⟩ := t2.short HN0.out
    exact ⟨m, hm⟩
  have HT : Hid (R0 < d.s.ns ∧ Up d.s.S (AbG ab1) i R0 ∧ ¬ AbG ab1 R0 ∧ Anc d.s.S R0 M ∧ ¬ AbG ab1 M ∧ (∀ k, AbG c.ab k → AbG ab1 k) ∧ KX w1 p g x { c with ab := ab1 } d ex ∧ mes d.s.ns { c with ab := ab1 } ≤ mes d.s.ns c ∧ Mv (Fy p x) w w1) := by
    refine ⟨t1, t2.mono (fun k hk => (t6 k).2 hk), fun h9 => t3 ((t6 R0).1 h9), first_below ⟨n0, HN0.out⟩ HIM.out.1 HIM.out.2.1 t2 t3, fun h9 => HIM.out.2.1 ((t6 M).1 h9), fun k hk => (t6 k).2 hk, ⟨hE1, HX.out.k.table t5 t6⟩, ?_, ⟨hM1.os, hM1.tape, hM1.output, hM1.size, fun b hb hn => hM1.other b hb (fun e => hn (Or.inr (Or.inr (Or.inl e))))⟩⟩
    show c.wt.length + 2 * (d.s.ns - gc d.s.ns ab1) ≤ _
    rw [gc_congr t6]; exact Nat.le_refl _
  clear hT t1 t2 t3 t5 t6 hM1 hE1 hpl hgl q0 c4 hgp
  go_wp2
  go_loopg [1] nR (fun gk v1 wr => ∃ (R : Nat) (x' : Ax) (c' : Ac), v1 = .int .i64 (R : Nat) ∧ Hid (Ups d.s.S (R : Int) gk ∧ R < d.s.ns ∧ Up d.s.S (AbG c'.ab) i R ∧ ¬ AbG c'.ab R ∧ Anc d.s.S R M ∧ ¬ AbG c'.ab M ∧ (∀ k, AbG c.ab k → AbG c'.ab k) ∧ (∀ q, c.se q = true → c'.se q = true) ∧ KX wr p g x' c' d ex ∧ mes d.s.ns c' ≤ mes d.s.ns c ∧ Mv (Fy p x) w wr ∧ Fx2 x x' w.heap.size))
  case atStart =>
    obtain ⟨t1, t2, t3, t4, t5, t6, t7, t8, t9⟩ := HT.out
    exact ⟨R0, x, { c with ab := ab1 }, rfl, HNR.out, t1, t2, t3, t4, t5, t6, fun q hq => hq, t7, t8, t9, Fx2.refl _ _⟩
  case round =>
    clear HT HNR
    rename World => wl
    obtain ⟨R, x', c', rfl, HR⟩ := hrel
    by_cases hRM : R = M
    · subst hRM
      go_wp2
      go_end0
      obtain ⟨r1, r2, r3, r4, r5, r6, r7, r8, r9, r10, r11, r12⟩ := HR.out
      exact ⟨rfl, x', c', r9, r3, r4, r7, r8, r10, r11, r12⟩
    · have hRI : ¬ ((R : Int) = (M : Int)) := by omega
      obtain ⟨y, HY⟩ : ∃ y : Nat, Hid ((d.s.S R).up = (y : Int) ∧ y < d.s.ns ∧ Anc d.s.S y M) := by
        have h9 := HR.out.2.2.2.2.1
        cases h9 with
        | refl => exact absurd rfl hRM
        | @step _ y _ _ k2 k3 =>
          have h8 := HK.out.inv.upc R HR.out.2.1 (by omega)
          rw [k2] at h8
          exact ⟨y, k2, by simpa using h8.2.1, k3⟩
      clear hRM
      have hRn := HR.out.2.1
      have hyn := HY.out.2.1
      have hKX := HR.out.2.2.2.2.2.2.2.2.1
      obtain ⟨q0, -, -, -, -⟩ := hKX.e.aw.cells
      obtain ⟨gs, cap, hv, hc1, hc2⟩ := hKX.e.gw.cw.spotsAt hRn
      obtain ⟨-, -, -, -, -, -, -, c7, -, -⟩ := hKX.e.gw.cw.cells
      rw [hv] at c7
      obtain ⟨f0, f1, f2, f3, f4, f5, f6⟩ := hKX.e.gw.cw.spot hv hRn
      rw [HY.out.1] at f2
      obtain ⟨au, ca, hau, -, -, -, -⟩ := (hKX.e.gw.cw.uses R hRn).shape
      rw [hau] at f6
      have hpl := hKX.e.aw.lt
      have hgl := hKX.e.gw.cw.lt
      have hgs := hKX.e.gw.cw.ltS hv
      have hRnI : (R : Int) < (d.s.ns : Int) := by omega
      obtain ⟨wy, hwy⟩ : ∃ wy, wy = (d.s.S R).why := ⟨_, rfl⟩
      rw [← hwy] at f3
      have HWY : Hid ((d.s.S R).why = wy) := hwy.symm
      have HKX : Hid (KX wl p g x' c' d ex) := hKX
      obtain ⟨V, hV⟩ : ∃ V, V = wl.alloc (.cells #[.int .i64 ((d.s.S R).cls : Nat), .int .i64 ((d.s.S R).next : Nat), .int .i64 (y : Int), .int .i64 wy, .int .i64 ((d.s.S R).size : Nat), .int .i64 (d.s.S R).least, .slice au (d.s.S R).uses.length ca] 69 (0, 0)) := ⟨_, rfl⟩
      have hbV : Below wl.heap.size wl V := by rw [hV]; exact (Below.refl _ _).alloc (Nat.le_refl _) _
      have kV := heap_alloc_new wl (.cells #[.int .i64 ((d.s.S R).cls : Nat), .int .i64 ((d.s.S R).next : Nat), .int .i64 (y : Int), .int .i64 wy, .int .i64 ((d.s.S R).size : Nat), .int .i64 (d.s.S R).least, .slice au (d.s.S R).uses.length ca] 69 (0, 0))
      rw [← hV] at kV
      have v2 : V.cell? ⟨wl.heap.size, 2, none⟩ = some (.int .i64 (y : Nat)) := cell_of_row _ wl.heap.size 2 _ 69 (0, 0) kV
      have v3 : V.cell? ⟨wl.heap.size, 3, none⟩ = some (.int .i64 wy) := cell_of_row _ wl.heap.size 3 _ 69 (0, 0) kV
      have hvl : wl.heap.size < V.heap.size := (Array.getElem?_eq_some_iff.1 kV).1
      have HV : Hid (KX V p g x' c' d ex) := ⟨HKX.out.e.below hbV, HKX.out.k⟩
      have HVC : Hid (V.cell? ⟨wl.heap.size, 2, none⟩ = some (.int .i64 (y : Nat)) ∧ V.cell? ⟨wl.heap.size, 3, none⟩ = some (.int .i64 wy) ∧ wl.heap.size < V.heap.size ∧ Below wl.heap.size wl V) := ⟨v2, v3, hvl, hbV⟩
      clear hKX hv hau hwy kV v2 v3
      go_upto_if 37 with fail
      rw [← hV]
      clear hV q0 c7 f0 f1 f2 f3 f4 f5 f6 hpl hgl hgs hbV hvl
      go_cut [1, 7] (fun v1 v7 wx => v1 = .int .i64 (R : Nat) ∧ v7 = .pointer (some ⟨wl.heap.size, 0, none⟩) ∧ ∃ (x2 : Ax) (c2 : Ac), Hid (EX wx p g x2 c2 d ∧ StepC d.s d.f R y c' c2 ∧ Mv (Fy p x') V wx ∧ Fx2 x' x2 V.heap.size))
      case first =>
        by_cases hw1 : wy = -1
        · subst hw1
          obtain ⟨M1, M2, M3, M4⟩ := edge_made HK.out.hist hRn hyn HY.out.1 HWY.out
          obtain ⟨o1, o2, o3, o4⟩ := HK.out.inv.parts.made (Nat.lt_of_lt_of_le hRn HK.out.inv.le) M1
          obtain ⟨o5, o6, o7, o8⟩ := HK.out.inv.parts.made (Nat.lt_of_lt_of_le hyn HK.out.inv.le) M2
          obtain ⟨fr, hfr⟩ : ∃ n : Nat, (d.f.P R).front = (n : Int) := ⟨_, (Int.toNat_of_nonneg o1).symm⟩
          obtain ⟨ar, har⟩ : ∃ n : Nat, (d.f.P R).arg = (n : Int) := ⟨_, (Int.toNat_of_nonneg o3).symm⟩
          obtain ⟨fy, hfy⟩ : ∃ n : Nat, (d.f.P y).front = (n : Int) := ⟨_, (Int.toNat_of_nonneg o5).symm⟩
          obtain ⟨ay, hay⟩ : ∃ n : Nat, (d.f.P y).arg = (n : Int) := ⟨_, (Int.toNat_of_nonneg o7).symm⟩
          rw [hfr, hfy, Int.toNat_natCast, Int.toNat_natCast] at M3
          rw [har, hay, Int.toNat_natCast, Int.toNat_natCast] at M4
          have hfl := HK.out.inv.frontLt hRn M1
          have hyl := HK.out.inv.frontLt hyn M2
          rw [hfr, har, Int.toNat_natCast, Int.toNat_natCast] at hfl
          rw [hfy, hay, Int.toNat_natCast, Int.toNat_natCast] at hyl
          have HPQ : Hid ((d.f.P R).front = (fr : Int) ∧ (d.f.P R).arg = (ar : Int) ∧ (d.f.P y).front = (fy : Int) ∧ (d.f.P y).arg = (ay : Int) ∧ (∃ r, Anc d.s.S fr r ∧ Anc d.s.S fy r) ∧ (∃ r, Anc d.s.S ar r ∧ Anc d.s.S ay r)) := ⟨hfr, har, hfy, hay, M3, M4⟩
          have hRp : (R : Int) < (d.f.np : Int) := by have := HK.out.inv.le; omega
          have hyp : (y : Int) < (d.f.np : Int) := by have := HK.out.inv.le; omega
          have HPM : Hid (∀ w9 x9 c9, EX w9 p g x9 c9 d → w9.cell? ⟨gp, R * 3, none⟩ = some (.int .i64 (fr : Nat)) ∧ w9.cell? ⟨gp, R * 3 + 1, none⟩ = some (.int .i64 (ar : Nat)) ∧ w9.cell? ⟨gp, y * 3, none⟩ = some (.int .i64 (fy : Nat)) ∧ w9.cell? ⟨gp, y * 3 + 1, none⟩ = some (.int .i64 (ay : Nat))) := by
            intro w9 x9 c9 h9
            obtain ⟨gp1, cp1, e1, -, e2, e3, -⟩ := h9.gw.cw.part (i := R) (by omega)
            obtain ⟨gp2, cp2, e4, -, e5, e6, -⟩ := h9.gw.cw.part (i := y) (by omega)
            rw [HVP.out] at e1 e4
            injection e1 with e1 _ _
            injection e1 with e1
            injection e1 with e1 _ _
            injection e4 with e4 _ _
            injection e4 with e4
            injection e4 with e4 _ _
            subst e1 e4
            rw [HPQ.out.1] at e2
            rw [HPQ.out.2.1] at e3
            rw [HPQ.out.2.2.1] at e5
            rw [HPQ.out.2.2.2.1] at e6
            exact ⟨e2, e3, e5, e6⟩
          have hfrn := hfl.1
          have harn := hfl.2
          have hfyn := hyl.1
          have hayn := hyl.2
          have HWL : Hid (c'.wt.length ≤ 100000) := by
            have h9 := HR.out.2.2.2.2.2.2.2.2.2.1
            have h8 := HIM.out.2.2
            have h7 : mes d.s.ns c' = c'.wt.length + 2 * (d.s.ns - gc d.s.ns c'.ab) := rfl
            show _ ≤ _
            omega
          have HE : Hid (EX V p g x' c' d) := HV.out.e
          have HS2 : Hid (V.cell? ⟨wl.heap.size, 2, none⟩ = some (.int .i64 (y : Nat)) ∧ wl.heap.size < V.heap.size) := ⟨HVC.out.1, HVC.out.2.2.1⟩
          clear o1 o2 o3 o4 o5 o6 o7 o8 hfr har hfy hay hfl hyl M1 M2 M3 M4
          go_wp2
          refine wp_region_E (by kernel_rfl) [some 38, some 39, some 40, some 41, some 42, some 43, some 44, some 45, some 46, some 47, some 48, some 49, some 50] [none, none, none, none, none, none, none, none, none, none, none, none, none, none, none, none, none, none, none, none, none, none, none, none, none, none, none, none, none, none, none, none, none, none, none, none, none, none, some 38, some 39, some 40, some 41, some 42, some 43, some 44, some 45, some 46, some 47, some 48, some 49, some 50] (fun U => by kernel_rfl) [fun u => u = (.pointer (some ⟨p, 0, none⟩)), fun u => u = (.slice (some ⟨gp, 0, none⟩) d.f.np cp), fun u => u = (.int .i64 (R : Nat)), fun u => u = (.pointer (some ⟨gp, R * 3, none⟩)), fun u => u = (.pointer (some ⟨gp, R * 3, none⟩)), fun u => u = (.int .i64 (fr : Nat)), fun u => u = (.slice (some ⟨gp, 0, none⟩) d.f.np cp), fun u => u = (.pointer (some ⟨wl.heap.size, 2, none⟩)), fun u => u = (.int .i64 (y : Nat)), fun u => u = (.pointer (some ⟨gp, y * 3, none⟩)), fun u => u = (.pointer (some ⟨gp, y * 3, none⟩)), fun u => u = (.int .i64 (fy : Nat)), fun u => u = (.tuple #[])] (fun L U wr => (L 12 = false → Below V.heap.size V wr) ∧ (L 12 = true → (L 0 = true ∧ L 1 = true ∧ L 2 = true ∧ L 3 = true ∧ L 4 = true ∧ L 5 = true ∧ L 6 = true ∧ L 7 = true ∧ L 8 = true ∧ L 9 = true ∧ L 10 = true ∧ L 11 = true) ∧ AskEnd p g (x') (c') d fr fy V wr)) (by kernel_rfl) (by decide) (by kernel_rfl) (by kernel_rfl) ?_ ?_ ?_
          · exact fun U => ⟨fun _ => (Below.refl _ _).drew, (fun h => by cases h)⟩
          · refine StepsE.run rfl ?_ ?_
            · intro L U wr hC hP hlk hcl haf A K hFm hK
              simp [Aft, Region.binds] at haf
              have e0 : A.tmps[0]? = some (.pointer (some ⟨p, 0, none⟩)) := (hFm.old 0 (by decide)).trans (by kernel_rfl)
              have HC : Hid _ := hC
              clear hC
              refine ⟨?_⟩
              go_simp
              refine hK _ _ rfl ?_
              obtain ⟨c0, cS⟩ := HC.out
              refine ⟨fun h => c0 (by simpa using h), fun h => ?_⟩
              have h9 := cS (by simpa using h)
              exact ⟨by simp [h9.1], h9.2⟩
            refine StepsE.run rfl ?_ ?_
            · intro L U wr hC hP hlk hcl haf A K hFm hK
              simp [Aft, Region.binds] at haf
              have e6 : A.tmps[6]? = some (.slice (some ⟨gp, 0, none⟩) d.f.np cp) := (hFm.old 6 (by decide)).trans (by kernel_rfl)
              have HC : Hid _ := hC
              clear hC
              refine ⟨?_⟩
              go_simp
              refine hK _ _ rfl ?_
              obtain ⟨c0, cS⟩ := HC.out
              refine ⟨fun h => c0 (by simpa using h), fun h => ?_⟩
              have h9 := cS (by simpa using h)
              exact ⟨by simp [h9.1], h9.2⟩
            refine StepsE.run rfl ?_ ?_
            · intro L U wr hC hP hlk hcl haf A K hFm hK
              simp [Aft, Region.binds] at haf
              have e1 : A.tmps[1]? = some (.int .i64 (R : Nat)) := (hFm.old 1 (by decide)).trans (by kernel_rfl)
              have HC : Hid _ := hC
              clear hC
              refine ⟨?_⟩
              go_simp
              refine hK _ _ rfl ?_
              obtain ⟨c0, cS⟩ := HC.out
              refine ⟨fun h => c0 (by simpa using h), fun h => ?_⟩
              have h9 := cS (by simpa using h)
              exact ⟨by simp [h9.1], h9.2⟩
            refine StepsE.run rfl ?_ ?_
            · intro L U wr hC hP hlk hcl haf A K hFm hK
              simp [Aft, Region.binds] at haf
              have g1 : U 39 = (.slice (some ⟨gp, 0, none⟩) d.f.np cp) := hP 1 39 (by simp [haf]) rfl
              have e39 : A.tmps[39]? = some (.slice (some ⟨gp, 0, none⟩) d.f.np cp) := hFm.is 1 39 rfl g1
              have g2 : U 40 = (.int .i64 (R : Nat)) := hP 2 40 (by simp [haf]) rfl
              have e40 : A.tmps[40]? = some (.int .i64 (R : Nat)) := hFm.is 2 40 rfl g2
              have HC : Hid _ := hC
              clear hC
              refine ⟨?_⟩
              go_simp
              refine hK _ _ rfl ?_
              obtain ⟨c0, cS⟩ := HC.out
              refine ⟨fun h => c0 (by simpa using h), fun h => ?_⟩
              have h9 := cS (by simpa using h)
              exact ⟨by simp [h9.1], h9.2⟩
            refine StepsE.run rfl ?_ ?_
            · intro L U wr hC hP hlk hcl haf A K hFm hK
              simp [Aft, Region.binds] at haf
              have g3 : U 41 = (.pointer (some ⟨gp, R * 3, none⟩)) := hP 3 41 (by simp [haf]) rfl
              have e41 : A.tmps[41]? = some (.pointer (some ⟨gp, R * 3, none⟩)) := hFm.is 3 41 rfl g3
              have HC : Hid _ := hC
              clear hC
              refine ⟨?_⟩
              go_simp
              refine hK _ _ rfl ?_
              obtain ⟨c0, cS⟩ := HC.out
              refine ⟨fun h => c0 (by simpa using h), fun h => ?_⟩
              have h9 := cS (by simpa using h)
              exact ⟨by simp [h9.1], h9.2⟩
            refine StepsE.run rfl ?_ ?_
            · intro L U wr hC hP hlk hcl haf A K hFm hK
              simp [Aft, Region.binds] at haf
              have g4 : U 42 = (.pointer (some ⟨gp, R * 3, none⟩)) := hP 4 42 (by simp [haf]) rfl
              have e42 : A.tmps[42]? = some (.pointer (some ⟨gp, R * 3, none⟩)) := hFm.is 4 42 rfl g4
              have n12 : L 12 = false := by cases h : L 12 with | false => rfl | true => have h9 := hcl 12 _ rfl h; simp [Aft, Region.binds, hlk] at h9
              have hb8 := hC.1 n12
              obtain ⟨m1, m2, m3, m4⟩ := HPM.out wr _ _ (HE.out.below hb8)
              have m5 := (hb8.cell (p := ⟨wl.heap.size, 2, none⟩) HS2.out.2).trans HS2.out.1
              clear hb8 n12
              have HC : Hid _ := hC
              clear hC
              refine ⟨?_⟩
              go_simp
              refine hK _ _ rfl ?_
              obtain ⟨c0, cS⟩ := HC.out
              refine ⟨fun h => c0 (by simpa using h), fun h => ?_⟩
              have h9 := cS (by simpa using h)
              exact ⟨by simp [h9.1], h9.2⟩
            refine StepsE.run rfl ?_ ?_
            · intro L U wr hC hP hlk hcl haf A K hFm hK
              simp [Aft, Region.binds] at haf
              have e6 : A.tmps[6]? = some (.slice (some ⟨gp, 0, none⟩) d.f.np cp) := (hFm.old 6 (by decide)).trans (by kernel_rfl)
              have HC : Hid _ := hC
              clear hC
              refine ⟨?_⟩
              go_simp
              refine hK _ _ rfl ?_
              obtain ⟨c0, cS⟩ := HC.out
              refine ⟨fun h => c0 (by simpa using h), fun h => ?_⟩
              have h9 := cS (by simpa using h)
              exact ⟨by simp [h9.1], h9.2⟩
            refine StepsE.run rfl ?_ ?_
            · intro L U wr hC hP hlk hcl haf A K hFm hK
              simp [Aft, Region.binds] at haf
              have e7 : A.tmps[7]? = some (.pointer (some ⟨wl.heap.size, 0, none⟩)) := (hFm.old 7 (by decide)).trans (by kernel_rfl)
              have HC : Hid _ := hC
              clear hC
              refine ⟨?_⟩
              go_simp
              refine hK _ _ rfl ?_
              obtain ⟨c0, cS⟩ := HC.out
              refine ⟨fun h => c0 (by simpa using h), fun h => ?_⟩
              have h9 := cS (by simpa using h)
              exact ⟨by simp [h9.1], h9.2⟩
            refine StepsE.run rfl ?_ ?_
            · intro L U wr hC hP hlk hcl haf A K hFm hK
              simp [Aft, Region.binds] at haf
              have g7 : U 45 = (.pointer (some ⟨wl.heap.size, 2, none⟩)) := hP 7 45 (by simp [haf]) rfl
              have e45 : A.tmps[45]? = some (.pointer (some ⟨wl.heap.size, 2, none⟩)) := hFm.is 7 45 rfl g7
              have n9 : L 9 = false := by cases h : L 9 with | false => rfl | true => have h9 := hcl 9 _ rfl h; simp [Aft, Region.binds, hlk] at h9
              have n10 : L 10 = false := by cases h : L 10 with | false => rfl | true => have h9 := hcl 10 _ rfl h; simp [Aft, Region.binds, n9] at h9
              have n11 : L 11 = false := by cases h : L 11 with | false => rfl | true => have h9 := hcl 11 _ rfl h; simp [Aft, Region.binds, n10] at h9
              have n12 : L 12 = false := by cases h : L 12 with | false => rfl | true => have h9 := hcl 12 _ rfl h; simp [Aft, Region.binds, n11] at h9
              have hb8 := hC.1 n12
              obtain ⟨m1, m2, m3, m4⟩ := HPM.out wr _ _ (HE.out.below hb8)
              have m5 := (hb8.cell (p := ⟨wl.heap.size, 2, none⟩) HS2.out.2).trans HS2.out.1
              clear hb8 n9 n10 n11 n12
              have HC : Hid _ := hC
              clear hC
              refine ⟨?_⟩
              go_simp
              refine hK _ _ rfl ?_
              obtain ⟨c0, cS⟩ := HC.out
              refine ⟨fun h => c0 (by simpa using h), fun h => ?_⟩
              have h9 := cS (by simpa using h)
              exact ⟨by simp [h9.1], h9.2⟩
            refine StepsE.run rfl ?_ ?_
            · intro L U wr hC hP hlk hcl haf A K hFm hK
              simp [Aft, Region.binds] at haf
              have g6 : U 44 = (.slice (some ⟨gp, 0, none⟩) d.f.np cp) := hP 6 44 (by simp [haf]) rfl
              have e44 : A.tmps[44]? = some (.slice (some ⟨gp, 0, none⟩) d.f.np cp) := hFm.is 6 44 rfl g6
              have g8 : U 46 = (.int .i64 (y : Nat)) := hP 8 46 (by simp [haf]) rfl
              have e46 : A.tmps[46]? = some (.int .i64 (y : Nat)) := hFm.is 8 46 rfl g8
              have HC : Hid _ := hC
              clear hC
              refine ⟨?_⟩
              go_simp
              refine hK _ _ rfl ?_
              obtain ⟨c0, cS⟩ := HC.out
              refine ⟨fun h => c0 (by simpa using h), fun h => ?_⟩
              have h9 := cS (by simpa using h)
              exact ⟨by simp [h9.1], h9.2⟩
            refine StepsE.run rfl ?_ ?_
            · intro L U wr hC hP hlk hcl haf A K hFm hK
              simp [Aft, Region.binds] at haf
              have g9 : U 47 = (.pointer (some ⟨gp, y * 3, none⟩)) := hP 9 47 (by simp [haf]) rfl
              have e47 : A.tmps[47]? = some (.pointer (some ⟨gp, y * 3, none⟩)) := hFm.is 9 47 rfl g9
              have HC : Hid _ := hC
              clear hC
              refine ⟨?_⟩
              go_simp
              refine hK _ _ rfl ?_
              obtain ⟨c0, cS⟩ := HC.out
              refine ⟨fun h => c0 (by simpa using h), fun h => ?_⟩
              have h9 := cS (by simpa using h)
              exact ⟨by simp [h9.1], h9.2⟩
            refine StepsE.run rfl ?_ ?_
            · intro L U wr hC hP hlk hcl haf A K hFm hK
              simp [Aft, Region.binds] at haf
              have g10 : U 48 = (.pointer (some ⟨gp, y * 3, none⟩)) := hP 10 48 (by simp [haf]) rfl
              have e48 : A.tmps[48]? = some (.pointer (some ⟨gp, y * 3, none⟩)) := hFm.is 10 48 rfl g10
              have n12 : L 12 = false := by cases h : L 12 with | false => rfl | true => have h9 := hcl 12 _ rfl h; simp [Aft, Region.binds, hlk] at h9
              have hb8 := hC.1 n12
              obtain ⟨m1, m2, m3, m4⟩ := HPM.out wr _ _ (HE.out.below hb8)
              have m5 := (hb8.cell (p := ⟨wl.heap.size, 2, none⟩) HS2.out.2).trans HS2.out.1
              clear hb8 n12
              have HC : Hid _ := hC
              clear hC
              refine ⟨?_⟩
              go_simp
              refine hK _ _ rfl ?_
              obtain ⟨c0, cS⟩ := HC.out
              refine ⟨fun h => c0 (by simpa using h), fun h => ?_⟩
              have h9 := cS (by simpa using h)
              exact ⟨by simp [h9.1], h9.2⟩
            refine StepsE.run rfl ?_ StepsE.nil
            · intro L U wr hC hP hlk hcl haf A K hFm hK
              simp [Aft, Region.binds] at haf
              have g0 : U 38 = (.pointer (some ⟨p, 0, none⟩)) := hP 0 38 (by simp [haf]) rfl
              have e38 : A.tmps[38]? = some (.pointer (some ⟨p, 0, none⟩)) := hFm.is 0 38 rfl g0
              have g5 : U 43 = (.int .i64 (fr : Nat)) := hP 5 43 (by simp [haf]) rfl
              have e43 : A.tmps[43]? = some (.int .i64 (fr : Nat)) := hFm.is 5 43 rfl g5
              have g11 : U 49 = (.int .i64 (fy : Nat)) := hP 11 49 (by simp [haf]) rfl
              have e49 : A.tmps[49]? = some (.int .i64 (fy : Nat)) := hFm.is 11 49 rfl g11
              have l0 : L 0 = true := by simp [haf]
              have l5 : L 5 = true := by simp [haf]
              have l11 : L 11 = true := by simp [haf]
              have a5 := hcl 5 _ rfl l5
              simp [Aft, Region.binds] at a5
              have l4 : L 4 = true := by simp [a5]
              have a11 := hcl 11 _ rfl l11
              simp [Aft, Region.binds] at a11
              have l10 : L 10 = true := by simp [a11]
              have a4 := hcl 4 _ rfl l4
              simp [Aft, Region.binds] at a4
              have l3 : L 3 = true := by simp [a4]
              have a10 := hcl 10 _ rfl l10
              simp [Aft, Region.binds] at a10
              have l9 : L 9 = true := by simp [a10]
              have a3 := hcl 3 _ rfl l3
              simp [Aft, Region.binds] at a3
              have l1 : L 1 = true := by simp [a3]
              have l2 : L 2 = true := by simp [a3]
              have a9 := hcl 9 _ rfl l9
              simp [Aft, Region.binds] at a9
              have l6 : L 6 = true := by simp [a9]
              have l8 : L 8 = true := by simp [a9]
              have a8 := hcl 8 _ rfl l8
              simp [Aft, Region.binds] at a8
              have l7 : L 7 = true := by simp [a8]
              refine ⟨?_⟩
              have HCr : Hid _ := HE.out.below (hC.1 hlk)
              have HB9 : Hid _ := hC.1 hlk
              have HL : Hid (L 0 = true ∧ L 1 = true ∧ L 2 = true ∧ L 3 = true ∧ L 4 = true ∧ L 5 = true ∧ L 6 = true ∧ L 7 = true ∧ L 8 = true ∧ L 9 = true ∧ L 10 = true ∧ L 11 = true) := ⟨l0, l1, l2, l3, l4, l5, l6, l7, l8, l9, l10, l11⟩
              clear hC
              have hgl := HCr.out.aw.lt
              go_simp
              refine (ask_any p g (x') (c') d fr fy wr HCr.out hfrn hfyn (by have := HWL.out; omega)).mono ?_
              rintro e w1 ⟨rfl, v9, a1, a2, a3⟩
              go_simp
              refine hK _ _ rfl ⟨fun h => by simp at h, fun _ => ⟨by simp [HL.out], v9, a1, (Mv.below HB9.out).trans a2 (fun q hq => Or.inl hq), ?_⟩⟩
              rcases a3 with h9 | ⟨q, h8, h9⟩
              · exact Or.inl h9
              · exact Or.inr ⟨q, h8, Nat.le_trans HB9.out.size h9⟩
          intro L U6 V6 hall hC hP
          have hE6 := (hC.2 (hall 12 (by decide))).2
          clear hC hP hall
          obtain ⟨v6, a1, a2, a3⟩ := hE6
          have HX6 : Hid (Mv (Fy p x') V V6 ∧ (v6.ownBlock = x'.vW.ownBlock ∨ ∃ q, v6.ownBlock = some q ∧ V.heap.size ≤ q)) := ⟨a2, a3⟩
          have HS6 : Hid (V6.cell? ⟨wl.heap.size, 2, none⟩ = some (.int .i64 (y : Nat)) ∧ wl.heap.size < V6.heap.size) := ⟨(World.cell?_of_block (a := ⟨wl.heap.size, 2, none⟩) (a2.other _ HS2.out.2 (fun h9 => absurd (HKX.out.e.aw.fyLt h9) (Nat.lt_irrefl _)))).trans HS2.out.1, Nat.lt_of_lt_of_le HS2.out.2 a2.size⟩
          have HE6 : Hid (EX V6 p g { x' with vW := v6 } (askC c' fr fy) d) := a1
          clear a1 a2 a3
          simp only [setM_some, setM_none, setM_nil]
          go_wp2
          refine wp_region_E (by kernel_rfl) [some 51, some 52, some 53, some 54, some 55, some 56, some 57, some 58, some 59, some 60, some 61, some 62, some 63] [none, none, none, none, none, none, none, none, none, none, none, none, none, none, none, none, none, none, none, none, none, none, none, none, none, none, none, none, none, none, none, none, none, none, none, none, none, none, none, none, none, none, none, none, none, none, none, none, none, none, none, some 51, some 52, some 53, some 54, some 55, some 56, some 57, some 58, some 59, some 60, some 61, some 62, some 63] (fun U => by kernel_rfl) [fun u => u = (.pointer (some ⟨p, 0, none⟩)), fun u => u = (.slice (some ⟨gp, 0, none⟩) d.f.np cp), fun u => u = (.int .i64 (R : Nat)), fun u => u = (.pointer (some ⟨gp, R * 3, none⟩)), fun u => u = (.pointer (some ⟨gp, R * 3 + 1, none⟩)), fun u => u = (.int .i64 (ar : Nat)), fun u => u = (.slice (some ⟨gp, 0, none⟩) d.f.np cp), fun u => u = (.pointer (some ⟨wl.heap.size, 2, none⟩)), fun u => u = (.int .i64 (y : Nat)), fun u => u = (.pointer (some ⟨gp, y * 3, none⟩)), fun u => u = (.pointer (some ⟨gp, y * 3 + 1, none⟩)), fun u => u = (.int .i64 (ay : Nat)), fun u => u = (.tuple #[])] (fun L U wr => (L 12 = false → Below V6.heap.size V6 wr) ∧ (L 12 = true → (L 0 = true ∧ L 1 = true ∧ L 2 = true ∧ L 3 = true ∧ L 4 = true ∧ L 5 = true ∧ L 6 = true ∧ L 7 = true ∧ L 8 = true ∧ L 9 = true ∧ L 10 = true ∧ L 11 = true) ∧ AskEnd p g ({ x' with vW := v6 }) (askC c' fr fy) d ar ay V6 wr)) (by kernel_rfl) (by decide) (by kernel_rfl) (by kernel_rfl) ?_ ?_ ?_
          · exact fun U => ⟨fun _ => (Below.refl _ _).drew, (fun h => by cases h)⟩
          · refine StepsE.run rfl ?_ ?_
            · intro L U wr hC hP hlk hcl haf A K hFm hK
              simp [Aft, Region.binds] at haf
              have e0 : A.tmps[0]? = some (.pointer (some ⟨p, 0, none⟩)) := (hFm.old 0 (by decide)).trans (by kernel_rfl)
              have HC : Hid _ := hC
              clear hC
              refine ⟨?_⟩
              go_simp
              refine hK _ _ rfl ?_
              obtain ⟨c0, cS⟩ := HC.out
              refine ⟨fun h => c0 (by simpa using h), fun h => ?_⟩
              have h9 := cS (by simpa using h)
              exact ⟨by simp [h9.1], h9.2⟩
            refine StepsE.run rfl ?_ ?_
            · intro L U wr hC hP hlk hcl haf A K hFm hK
              simp [Aft, Region.binds] at haf
              have e6 : A.tmps[6]? = some (.slice (some ⟨gp, 0, none⟩) d.f.np cp) := (hFm.old 6 (by decide)).trans (by kernel_rfl)
              have HC : Hid _ := hC
              clear hC
              refine ⟨?_⟩
              go_simp
              refine hK _ _ rfl ?_
              obtain ⟨c0, cS⟩ := HC.out
              refine ⟨fun h => c0 (by simpa using h), fun h => ?_⟩
              have h9 := cS (by simpa using h)
              exact ⟨by simp [h9.1], h9.2⟩
            refine StepsE.run rfl ?_ ?_
            · intro L U wr hC hP hlk hcl haf A K hFm hK
              simp [Aft, Region.binds] at haf
              have e1 : A.tmps[1]? = some (.int .i64 (R : Nat)) := (hFm.old 1 (by decide)).trans (by kernel_rfl)
              have HC : Hid _ := hC
              clear hC
              refine ⟨?_⟩
              go_simp
              refine hK _ _ rfl ?_
              obtain ⟨c0, cS⟩ := HC.out
              refine ⟨fun h => c0 (by simpa using h), fun h => ?_⟩
              have h9 := cS (by simpa using h)
              exact ⟨by simp [h9.1], h9.2⟩
            refine StepsE.run rfl ?_ ?_
            · intro L U wr hC hP hlk hcl haf A K hFm hK
              simp [Aft, Region.binds] at haf
              have g1 : U 52 = (.slice (some ⟨gp, 0, none⟩) d.f.np cp) := hP 1 52 (by simp [haf]) rfl
              have e52 : A.tmps[52]? = some (.slice (some ⟨gp, 0, none⟩) d.f.np cp) := hFm.is 1 52 rfl g1
              have g2 : U 53 = (.int .i64 (R : Nat)) := hP 2 53 (by simp [haf]) rfl
              have e53 : A.tmps[53]? = some (.int .i64 (R : Nat)) := hFm.is 2 53 rfl g2
              have HC : Hid _ := hC
              clear hC
              refine ⟨?_⟩
              go_simp
              refine hK _ _ rfl ?_
              obtain ⟨c0, cS⟩ := HC.out
              refine ⟨fun h => c0 (by simpa using h), fun h => ?_⟩
              have h9 := cS (by simpa using h)
              exact ⟨by simp [h9.1], h9.2⟩
            refine StepsE.run rfl ?_ ?_
            · intro L U wr hC hP hlk hcl haf A K hFm hK
              simp [Aft, Region.binds] at haf
              have g3 : U 54 = (.pointer (some ⟨gp, R * 3, none⟩)) := hP 3 54 (by simp [haf]) rfl
              have e54 : A.tmps[54]? = some (.pointer (some ⟨gp, R * 3, none⟩)) := hFm.is 3 54 rfl g3
              have HC : Hid _ := hC
              clear hC
              refine ⟨?_⟩
              go_simp
              refine hK _ _ rfl ?_
              obtain ⟨c0, cS⟩ := HC.out
              refine ⟨fun h => c0 (by simpa using h), fun h => ?_⟩
              have h9 := cS (by simpa using h)
              exact ⟨by simp [h9.1], h9.2⟩
            refine StepsE.run rfl ?_ ?_
            · intro L U wr hC hP hlk hcl haf A K hFm hK
              simp [Aft, Region.binds] at haf
              have g4 : U 55 = (.pointer (some ⟨gp, R * 3 + 1, none⟩)) := hP 4 55 (by simp [haf]) rfl
              have e55 : A.tmps[55]? = some (.pointer (some ⟨gp, R * 3 + 1, none⟩)) := hFm.is 4 55 rfl g4
              have n12 : L 12 = false := by cases h : L 12 with | false => rfl | true => have h9 := hcl 12 _ rfl h; simp [Aft, Region.binds, hlk] at h9
              have hb8 := hC.1 n12
              obtain ⟨m1, m2, m3, m4⟩ := HPM.out wr _ _ (HE6.out.below hb8)
              have m5 := (hb8.cell (p := ⟨wl.heap.size, 2, none⟩) HS6.out.2).trans HS6.out.1
              clear hb8 n12
              have HC : Hid _ := hC
              clear hC
              refine ⟨?_⟩
              go_simp
              refine hK _ _ rfl ?_
              obtain ⟨c0, cS⟩ := HC.out
              refine ⟨fun h => c0 (by simpa using h), fun h => ?_⟩
              have h9 := cS (by simpa using h)
              exact ⟨by simp [h9.1], h9.2⟩
            refine StepsE.run rfl ?_ ?_
            · intro L U wr hC hP hlk hcl haf A K hFm hK
              simp [Aft, Region.binds] at haf
              have e6 : A.tmps[6]? = some (.slice (some ⟨gp, 0, none⟩) d.f.np cp) := (hFm.old 6 (by decide)).trans (by kernel_rfl)
              have HC : Hid _ := hC
              clear hC
              refine ⟨?_⟩
              go_simp
              refine hK _ _ rfl ?_
              obtain ⟨c0, cS⟩ := HC.out
              refine ⟨fun h => c0 (by simpa using h), fun h => ?_⟩
              have h9 := cS (by simpa using h)
              exact ⟨by simp [h9.1], h9.2⟩
            refine StepsE.run rfl ?_ ?_
            · intro L U wr hC hP hlk hcl haf A K hFm hK
              simp [Aft, Region.binds] at haf
              have e7 : A.tmps[7]? = some (.pointer (some ⟨wl.heap.size, 0, none⟩)) := (hFm.old 7 (by decide)).trans (by kernel_rfl)
              have HC : Hid _ := hC
              clear hC
              refine ⟨?_⟩
              go_simp
              refine hK _ _ rfl ?_
              obtain ⟨c0, cS⟩ := HC.out
              refine ⟨fun h => c0 (by simpa using h), fun h => ?_⟩
              have h9 := cS (by simpa using h)
              exact ⟨by simp [h9.1], h9.2⟩
            refine StepsE.run rfl ?_ ?_
            · intro L U wr hC hP hlk hcl haf A K hFm hK
              simp [Aft, Region.binds] at haf
              have g7 : U 58 = (.pointer (some ⟨wl.heap.size, 2, none⟩)) := hP 7 58 (by simp [haf]) rfl
              have e58 : A.tmps[58]? = some (.pointer (some ⟨wl.heap.size, 2, none⟩)) := hFm.is 7 58 rfl g7
              have n9 : L 9 = false := by cases h : L 9 with | false => rfl | true => have h9 := hcl 9 _ rfl h; simp [Aft, Region.binds, hlk] at h9
              have n10 : L 10 = false := by cases h : L 10 with | false => rfl | true => have h9 := hcl 10 _ rfl h; simp [Aft, Region.binds, n9] at h9
              have n11 : L 11 = false := by cases h : L 11 with | false => rfl | true => have h9 := hcl 11 _ rfl h; simp [Aft, Region.binds, n10] at h9
              have n12 : L 12 = false := by cases h : L 12 with | false => rfl | true => have h9 := hcl 12 _ rfl h; simp [Aft, Region.binds, n11] at h9
              have hb8 := hC.1 n12
              obtain ⟨m1, m2, m3, m4⟩ := HPM.out wr _ _ (HE6.out.below hb8)
              have m5 := (hb8.cell (p := ⟨wl.heap.size, 2, none⟩) HS6.out.2).trans HS6.out.1
              clear hb8 n9 n10 n11 n12
              have HC : Hid _ := hC
              clear hC
              refine ⟨?_⟩
              go_simp
              refine hK _ _ rfl ?_
              obtain ⟨c0, cS⟩ := HC.out
              refine ⟨fun h => c0 (by simpa using h), fun h => ?_⟩
              have h9 := cS (by simpa using h)
              exact ⟨by simp [h9.1], h9.2⟩
            refine StepsE.run rfl ?_ ?_
            · intro L U wr hC hP hlk hcl haf A K hFm hK
              simp [Aft, Region.binds] at haf
              have g6 : U 57 = (.slice (some ⟨gp, 0, none⟩) d.f.np cp) := hP 6 57 (by simp [haf]) rfl
              have e57 : A.tmps[57]? = some (.slice (some ⟨gp, 0, none⟩) d.f.np cp) := hFm.is 6 57 rfl g6
              have g8 : U 59 = (.int .i64 (y : Nat)) := hP 8 59 (by simp [haf]) rfl
              have e59 : A.tmps[59]? = some (.int .i64 (y : Nat)) := hFm.is 8 59 rfl g8
              have HC : Hid _ := hC
              clear hC
              refine ⟨?_⟩
              go_simp
              refine hK _ _ rfl ?_
              obtain ⟨c0, cS⟩ := HC.out
              refine ⟨fun h => c0 (by simpa using h), fun h => ?_⟩
              have h9 := cS (by simpa using h)
              exact ⟨by simp [h9.1], h9.2⟩
            refine StepsE.run rfl ?_ ?_
            · intro L U wr hC hP hlk hcl haf A K hFm hK
              simp [Aft, Region.binds] at haf
              have g9 : U 60 = (.pointer (some ⟨gp, y * 3, none⟩)) := hP 9 60 (by simp [haf]) rfl
              have e60 : A.tmps[60]? = some (.pointer (some ⟨gp, y * 3, none⟩)) := hFm.is 9 60 rfl g9
              have HC : Hid _ := hC
              clear hC
              refine ⟨?_⟩
              go_simp
              refine hK _ _ rfl ?_
              obtain ⟨c0, cS⟩ := HC.out
              refine ⟨fun h => c0 (by simpa using h), fun h => ?_⟩
              have h9 := cS (by simpa using h)
              exact ⟨by simp [h9.1], h9.2⟩
            refine StepsE.run rfl ?_ ?_
            · intro L U wr hC hP hlk hcl haf A K hFm hK
              simp [Aft, Region.binds] at haf
              have g10 : U 61 = (.pointer (some ⟨gp, y * 3 + 1, none⟩)) := hP 10 61 (by simp [haf]) rfl
              have e61 : A.tmps[61]? = some (.pointer (some ⟨gp, y * 3 + 1, none⟩)) := hFm.is 10 61 rfl g10
              have n12 : L 12 = false := by cases h : L 12 with | false => rfl | true => have h9 := hcl 12 _ rfl h; simp [Aft, Region.binds, hlk] at h9
              have hb8 := hC.1 n12
              obtain ⟨m1, m2, m3, m4⟩ := HPM.out wr _ _ (HE6.out.below hb8)
              have m5 := (hb8.cell (p := ⟨wl.heap.size, 2, none⟩) HS6.out.2).trans HS6.out.1
              clear hb8 n12
              have HC : Hid _ := hC
              clear hC
              refine ⟨?_⟩
              go_simp
              refine hK _ _ rfl ?_
              obtain ⟨c0, cS⟩ := HC.out
              refine ⟨fun h => c0 (by simpa using h), fun h => ?_⟩
              have h9 := cS (by simpa using h)
              exact ⟨by simp [h9.1], h9.2⟩
            refine StepsE.run rfl ?_ StepsE.nil
            · intro L U wr hC hP hlk hcl haf A K hFm hK
              simp [Aft, Region.binds] at haf
              have g0 : U 51 = (.pointer (some ⟨p, 0, none⟩)) := hP 0 51 (by simp [haf]) rfl
              have e51 : A.tmps[51]? = some (.pointer (some ⟨p, 0, none⟩)) := hFm.is 0 51 rfl g0
              have g5 : U 56 = (.int .i64 (ar : Nat)) := hP 5 56 (by simp [haf]) rfl
              have e56 : A.tmps[56]? = some (.int .i64 (ar : Nat)) := hFm.is 5 56 rfl g5
              have g11 : U 62 = (.int .i64 (ay : Nat)) := hP 11 62 (by simp [haf]) rfl
              have e62 : A.tmps[62]? = some (.int .i64 (ay : Nat)) := hFm.is 11 62 rfl g11
              have l0 : L 0 = true := by simp [haf]
              have l5 : L 5 = true := by simp [haf]
              have l11 : L 11 = true := by simp [haf]
              have a5 := hcl 5 _ rfl l5
              simp [Aft, Region.binds] at a5
              have l4 : L 4 = true := by simp [a5]
              have a11 := hcl 11 _ rfl l11
              simp [Aft, Region.binds] at a11
              have l10 : L 10 = true := by simp [a11]
              have a4 := hcl 4 _ rfl l4
              simp [Aft, Region.binds] at a4
              have l3 : L 3 = true := by simp [a4]
              have a10 := hcl 10 _ rfl l10
              simp [Aft, Region.binds] at a10
              have l9 : L 9 = true := by simp [a10]
              have a3 := hcl 3 _ rfl l3
              simp [Aft, Region.binds] at a3
              have l1 : L 1 = true := by simp [a3]
              have l2 : L 2 = true := by simp [a3]
              have a9 := hcl 9 _ rfl l9
              simp [Aft, Region.binds] at a9
              have l6 : L 6 = true := by simp [a9]
              have l8 : L 8 = true := by simp [a9]
              have a8 := hcl 8 _ rfl l8
              simp [Aft, Region.binds] at a8
              have l7 : L 7 = true := by simp [a8]
              refine ⟨?_⟩
              have HCr : Hid _ := HE6.out.below (hC.1 hlk)
              have HB9 : Hid _ := hC.1 hlk
              have HL : Hid (L 0 = true ∧ L 1 = true ∧ L 2 = true ∧ L 3 = true ∧ L 4 = true ∧ L 5 = true ∧ L 6 = true ∧ L 7 = true ∧ L 8 = true ∧ L 9 = true ∧ L 10 = true ∧ L 11 = true) := ⟨l0, l1, l2, l3, l4, l5, l6, l7, l8, l9, l10, l11⟩
              clear hC
              have hgl := HCr.out.aw.lt
              go_simp
              refine (ask_any p g ({ x' with vW := v6 }) (askC c' fr fy) d ar ay wr HCr.out harn hayn (by have h9 := (askC_mono c' fr fy).2.2.2.2; have := HWL.out; omega)).mono ?_
              rintro e w1 ⟨rfl, v9, a1, a2, a3⟩
              go_simp
              refine hK _ _ rfl ⟨fun h => by simp at h, fun _ => ⟨by simp [HL.out], v9, a1, (Mv.below HB9.out).trans a2 (fun q hq => Or.inl hq), ?_⟩⟩
              rcases a3 with h9 | ⟨q, h8, h9⟩
              · exact Or.inl h9
              · exact Or.inr ⟨q, h8, Nat.le_trans HB9.out.size h9⟩
          intro L U7 V7 hall hC hP
          have HE7 : Hid _ := (hC.2 (hall 12 (by decide))).2
          clear hC hP hall
          simp only [setM_some, setM_none, setM_nil]
          go_wp2_with fail
          go_meet
          obtain ⟨v7, b1, b2, b3⟩ := HE7.out
          obtain ⟨t1, t2, t3, t4, t5⟩ := two_asks c' (S := d.s.S) (ns := d.s.ns) HKX.out.k.wts hfrn hfyn HPQ.out.2.2.2.2.1 harn hayn HPQ.out.2.2.2.2.2
          have f6 : Fx2 x' { x' with vW := v6 } V.heap.size := ⟨rfl, rfl, HX6.out.2, Or.inl rfl⟩
          have f7 : Fx2 { x' with vW := v6 } { x' with vW := v7 } V6.heap.size := ⟨rfl, rfl, b3, Or.inl rfl⟩
          refine ⟨rfl, rfl, _, _, b1, ⟨t1, Or.inl ⟨HWY.out, t2, ?_, ?_⟩, t5⟩, HX6.out.1.trans b2 (fun q hq => f6.fy q hq), f6.trans f7 HX6.out.1.size⟩
          · rw [HPQ.out.1, HPQ.out.2.2.1, Int.toNat_natCast, Int.toNat_natCast]; exact t3
          · rw [HPQ.out.2.1, HPQ.out.2.2.2.1, Int.toNat_natCast, Int.toNat_natCast]; exact t4
        · have HW1 : Hid ((d.s.S R).why ≠ -1) := by rw [HWY.out]; exact hw1
          have HEL : Hid (c'.eq.length + 1 ≤ 1000000000) := by
            have h9 := HKX.out.k.len
            have h8 := gc_le c'.ab d.s.ns
            show _ ≤ _
            omega
          have HE : Hid (EX V p g x' c' d) := HV.out.e
          have hpl := HE.out.aw.lt
          have hvl := HVC.out.2.2.1
          have hwb : x'.vE.ownBlock ≠ some wl.heap.size := fun e => by have := HKX.out.e.aw.fyLt (Or.inr (Or.inr (Or.inr (Or.inr e)))); omega
          have hwp : x'.vE.ownBlock ≠ some p := HE.out.aw.eqs.neB HE.out.aw.blk (by decide)
          have m0 : V.cell? ⟨p, 4, none⟩ = some x'.vE := HE.out.aw.cells.2.2.2.2
          have d0 := HVC.out.2.1
          have hblk := HE.out.aw.blk
          go_wp2
          obtain ⟨E5, hE5⟩ : ∃ E5 : World → Prop, E5 = fun w9 => ∃ v, EX w9 p g { x' with vE := v } { c' with eq := c'.eq ++ [wy] } d ∧ Mv (Fy p x') V w9 ∧ (v.ownBlock = x'.vE.ownBlock ∨ ∃ q, v.ownBlock = some q ∧ V.heap.size ≤ q) := ⟨_, rfl⟩
          obtain ⟨M5, hM5⟩ : ∃ M5 : World → Prop, M5 = fun w9 => w9.cell? ⟨p, 4, none⟩ = some x'.vE ∧ w9.cell? ⟨wl.heap.size, 3, none⟩ = some (.int .i64 wy) := ⟨_, rfl⟩
          have HM0 : Hid (∀ w9, Below V.heap.size V w9 → M5 w9) := by
            intro w9 h1; rw [hM5]
            exact ⟨(h1.cell (p := ⟨p, 4, none⟩) hpl).trans m0, (h1.cell (p := ⟨wl.heap.size, 3, none⟩) hvl).trans d0⟩
          have HM1 : Hid (∀ w9 v9, App x'.vE v9 V w9 → M5 w9) := by
            intro w9 v9 h1; rw [hM5]
            exact ⟨(World.cell?_of_block (a := ⟨p, 4, none⟩) (h1.other p hpl hwp)).trans m0, (World.cell?_of_block (a := ⟨wl.heap.size, 3, none⟩) (h1.other _ hvl hwb)).trans d0⟩
          have HFZ : Hid (∀ w9 v9, App x'.vE v9 V w9 → w9.cell? ⟨p, 4, none⟩ = some x'.vE ∧ w9.frozen? ⟨p, 4, none⟩ = false) := by
            intro w9 v9 h1
            have h2 := HM1.out w9 v9 h1
            rw [hM5] at h2
            exact ⟨h2.1, frozen_of_row w9 p 4 _ 88 ((h1.other p hpl hwp).trans hblk)⟩
          have HOWN : Hid (∀ w9, Below V.heap.size V w9 → OL 1 3 w9 x'.vE c'.eq.length (inC c'.eq)) := fun w9 h1 => (HE.out.below h1).aw.eqs
          have HNB : Hid (c'.eq.length + 1 ≤ 1000000000) := HEL.out
          have HSET : Hid (∀ w9 v9, OL 1 3 w9 v9 (c'.eq.length + 1) (inC (c'.eq ++ [wy])) → App x'.vE v9 V w9 → v9 ≠ .slice none 0 0 → E5 (w9.setCell ⟨p, 4, none⟩ v9)) := by
            intro w9 v9 h1 h2 h3
            rw [hE5]
            obtain ⟨k1, k2⟩ := HE.out.aw.pushEqs wy h2 h1
            have k3 : Mv (Fy p x') V (w9.setCell ⟨p, 4, none⟩ v9) := ⟨k2.os, k2.tape, k2.output, k2.size, fun q hq hn => k2.other q hq (fun h9 => hn (h9.elim Or.inl (fun h8 => Or.inr (Or.inr (Or.inr (Or.inr h8))))))⟩
            have k4 : Fx2 x' { x' with vE := v9 } V.heap.size := ⟨rfl, rfl, Or.inl rfl, h2.at_⟩
            exact ⟨v9, HE.out.mv k3 (fun q hq => Or.inl hq) k1 (fun q hq => k4.fy q hq), k3, h2.at_⟩
          clear m0 hblk hwb hwp d0
          refine wp_region_E (by kernel_rfl) [some 64, some 65, some 66, some 67, some 68, some 69, some 70, some 71, some 72, some 73, some 74, none] [none, none, none, none, none, none, none, none, none, none, none, none, none, none, none, none, none, none, none, none, none, none, none, none, none, none, none, none, none, none, none, none, none, none, none, none, none, none, none, none, none, none, none, none, none, none, none, none, none, none, none, none, none, none, none, none, none, none, none, none, none, none, none, none, some 64, some 65, some 66, some 67, some 68, some 69, some 70, some 71, some 72, some 73, some 74] (fun U => by kernel_rfl) [fun u => u = (.pointer (some ⟨p, 0, none⟩)), fun u => u = (.pointer (some ⟨p, 0, none⟩)), fun u => u = (.pointer (some ⟨p, 0, none⟩)), fun u => u = (.pointer (some ⟨p, 4, none⟩)), fun u => u = (x'.vE), fun u => u = (.pointer (some ⟨wl.heap.size, 3, none⟩)), fun u => u = (.int .i64 wy), fun _ => True, fun _ => True, fun u => u = (.pointer (some ⟨p, 0, none⟩)), fun u => u = (.pointer (some ⟨p, 4, none⟩)), fun _ => True] (fun L U wr => (L 8 = false → Below V.heap.size V wr) ∧ (L 7 = true → L 8 = false → ONE5 3 [.int .i64 wy] (U 71) wr) ∧ (L 8 = true → L 11 = false → OL 1 3 wr (U 72) (c'.eq.length + 1) (inC (c'.eq ++ [wy])) ∧ App (x'.vE) (U 72) V wr ∧ U 72 ≠ .slice none 0 0) ∧ (L 11 = true → (L 0 = true ∧ L 1 = true ∧ L 2 = true ∧ L 3 = true ∧ L 4 = true ∧ L 5 = true ∧ L 6 = true ∧ L 7 = true ∧ L 8 = true ∧ L 9 = true ∧ L 10 = true) ∧ E5 wr)) (by kernel_rfl) (by decide) (by kernel_rfl) (by kernel_rfl) ?_ ?_ ?_
          · exact fun U => ⟨fun _ => (Below.refl _ _).drew, (fun h => by cases h), (fun h => by cases h), (fun h => by cases h)⟩
          · refine StepsE.run rfl ?_ ?_
            · intro L U wr hC hP hlk hcl haf A K hFm hK
              simp [Aft, Region.binds] at haf
              have e0 : A.tmps[0]? = some (.pointer (some ⟨p, 0, none⟩)) := (hFm.old 0 (by decide)).trans (by kernel_rfl)
              have HC : Hid _ := hC
              clear hC
              refine ⟨?_⟩
              go_simp
              refine hK _ _ rfl ?_
              obtain ⟨c0, cB, c1, cS⟩ := HC.out
              refine ⟨fun h => c0 (by simpa using h), (fun h1 h2 => by have h9 := cB (by simpa using h1) (by simpa using h2); simpa [updO, Go.Proofs.Ytlonnhnfmcndfac.upd] using h9), (fun h1 h2 => by have h9 := c1 (by simpa using h1) (by simpa using h2); simpa [updO, Go.Proofs.Ytlonnhnfmcndfac.upd] using h9), fun h => ?_⟩
              have h9 := cS (by simpa using h)
              exact ⟨by simp [h9.1], h9.2⟩
            refine StepsE.run rfl ?_ ?_
            · intro L U wr hC hP hlk hcl haf A K hFm hK
              simp [Aft, Region.binds] at haf
              have e0 : A.tmps[0]? = some (.pointer (some ⟨p, 0, none⟩)) := (hFm.old 0 (by decide)).trans (by kernel_rfl)
              have HC : Hid _ := hC
              clear hC
              refine ⟨?_⟩
              go_simp
              refine hK _ _ rfl ?_
              obtain ⟨c0, cB, c1, cS⟩ := HC.out
              refine ⟨fun h => c0 (by simpa using h), (fun h1 h2 => by have h9 := cB (by simpa using h1) (by simpa using h2); simpa [updO, Go.Proofs.Ytlonnhnfmcndfac.upd] using h9), (fun h1 h2 => by have h9 := c1 (by simpa using h1) (by simpa using h2); simpa [updO, Go.Proofs.Ytlonnhnfmcndfac.upd] using h9), fun h => ?_⟩
              have h9 := cS (by simpa using h)
              exact ⟨by simp [h9.1], h9.2⟩
            refine StepsE.run rfl ?_ ?_
            · intro L U wr hC hP hlk hcl haf A K hFm hK
              simp [Aft, Region.binds] at haf
              have g1 : U 65 = (.pointer (some ⟨p, 0, none⟩)) := hP 1 65 (by simp [haf]) rfl
              have e65 : A.tmps[65]? = some (.pointer (some ⟨p, 0, none⟩)) := hFm.is 1 65 rfl g1
              have HC : Hid _ := hC
              clear hC
              refine ⟨?_⟩
              go_simp
              refine hK _ _ rfl ?_
              obtain ⟨c0, cB, c1, cS⟩ := HC.out
              refine ⟨fun h => c0 (by simpa using h), (fun h1 h2 => by have h9 := cB (by simpa using h1) (by simpa using h2); simpa [updO, Go.Proofs.Ytlonnhnfmcndfac.upd] using h9), (fun h1 h2 => by have h9 := c1 (by simpa using h1) (by simpa using h2); simpa [updO, Go.Proofs.Ytlonnhnfmcndfac.upd] using h9), fun h => ?_⟩
              have h9 := cS (by simpa using h)
              exact ⟨by simp [h9.1], h9.2⟩
            refine StepsE.run rfl ?_ ?_
            · intro L U wr hC hP hlk hcl haf A K hFm hK
              simp [Aft, Region.binds] at haf
              have g2 : U 66 = (.pointer (some ⟨p, 0, none⟩)) := hP 2 66 (by simp [haf]) rfl
              have e66 : A.tmps[66]? = some (.pointer (some ⟨p, 0, none⟩)) := hFm.is 2 66 rfl g2
              have HC : Hid _ := hC
              clear hC
              refine ⟨?_⟩
              go_simp
              refine hK _ _ rfl ?_
              obtain ⟨c0, cB, c1, cS⟩ := HC.out
              refine ⟨fun h => c0 (by simpa using h), (fun h1 h2 => by have h9 := cB (by simpa using h1) (by simpa using h2); simpa [updO, Go.Proofs.Ytlonnhnfmcndfac.upd] using h9), (fun h1 h2 => by have h9 := c1 (by simpa using h1) (by simpa using h2); simpa [updO, Go.Proofs.Ytlonnhnfmcndfac.upd] using h9), fun h => ?_⟩
              have h9 := cS (by simpa using h)
              exact ⟨by simp [h9.1], h9.2⟩
            refine StepsE.run rfl ?_ ?_
            · intro L U wr hC hP hlk hcl haf A K hFm hK
              simp [Aft, Region.binds] at haf
              have g3 : U 67 = (.pointer (some ⟨p, 4, none⟩)) := hP 3 67 (by simp [haf]) rfl
              have e67 : A.tmps[67]? = some (.pointer (some ⟨p, 4, none⟩)) := hFm.is 3 67 rfl g3
              have hM8 : M5 wr := by
                obtain ⟨c0, cB, c1, cS⟩ := hC
                have hs : L 11 = false := by cases h : L 11 with | false => rfl | true => exact absurd (cS h).1 (by simp [hlk])
                cases h14 : L 8 with
                | false => exact HM0.out wr (c0 h14)
                | true => exact HM1.out wr (U 72) (c1 h14 hs).2.1
              rw [hM5] at hM8
              obtain ⟨m7, mq0⟩ := hM8
              have HC : Hid _ := hC
              clear hC
              refine ⟨?_⟩
              go_simp
              refine hK _ _ rfl ?_
              obtain ⟨c0, cB, c1, cS⟩ := HC.out
              refine ⟨fun h => c0 (by simpa using h), (fun h1 h2 => by have h9 := cB (by simpa using h1) (by simpa using h2); simpa [updO, Go.Proofs.Ytlonnhnfmcndfac.upd] using h9), (fun h1 h2 => by have h9 := c1 (by simpa using h1) (by simpa using h2); simpa [updO, Go.Proofs.Ytlonnhnfmcndfac.upd] using h9), fun h => ?_⟩
              have h9 := cS (by simpa using h)
              exact ⟨by simp [h9.1], h9.2⟩
            refine StepsE.run rfl ?_ ?_
            · intro L U wr hC hP hlk hcl haf A K hFm hK
              simp [Aft, Region.binds] at haf
              have e7 : A.tmps[7]? = some (.pointer (some ⟨wl.heap.size, 0, none⟩)) := (hFm.old 7 (by decide)).trans (by kernel_rfl)
              have HC : Hid _ := hC
              clear hC
              refine ⟨?_⟩
              go_simp
              refine hK _ _ rfl ?_
              obtain ⟨c0, cB, c1, cS⟩ := HC.out
              refine ⟨fun h => c0 (by simpa using h), (fun h1 h2 => by have h9 := cB (by simpa using h1) (by simpa using h2); simpa [updO, Go.Proofs.Ytlonnhnfmcndfac.upd] using h9), (fun h1 h2 => by have h9 := c1 (by simpa using h1) (by simpa using h2); simpa [updO, Go.Proofs.Ytlonnhnfmcndfac.upd] using h9), fun h => ?_⟩
              have h9 := cS (by simpa using h)
              exact ⟨by simp [h9.1], h9.2⟩
            refine StepsE.run rfl ?_ ?_
            · intro L U wr hC hP hlk hcl haf A K hFm hK
              simp [Aft, Region.binds] at haf
              have g5 : U 69 = (.pointer (some ⟨wl.heap.size, 3, none⟩)) := hP 5 69 (by simp [haf]) rfl
              have e69 : A.tmps[69]? = some (.pointer (some ⟨wl.heap.size, 3, none⟩)) := hFm.is 5 69 rfl g5
              have hM8 : M5 wr := by
                obtain ⟨c0, cB, c1, cS⟩ := hC
                have hs : L 11 = false := by cases h : L 11 with | false => rfl | true => exact absurd (cS h).1 (by simp [hlk])
                cases h14 : L 8 with
                | false => exact HM0.out wr (c0 h14)
                | true => exact HM1.out wr (U 72) (c1 h14 hs).2.1
              rw [hM5] at hM8
              obtain ⟨m7, mq0⟩ := hM8
              have HC : Hid _ := hC
              clear hC
              refine ⟨?_⟩
              go_simp
              refine hK _ _ rfl ?_
              obtain ⟨c0, cB, c1, cS⟩ := HC.out
              refine ⟨fun h => c0 (by simpa using h), (fun h1 h2 => by have h9 := cB (by simpa using h1) (by simpa using h2); simpa [updO, Go.Proofs.Ytlonnhnfmcndfac.upd] using h9), (fun h1 h2 => by have h9 := c1 (by simpa using h1) (by simpa using h2); simpa [updO, Go.Proofs.Ytlonnhnfmcndfac.upd] using h9), fun h => ?_⟩
              have h9 := cS (by simpa using h)
              exact ⟨by simp [h9.1], h9.2⟩
            refine StepsE.run rfl ?_ ?_
            · intro L U wr hC hP hlk hcl haf A K hFm hK
              simp [Aft, Region.binds] at haf
              have g6 : U 70 = (.int .i64 wy) := hP 6 70 (by simp [haf]) rfl
              have e70 : A.tmps[70]? = some (.int .i64 wy) := hFm.is 6 70 rfl g6
              have hA9 : L 8 = false := by cases h : L 8 with | false => rfl | true => have h9 := hcl 8 _ rfl h; simp [Aft, Region.binds, hlk] at h9
              refine ⟨?_⟩
              go_simp
              refine hK _ _ trivial ⟨fun h => ?_, fun _ _ => ?_, fun h1 h2 => ?_, fun h => ?_⟩
              · exact ((hC.1 hA9).alloc (hC.1 hA9).size _)
              · exact ⟨wr.heap.size, rfl, heap_alloc_new wr _⟩
              · simp [hA9] at h1
              · have h9 := (hC.2.2.2 (by simpa using h)).1
                simp [hlk] at h9
            refine StepsE.run rfl ?_ ?_
            · intro L U wr hC hP hlk hcl haf A K hFm hK
              simp [Aft, Region.binds] at haf
              have g4 : U 68 = (x'.vE) := hP 4 68 (by simp [haf]) rfl
              have e68 : A.tmps[68]? = some (x'.vE) := hFm.is 4 68 rfl g4
              have e71 : A.tmps[71]? = some (U 71) := hFm.got 7 71 rfl
              have l7 : L 7 = true := by simp [haf]
              refine ⟨?_⟩
              refine wp_push1 (.tmp 68) (.tmp 71) 31 rfl 1 3 _ 8 uIntsE iIntE (by decide) rfl (by decide) (x'.vE) (c'.eq.length) (inC c'.eq) (by simp [Act.eval, e68]) (HOWN.out wr (hC.1 hlk)) (fun _ _ => rfl) [.int .i64 wy] 3 (U 71) (hC.2.1 l7 hlk) (by simp [Act.eval, e71]) rfl (by intro u hu; simp at hu; subst hu; rfl) HNB.out (inC (c'.eq ++ [wy])) (fun k hk => by simp [inC, List.getElem?_append_left hk]) (by simp [inC]) ?_
              intro v9 w9 hol9 hap9 hne9
              refine hK _ _ trivial ⟨fun h => ?_, fun _ h => ?_, fun _ _ => ?_, fun h => ?_⟩
              · simp at h
              · simp at h
              · simp only [updO, Go.Proofs.Ytlonnhnfmcndfac.upd, beq_self_eq_true, cond_true]; exact ⟨hol9, hap9.ofBelow (hC.1 hlk), hne9⟩
              · have h9 := (hC.2.2.2 (by simpa using h)).1
                simp [hlk] at h9
            refine StepsE.run rfl ?_ ?_
            · intro L U wr hC hP hlk hcl haf A K hFm hK
              simp [Aft, Region.binds] at haf
              have g0 : U 64 = (.pointer (some ⟨p, 0, none⟩)) := hP 0 64 (by simp [haf]) rfl
              have e64 : A.tmps[64]? = some (.pointer (some ⟨p, 0, none⟩)) := hFm.is 0 64 rfl g0
              have HC : Hid _ := hC
              clear hC
              refine ⟨?_⟩
              go_simp
              refine hK _ _ rfl ?_
              obtain ⟨c0, cB, c1, cS⟩ := HC.out
              refine ⟨fun h => c0 (by simpa using h), (fun h1 h2 => by have h9 := cB (by simpa using h1) (by simpa using h2); simpa [updO, Go.Proofs.Ytlonnhnfmcndfac.upd] using h9), (fun h1 h2 => by have h9 := c1 (by simpa using h1) (by simpa using h2); simpa [updO, Go.Proofs.Ytlonnhnfmcndfac.upd] using h9), fun h => ?_⟩
              have h9 := cS (by simpa using h)
              exact ⟨by simp [h9.1], h9.2⟩
            refine StepsE.run rfl ?_ ?_
            · intro L U wr hC hP hlk hcl haf A K hFm hK
              simp [Aft, Region.binds] at haf
              have g9 : U 73 = (.pointer (some ⟨p, 0, none⟩)) := hP 9 73 (by simp [haf]) rfl
              have e73 : A.tmps[73]? = some (.pointer (some ⟨p, 0, none⟩)) := hFm.is 9 73 rfl g9
              have HC : Hid _ := hC
              clear hC
              refine ⟨?_⟩
              go_simp
              refine hK _ _ rfl ?_
              obtain ⟨c0, cB, c1, cS⟩ := HC.out
              refine ⟨fun h => c0 (by simpa using h), (fun h1 h2 => by have h9 := cB (by simpa using h1) (by simpa using h2); simpa [updO, Go.Proofs.Ytlonnhnfmcndfac.upd] using h9), (fun h1 h2 => by have h9 := c1 (by simpa using h1) (by simpa using h2); simpa [updO, Go.Proofs.Ytlonnhnfmcndfac.upd] using h9), fun h => ?_⟩
              have h9 := cS (by simpa using h)
              exact ⟨by simp [h9.1], h9.2⟩
            refine StepsE.run rfl ?_ StepsE.nil
            · intro L U wr hC hP hlk hcl haf A K hFm hK
              simp [Aft, Region.binds] at haf
              have g10 : U 74 = (.pointer (some ⟨p, 4, none⟩)) := hP 10 74 (by simp [haf]) rfl
              have e74 : A.tmps[74]? = some (.pointer (some ⟨p, 4, none⟩)) := hFm.is 10 74 rfl g10
              have e72 : A.tmps[72]? = some (U 72) := hFm.got 8 72 rfl
              have l10 : L 10 = true := by simp [haf]
              have l8 : L 8 = true := by simp [haf]
              have a10 := hcl 10 _ rfl l10
              simp [Aft, Region.binds] at a10
              have l9 : L 9 = true := by simp [a10]
              have a8 := hcl 8 _ rfl l8
              simp [Aft, Region.binds] at a8
              have l4 : L 4 = true := by simp [a8]
              have l7 : L 7 = true := by simp [a8]
              have a9 := hcl 9 _ rfl l9
              simp [Aft, Region.binds] at a9
              have l0 : L 0 = true := by simp [a9]
              have a4 := hcl 4 _ rfl l4
              simp [Aft, Region.binds] at a4
              have l3 : L 3 = true := by simp [a4]
              have a7 := hcl 7 _ rfl l7
              simp [Aft, Region.binds] at a7
              have l6 : L 6 = true := by simp [a7]
              have a3 := hcl 3 _ rfl l3
              simp [Aft, Region.binds] at a3
              have l2 : L 2 = true := by simp [a3]
              have a6 := hcl 6 _ rfl l6
              simp [Aft, Region.binds] at a6
              have l5 : L 5 = true := by simp [a6]
              have a2 := hcl 2 _ rfl l2
              simp [Aft, Region.binds] at a2
              have l1 : L 1 = true := by simp [a2]
              refine ⟨?_⟩
              obtain ⟨hol9, hap9, hne9⟩ := hC.2.2.1 l8 hlk
              have HKK : Hid _ := HSET.out wr (U 72) hol9 hap9 hne9
              obtain ⟨k4, k5⟩ := HFZ.out wr (U 72) hap9
              obtain ⟨ao9, cc9, hv9, -, -, -, -⟩ := hol9.shape
              obtain ⟨nl, hnl⟩ : ∃ nl, nl = c'.eq.length + 1 := ⟨_, rfl⟩
              rw [← hnl] at hv9
              clear hnl
              have e72 : A.tmps[72]? = some (.slice ao9 nl cc9) := hFm.is 8 72 rfl hv9
              rw [hv9] at HKK
              clear hol9 hap9 hne9 hC
              go_simp
              refine hK (.tuple #[]) _ trivial ⟨fun h => ?_, fun h1 h2 => ?_, fun h1 h2 => ?_, fun _ => ⟨?_, HKK.out⟩⟩
              · simp [l8] at h
              · simp [l8] at h2
              · simp at h2
              · simp [l0, l1, l2, l3, l4, l5, l6, l7, l8, l9, l10]
          intro L U5 V5 hall hC hP
          have hE := (hC.2.2.2 (hall 11 (by decide))).2
          rw [hE5] at hE
          clear hC hP hall hE5 hM5 HM0 HM1 HFZ HOWN HSET
          have HE8 : Hid _ := hE
          clear hE
          simp only [setM_some, setM_none, setM_nil]
          go_wp2_with fail
          go_meet
          obtain ⟨v, q1, q2, q3⟩ := HE8.out
          refine ⟨rfl, rfl, _, _, q1, ⟨⟨fun q hq => hq, fun q hq => hq, rfl, fun q hq => Or.inl hq, HKX.out.k.wts⟩, Or.inr ⟨HW1.out, by rw [HWY.out]⟩, Nat.le_add_right _ _⟩, q2, rfl, rfl, Or.inl rfl, q3⟩
      case rest =>
        obtain ⟨rfl, rfl, x2, c2, HC⟩ := hcut
        have v2 : wc.cell? ⟨wl.heap.size, 2, none⟩ = some (.int .i64 (y : Nat)) := (World.cell?_of_block (a := ⟨wl.heap.size, 2, none⟩) (HC.out.2.2.1.other _ HVC.out.2.2.1 (fun h9 => absurd (HKX.out.e.aw.fyLt h9) (Nat.lt_irrefl _)))).trans HVC.out.1
        have hvl : wl.heap.size < wc.heap.size := Nat.lt_of_lt_of_le HVC.out.2.2.1 HC.out.2.2.1.size
        have hcab : c2.ab = c'.ab := HC.out.2.1.1.2.2.1
        obtain ⟨w5, hrun, hA5, hM5⟩ := (HC.out.1.below (Below.refl _ _).drew).aw.putA R y hRn (by omega) (fun k z hz => (HKX.out.k.ab.up k z (by rw [← hcab]; exact hz)).1)
        have hE5 : EX w5 p g x2 { c2 with ab := upd c2.ab R (some y) } d := (HC.out.1.below (Below.refl _ _).drew).mv hM5 (fun q hq => Or.inl (Or.inr (Or.inr (Or.inl hq)))) hA5 (fun q hq => Or.inl hq)
        have hK5 : Know d.f d.s { c2 with ab := upd c2.ab R (some y) } ex := HKX.out.k.mark HK.out.inv HK.out.hist hRn hyn HY.out.1 HR.out.2.2.2.1 HC.out.2.1.1 HC.out.2.1.2.1
        have HK5 : Hid (KX w5 p g x2 { c2 with ab := upd c2.ab R (some y) } d ex ∧ Mv (Fy p x) w w5 ∧ Fx2 x x2 w.heap.size) := by
          have g1 := HR.out.2.2.2.2.2.2.2.2.2.2.1
          have g2 := HR.out.2.2.2.2.2.2.2.2.2.2.2
          have g3 : Mv (Fy p x) w V := g1.trans (Mv.below (F := Fy p x) HVC.out.2.2.2) (fun q hq => Or.inl hq)
          have g4 : Mv (Fy p x) w wc := g3.trans HC.out.2.2.1 (fun q hq => g2.fy q hq)
          have g5 : Fx2 x x2 w.heap.size := g2.trans HC.out.2.2.2 g3.size
          refine ⟨⟨hE5, hK5⟩, (g4.drew).trans hM5 (fun q hq => ?_), g5⟩
          rw [hq, g5.2.1]
          exact Or.inl (Or.inr (Or.inr (Or.inl rfl)))
        obtain ⟨-, -, -, s3, -⟩ := HC.out.1.aw.cells
        have hpl := HC.out.1.aw.lt
        clear hA5 hM5 hE5 hK5 hcab
        go_wp2
        go_region
        go_wp2_with fail
        refine (top_any d.s.S p g x2 { c2 with ab := upd c2.ab R (some y) } d.s.ns R gk w5 HK5.out.1.e.aw HK5.out.1.k.ab hRn HR.out.1).mono ?_
        rintro e w6 ⟨R', rfl, hT⟩
        obtain ⟨t1, t2, t3, ab6, hE6, t5, t6, hM6⟩ := hT.ex HK5.out.1.e
        have gmk : ∀ k, AbG (upd c2.ab R (some y)) k ↔ k = R ∨ AbG c'.ab k := fun k => by rw [HC.out.2.1.1.2.2.1]; exact abG_upd c'.ab R y k
        have t2' : ∃ m, Ups d.s.S (R' : Int) m ∧ m < gk := by
          obtain ⟨m, e1, e2⟩ := HR.out.1.nat
          cases t2 with
          | refl => exact absurd ((gmk R).2 (Or.inl rfl)) t3
          | @step _ y' _ _ k2 k3 =>
            rw [k2] at e2
            obtain ⟨m', e3, e4, _⟩ := k3.short e2
            exact ⟨m', e3, by omega⟩
        obtain ⟨m6, HM6⟩ : ∃ m, Hid (Ups d.s.S (R' : Int) m ∧ m < gk) := t2'
        have hMR : M ≠ R := fun e => hRI (by rw [e])
        have hMg : ¬ AbG (upd c2.ab R (some y)) M := fun h9 => ((gmk M).1 h9).elim hMR HR.out.2.2.2.2.2.1
        have HF : Hid (R' < d.s.ns ∧ Up d.s.S (AbG ab6) i R' ∧ ¬ AbG ab6 R' ∧ Anc d.s.S R' M ∧ ¬ AbG ab6 M ∧ (∀ k, AbG c.ab k → AbG ab6 k) ∧ (∀ q, c.se q = true → c2.se q = true) ∧ KX w6 p g x2 { c2 with ab := ab6 } d ex ∧ mes d.s.ns { c2 with ab := ab6 } ≤ mes d.s.ns c ∧ Mv (Fy p x) w w6 ∧ Fx2 x x2 w.heap.size) := by
          refine ⟨t1, ?_, fun h9 => t3 ((t6 R').1 h9), first_below ⟨gk, HR.out.1⟩ HR.out.2.2.2.2.1 hMg t2 t3, fun h9 => hMg ((t6 M).1 h9), fun k hk => (t6 k).2 ((gmk k).2 (Or.inr (HR.out.2.2.2.2.2.2.1 k hk))), fun q hq => HC.out.2.1.1.1 q (HR.out.2.2.2.2.2.2.2.1 q hq), ⟨hE6, HK5.out.1.k.table t5 t6⟩, ?_, HK5.out.2.1.trans hM6 (fun q hq => ?_), HK5.out.2.2⟩
          · have u1 : Up d.s.S (AbG ab6) i R := HR.out.2.2.1.mono (fun k hk => (t6 k).2 ((gmk k).2 (Or.inr hk)))
            exact u1.trans (t2.mono (fun k hk => (t6 k).2 hk))
          · have g1 := HR.out.2.2.2.2.2.2.2.2.2.1
            have g2 := HC.out.2.1.2.2
            have g3 : mes d.s.ns c' = c'.wt.length + 2 * (d.s.ns - gc d.s.ns c'.ab) := rfl
            show c2.wt.length + 2 * (d.s.ns - gc d.s.ns ab6) ≤ _
            rw [gc_congr t6]
            show c2.wt.length + 2 * (d.s.ns - gc d.s.ns (upd c2.ab R (some y))) ≤ _
            rw [HC.out.2.1.1.2.2.1, gc_mark hRn HR.out.2.2.2.1]
            have g4 : gc d.s.ns c'.ab + 1 ≤ d.s.ns := by
              have := gc_le (upd c'.ab R (some y)) d.s.ns
              rw [gc_mark hRn HR.out.2.2.2.1] at this
              exact this
            omega
          · rw [hq, HK5.out.2.2.2.1]
            exact Or.inl (Or.inr (Or.inr (Or.inl rfl)))
        clear hT t1 t2 t3 t5 t6 hE6 hM6 gmk hMR hMg
        go_wp2
        go_roundg m6
        case measure => exact HM6.out.2
        case rel => exact ⟨R', x2, { c2 with ab := ab6 }, rfl, HM6.out.1, HF.out⟩
end Euf
end Go.Proofs.Ytlonnhnfmcndfac
