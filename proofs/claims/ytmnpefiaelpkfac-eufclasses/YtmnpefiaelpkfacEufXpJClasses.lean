/- The contract of Explain; it proves no statement of the seat. -/
import Derived.Test.YtmnpefiaelpkfacJoin10Classes
import Derived.Test.YtmnpefiaelpkfacEufSoJClasses
import Derived.Test.YtmnpefiaelpkfacJoin2Classes
namespace Go.Proofs.Ytmnpefiaelpkfac
open Go.RowKit
set_option linter.unusedVariables false
namespace Euf
def c00 : Ac := { se := fun _ => false, wt := [], ab := fun _ => none, eq := [] }
theorem seF_none : seF (fun _ => false) = fun _ => false := by
  funext v
  cases h : seF (fun _ => false) v with
  | false => rfl
  | true => obtain ⟨a, b, _, h1⟩ := seF_true h; cases h1
theorem abF_none : abF (fun _ => none) = fun _ => none := by
  funext v
  cases h : abF (fun _ => none) v with
  | none => rfl
  | some z => obtain ⟨a, b, _, h1, _⟩ := abF_some h; cases h1
theorem know0 (f : Fx) (s : Sx) (ex : Nat × Nat → Prop) : Know f s c00 ex := by
  have nG : ∀ i, ¬ AbG c00.ab i := fun i h => by unfold AbG c00 at h; cases h
  exact ⟨AbOk.start _ _, ⟨fun i hi => absurd hi (nG i), fun z hz => (by cases hz), List.nodup_nil, fun i hi => absurd hi (nG i)⟩, fun x y h => (by cases h), fun q hq => (by cases hq), Nat.zero_le _⟩
/-- The memory of what is kept, at the beginning. -/
theorem ex0 {w w' : World} {g : Nat} {d : Gd} (h : GW w g d) (hb : Below w.heap.size w w') (h1 : w'.heap[w.heap.size]? = some (.map #[] 0)) (h2 : w'.heap[w.heap.size + 1]? = some (.map #[] 0))
    (h3 : w'.heap[w.heap.size + 2]? = some (.cells #[.pointer (some ⟨g, 0, none⟩), .map (some w.heap.size), .slice none 0 0, .map (some (w.heap.size + 1)), .slice none 0 0] 62 (0, 0))) (hN : d.s.ns ≤ 10000) :
    EX w' (w.heap.size + 2) g { bS := w.heap.size, vW := .slice none 0 0, bA := w.heap.size + 1, vE := .slice none 0 0 } c00 d := by
  have mS : MapS Try.prog 51 w' w.heap.size 0 (fun _ => false) := by
    obtain ⟨D, ⟨es, cl, q1, q2⟩, q3⟩ := MapS.made default Try.prog 51
    rw [heap_alloc_new] at q1
    cases q1
    exact ⟨D, ⟨_, _, h1, q2⟩, q3⟩
  have mA : MapF Try.prog 3 3 w' (w.heap.size + 1) 0 (fun _ => none) := mapF_none h2 (fun _ => rfl)
  refine ⟨h.below hb, { blk := h3, seen := by show MapS _ _ _ _ _ (seF (fun _ => false)); rw [seF_none]; exact mS.mono (Nat.zero_le _), wait := OL.nil _ _ _ _, above := by show MapF _ _ _ _ _ _ (abF (fun _ => none)); rw [abF_none]; exact mA.mono (Nat.zero_le _), eqs := OL.nil _ _ _ _, ne := by show w.heap.size ≠ w.heap.size + 1; omega, seN := fun a b hab => (by cases hab), small := hN }, fun b hb hf => ?_⟩
  have hlt := h.hlt hf
  rcases hb with hb | hb | hb | hb | hb
  · omega
  · replace hb : b = w.heap.size := hb
    omega
  · replace hb : b = w.heap.size + 1 := hb
    omega
  · cases hb
  · cases hb
/-- What 'Explain' tells of two nodes that are the same. -/
structure Told (d : Gd) (a b : Nat) (l : List Int) : Prop where
  rise : l.Pairwise (· < ·)
  lt : ∀ z ∈ l, ∃ k : Nat, k < d.f.ne ∧ z = (k : Int)
  follow : Cong d.t.nn d.t.N (EqIn d.f l) a b
theorem told_of {d : Gd} {y : Ly} {s : Sx} {H : List Claim} {c : Ac} {a b : Nat} (hs : GSem (dR d d.f.ne y s)) (hns : s.ns = d.f.np) (hH : Hist d.f d.f.ne s.ns s.S [] H) (hk : Know d.f s c (fun _ => False)) (hw : c.wt = []) (ha : a < d.t.nn) (hb : b < d.t.nn) (hab : (s.S (d.f.W a)).cls = (s.S (d.f.W b)).cls) (hq : Asked c.se (d.f.W a) (d.f.W b)) : Told d a b (srt c.eq) := by
  have hI : Inv d.f.np d.f.P s.ns s.S s.sg [] [] := hs.ok.inv
  have wa := (hs.ok.t.whole a ha).1
  obtain ⟨g1, g2⟩ := hk.done hI hI.le hH hw
  have hlt : ∀ z ∈ c.eq, ∃ k : Nat, k < d.f.ne ∧ z = (k : Int) := by
    intro z hz
    obtain ⟨i, k1, k2, k3⟩ := hk.acc.mem z hz
    obtain ⟨j, hj⟩ := Option.isSome_iff_exists.1 k1
    obtain ⟨i1, _, y, i2, i3, _⟩ := hk.ab.up i j hj
    obtain ⟨e, he, t1, w1⟩ := (hH.edge i y _ i1 i3).1 (Or.inl ⟨i2, rfl⟩)
    have key : ∀ (K : List Claim), HOk d.f d.f.ne K → e ∈ K → ∃ K', ClaimOk d.f d.f.ne K' e := by
      intro K
      induction K with
      | nil => intro _ h; cases h
      | cons x K ih =>
        intro hok hin
        rcases List.mem_cons.1 hin with rfl | hin
        · exact ⟨K, hok.1⟩
        · exact ih hok.2 hin
    obtain ⟨K', hc⟩ := key H hH.ok he
    rcases hc with ⟨q1, _⟩ | ⟨k, q1, q2, _⟩
    · rw [w1, k2] at q1; exact absurd q1 k3
    · exact ⟨k, q1, by rw [← q2, w1, k2]⟩
  have hme : Meet s.S (AbG c.ab) (d.f.W a) (d.f.W b) := g2 _ _ (by rw [hns]; exact wa) hq
  have hex := explained (f := d.f) (t := d.t) (s := s) hs.ok.t hs.ok.f hs.sem hI hns g1 hlt ha hb hab hme
  refine ⟨srt_rise hk.acc.nodup, fun z hz => hlt z ((srt_mem _ _).1 hz), ?_⟩
  have e : EqIn d.f (srt c.eq) = EqIn d.f c.eq := by
    funext x y
    refine propext ⟨?_, ?_⟩
    · rintro ⟨k, q1, q2, q3⟩; exact ⟨k, q1, (srt_mem _ _).1 q2, q3⟩
    · rintro ⟨k, q1, q2, q3⟩; exact ⟨k, q1, (srt_mem _ _).2 q2, q3⟩
  rw [e]; exact hex
/-- One pair was gone after. -/
theorem Know.met {f : Fx} {s : Sx} {c : Ac} {q : Nat × Nat} (h : Know f s c (fun p => p = q)) (hm : Meet s.S (AbG c.ab) q.1 q.2) : Know f s c (fun _ => False) := by
  refine { h with pairs := fun x y hxy => ?_ }
  obtain ⟨k1, k2, k3, k4⟩ := h.pairs x y hxy
  refine ⟨k1, k2, k3, ?_⟩
  rcases k4 with k4 | k4 | k4
  · exact Or.inl k4
  · exact Or.inr (Or.inl k4)
  · right; left
    rw [← k4] at hm
    exact hm
theorem Know.pop {f : Fx} {s : Sx} {c : Ac} {l : List (Nat × Nat)} {q : Nat × Nat} (h : Know f s c (fun _ => False)) (hw : c.wt = l ++ [q]) : Know f s { c with wt := l } (fun p => p = q) := by
  refine ⟨h.ab, h.acc, fun x y hxy => ?_, fun p hp => h.wts p (by rw [hw]; simp [hp]), h.len⟩
  obtain ⟨k1, k2, k3, k4⟩ := h.pairs x y hxy
  refine ⟨k1, k2, k3, ?_⟩
  rcases k4 with k4 | k4 | k4
  · rw [hw] at k4
    simp at k4
    rcases k4 with k4 | k4
    · exact Or.inl k4
    · exact Or.inr (Or.inr k4)
  · exact Or.inr (Or.inl k4)
  · exact k4.elim
/-- What 'Explain' leaves. -/
def ExEnd (g : Nat) (d : Gd) (a b : Nat) (w : World) (e : Ending) (w' : World) : Prop :=
  ∃ (y' : Ly) (s' : Sx), Run d.f d.m d.s d.f.ne s' ∧ s'.ns = d.f.np ∧ GW w' g (dR d d.f.ne y' s') ∧ Mv (Fg g d) w w' ∧ (∀ c, Fg g (dR d d.f.ne y' s') c → Fg g d c ∨ w.heap.size ≤ c) ∧
    (((s'.S (d.f.W a)).cls ≠ (s'.S (d.f.W b)).cls ∧ e = .returned (.tuple #[.slice none 0 0, .int .i64 51])) ∨
     ((s'.S (d.f.W a)).cls = (s'.S (d.f.W b)).cls ∧ ∃ (v : Value) (l : List Int), e = .returned (.tuple #[v, .int .i64 0]) ∧ Told d a b l ∧ OL 1 3 w' v l.length (inC l) ∧ ∀ q, v.ownBlock = some q → w.heap.size ≤ q))

set_option maxRecDepth 20000 in
set_option maxHeartbeats 32000000 in
theorem Explain_any (g : Nat) (d : Gd) (a b : Nat) (w : World) (h : GW w g d) (hk : GSem d) (ha : a < d.t.nn) (hb : b < d.t.nn) (hnn : d.t.nn ≤ 10000) (hne : d.f.ne ≤ 10000) :
    Calls Try.prog 10 #[.pointer (some ⟨g, 0, none⟩), .int .i64 (a : Nat), .int .i64 (b : Nat)] w fun e w' => ExEnd g d a b w e w' := by
  have HK : Hid (GSem d) := hk
  have HAB : Hid (a < d.t.nn ∧ b < d.t.nn) := ⟨ha, hb⟩
  have hmm := @run_makeMap Try.prog
  go_enter Try.func10, Try.ntmps10
  go_wp2_with fail
  refine (Same_any g d a b w h hk.ok ha hb hnn hne).mono ?_
  rintro e w1 ⟨y', s', rfl, hR, hns, hG, hM, hF⟩
  have HS : Hid (Run d.f d.m d.s d.f.ne s' ∧ s'.ns = d.f.np ∧ GW w1 g (dR d d.f.ne y' s') ∧ Mv (Fg g d) w w1 ∧ (∀ c, Fg g (dR d d.f.ne y' s') c → Fg g d c ∨ w.heap.size ≤ c)) := ⟨hR, hns, hG, hM, hF⟩
  have HSM : Hid (GSem (dR d d.f.ne y' s')) := dR_sem hk hR
  clear h hk hR hns hM hF ha hb hnn hne
  by_cases hsame : (s'.S (d.f.W a)).cls = (s'.S (d.f.W b)).cls
  · have HY : Hid ((s'.S (d.f.W a)).cls = (s'.S (d.f.W b)).cls) := hsame
    obtain ⟨V, hV⟩ : ∃ V, V = ((w1.alloc (.map #[] 0)).alloc (.map #[] 0)).alloc (.cells #[.pointer (some ⟨g, 0, none⟩), .map (some w1.heap.size), .slice none 0 0, .map (some (w1.heap.size + 1)), .slice none 0 0] 62 (0, 0)) := ⟨_, rfl⟩
    have hbV : Below w1.heap.size w1 V := by rw [hV]; go_grown
    have hN : s'.ns ≤ 10000 := by have := HS.out.2.2.1.cw.small; rw [HS.out.2.1]; exact this.1
    have hEV : EX V (w1.heap.size + 2) g { bS := w1.heap.size, vW := .slice none 0 0, bA := w1.heap.size + 1, vE := .slice none 0 0 } c00 (dR d d.f.ne y' s') := by
      refine ex0 HS.out.2.2.1 hbV ?_ ?_ ?_ hN
      · have n0 := heap_alloc_new w1 (.map #[] 0)
        rw [hV, Below.heap_alloc _ _ _ (by simp; omega), Below.heap_alloc _ _ _ (by simp)]; exact n0
      · have n1 := heap_alloc_new (w1.alloc (.map #[] 0)) (.map #[] 0)
        have s1 : (w1.alloc (.map #[] 0)).heap.size = w1.heap.size + 1 := by simp
        rw [s1] at n1
        rw [hV, Below.heap_alloc _ _ _ (by simp)]; exact n1
      · have s2 : ((w1.alloc (.map #[] 0)).alloc (.map #[] 0)).heap.size = w1.heap.size + 2 := by simp
        have n2 := heap_alloc_new ((w1.alloc (.map #[] 0)).alloc (.map #[] 0)) (.cells #[.pointer (some ⟨g, 0, none⟩), .map (some w1.heap.size), .slice none 0 0, .map (some (w1.heap.size + 1)), .slice none 0 0] 62 (0, 0))
        rw [s2] at n2
        rw [hV]; exact n2
    obtain ⟨H, hH⟩ := HSM.out.sem.hist
    have HKI : Hid (KI (dR d d.f.ne y' s') H) := ⟨HSM.out.ok.inv, hH⟩
    go_wp2
    rw [← hV]
    have HB : Hid (Below w1.heap.size w1 V) := hbV
    obtain ⟨x0, hx0⟩ : ∃ x0 : Ax, x0 = { bS := w1.heap.size, vW := .slice none 0 0, bA := w1.heap.size + 1, vE := .slice none 0 0 } := ⟨_, rfl⟩
    rw [← hx0] at hEV
    obtain ⟨p, hp⟩ : ∃ p, p = w1.heap.size + 2 := ⟨_, rfl⟩
    rw [← hp] at hEV
    rw [← hp]
    have HFN : Hid (∀ q, Fy p x0 q → w1.heap.size ≤ q) := by
      intro q hq
      rw [hx0, hp] at hq
      rcases hq with hq | hq | hq | hq | hq
      · omega
      · replace hq : q = w1.heap.size := hq
        omega
      · replace hq : q = w1.heap.size + 1 := hq
        omega
      · cases hq
      · cases hq
    have HEV : Hid (EX V p g x0 c00 (dR d d.f.ne y' s')) := hEV
    clear hV hbV hEV hx0 hp hH
    obtain ⟨ta, tb⟩ := HAB.out
    have hwa := (HSM.out.ok.t.whole a ta).1
    have hwb := (HSM.out.ok.t.whole b tb).1
    obtain ⟨wa, hwaE⟩ : ∃ wa, wa = d.f.W a := ⟨_, rfl⟩
    obtain ⟨wb, hwbE⟩ : ∃ wb, wb = d.f.W b := ⟨_, rfl⟩
    have HW : Hid (wa = d.f.W a ∧ wb = d.f.W b) := ⟨hwaE, hwbE⟩
    have hwan : wa < s'.ns := by rw [HS.out.2.1, hwaE]; exact hwa
    have hwbn : wb < s'.ns := by rw [HS.out.2.1, hwbE]; exact hwb
    have hanw : (a : Int) < (d.f.nw : Int) := by have := HSM.out.ok.t.nw; replace this : d.f.nw = d.t.nn := this; omega
    have hbnw : (b : Int) < (d.f.nw : Int) := by have := HSM.out.ok.t.nw; replace this : d.f.nw = d.t.nn := this; omega
    obtain ⟨gw, cw, hvw, hgw, -⟩ := HEV.out.gw.cw.wholeAt (i := a) (by show a < d.f.nw; omega)
    replace hvw : d.x.vW = .slice (some ⟨gw, 0, none⟩) d.f.nw cw := hvw
    have HPM : Hid (∀ w9 x9 c9, EX w9 p g x9 c9 (dR d d.f.ne y' s') → w9.cell? ⟨g, 5, none⟩ = some (.slice (some ⟨gw, 0, none⟩) d.f.nw cw) ∧ w9.cell? ⟨gw, a, none⟩ = some (.int .i64 (wa : Nat)) ∧ w9.cell? ⟨gw, b, none⟩ = some (.int .i64 (wb : Nat))) := by
      intro w9 x9 c9 h9
      obtain ⟨-, -, -, -, -, z5, -, -, -, -⟩ := h9.gw.cw.cells
      obtain ⟨g1, k1, e1, -, e2⟩ := h9.gw.cw.wholeAt (i := a) (by show a < d.f.nw; omega)
      obtain ⟨g2, k2, e3, -, e4⟩ := h9.gw.cw.wholeAt (i := b) (by show b < d.f.nw; omega)
      replace z5 : w9.cell? ⟨g, 5, none⟩ = some d.x.vW := z5
      replace e1 : d.x.vW = .slice (some ⟨g1, 0, none⟩) d.f.nw k1 := e1
      replace e3 : d.x.vW = .slice (some ⟨g2, 0, none⟩) d.f.nw k2 := e3
      rw [hvw] at z5 e1 e3
      injection e1 with e1 _ _
      injection e1 with e1
      injection e1 with e1 _ _
      injection e3 with e3 _ _
      injection e3 with e3
      injection e3 with e3 _ _
      subst e1 e3
      rw [hwaE, hwbE]
      exact ⟨z5, e2, e4⟩
    clear ta tb hwa hwb hwaE hwbE hvw hgw
    refine wp_region_E (by kernel_rfl) [some 31, some 32, some 33, some 34, some 35, some 36, some 37, some 38, some 39, some 40, some 41, some 42, some 43, some 44, some 45, some 46, some 47, some 48] [none, none, none, none, none, none, none, none, none, none, none, none, none, none, none, none, none, none, none, none, none, none, none, none, none, none, none, none, none, none, none, some 31, some 32, some 33, some 34, some 35, some 36, some 37, some 38, some 39, some 40, some 41, some 42, some 43, some 44, some 45, some 46, some 47, some 48] (fun U => by kernel_rfl) [fun u => u = (.pointer (some ⟨p, 0, none⟩)), fun u => u = (.pointer (some ⟨g, 0, none⟩)), fun u => u = (.pointer (some ⟨g, 0, none⟩)), fun u => u = (.pointer (some ⟨g, 2, none⟩)), fun u => u = (.pointer (some ⟨g, 5, none⟩)), fun u => u = (.slice (some ⟨gw, 0, none⟩) d.f.nw cw), fun u => u = (.int .i64 (a : Nat)), fun u => u = (.pointer (some ⟨gw, a, none⟩)), fun u => u = (.int .i64 (wa : Nat)), fun u => u = (.pointer (some ⟨g, 0, none⟩)), fun u => u = (.pointer (some ⟨g, 0, none⟩)), fun u => u = (.pointer (some ⟨g, 2, none⟩)), fun u => u = (.pointer (some ⟨g, 5, none⟩)), fun u => u = (.slice (some ⟨gw, 0, none⟩) d.f.nw cw), fun u => u = (.int .i64 (b : Nat)), fun u => u = (.pointer (some ⟨gw, b, none⟩)), fun u => u = (.int .i64 (wb : Nat)), fun u => u = (.tuple #[])] (fun L U wr => (L 17 = false → Below V.heap.size V wr) ∧ (L 17 = true → (L 0 = true ∧ L 1 = true ∧ L 2 = true ∧ L 3 = true ∧ L 4 = true ∧ L 5 = true ∧ L 6 = true ∧ L 7 = true ∧ L 8 = true ∧ L 9 = true ∧ L 10 = true ∧ L 11 = true ∧ L 12 = true ∧ L 13 = true ∧ L 14 = true ∧ L 15 = true ∧ L 16 = true) ∧ AskEnd p g x0 c00 (dR d d.f.ne y' s') wa wb V wr)) (by kernel_rfl) (by decide) (by kernel_rfl) (by kernel_rfl) ?_ ?_ ?_
    · exact fun U => ⟨fun _ => (Below.refl _ _).drew, (fun h => by cases h)⟩
    · refine StepsE.run rfl ?_ ?_
      · intro L U wr hC hP hlk hcl haf A K hFm hK
        simp [Aft, Region.binds] at haf
        have e10 : A.tmps[10]? = some (.pointer (some ⟨p, 0, none⟩)) := (hFm.old 10 (by decide)).trans (by kernel_rfl)
        have HC : Hid _ := hC
        clear hC
        refine ⟨?_⟩
        go_simp
        refine hK _ _ rfl ?_
        obtain ⟨c0, cS⟩ := HC.out
        refine ⟨fun h => c0 (by simpa using h), fun h => ?_⟩
        have h9 := cS (by simpa using h)
        exact ⟨by simp [h9.1], h9.2⟩
      refine StepsE.run rfl ?_ ?_
      · intro L U wr hC hP hlk hcl haf A K hFm hK
        simp [Aft, Region.binds] at haf
        have e0 : A.tmps[0]? = some (.pointer (some ⟨g, 0, none⟩)) := (hFm.old 0 (by decide)).trans (by kernel_rfl)
        have HC : Hid _ := hC
        clear hC
        refine ⟨?_⟩
        go_simp
        refine hK _ _ rfl ?_
        obtain ⟨c0, cS⟩ := HC.out
        refine ⟨fun h => c0 (by simpa using h), fun h => ?_⟩
        have h9 := cS (by simpa using h)
        exact ⟨by simp [h9.1], h9.2⟩
      refine StepsE.run rfl ?_ ?_
      · intro L U wr hC hP hlk hcl haf A K hFm hK
        simp [Aft, Region.binds] at haf
        have g1 : U 32 = (.pointer (some ⟨g, 0, none⟩)) := hP 1 32 (by simp [haf]) rfl
        have e32 : A.tmps[32]? = some (.pointer (some ⟨g, 0, none⟩)) := hFm.is 1 32 rfl g1
        have HC : Hid _ := hC
        clear hC
        refine ⟨?_⟩
        go_simp
        refine hK _ _ rfl ?_
        obtain ⟨c0, cS⟩ := HC.out
        refine ⟨fun h => c0 (by simpa using h), fun h => ?_⟩
        have h9 := cS (by simpa using h)
        exact ⟨by simp [h9.1], h9.2⟩
      refine StepsE.run rfl ?_ ?_
      · intro L U wr hC hP hlk hcl haf A K hFm hK
        simp [Aft, Region.binds] at haf
        have g2 : U 33 = (.pointer (some ⟨g, 0, none⟩)) := hP 2 33 (by simp [haf]) rfl
        have e33 : A.tmps[33]? = some (.pointer (some ⟨g, 0, none⟩)) := hFm.is 2 33 rfl g2
        have HC : Hid _ := hC
        clear hC
        refine ⟨?_⟩
        go_simp
        refine hK _ _ rfl ?_
        obtain ⟨c0, cS⟩ := HC.out
        refine ⟨fun h => c0 (by simpa using h), fun h => ?_⟩
        have h9 := cS (by simpa using h)
        exact ⟨by simp [h9.1], h9.2⟩
      refine StepsE.run rfl ?_ ?_
      · intro L U wr hC hP hlk hcl haf A K hFm hK
        simp [Aft, Region.binds] at haf
        have g3 : U 34 = (.pointer (some ⟨g, 2, none⟩)) := hP 3 34 (by simp [haf]) rfl
        have e34 : A.tmps[34]? = some (.pointer (some ⟨g, 2, none⟩)) := hFm.is 3 34 rfl g3
        have HC : Hid _ := hC
        clear hC
        refine ⟨?_⟩
        go_simp
        refine hK _ _ rfl ?_
        obtain ⟨c0, cS⟩ := HC.out
        refine ⟨fun h => c0 (by simpa using h), fun h => ?_⟩
        have h9 := cS (by simpa using h)
        exact ⟨by simp [h9.1], h9.2⟩
      refine StepsE.run rfl ?_ ?_
      · intro L U wr hC hP hlk hcl haf A K hFm hK
        simp [Aft, Region.binds] at haf
        have g4 : U 35 = (.pointer (some ⟨g, 5, none⟩)) := hP 4 35 (by simp [haf]) rfl
        have e35 : A.tmps[35]? = some (.pointer (some ⟨g, 5, none⟩)) := hFm.is 4 35 rfl g4
        have n7 : L 7 = false := by cases h : L 7 with | false => rfl | true => have h9 := hcl 7 _ rfl h; simp [Aft, Region.binds, hlk] at h9
        have n8 : L 8 = false := by cases h : L 8 with | false => rfl | true => have h9 := hcl 8 _ rfl h; simp [Aft, Region.binds, n7] at h9
        have n17 : L 17 = false := by cases h : L 17 with | false => rfl | true => have h9 := hcl 17 _ rfl h; simp [Aft, Region.binds, n8] at h9
        have hb8 := hC.1 n17
        obtain ⟨m1, m2, m3⟩ := HPM.out wr _ _ (HEV.out.below hb8)
        clear hb8 n7 n8 n17
        have HC : Hid _ := hC
        clear hC
        refine ⟨?_⟩
        go_simp
        refine hK _ _ rfl ?_
        obtain ⟨c0, cS⟩ := HC.out
        refine ⟨fun h => c0 (by simpa using h), fun h => ?_⟩
        have h9 := cS (by simpa using h)
        exact ⟨by simp [h9.1], h9.2⟩
      refine StepsE.run rfl ?_ ?_
      · intro L U wr hC hP hlk hcl haf A K hFm hK
        simp [Aft, Region.binds] at haf
        have e1 : A.tmps[1]? = some (.int .i64 (a : Nat)) := (hFm.old 1 (by decide)).trans (by kernel_rfl)
        have HC : Hid _ := hC
        clear hC
        refine ⟨?_⟩
        go_simp
        refine hK _ _ rfl ?_
        obtain ⟨c0, cS⟩ := HC.out
        refine ⟨fun h => c0 (by simpa using h), fun h => ?_⟩
        have h9 := cS (by simpa using h)
        exact ⟨by simp [h9.1], h9.2⟩
      refine StepsE.run rfl ?_ ?_
      · intro L U wr hC hP hlk hcl haf A K hFm hK
        simp [Aft, Region.binds] at haf
        have g5 : U 36 = (.slice (some ⟨gw, 0, none⟩) d.f.nw cw) := hP 5 36 (by simp [haf]) rfl
        have e36 : A.tmps[36]? = some (.slice (some ⟨gw, 0, none⟩) d.f.nw cw) := hFm.is 5 36 rfl g5
        have g6 : U 37 = (.int .i64 (a : Nat)) := hP 6 37 (by simp [haf]) rfl
        have e37 : A.tmps[37]? = some (.int .i64 (a : Nat)) := hFm.is 6 37 rfl g6
        have HC : Hid _ := hC
        clear hC
        refine ⟨?_⟩
        go_simp
        refine hK _ _ rfl ?_
        obtain ⟨c0, cS⟩ := HC.out
        refine ⟨fun h => c0 (by simpa using h), fun h => ?_⟩
        have h9 := cS (by simpa using h)
        exact ⟨by simp [h9.1], h9.2⟩
      refine StepsE.run rfl ?_ ?_
      · intro L U wr hC hP hlk hcl haf A K hFm hK
        simp [Aft, Region.binds] at haf
        have g7 : U 38 = (.pointer (some ⟨gw, a, none⟩)) := hP 7 38 (by simp [haf]) rfl
        have e38 : A.tmps[38]? = some (.pointer (some ⟨gw, a, none⟩)) := hFm.is 7 38 rfl g7
        have n17 : L 17 = false := by cases h : L 17 with | false => rfl | true => have h9 := hcl 17 _ rfl h; simp [Aft, Region.binds, hlk] at h9
        have hb8 := hC.1 n17
        obtain ⟨m1, m2, m3⟩ := HPM.out wr _ _ (HEV.out.below hb8)
        clear hb8 n17
        have HC : Hid _ := hC
        clear hC
        refine ⟨?_⟩
        go_simp
        refine hK _ _ rfl ?_
        obtain ⟨c0, cS⟩ := HC.out
        refine ⟨fun h => c0 (by simpa using h), fun h => ?_⟩
        have h9 := cS (by simpa using h)
        exact ⟨by simp [h9.1], h9.2⟩
      refine StepsE.run rfl ?_ ?_
      · intro L U wr hC hP hlk hcl haf A K hFm hK
        simp [Aft, Region.binds] at haf
        have e0 : A.tmps[0]? = some (.pointer (some ⟨g, 0, none⟩)) := (hFm.old 0 (by decide)).trans (by kernel_rfl)
        have HC : Hid _ := hC
        clear hC
        refine ⟨?_⟩
        go_simp
        refine hK _ _ rfl ?_
        obtain ⟨c0, cS⟩ := HC.out
        refine ⟨fun h => c0 (by simpa using h), fun h => ?_⟩
        have h9 := cS (by simpa using h)
        exact ⟨by simp [h9.1], h9.2⟩
      refine StepsE.run rfl ?_ ?_
      · intro L U wr hC hP hlk hcl haf A K hFm hK
        simp [Aft, Region.binds] at haf
        have g9 : U 40 = (.pointer (some ⟨g, 0, none⟩)) := hP 9 40 (by simp [haf]) rfl
        have e40 : A.tmps[40]? = some (.pointer (some ⟨g, 0, none⟩)) := hFm.is 9 40 rfl g9
        have HC : Hid _ := hC
        clear hC
        refine ⟨?_⟩
        go_simp
        refine hK _ _ rfl ?_
        obtain ⟨c0, cS⟩ := HC.out
        refine ⟨fun h => c0 (by simpa using h), fun h => ?_⟩
        have h9 := cS (by simpa using h)
        exact ⟨by simp [h9.1], h9.2⟩
      refine StepsE.run rfl ?_ ?_
      · intro L U wr hC hP hlk hcl haf A K hFm hK
        simp [Aft, Region.binds] at haf
        have g10 : U 41 = (.pointer (some ⟨g, 0, none⟩)) := hP 10 41 (by simp [haf]) rfl
        have e41 : A.tmps[41]? = some (.pointer (some ⟨g, 0, none⟩)) := hFm.is 10 41 rfl g10
        have HC : Hid _ := hC
        clear hC
        refine ⟨?_⟩
        go_simp
        refine hK _ _ rfl ?_
        obtain ⟨c0, cS⟩ := HC.out
        refine ⟨fun h => c0 (by simpa using h), fun h => ?_⟩
        have h9 := cS (by simpa using h)
        exact ⟨by simp [h9.1], h9.2⟩
      refine StepsE.run rfl ?_ ?_
      · intro L U wr hC hP hlk hcl haf A K hFm hK
        simp [Aft, Region.binds] at haf
        have g11 : U 42 = (.pointer (some ⟨g, 2, none⟩)) := hP 11 42 (by simp [haf]) rfl
        have e42 : A.tmps[42]? = some (.pointer (some ⟨g, 2, none⟩)) := hFm.is 11 42 rfl g11
        have HC : Hid _ := hC
        clear hC
        refine ⟨?_⟩
        go_simp
        refine hK _ _ rfl ?_
        obtain ⟨c0, cS⟩ := HC.out
        refine ⟨fun h => c0 (by simpa using h), fun h => ?_⟩
        have h9 := cS (by simpa using h)
        exact ⟨by simp [h9.1], h9.2⟩
      refine StepsE.run rfl ?_ ?_
      · intro L U wr hC hP hlk hcl haf A K hFm hK
        simp [Aft, Region.binds] at haf
        have g12 : U 43 = (.pointer (some ⟨g, 5, none⟩)) := hP 12 43 (by simp [haf]) rfl
        have e43 : A.tmps[43]? = some (.pointer (some ⟨g, 5, none⟩)) := hFm.is 12 43 rfl g12
        have n15 : L 15 = false := by cases h : L 15 with | false => rfl | true => have h9 := hcl 15 _ rfl h; simp [Aft, Region.binds, hlk] at h9
        have n16 : L 16 = false := by cases h : L 16 with | false => rfl | true => have h9 := hcl 16 _ rfl h; simp [Aft, Region.binds, n15] at h9
        have n17 : L 17 = false := by cases h : L 17 with | false => rfl | true => have h9 := hcl 17 _ rfl h; simp [Aft, Region.binds, n16] at h9
        have hb8 := hC.1 n17
        obtain ⟨m1, m2, m3⟩ := HPM.out wr _ _ (HEV.out.below hb8)
        clear hb8 n15 n16 n17
        have HC : Hid _ := hC
        clear hC
        refine ⟨?_⟩
        go_simp
        refine hK _ _ rfl ?_
        obtain ⟨c0, cS⟩ := HC.out
        refine ⟨fun h => c0 (by simpa using h), fun h => ?_⟩
        have h9 := cS (by simpa using h)
        exact ⟨by simp [h9.1], h9.2⟩
      refine StepsE.run rfl ?_ ?_
      · intro L U wr hC hP hlk hcl haf A K hFm hK
        simp [Aft, Region.binds] at haf
        have e2 : A.tmps[2]? = some (.int .i64 (b : Nat)) := (hFm.old 2 (by decide)).trans (by kernel_rfl)
        have HC : Hid _ := hC
        clear hC
        refine ⟨?_⟩
        go_simp
        refine hK _ _ rfl ?_
        obtain ⟨c0, cS⟩ := HC.out
        refine ⟨fun h => c0 (by simpa using h), fun h => ?_⟩
        have h9 := cS (by simpa using h)
        exact ⟨by simp [h9.1], h9.2⟩
      refine StepsE.run rfl ?_ ?_
      · intro L U wr hC hP hlk hcl haf A K hFm hK
        simp [Aft, Region.binds] at haf
        have g13 : U 44 = (.slice (some ⟨gw, 0, none⟩) d.f.nw cw) := hP 13 44 (by simp [haf]) rfl
        have e44 : A.tmps[44]? = some (.slice (some ⟨gw, 0, none⟩) d.f.nw cw) := hFm.is 13 44 rfl g13
        have g14 : U 45 = (.int .i64 (b : Nat)) := hP 14 45 (by simp [haf]) rfl
        have e45 : A.tmps[45]? = some (.int .i64 (b : Nat)) := hFm.is 14 45 rfl g14
        have HC : Hid _ := hC
        clear hC
        refine ⟨?_⟩
        go_simp
        refine hK _ _ rfl ?_
        obtain ⟨c0, cS⟩ := HC.out
        refine ⟨fun h => c0 (by simpa using h), fun h => ?_⟩
        have h9 := cS (by simpa using h)
        exact ⟨by simp [h9.1], h9.2⟩
      refine StepsE.run rfl ?_ ?_
      · intro L U wr hC hP hlk hcl haf A K hFm hK
        simp [Aft, Region.binds] at haf
        have g15 : U 46 = (.pointer (some ⟨gw, b, none⟩)) := hP 15 46 (by simp [haf]) rfl
        have e46 : A.tmps[46]? = some (.pointer (some ⟨gw, b, none⟩)) := hFm.is 15 46 rfl g15
        have n17 : L 17 = false := by cases h : L 17 with | false => rfl | true => have h9 := hcl 17 _ rfl h; simp [Aft, Region.binds, hlk] at h9
        have hb8 := hC.1 n17
        obtain ⟨m1, m2, m3⟩ := HPM.out wr _ _ (HEV.out.below hb8)
        clear hb8 n17
        have HC : Hid _ := hC
        clear hC
        refine ⟨?_⟩
        go_simp
        refine hK _ _ rfl ?_
        obtain ⟨c0, cS⟩ := HC.out
        refine ⟨fun h => c0 (by simpa using h), fun h => ?_⟩
        have h9 := cS (by simpa using h)
        exact ⟨by simp [h9.1], h9.2⟩
      refine StepsE.run rfl ?_ StepsE.nil
      · intro L U wr hC hP hlk hcl haf A K hFm hK
        simp [Aft, Region.binds] at haf
        have g0 : U 31 = (.pointer (some ⟨p, 0, none⟩)) := hP 0 31 (by simp [haf]) rfl
        have e31 : A.tmps[31]? = some (.pointer (some ⟨p, 0, none⟩)) := hFm.is 0 31 rfl g0
        have g8 : U 39 = (.int .i64 (wa : Nat)) := hP 8 39 (by simp [haf]) rfl
        have e39 : A.tmps[39]? = some (.int .i64 (wa : Nat)) := hFm.is 8 39 rfl g8
        have g16 : U 47 = (.int .i64 (wb : Nat)) := hP 16 47 (by simp [haf]) rfl
        have e47 : A.tmps[47]? = some (.int .i64 (wb : Nat)) := hFm.is 16 47 rfl g16
        have l0 : L 0 = true := by simp [haf]
        have l8 : L 8 = true := by simp [haf]
        have l16 : L 16 = true := by simp [haf]
        have a8 := hcl 8 _ rfl l8
        simp [Aft, Region.binds] at a8
        have l7 : L 7 = true := by simp [a8]
        have a16 := hcl 16 _ rfl l16
        simp [Aft, Region.binds] at a16
        have l15 : L 15 = true := by simp [a16]
        have a7 := hcl 7 _ rfl l7
        simp [Aft, Region.binds] at a7
        have l5 : L 5 = true := by simp [a7]
        have l6 : L 6 = true := by simp [a7]
        have a15 := hcl 15 _ rfl l15
        simp [Aft, Region.binds] at a15
        have l13 : L 13 = true := by simp [a15]
        have l14 : L 14 = true := by simp [a15]
        have a5 := hcl 5 _ rfl l5
        simp [Aft, Region.binds] at a5
        have l4 : L 4 = true := by simp [a5]
        have a13 := hcl 13 _ rfl l13
        simp [Aft, Region.binds] at a13
        have l12 : L 12 = true := by simp [a13]
        have a4 := hcl 4 _ rfl l4
        simp [Aft, Region.binds] at a4
        have l3 : L 3 = true := by simp [a4]
        have a12 := hcl 12 _ rfl l12
        simp [Aft, Region.binds] at a12
        have l11 : L 11 = true := by simp [a12]
        have a3 := hcl 3 _ rfl l3
        simp [Aft, Region.binds] at a3
        have l2 : L 2 = true := by simp [a3]
        have a11 := hcl 11 _ rfl l11
        simp [Aft, Region.binds] at a11
        have l10 : L 10 = true := by simp [a11]
        have a2 := hcl 2 _ rfl l2
        simp [Aft, Region.binds] at a2
        have l1 : L 1 = true := by simp [a2]
        have a10 := hcl 10 _ rfl l10
        simp [Aft, Region.binds] at a10
        have l9 : L 9 = true := by simp [a10]
        refine ⟨?_⟩
        have HCr : Hid _ := HEV.out.below (hC.1 hlk)
        have HB9 : Hid _ := hC.1 hlk
        have HL : Hid (L 0 = true ∧ L 1 = true ∧ L 2 = true ∧ L 3 = true ∧ L 4 = true ∧ L 5 = true ∧ L 6 = true ∧ L 7 = true ∧ L 8 = true ∧ L 9 = true ∧ L 10 = true ∧ L 11 = true ∧ L 12 = true ∧ L 13 = true ∧ L 14 = true ∧ L 15 = true ∧ L 16 = true) := ⟨l0, l1, l2, l3, l4, l5, l6, l7, l8, l9, l10, l11, l12, l13, l14, l15, l16⟩
        clear hC
        have hgl := HCr.out.aw.lt
        go_simp
        refine (ask_any p g x0 c00 (dR d d.f.ne y' s') wa wb wr HCr.out hwan hwbn (by show (0 : Nat) ≤ _; omega)).mono ?_
        rintro e w1 ⟨rfl, v9, a1, a2, a3⟩
        go_simp
        refine hK _ _ rfl ⟨fun h => by simp at h, fun _ => ⟨by simp [HL.out], v9, a1, (Mv.below HB9.out).trans a2 (fun q hq => Or.inl hq), ?_⟩⟩
        rcases a3 with h9 | ⟨q, h8, h9⟩
        · exact Or.inl h9
        · exact Or.inr ⟨q, h8, Nat.le_trans HB9.out.size h9⟩
    intro L U7 V7 hall hC hP
    have hE7 := (hC.2 (hall 17 (by decide))).2
    clear hC hP hall HPM
    simp only [setM_some, setM_none, setM_nil]
    obtain ⟨v7, a1, a2, a3⟩ := hE7
    have HCN : Hid (∃ r, Anc s'.S wa r ∧ Anc s'.S wb r) := by
      obtain ⟨r, r1, r2⟩ := (HKI.out.hist.conn wa wb hwan hwbn (by rw [HW.out.1, HW.out.2]; exact HY.out)).up HKI.out.hist (fun c hc => hc)
      exact ⟨r, r1.anc, r2.anc⟩
    have hk7 : Know d.f s' (askC c00 wa wb) (fun _ => False) := (know0 d.f s' _).ask hwan hwbn HCN.out
    have hm7 : mes s'.ns (askC c00 wa wb) ≤ 100000 := by
      have h9 := (askC_mono c00 wa wb).2.2.2.2
      have h8 : c00.wt.length = 0 := rfl
      unfold mes
      omega
    have HI7 : Hid (Know d.f s' (askC c00 wa wb) (fun _ => False) ∧ Asked (askC c00 wa wb).se wa wb ∧ mes s'.ns (askC c00 wa wb) ≤ 100000 ∧ EX V7 p g { x0 with vW := v7 } (askC c00 wa wb) (dR d d.f.ne y' s') ∧ Mv (Fy p x0) V V7 ∧ Fx2 x0 { x0 with vW := v7 } V.heap.size) := ⟨hk7, askC_asked _ _ _, hm7, a1, a2, ⟨rfl, rfl, a3, Or.inl rfl⟩⟩
    clear a1 a2 a3 hk7 hm7
    go_wp2
    go_loopg [11] (mes s'.ns (askC c00 wa wb)) (fun gk _ wr => ∃ (x : Ax) (c : Ac), Hid (mes s'.ns c = gk ∧ Know d.f s' c (fun _ => False) ∧ Asked c.se wa wb ∧ mes s'.ns c ≤ 100000 ∧ EX wr p g x c (dR d d.f.ne y' s') ∧ Mv (Fy p x0) V wr ∧ Fx2 x0 x V.heap.size))
    case atStart => exact ⟨_, _, rfl, HI7.out⟩
    case round =>
      clear HI7 HEV
      rename World => wl
      obtain ⟨x, c, HR⟩ := hrel
      have hE := HR.out.2.2.2.2.1
      rcases List.eq_nil_or_concat c.wt with hc | ⟨l, q, hc⟩
      · have HC : Hid (c.wt = []) := hc
        obtain ⟨-, -, s2, -, s4⟩ := hE.aw.cells
        obtain ⟨av, cv, hvv, -, -, -, -⟩ := hE.aw.wait.shape
        rw [hvv, hc] at s2
        simp only [List.length_nil] at s2
        obtain ⟨ae, ce, hve, -, -, -, -⟩ := hE.aw.eqs.shape
        rw [hve] at s4
        have HVE : Hid (x.vE = .slice ae c.eq.length ce) := hve
        have hol := hE.aw.eqs
        rw [hve] at hol
        have hpl := hE.aw.lt
        have hel : c.eq.length ≤ 10000 := by
          have h9 := HR.out.2.1.len
          have h8 := gc_le c.ab s'.ns
          omega
        clear hc hE hvv hve
        go_wp2_with fail
        refine (sort_any _ c.eq wl hol (by omega)).mono ?_
        rintro e w8 ⟨rfl, hol8, hM8⟩
        have hpo : (Value.slice ae c.eq.length ce).ownBlock ≠ some p := hol.neB HR.out.2.2.2.2.1.aw.blk (by decide)
        have s48 : w8.cell? ⟨p, 4, none⟩ = some (.slice ae c.eq.length ce) := (World.cell?_of_block (a := ⟨p, 4, none⟩) (hM8.other p hpl hpo)).trans s4
        have hpl8 : p < w8.heap.size := Nat.lt_of_lt_of_le hpl hM8.size
        have HF : Hid (OL 1 3 w8 (.slice ae c.eq.length ce) c.eq.length (inC (srt c.eq)) ∧ Mv (fun b => (Value.slice ae c.eq.length ce).ownBlock = some b) wl w8) := ⟨hol8, hM8⟩
        clear hol8 hM8 hol hpo s4 s2 hpl
        go_wp2
        refine bodyPost_ret (v := .tuple #[.slice ae c.eq.length ce, .int .i64 0]) (by simp [results, Try.results10, go_sem]) rfl ?_
        obtain ⟨k1, k2, k3, k4, k5⟩ := HS.out
        obtain ⟨r1, r2, r3, r4, r5, r6, r7⟩ := HR.out
        have hbl := HB.out
        have fE : ∀ q, (Value.slice ae c.eq.length ce).ownBlock = some q → Fy p x q := fun q hq => Or.inr (Or.inr (Or.inr (Or.inr (by rw [HVE.out]; exact hq))))
        have fN : ∀ q, Fy p x q → w1.heap.size ≤ q := fun q hq => (r7.fy q hq).elim (fun h9 => HFN.out q h9) (fun h9 => Nat.le_trans hbl.size h9)
        refine ⟨y', s', k1, k2, r5.gw.keep (fun q hq => HF.out.2.other q (r5.gw.hlt hq) (fun h9 => r5.ap q (fE q h9) hq)), ?_, k5, Or.inr ⟨HY.out, _, srt c.eq, rfl, ?_, by rw [srt_len]; exact HF.out.1, fun q hq => Nat.le_trans k4.size (fN q (fE q hq))⟩⟩
        · have j1 : Mv (Fg g d) w V := k4.trans (Mv.below (F := Fg g d) hbl) (fun q hq => Or.inl hq)
          have j2 : Mv (Fg g d) w wl := j1.trans r6 (fun q hq => Or.inr (Nat.le_trans k4.size (HFN.out q hq)))
          exact j2.trans HF.out.2 (fun q hq => Or.inr (Nat.le_trans k4.size (fN q (fE q hq))))
        · exact told_of HSM.out k2 HKI.out.hist r2 HC.out HAB.out.1 HAB.out.2 HY.out (by rw [← HW.out.1, ← HW.out.2]; exact r3)
      · rw [List.concat_eq_append] at hc
        have HC : Hid (c.wt = l ++ [q]) := hc
        have hlen : c.wt.length = l.length + 1 := by rw [hc]; simp
        obtain ⟨bw, cw9, hv, hcc1, hcc2⟩ := hE.aw.wait.open l.length (by omega)
        rw [hlen] at hv
        have hol := hE.aw.wait
        rw [hlen, hv] at hol
        have t0 := hol.cell (i := l.length) (by omega) (j := 0) (by omega)
        have t1 := hol.cell (i := l.length) (by omega) (j := 1) (by omega)
        have eg : c.wt.getD l.length (0, 0) = q := by rw [hc]; simp [List.getD_eq_getElem?_getD]
        simp only [prC, eg, Nat.add_zero, List.getElem?_cons_zero, List.getElem?_cons_succ] at t0 t1
        have hol2 : OL 2 51 wl (.slice (some ⟨bw, 0, none⟩) l.length cw9) l.length (prC l) := (hol.take l.length (by omega)).congr (fun i hi => by
          unfold prC
          rw [hc, List.getD_eq_getElem?_getD, List.getD_eq_getElem?_getD, List.getElem?_append_left hi])
        obtain ⟨-, -, s2, -, -⟩ := hE.aw.cells
        rw [hv] at s2
        have z2 := hE.aw.frozen 2
        have hpl := hE.aw.lt
        have hbwl : bw < wl.heap.size := hol.lt rfl
        have HBW : Hid (bw < wl.heap.size) := hbwl
        have hne : p ≠ bw := fun e => hol.neB hE.aw.blk (by decide) (by rw [← e]; rfl)
        have hll : l.length ≤ 100000 := by
          have h9 := HR.out.2.2.2.1
          unfold mes at h9
          omega
        obtain ⟨k1, k2⟩ := hE.aw.popWait (v := .slice (some ⟨bw, 0, none⟩) l.length cw9) (l := l) (by rw [hv]; rfl) hol2
        obtain ⟨q1, q2⟩ := q
        simp only at t0 t1
        have hqs := HR.out.2.1.pairs q1 q2 (HR.out.2.1.wts (q1, q2) (by rw [HC.out]; simp))
        obtain ⟨hq1, hq2, hqr, -⟩ := hqs
        have HQR : Hid (∃ r, Anc s'.S q1 r ∧ Anc s'.S q2 r) := hqr
        have fx1 : Fx2 x { x with vW := .slice (some ⟨bw, 0, none⟩) l.length cw9 } wl.heap.size := ⟨rfl, rfl, Or.inl (by rw [hv]; rfl), Or.inl rfl⟩
        have k3 : Mv (Fy p x) wl (wl.setCell ⟨p, 2, none⟩ (.slice (some ⟨bw, 0, none⟩) l.length cw9)) := ⟨k2.os, k2.tape, k2.output, k2.size, fun b hb hn => k2.other b hb (fun h9 => hn (Or.inl h9))⟩
        have hE1 := hE.mv k3 (fun b hb => Or.inl hb) k1 (fun b hb => fx1.fy b hb)
        obtain ⟨W2, hW2⟩ : ∃ W2, W2 = (wl.setCell ⟨p, 2, none⟩ (.slice (some ⟨bw, 0, none⟩) l.length cw9)).alloc (.cells #[.int .i64 (q1 : Nat), .int .i64 (q2 : Nat)] 51 (0, 0)) := ⟨_, rfl⟩
        have hss : (wl.setCell ⟨p, 2, none⟩ (.slice (some ⟨bw, 0, none⟩) l.length cw9)).heap.size = wl.heap.size := by simp
        have hb2 : Below (wl.setCell ⟨p, 2, none⟩ (.slice (some ⟨bw, 0, none⟩) l.length cw9)).heap.size (wl.setCell ⟨p, 2, none⟩ (.slice (some ⟨bw, 0, none⟩) l.length cw9)) W2 := by rw [hW2]; exact (Below.refl _ _).alloc (Nat.le_refl _) _
        have kb := heap_alloc_new (wl.setCell ⟨p, 2, none⟩ (.slice (some ⟨bw, 0, none⟩) l.length cw9)) (.cells #[.int .i64 (q1 : Nat), .int .i64 (q2 : Nat)] 51 (0, 0))
        rw [← hW2, hss] at kb
        have HE2 : Hid (EX W2 p g { x with vW := .slice (some ⟨bw, 0, none⟩) l.length cw9 } { c with wt := l } (dR d d.f.ne y' s') ∧ Mv (Fy p x) wl W2 ∧ Fx2 x { x with vW := .slice (some ⟨bw, 0, none⟩) l.length cw9 } wl.heap.size) := ⟨hE1.below hb2, k3.trans (Mv.below hb2) (fun b hb => Or.inl hb), fx1⟩
        have HFQ : Hid (∀ b, Fy p x b → b < wl.heap.size) := fun b hb => hE.aw.fyLt hb
        have p0 : W2.cell? ⟨wl.heap.size, 0, none⟩ = some (.int .i64 (q1 : Nat)) := cell_of_row _ wl.heap.size 0 _ 51 (0, 0) kb
        have p1 : W2.cell? ⟨wl.heap.size, 1, none⟩ = some (.int .i64 (q2 : Nat)) := cell_of_row _ wl.heap.size 1 _ 51 (0, 0) kb
        have hql : wl.heap.size < W2.heap.size := (Array.getElem?_eq_some_iff.1 kb).1
        have HKN : Hid (Know d.f s' { c with wt := l } (fun z => z = (q1, q2)) ∧ mes s'.ns { c with wt := l } + 1 = gk ∧ mes s'.ns { c with wt := l } ≤ 100000) := by
          refine ⟨HR.out.2.1.pop HC.out, ?_, ?_⟩
          · rw [← HR.out.1]
            unfold mes
            show l.length + 2 * (s'.ns - gc s'.ns c.ab) + 1 = c.wt.length + 2 * (s'.ns - gc s'.ns c.ab)
            omega
          · have h9 := HR.out.2.2.2.1
            unfold mes at h9 ⊢
            show l.length + 2 * (s'.ns - gc s'.ns c.ab) ≤ _
            omega
        have hcap : l.length + 1 ≤ cw9 := by omega
        have hcap2 : l.length ≤ cw9 := by omega
        clear k1 k2 k3 hE1 hb2 fx1 hol2 eg hol hv hlen hc kb hss hqr hcc1 hcc2
        go_wp2_with fail
        rw [← hW2]
        clear hW2
        refine (meeting_any p g _ _ (dR d d.f.ne y' s') q1 q2 W2 HE2.out.1 HKI.out.inv HKN.out.1.ab hq1 hq2 HQR.out).mono ?_
        rintro e w3 ⟨M, rfl, m1, m2, m3, m4, ab3, hE3, m5, m6, hM3⟩
        have HM3 : Hid (M < s'.ns ∧ Anc s'.S q1 M ∧ Anc s'.S q2 M ∧ ¬ AbG ab3 M ∧ KX w3 p g { x with vW := .slice (some ⟨bw, 0, none⟩) l.length cw9 } { c with wt := l, ab := ab3 } (dR d d.f.ne y' s') (fun z => z = (q1, q2)) ∧ mes s'.ns { c with wt := l, ab := ab3 } = mes s'.ns { c with wt := l } ∧ Mv (Fy p x) wl w3) := by
          refine ⟨m1, m2, m3, fun h9 => m4 ((m6 M).1 h9), ⟨hE3, HKN.out.1.table m5 m6⟩, ?_, HE2.out.2.1.trans hM3 (fun b hb => Or.inl (Or.inr (Or.inr (Or.inl hb))))⟩
          show l.length + 2 * (s'.ns - gc s'.ns ab3) = l.length + 2 * (s'.ns - gc s'.ns c.ab)
          rw [gc_congr m6]
        have hqA : wl.heap.size ≠ x.bA := fun e => by have := HFQ.out x.bA (Or.inr (Or.inr (Or.inl rfl))); omega
        have p03 : w3.cell? ⟨wl.heap.size, 0, none⟩ = some (.int .i64 (q1 : Nat)) := (World.cell?_of_block (a := ⟨wl.heap.size, 0, none⟩) (hM3.other _ hql hqA)).trans p0
        have p13 : w3.cell? ⟨wl.heap.size, 1, none⟩ = some (.int .i64 (q2 : Nat)) := (World.cell?_of_block (a := ⟨wl.heap.size, 1, none⟩) (hM3.other _ hql hqA)).trans p1
        have hql3 : wl.heap.size < w3.heap.size := Nat.lt_of_lt_of_le hql hM3.size
        clear m1 m2 m3 m4 hE3 m5 m6 hM3 p0 p1 hql hqA t0 t1 s2 z2 hpl hbwl
        go_wp2_with fail
        refine (climb_any p g _ _ (dR d d.f.ne y' s') _ H q1 M w3 HM3.out.2.2.2.2.1 HKI.out hq1 HM3.out.1 HM3.out.2.1 HM3.out.2.2.2.1 (by have h9 := HM3.out.2.2.2.2.2.1; have h8 := HKN.out.2.2; show mes s'.ns _ ≤ _; omega)).mono ?_
        rintro e w4 ⟨rfl, x4, c4, n1, n2, n3, n4, n5, n6, hM4, n8⟩
        have fy1 : ∀ b, Fy p { x with vW := .slice (some ⟨bw, 0, none⟩) l.length cw9 } b → Fy p x b ∨ wl.heap.size ≤ b := HE2.out.2.2.fy
        have hqF : ¬ Fy p { x with vW := .slice (some ⟨bw, 0, none⟩) l.length cw9 } wl.heap.size := fun h9 => by
          have e9 : { x with vW := .slice (some ⟨bw, 0, none⟩) l.length cw9 }.vW.ownBlock = x.vW.ownBlock ∨ ∃ z, (Value.slice (some ⟨bw, 0, none⟩) l.length cw9).ownBlock = some z ∧ wl.heap.size ≤ z := HE2.out.2.2.2.2.1
          rcases h9 with h9 | h9 | h9 | h9 | h9
          · have := HFQ.out p (Or.inl rfl); omega
          · have := HFQ.out x.bS (Or.inr (Or.inl rfl)); replace h9 : wl.heap.size = x.bS := h9; omega
          · have := HFQ.out x.bA (Or.inr (Or.inr (Or.inl rfl))); replace h9 : wl.heap.size = x.bA := h9; omega
          · have hlt := HBW.out
            have e8 : (some bw : Option Nat) = some wl.heap.size := h9
            injection e8 with e8
            omega
          · have := HFQ.out _ (Or.inr (Or.inr (Or.inr (Or.inr h9)))); omega
        have p14 : w4.cell? ⟨wl.heap.size, 1, none⟩ = some (.int .i64 (q2 : Nat)) := (World.cell?_of_block (a := ⟨wl.heap.size, 1, none⟩) (hM4.other _ hql3 hqF)).trans p13
        have hql4 : wl.heap.size < w4.heap.size := Nat.lt_of_lt_of_le hql3 hM4.size
        have HM4 : Hid (KX w4 p g x4 c4 (dR d d.f.ne y' s') (fun z => z = (q1, q2)) ∧ Up s'.S (AbG c4.ab) q1 M ∧ ¬ AbG c4.ab M ∧ (∀ z, c.se z = true → c4.se z = true) ∧ mes s'.ns c4 ≤ mes s'.ns { c with wt := l } ∧ Mv (Fy p x) wl w4 ∧ Fx2 x x4 wl.heap.size) := by
          refine ⟨n1, n2, n3, n5, by have h9 := HM3.out.2.2.2.2.2.1; rw [← h9]; exact n6, HM3.out.2.2.2.2.2.2.trans hM4 (fun b hb => fy1 b hb), HE2.out.2.2.trans n8 HM3.out.2.2.2.2.2.2.size⟩
        clear n1 n2 n3 n4 n5 n6 hM4 n8 fy1 hqF p03 p13 hql3
        go_wp2_with fail
        refine (climb_any p g x4 c4 (dR d d.f.ne y' s') _ H q2 M w4 HM4.out.1 HKI.out hq2 HM3.out.1 HM3.out.2.2.1 HM4.out.2.2.1 (by have h9 := HM4.out.2.2.2.2.1; have h8 := HKN.out.2.2; show mes s'.ns _ ≤ _; omega)).mono ?_
        rintro e w5 ⟨rfl, x5, c5, n1, n2, n3, n4, n5, n6, hM5, n8⟩
        have HM5 : Hid (Know d.f s' c5 (fun _ => False) ∧ Asked c5.se wa wb ∧ mes s'.ns c5 < gk ∧ mes s'.ns c5 ≤ 100000 ∧ EX w5 p g x5 c5 (dR d d.f.ne y' s') ∧ Mv (Fy p x0) V w5 ∧ Fx2 x0 x5 V.heap.size) := by
          have hmt : Meet s'.S (AbG c5.ab) q1 q2 := ⟨M, HM4.out.2.1.mono n4, n2, n3⟩
          have g1 : Mv (Fy p x) wl w5 := HM4.out.2.2.2.2.2.1.trans hM5 (fun b hb => HM4.out.2.2.2.2.2.2.fy b hb)
          have g2 : Fx2 x x5 wl.heap.size := HM4.out.2.2.2.2.2.2.trans n8 HM4.out.2.2.2.2.2.1.size
          refine ⟨n1.k.met hmt, HR.out.2.2.1.mono (fun z hz => n5 z (HM4.out.2.2.2.1 z hz)), ?_, ?_, n1.e, HR.out.2.2.2.2.2.1.trans g1 (fun b hb => HR.out.2.2.2.2.2.2.fy b hb), HR.out.2.2.2.2.2.2.trans g2 HR.out.2.2.2.2.2.1.size⟩
          · have h9 := HM4.out.2.2.2.2.1
            have h8 := HKN.out.2.1
            replace n6 : mes s'.ns c5 ≤ mes s'.ns c4 := n6
            omega
          · have h9 := HM4.out.2.2.2.2.1
            have h8 := HKN.out.2.2
            replace n6 : mes s'.ns c5 ≤ mes s'.ns c4 := n6
            omega
        clear n1 n2 n3 n4 n5 n6 hM5 n8 p14 hql4
        go_wp2
        go_roundg (mes s'.ns c5)
        case measure => exact HM5.out.2.2.1
        case rel => exact ⟨x5, c5, rfl, HM5.out.1, HM5.out.2.1, HM5.out.2.2.2⟩
  · have HY : Hid ((s'.S (d.f.W a)).cls ≠ (s'.S (d.f.W b)).cls) := hsame
    clear hG
    go_wp2
    refine bodyPost_ret (v := .tuple #[.slice none 0 0, .int .i64 51]) (by simp [results, Try.results10, go_sem]) rfl ?_
    obtain ⟨k1, k2, k3, k4, k5⟩ := HS.out
    exact ⟨y', s', k1, k2, k3, k4, k5, Or.inl ⟨HY.out, rfl⟩⟩
end Euf
end Go.Proofs.Ytmnpefiaelpkfac
