/- The contract of the document's Equal; it proves no statement of the seat. -/
import Derived.Test.YtmnpefiaelpkfacEufRaJClasses
namespace Go.Proofs.Ytmnpefiaelpkfac
open Go.RowKit
set_option linter.unusedVariables false
namespace Euf
def eqP (f : Fx) (i : Nat) : List Value := [.int .i64 ((f.E i).1 : Nat), .int .i64 ((f.E i).2.1 : Nat)]
/-- The document's graph says what the graph says. -/
structure RG (w : World) (vN vE : Value) (rg : Nat → Value) (d : Gd) : Prop where
  nodes : OL 2 84 w vN d.t.nn (fun i => [.string (d.t.N i).1, rg i])
  args : ∀ i, i < d.t.nn → OL 1 3 w (rg i) (d.t.N i).2.length (natC (d.t.N i).2)
  eqs : OL 2 51 w vE d.f.ne (eqP d.f)
/-- Its blocks. -/
def Fz (vN vE : Value) (rg : Nat → Value) (n : Nat) (b : Nat) : Prop := vN.ownBlock = some b ∨ vE.ownBlock = some b ∨ ∃ i, i < n ∧ (rg i).ownBlock = some b
section
variable {w w' : World} {vN vE : Value} {rg : Nat → Value} {d : Gd}
theorem RG.lt (h : RG w vN vE rg d) {b : Nat} (hb : Fz vN vE rg d.t.nn b) : b < w.heap.size := by
  rcases hb with hb | hb | ⟨i, hi, hb⟩
  · exact h.nodes.lt hb
  · exact h.eqs.lt hb
  · exact (h.args i hi).lt hb
theorem RG.keep (h : RG w vN vE rg d) (hb : ∀ b, Fz vN vE rg d.t.nn b → w'.heap[b]? = w.heap[b]?) : RG w' vN vE rg d :=
  ⟨h.nodes.stay fun b e => hb b (Or.inl e), fun i hi => (h.args i hi).stay fun b e => hb b (Or.inr (Or.inr ⟨i, hi, e⟩)), h.eqs.stay fun b e => hb b (Or.inr (Or.inl e))⟩
theorem RG.below (h : RG w vN vE rg d) (hb : Below w.heap.size w w') : RG w' vN vE rg d := h.keep fun b hf => hb.block b (h.lt hf)
end
/-- An empty list that was written down. -/
theorem ol_empty (w : World) (sz : Nat) (e : TypeId) (f : Nat → List Value) : OL sz e (w.alloc (.cells #[] e (0, 0))) (.slice (some ⟨w.heap.size, 0, none⟩) 0 0) 0 f := Or.inr ⟨w.heap.size, 0, #[], rfl, heap_alloc_new w _, Nat.le_refl _, Nat.zero_le _, by simp, fun i hi => absurd hi (Nat.not_lt_zero _)⟩
theorem flat_mem {f : Nat → List Value} : ∀ (n : Nat) (u : Value), u ∈ flat f n → ∃ i, i < n ∧ u ∈ f i
  | 0, u, h => by cases h
  | n + 1, u, h => by
    rw [flat, List.mem_append] at h
    rcases h with h | h
    · obtain ⟨i, h1, h2⟩ := flat_mem n u h
      exact ⟨i, by omega, h2⟩
    · exact ⟨n, by omega, h⟩
theorem App.toBelow {v v' : Value} {w w' : World} (h : App v v' w w') {n : Nat} (hn : n ≤ w.heap.size) (hv : ∀ b, v.ownBlock = some b → n ≤ b) : Below n w w' := ⟨h.os, h.tape, h.output, h.size, fun b hb => h.other b (by omega) (fun e => by have := hv b e; omega)⟩

theorem wpList_append_list {P : Program} {w : World} {ops : Array Oper} {rest : List Oper} {o : Oper} {act : Act} {Q : Exit → Act → World → Prop} (hgd : o.guard = none) (s x : Operand) (t : TypeId) (hop : o.op = .call { callee := .builtin .append, args := #[s, x], argTypes := #[t, t] })
    (sz : Nat) (e : TypeId) (z : Value) (bytes : Nat) (h1 : P.underlying t = some (.slice e)) (h2 : (P.info? e).map (fun i => (i.zero, i.size, i.bytes)) = some (some z, sz, bytes)) (hby : bytes ≤ 1000) (hzs : z.cells.size = sz) (hsz : 0 < sz)
    (v : Value) (n : Nat) (f : Nat → List Value) (hs : act.eval s = v) (hown : OL sz e w v n f) (hlf : ∀ k, k < n → (f k).length = sz) (v2 : Value) (m : Nat) (f2 : Nat → List Value) (hx : act.eval x = v2) (h3 : OL sz e w v2 m f2) (hl2 : ∀ k, k < m → (f2 k).length = sz) (ho2 : ∀ u ∈ flat f2 m, u.oneCell' = true) (hn : n + m ≤ 1000000000)
    (f' : Nat → List Value) (hf1 : ∀ k, k < n → f' k = f k) (hf2 : ∀ k, k < m → f' (n + k) = f2 k)
    (h : ∀ v' w', OL sz e w' v' (n + m) f' → App v v' w w' → wpList P ops Q rest (act.put o.dst v') w') : wpList P ops Q (o :: rest) act w :=
  wpList_plain hgd fun _ hK => wp_append_list s x t hop sz e z bytes h1 h2 hby hzs hsz v n f hs hown hlf v2 m f2 hx h3 hl2 ho2 hn f' hf1 hf2 fun v' w' k1 k2 => hK _ _ (h v' w' k1 k2)
set_option maxRecDepth 20000 in
set_option maxHeartbeats 8000000 in
theorem rEqual_bad (aN aE : Option Addr) (nn cN ne cE : Nat) (a b : Int) (w : World) (hnn : nn ≤ 1000000) (hz : (okIn nn a && okIn nn b) = false) :
    Calls Try.prog 29 #[.agg #[.slice aN nn cN, .slice aE ne cE], .int .i64 a, .int .i64 b] w fun e w' => e = .returned (.tuple #[.agg #[.slice aN nn cN, .slice aE ne cE], .int .i64 0, .int .i64 50]) ∧ Below w.heap.size w w' := by
  have HZ : Hid ((okIn nn a && okIn nn b) = false) := hz
  clear hz
  obtain ⟨W0, hW0⟩ : ∃ W0, W0 = (w.alloc (.cells #[.slice aN nn cN, .slice aE ne cE] 28 (0, 0))).alloc (.cells #[.slice none 0 0, .slice none 0 0] 28 (0, 0)) := ⟨_, rfl⟩
  have B0 : Blk 28 W0 w.heap.size #[.slice aN nn cN, .slice aE ne cE] := by rw [hW0]; exact (Below.heap_alloc _ _ w.heap.size (by simp)).trans (heap_alloc_new w _)
  have B1 : Blk 28 W0 (w.heap.size + 1) #[.slice none 0 0, .slice none 0 0] := by
    have k1 := heap_alloc_new (w.alloc (.cells #[.slice aN nn cN, .slice aE ne cE] 28 (0, 0))) (.cells #[.slice none 0 0, .slice none 0 0] 28 (0, 0))
    have s1 : (w.alloc (.cells #[.slice aN nn cN, .slice aE ne cE] 28 (0, 0))).heap.size = w.heap.size + 1 := by simp
    rw [s1] at k1
    rw [hW0]; exact k1
  have hb0 : Below w.heap.size w W0 := by rw [hW0]; go_grown
  go_enter Try.func29, Try.ntmps29
  go_wp2_with fail
  rw [← hW0]
  clear hW0
  refine (Is_any aN aE nn cN ne cE a _ hnn).mono ?_
  rintro e w1 ⟨rfl, hb1⟩
  replace B0 := B0.stay hb1
  replace B1 := B1.stay hb1
  replace hb0 := hb0.trans (hb1.mono hb0.size)
  clear hb1 W0
  obtain ⟨c0, c1, z0, z1⟩ := B0.two
  obtain ⟨r0, r1, y0, y1⟩ := B1.two
  have hl0 := B0.lt
  have hl1 := B1.lt
  cases hoa : okIn nn a with
  | false =>
    clear hoa
    go_wp2
    refine bodyPost_ret (v := .tuple #[.agg #[.slice aN nn cN, .slice aE ne cE], .int .i64 0, .int .i64 50]) (by simp [results, Try.results29, go_sem, r0, r1]) rfl ?_
    exact ⟨rfl, below_store2 hb0 (by omega) _ _⟩
  | true =>
    have HOB : Hid (okIn nn b = false) := by have := HZ.out; rw [hoa] at this; show _ = _; simpa using this
    clear hoa
    go_wp2_with fail
    refine (Is_any aN aE nn cN ne cE b _ hnn).mono ?_
    rintro e w2 ⟨rfl, hb2⟩
    replace B0 := B0.stay hb2
    replace B1 := B1.stay hb2
    replace hb0 := hb0.trans (hb2.mono hb0.size)
    clear c0 c1 z0 z1 r0 r1 y0 y1 hb2
    obtain ⟨c0, c1, z0, z1⟩ := B0.two
    obtain ⟨r0, r1, y0, y1⟩ := B1.two
    have hl0 := B0.lt
    have hl1 := B1.lt
    rw [HOB.out]
    go_wp2
    refine bodyPost_ret (v := .tuple #[.agg #[.slice aN nn cN, .slice aE ne cE], .int .i64 0, .int .i64 50]) (by simp [results, Try.results29, go_sem, r0, r1]) rfl ?_
    exact ⟨rfl, below_store2 hb0 (by omega) _ _⟩

set_option maxRecDepth 20000 in
set_option maxHeartbeats 8000000 in
theorem rEqual_any (aN aE : Option Addr) (cN cE : Nat) (rg : Nat → Value) (d : Gd) (a b : Nat) (q : Nat) (w : World) (h : RG w (.slice aN d.t.nn cN) (.slice aE d.f.ne cE) rg d) (ha : a < d.t.nn) (hb : b < d.t.nn) (hnn : d.t.nn ≤ 10000) (hne : d.f.ne ≤ 10000) :
    Calls Try.prog 29 #[.agg #[.slice aN d.t.nn cN, .slice aE d.f.ne cE], .int .i64 (a : Nat), .int .i64 (b : Nat)] w fun e w' => ∃ (aE' : Option Addr) (cE' : Nat), e = .returned (.tuple #[.agg #[.slice aN d.t.nn cN, .slice aE' (d.f.ne + 1) cE'], .int .i64 (d.f.ne : Nat), .int .i64 0]) ∧ OL 2 51 w' (.slice aE' (d.f.ne + 1) cE') (d.f.ne + 1) (eqP { d.f with E := upd d.f.E d.f.ne (a, b, q) }) ∧ (∀ z, (Value.slice aE' (d.f.ne + 1) cE').ownBlock = some z → w.heap.size ≤ z) ∧ Below w.heap.size w w' := by
  have HR : Hid (RG w (.slice aN d.t.nn cN) (.slice aE d.f.ne cE) rg d) := h
  have HA : Hid (okIn d.t.nn (a : Int) = true ∧ okIn d.t.nn (b : Int) = true) := by constructor <;> simp [okIn] <;> omega
  clear h ha hb
  obtain ⟨W0, hW0⟩ : ∃ W0, W0 = (w.alloc (.cells #[.slice aN d.t.nn cN, .slice aE d.f.ne cE] 28 (0, 0))).alloc (.cells #[.slice none 0 0, .slice none 0 0] 28 (0, 0)) := ⟨_, rfl⟩
  have B0 : Blk 28 W0 w.heap.size #[.slice aN d.t.nn cN, .slice aE d.f.ne cE] := by rw [hW0]; exact (Below.heap_alloc _ _ w.heap.size (by simp)).trans (heap_alloc_new w _)
  have B1 : Blk 28 W0 (w.heap.size + 1) #[.slice none 0 0, .slice none 0 0] := by
    have k1 := heap_alloc_new (w.alloc (.cells #[.slice aN d.t.nn cN, .slice aE d.f.ne cE] 28 (0, 0))) (.cells #[.slice none 0 0, .slice none 0 0] 28 (0, 0))
    have s1 : (w.alloc (.cells #[.slice aN d.t.nn cN, .slice aE d.f.ne cE] 28 (0, 0))).heap.size = w.heap.size + 1 := by simp
    rw [s1] at k1
    rw [hW0]; exact k1
  have hb0 : Below w.heap.size w W0 := by rw [hW0]; go_grown
  go_enter Try.func29, Try.ntmps29
  go_wp2_with fail
  rw [← hW0]
  clear hW0
  refine (Is_any aN aE d.t.nn cN d.f.ne cE a _ (by omega)).mono ?_
  rintro e w1 ⟨rfl, hb1⟩
  replace B0 := B0.stay hb1
  replace B1 := B1.stay hb1
  replace hb0 := hb0.trans (hb1.mono hb0.size)
  clear hb1 W0
  obtain ⟨c0, c1, z0, z1⟩ := B0.two
  have hl0 := B0.lt
  rw [HA.out.1]
  go_wp2_with fail
  refine (Is_any aN aE d.t.nn cN d.f.ne cE b _ (by omega)).mono ?_
  rintro e w2 ⟨rfl, hb2⟩
  replace B0 := B0.stay hb2
  replace B1 := B1.stay hb2
  replace hb0 := hb0.trans (hb2.mono hb0.size)
  clear c0 c1 z0 z1 hb2 hl0
  obtain ⟨c0, c1, z0, z1⟩ := B0.two
  have hl0 := B0.lt
  rw [HA.out.2]
  have h17 : decide ((16384 : Int) ≤ (d.f.ne : Int)) = false := by simp; omega
  have HB2 : Hid (Below w.heap.size w w2) := hb0
  have HLW : Hid (w.heap.size + 1 < w2.heap.size) := B1.lt
  have hR2 := HR.out.below hb0
  have HE2 : Hid (OL 2 51 (w2.alloc (.cells #[] 51 (0, 0))) (.slice aE d.f.ne cE) d.f.ne (eqP d.f)) := hR2.eqs.stay fun b hb => Below.heap_alloc w2 _ b (hR2.eqs.lt hb)
  have HB1 : Hid (Blk 28 w2 (w.heap.size + 1) #[.slice none 0 0, .slice none 0 0]) := B1
  have HB0 : Hid (Blk 28 w2 w.heap.size #[.slice aN d.t.nn cN, .slice aE d.f.ne cE]) := B0
  clear hR2 B1 B0 hb0
  go_upto_if 24 with fail
  clear h17
  go_wp2_with (at_builtin; refine Stop.of ?_)
  show wpList _ _ _ _ _ _
  have hB9 : Below w2.heap.size w2 (w2.alloc (.cells #[] 51 (0, 0))) := (Below.refl _ _).alloc (Nat.le_refl _) _
  refine wpList_append_list rfl (.tmp 26) (.tmp 28) 26 rfl 2 51 _ 16 uPairs iPair (by decide) rfl (by decide) (.slice (some ⟨w2.heap.size, 0, none⟩) 0 0) 0 (eqP d.f) rfl (ol_empty w2 2 51 _) (fun k hk => rfl) (.slice aE d.f.ne cE) d.f.ne (eqP d.f) rfl HE2.out (fun _ _ => rfl) (fun u hu => by
    obtain ⟨i, _, hi⟩ := flat_mem _ _ hu
    simp [eqP] at hi
    rcases hi with rfl | rfl <;> rfl) (by omega) (eqP d.f) (fun k hk => rfl) (fun k hk => by rw [Nat.zero_add]) ?_
  intro v3 w3 hol3 hap3
  rw [Nat.zero_add] at hol3
  have hb3 : Below w2.heap.size (w2.alloc (.cells #[] 51 (0, 0))) w3 := hap3.toBelow hB9.size (fun b hb => by
    have e : (some w2.heap.size : Option Nat) = some b := hb
    injection e with e
    omega)
  have hb3' : Below w2.heap.size w2 w3 := hB9.trans hb3
  have hw3 : ∀ b, v3.ownBlock = some b → w2.heap.size ≤ b := by
    intro b hb
    rcases hap3.at_ with e | ⟨b', e1, e2⟩
    · rw [e] at hb
      have e : (some w2.heap.size : Option Nat) = some b := hb
      injection e with e
      omega
    · rw [e1] at hb
      injection hb with hb
      have := hB9.size
      omega
  have B0 := HB0.out.stay hb3'
  have B1 := HB1.out.stay hb3'
  obtain ⟨a3, k3, hv3, -, -, -, -⟩ := hol3.shape
  subst hv3
  clear hap3 hb3 hB9 HE2 c0 c1 z0 z1 hl0
  have HO3 : Hid _ := And.intro hol3 (And.intro hw3 hb3')
  obtain ⟨c0, c1, z0, z1⟩ := B0.two
  have hl0 := B0.lt
  have hol4 : OL 2 51 (w3.alloc (.cells #[.int .i64 (a : Nat), .int .i64 (b : Nat)] 51 (0, 0))) (.slice a3 d.f.ne k3) d.f.ne (eqP d.f) := hol3.stay fun q hq => Below.heap_alloc w3 _ q (hol3.lt hq)
  have HB01 : Hid (Blk 28 w3 w.heap.size #[.slice aN d.t.nn cN, .slice aE d.f.ne cE] ∧ Blk 28 w3 (w.heap.size + 1) #[.slice none 0 0, .slice none 0 0]) := ⟨B0, B1⟩
  clear hol3 hw3 hb3' HB0 HB1 B0 B1
  go_wp2_with (at_builtin; refine Stop.of ?_)
  show wpList _ _ _ _ _ _
  refine wpList_push rfl (.tmp 30) (.tmp 34) 26 rfl 2 51 _ 16 uPairs iPair (by decide) rfl (by decide) (.slice a3 d.f.ne k3) d.f.ne (eqP d.f) rfl [.int .i64 (a : Nat), .int .i64 (b : Nat)] 51 hol4 (fun _ _ => rfl) 1 rfl rfl (by intro u hu; simp at hu; rcases hu with rfl | rfl <;> rfl) (by omega) (eqP { d.f with E := upd d.f.E d.f.ne (a, b, q) }) (fun k hk => by simp [eqP, upd, Nat.ne_of_lt hk]) (by simp [eqP, upd]) ?_
  intro v5 w5 hol5 hap5 hne5
  replace hap5 := hap5.of_alloc (fun z hz => HO3.out.1.lt hz)
  have hb5 : Below w2.heap.size w3 w5 := hap5.toBelow HO3.out.2.2.size HO3.out.2.1
  have hw5 : ∀ z, v5.ownBlock = some z → w2.heap.size ≤ z := by
    intro z hz
    rcases hap5.at_ with e | ⟨b', e1, e2⟩
    · exact HO3.out.2.1 z (e ▸ hz)
    · rw [e1] at hz
      injection hz with hz
      have := HO3.out.2.2.size
      omega
  have hlw : w.heap.size + 1 < w2.heap.size := by
    have h9 := HB01.out.2.lt
    have h8 := HLW.out
    omega
  have B0 : Blk 28 w5 w.heap.size #[.slice aN d.t.nn cN, .slice aE d.f.ne cE] := (hb5.block _ (by omega)).trans HB01.out.1
  have B1 : Blk 28 w5 (w.heap.size + 1) #[.slice none 0 0, .slice none 0 0] := (hb5.block _ (by omega)).trans HB01.out.2
  obtain ⟨a5, k5, hv5, -, -, -, -⟩ := hol5.shape
  subst hv5
  have HF : Hid (OL 2 51 w5 (.slice a5 (d.f.ne + 1) k5) (d.f.ne + 1) (eqP { d.f with E := upd d.f.E d.f.ne (a, b, q) }) ∧ (∀ z, (Value.slice a5 (d.f.ne + 1) k5).ownBlock = some z → w2.heap.size ≤ z) ∧ Below w.heap.size w w5) := ⟨hol5, hw5, HB2.out.trans ((HO3.out.2.2.trans hb5).mono HB2.out.size)⟩
  clear hol4 hol5 hap5 hne5 hb5 hw5 HB01 HO3 c0 c1 z0 z1 hl0
  obtain ⟨c0, c1, z0, z1⟩ := B0.two
  obtain ⟨r0, r1, y0, y1⟩ := B1.two
  have hl0 := B0.lt
  have hl1 := B1.lt
  go_wp2
  refine bodyPost_ret (v := .tuple #[.agg #[.slice aN d.t.nn cN, .slice a5 (d.f.ne + 1) k5], .int .i64 (d.f.ne : Nat), .int .i64 0]) (by simp [results, Try.results29, go_sem, r0, r1]) rfl ?_
  refine ⟨a5, k5, rfl, ?_, fun z hz => Nat.le_trans HB2.out.size (HF.out.2.1 z hz), below_store2 HF.out.2.2 (by omega) _ _⟩
  exact HF.out.1.stay fun z hz => by
    have := HF.out.2.1 z hz
    rw [heap_setCell_other _ ⟨w.heap.size + 1, 1, none⟩ z _ (by show z ≠ w.heap.size + 1; omega), heap_setCell_other _ ⟨w.heap.size + 1, 0, none⟩ z _ (by show z ≠ w.heap.size + 1; omega)]
end Euf
end Go.Proofs.Ytmnpefiaelpkfac
