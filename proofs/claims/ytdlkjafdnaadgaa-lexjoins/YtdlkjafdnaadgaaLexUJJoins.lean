/- Texts joined: the walk of lex.Join. No statement of the seat is proved here. -/
import Derived.Test.YtdlkjafdnaadgaaLexTJJoins
import Derived.Shelf.Strings.BuilderK
namespace Go.Proofs.Ytdlkjafdnaadgaa
open Go Go.RowKit
set_option linter.unusedVariables false
set_option linter.unusedSimpArgs false
namespace Lex
open Euf (OL App Stop wpList_push)

theorem jn_cons {x : List UInt8} {r : List (List UInt8)} (h : r ≠ []) : jn (x :: r) = x ++ 32 :: jn r := by
  rcases r with _ | ⟨y, r⟩
  · exact absurd rfl h
  · rfl
theorem jn_snoc : ∀ (ys : List (List UInt8)) (x : List UInt8), jn (ys ++ [x]) = if ys = [] then x else jn ys ++ 32 :: x
  | [], x => rfl
  | [y], x => by simp [jn]
  | y :: z :: r, x => by
    have := jn_snoc (z :: r) x
    rw [if_neg (by simp)] at this
    rw [if_neg (by simp), List.cons_append, jn_cons (by simp), this]
    simp [jn]
theorem jn_take_le : ∀ (xs : List (List UInt8)) (k : Nat), (jn (xs.take k)).length ≤ (jn xs).length
  | [], k => by simp
  | x :: r, 0 => by simp [jn]
  | x :: r, k + 1 => by
    have ih := jn_take_le r k
    rw [List.take_succ_cons]
    by_cases h : r = []
    · subst h; simp
    · rw [jn_cons h]
      by_cases h2 : r.take k = []
      · rw [h2]; simp [jn]
      · rw [jn_cons h2]; simp; omega
/-- Where the k-th text begins. -/
def pc (xs : List (List UInt8)) (k : Nat) : Nat := if k = 0 then 0 else (jn (xs.take k)).length + 1
theorem pc_cons (x : List UInt8) (r : List (List UInt8)) (j : Nat) (h : j ≤ r.length) : pc (x :: r) (j + 1) = x.length + 1 + pc r j := by
  unfold pc
  rw [if_neg (by omega), List.take_succ_cons]
  by_cases h0 : j = 0
  · subst h0; simp [jn]
  · rw [if_neg h0, jn_cons (by
      intro k
      have := congrArg List.length k
      rw [List.length_take, List.length_nil] at this
      omega)]
    simp; omega
theorem put_at : ∀ (ts : List T) (p k : Nat), (put p ts)[k]? = (ts[k]?).map fun t => ⟨t.k, t.x, p + pc (ts.map (·.x)) k⟩
  | [], p, k => by simp [put]
  | t :: r, p, 0 => by simp [put, pc]
  | t :: r, p, k + 1 => by
    rw [put, List.getElem?_cons_succ, List.getElem?_cons_succ, put_at r (p + t.x.length + 1) k]
    cases h : r[k]? with
    | none => rfl
    | some u =>
      have hk : k < r.length := (List.getElem?_eq_some_iff.1 h).1
      simp only [Option.map_some, List.map_cons]
      rw [pc_cons _ _ _ (by simp; omega)]
      congr 2; omega
theorem put_length : ∀ (ts : List T) (p : Nat), (put p ts).length = ts.length
  | [], p => rfl
  | t :: r, p => by simp [put, put_length r]
theorem Lx.joined {l : List UInt8} {p : Nat} {ts : List T} {c a : Nat} (h : Lx l p ts c a) : (jn (ts.map (·.x))).length ≤ 2 * l.length := by
  induction h with
  | done _ => simp [jn]
  | bad _ _ => simp [jn]
  | @tok l p k n c a ts h1 h2 h3 ih =>
    obtain ⟨k1, k2⟩ := tk_ok h2
    rw [List.length_drop] at ih k2
    rw [List.map_cons]
    by_cases h : ts.map (·.x) = []
    · rw [h]; simp [jn]; omega
    · rw [jn_cons h]; simp only [List.length_append, List.length_cons, List.length_take, List.length_drop]; omega
/-- A list of numbers. -/
def nC (ps : List Nat) (i : Nat) : List Value := [.int .i64 ((ps.getD i 0 : Nat) : Int)]
theorem nC_app {ps : List Nat} {q : Nat} : (∀ k, k < ps.length → nC (ps ++ [q]) k = nC ps k) ∧ nC (ps ++ [q]) ps.length = [.int .i64 (q : Int)] := by
  refine ⟨fun k hk => ?_, ?_⟩
  · simp [nC, List.getElem?_append_left hk]
  · simp [nC]
theorem uInts : Try.prog.underlying 36 = some (.slice 3) := by kernel_rfl
theorem iInt1 : (Try.prog.info? 3).map (fun i => (i.zero, i.size, i.bytes)) = some (some (.int .i64 0), 1, 8) := by kernel_rfl
theorem BU.app {B b : Nat} {l : List UInt8} {w w' : World} (h : BU B b l w) {v v' : Value} {n : Nat} {f : Nat → List Value} (hl : OL 1 3 w v n f) (ha : App v v' w w') : BU B b l w' := by
  have other : ∀ (k : Nat) (cur : Array Value) (e : TypeId) (z : Nat × Nat), w.heap[k]? = some (Obj.cells cur e z) → e ≠ 3 → w'.heap[k]? = w.heap[k]? := by
    intro k cur e z h1 h2
    refine ha.other k (Array.getElem?_eq_some_iff.1 h1).1 (fun q => ?_)
    obtain ⟨cur', h3⟩ := hl.elem q
    rw [h1] at h3
    injection h3 with h3
    injection h3 with h5 h6
    exact h2 h6
  have one : ∀ p, Lib.BuilderAt 54 5 B b p (Lib.byteCells l) w → Lib.BuilderAt 54 5 B b p (Lib.byteCells l) w' := by
    rintro p ⟨h1, v0, h2, h3, h4⟩
    refine ⟨h1, v0, (other b _ _ _ h2 (by decide)).trans h2, ⟨h3.1, ?_⟩, h4⟩
    rcases h3.2 with k | ⟨g, cap, cur, k1, k2, k3, k4⟩
    · exact Or.inl k
    · exact Or.inr ⟨g, cap, cur, k1, k2, (other g _ _ _ k3 (by decide)).trans k3, k4⟩
  rcases h with h | h
  · exact Or.inl (one _ h)
  · exact Or.inr (one _ h)
/-- The state of joining. -/
structure JS (w0 wr : World) (v : Value) (l : List UInt8) (ps : List Nat) : Prop where
  bel : Below w0.heap.size w0 wr
  bu : BU w0.heap.size w0.heap.size l wr
  list : OL 1 3 wr v ps.length (nC ps)
  own : ∀ c, v.ownBlock = some c → w0.heap.size ≤ c
theorem JS.write {w0 wr w' : World} {v : Value} {l l' : List UInt8} {ps : List Nat} (h : JS w0 wr v l ps) (hb : Below w0.heap.size wr w') (hf : Frm wr w') (hu : BU w0.heap.size w0.heap.size l' w') : JS w0 w' v l' ps :=
  ⟨h.bel.trans hb, hu, h.list.stay fun c hc => by
    obtain ⟨cur, k⟩ := h.list.elem hc
    exact hf c _ _ _ k (by decide) (by decide), h.own⟩
theorem JS.push {w0 wr w' : World} {v v' : Value} {l : List UInt8} {ps : List Nat} {q : Nat} (h : JS w0 wr v l ps) (ha : App v v' wr w') (hl : OL 1 3 w' v' (ps.length + 1) (nC (ps ++ [q]))) : JS w0 w' v' l (ps ++ [q]) := by
  have hs := h.bel.size
  refine ⟨?_, h.bu.app h.list ha, by rw [List.length_append, List.length_singleton]; exact hl, fun b hb => ?_⟩
  · exact ⟨ha.os.trans h.bel.os, ha.tape.trans h.bel.tape, ha.output.trans h.bel.output, Nat.le_trans h.bel.size ha.size, fun b hb => (ha.other b (by omega) (fun k => absurd (h.own _ k) (by omega))).trans (h.bel.block b hb)⟩
  · rcases ha.at_ with k | ⟨b', k, k2⟩
    · exact h.own b (k ▸ hb)
    · rw [hb] at k; injection k with k; omega
/-- The places of the first k texts. -/
def pcs (xs : List (List UInt8)) (k : Nat) : List Nat := (List.range k).map (pc xs)
theorem pcs_succ (xs : List (List UInt8)) (k : Nat) : pcs xs (k + 1) = pcs xs k ++ [pc xs k] := by simp [pcs, List.range_succ]
theorem pcs_length (xs : List (List UInt8)) (k : Nat) : (pcs xs k).length = k := by simp [pcs]
set_option maxHeartbeats 4000000 in
set_option maxRecDepth 100000 in
theorem join_any (v : Value) (xs : List (List UInt8)) (w : World) (h : SL w v xs) (hn : xs.length ≤ 1000000) (hj : (jn xs).length ≤ 1000000) :
    Calls Try.prog 17 #[v] w fun e w' => ∃ vp, e = .returned (.tuple #[.string (tx (jn xs)), vp]) ∧ OL 1 3 w' vp xs.length (nC (pcs xs xs.length)) ∧ Below w.heap.size w w' := by
  obtain ⟨a, c, hv, -, -, -, -⟩ := h.shape
  subst hv
  have HL := hide h
  clear h
  have H0 : Hid (JS w (w.alloc (.cells #[.pointer none, .slice none 0 0] 54 (0, 0))) (.slice none 0 0) [] []) :=
    ⟨by go_grown, Or.inl ((Lib.fresh_isBuilder 54 5 w).elim id (fun k => by
      have h1 := k.cell0
      rw [cell_of_row _ w.heap.size 0 _ _ (0, 0) (heap_alloc_new w _)] at h1
      cases h1)), OL.nil _ _ _ _, fun c h => by cases h⟩
  go_enter Try.func17, Try.ntmps17
  go_wp2
  go_loopw [5, 10] (fun v5 v10 wr => ∃ k : Nat, v10 = .int .i64 (k : Int) ∧ k ≤ xs.length ∧ Hid (JS w wr v5 (jn (xs.take k)) (pcs xs k))) (fun _ v _ => xs.length - (intOf v).toNat)
  case atStart => exact ⟨0, rfl, Nat.zero_le _, H0.out⟩
  case round =>
    rename World => wl
    clear H0
    obtain ⟨k, rfl, hk, HJ⟩ := hrel
    obtain ⟨aL, cL, hv, -, -, -, -⟩ := HJ.out.list.shape
    rw [pcs_length] at hv
    subst hv
    by_cases hlt : k < xs.length
    · have hltI : (k : Int) < (xs.length : Int) := by omega
      have K := OL.stay HL.out (w' := wl) fun b hb => HJ.out.bel.block b (OL.lt HL.out hb)
      obtain ⟨g1, cap1, hv, hc1, hc2⟩ := OL.open K k hlt
      simp only [Value.slice.injEq] at hv
      obtain ⟨rfl, -, rfl⟩ := hv
      have x0 := OL.cell K hlt (j := 0) (by decide)
      simp only [Nat.mul_one, Nat.add_zero, sC, List.getElem?_cons_zero] at x0
      have hgx : xs[k]? = some (xs.getD k []) := by simp [hlt]
      have htk : xs.take (k + 1) = xs.take k ++ [xs.getD k []] := by rw [List.take_add_one, hgx]; rfl
      generalize xs.getD k [] = x at x0 hgx htk
      have hjs := jn_snoc (xs.take k) x
      rw [← htk] at hjs
      have hle := jn_take_le xs (k + 1)
      have hle0 := jn_take_le xs k
      have hpl := pcs_succ xs k
      have hpl2 : (pcs xs k).length = k := pcs_length xs k
      have HW : Hid (∀ (wq : World) (vq : Value) (l : List UInt8) (ps : List Nat), JS w wq vq l ps → l.length + x.length ≤ 1000000 → Calls Try.prog 31 #[.pointer (some ⟨w.heap.size, 0, none⟩), .string (tx x)] wq fun e w' => e = .returned (.tuple #[.int .i64 (x.length : Int), .nilIface]) ∧ Hid (JS w w' vq (l ++ x) ps)) := by
        intro wq vq l ps hq hll
        have hts := tx_size x
        refine (writeString_any w.heap.size w.heap.size l (tx x) wq hq.bu (by rw [hts]; omega) hq.bel.size).mono ?_
        rintro e w' ⟨rfl, k1, k2, k3⟩
        rw [bs_tx] at k1
        exact ⟨by rw [hts], hq.write k2 k3 k1.bu⟩
      have HWB : Hid (∀ (wq : World) (vq : Value) (l : List UInt8) (ps : List Nat), JS w wq vq l ps → l.length ≤ 1000000 → Calls Try.prog 29 #[.pointer (some ⟨w.heap.size, 0, none⟩), .int .u8 32] wq fun e w' => e = .returned .nilIface ∧ Hid (JS w w' vq (l ++ [32]) ps)) := by
        intro wq vq l ps hq hll
        refine (writeByte_any w.heap.size w.heap.size l 32 wq hq.bu (by omega) hq.bel.size).mono ?_
        rintro e w' ⟨rfl, k1, k2, k3⟩
        exact ⟨rfl, hq.write k2 k3 k1.bu⟩
      clear K
      have HLN : Hid (∀ (wq : World) (vq : Value) (l : List UInt8) (ps : List Nat), JS w wq vq l ps → Calls Try.prog 30 #[.pointer (some ⟨w.heap.size, 0, none⟩)] wq fun e w' => e = .returned (.int .i64 (l.length : Int)) ∧ w' = wq) := fun wq vq l ps hq => hq.bu.len
      by_cases hk0 : k = 0
      · obtain ⟨L1, hL1⟩ : ∃ L1 : List UInt8, L1 = jn (xs.take k) := ⟨_, rfl⟩
        have HJ1 : Hid (JS w wl (.slice aL k cL) L1 (pcs xs k)) := by rw [hL1]; exact HJ.out
        have HAP : Hid (L1 ++ x = jn (xs.take (k + 1))) := by
          rw [hL1, hjs, if_pos (by rw [hk0]; rfl), hk0]; rfl
        have HLL : Hid (L1.length + x.length ≤ 1000000) := by
          have := congrArg List.length HAP.out
          rw [List.length_append] at this
          exact (show _ ≤ _ by omega)
        obtain ⟨P, hP⟩ : ∃ P : Nat, L1.length = P := ⟨_, rfl⟩
        have hPP : pc xs k = P := by rw [← hP, hL1, hk0]; rfl
        have hk0I : ¬ (0 : Int) < (k : Int) := by omega
        clear hk0
        clear HJ hL1 hjs hle hle0 hgx htk HWB
        go_wp2_with (first | (go_at_call 30; refine (HLN.out _ _ _ _ HJ1.out).mono ?_; rintro e w' ⟨rfl, rfl⟩) | (at_builtin; refine Stop.of ?_))
        rename World => wq
        show wpList _ _ _ _ _ _
        have hol3 : OL 1 3 (wq.alloc (.cells #[.int .i64 (P : Int)] 3 (0, 0))) (.slice aL k cL) k (nC (pcs xs k)) := by
          have hl := HJ1.out.list
          rw [hpl2] at hl
          exact hl.stay fun b hb => Below.heap_alloc wq _ b (hl.lt hb)
        refine wpList_push rfl (.tmp 18) (.tmp 20) 36 rfl 1 3 _ 8 uInts iInt1 (by decide) rfl (by decide) (.slice aL k cL) k (nC (pcs xs k)) rfl [.int .i64 (P : Int)] 3 hol3 (fun _ _ => rfl) 1 rfl rfl (by intro u hu; simp at hu; subst hu; rfl) (by omega) (nC (pcs xs k ++ [P])) (fun i hi => nC_app.1 i (by rw [hpl2]; exact hi)) (by have := nC_app (ps := pcs xs k) (q := P); rw [hpl2] at this; exact this.2) ?_
        intro v4 w4 hol4 hap4 hne4
        replace hap4 := hap4.of_alloc (fun b hb => OL.lt HJ1.out.list hb)
        have HJ4 : Hid (JS w w4 v4 L1 (pcs xs k ++ [P])) := HJ1.out.push hap4 (by rw [hpl2]; exact hol4)
        clear hol3 hol4 hap4 hne4 HJ1 HLN
        obtain ⟨a4, n4, c4, hv4, -, -, -, -⟩ : ∃ a4 n4 c4, v4 = .slice a4 n4 c4 ∧ True ∧ True ∧ True ∧ True := by
          obtain ⟨a4, c4, hv, -⟩ := HJ4.out.list.shape
          exact ⟨a4, _, c4, hv, trivial, trivial, trivial, trivial⟩
        subst hv4
        rw [← hPP, ← hpl] at HJ4
        go_wp2_with (go_at_call 31; refine (HW.out _ _ _ _ HJ4.out HLL.out).mono ?_; rintro e w5 ⟨rfl, HJ5⟩)
        go_roundw
        case rel => exact ⟨k + 1, by go_num, by omega, by have := HJ5.out; rw [HAP.out] at this; exact this⟩
        case measure => simp [intOf]; omega
      · have hk0I : (0 : Int) < (k : Int) := by omega
        have hne0 : ¬ xs.take k = [] := by
          intro q
          have := congrArg List.length q
          rw [List.length_take, List.length_nil] at this
          omega
        obtain ⟨L1, hL1⟩ : ∃ L1 : List UInt8, L1 = jn (xs.take k) ++ [32] := ⟨_, rfl⟩
        have HAP : Hid (L1 ++ x = jn (xs.take (k + 1))) := by
          exact (show L1 ++ x = jn (xs.take (k + 1)) by rw [hL1, hjs, if_neg hne0, List.append_assoc]; rfl)
        have HLL : Hid (L1.length + x.length ≤ 1000000) := by
          have := congrArg List.length HAP.out
          rw [List.length_append] at this
          exact (show _ ≤ _ by omega)
        obtain ⟨P, hP⟩ : ∃ P : Nat, L1.length = P := ⟨_, rfl⟩
        have hPP : pc xs k = P := by
          rw [← hP, hL1]; unfold pc; rw [if_neg hk0, List.length_append, List.length_singleton]
        have hl6 : (jn (xs.take k)).length ≤ 1000000 := by omega
        go_wp2_with fail
        refine (HWB.out _ _ _ _ HJ.out hl6).mono ?_
        rintro e wb ⟨rfl, HJb⟩
        have HJ1 : Hid (JS w wb (.slice aL k cL) L1 (pcs xs k)) := by rw [hL1]; exact HJb.out
        clear hk0
        clear HJ HJb hL1 hjs hle hle0 hgx htk HWB hne0 hl6
        go_wp2_with (first | (go_at_call 30; refine (HLN.out _ _ _ _ HJ1.out).mono ?_; rintro e w' ⟨rfl, rfl⟩) | (at_builtin; refine Stop.of ?_))
        rename World => wq
        show wpList _ _ _ _ _ _
        have hol3 : OL 1 3 (wq.alloc (.cells #[.int .i64 (P : Int)] 3 (0, 0))) (.slice aL k cL) k (nC (pcs xs k)) := by
          have hl := HJ1.out.list
          rw [hpl2] at hl
          exact hl.stay fun b hb => Below.heap_alloc wq _ b (hl.lt hb)
        refine wpList_push rfl (.tmp 18) (.tmp 20) 36 rfl 1 3 _ 8 uInts iInt1 (by decide) rfl (by decide) (.slice aL k cL) k (nC (pcs xs k)) rfl [.int .i64 (P : Int)] 3 hol3 (fun _ _ => rfl) 1 rfl rfl (by intro u hu; simp at hu; subst hu; rfl) (by omega) (nC (pcs xs k ++ [P])) (fun i hi => nC_app.1 i (by rw [hpl2]; exact hi)) (by have := nC_app (ps := pcs xs k) (q := P); rw [hpl2] at this; exact this.2) ?_
        intro v4 w4 hol4 hap4 hne4
        replace hap4 := hap4.of_alloc (fun b hb => OL.lt HJ1.out.list hb)
        have HJ4 : Hid (JS w w4 v4 L1 (pcs xs k ++ [P])) := HJ1.out.push hap4 (by rw [hpl2]; exact hol4)
        clear hol3 hol4 hap4 hne4 HJ1 HLN
        obtain ⟨a4, n4, c4, hv4, -, -, -, -⟩ : ∃ a4 n4 c4, v4 = .slice a4 n4 c4 ∧ True ∧ True ∧ True ∧ True := by
          obtain ⟨a4, c4, hv, -⟩ := HJ4.out.list.shape
          exact ⟨a4, _, c4, hv, trivial, trivial, trivial, trivial⟩
        subst hv4
        rw [← hPP, ← hpl] at HJ4
        go_wp2_with (go_at_call 31; refine (HW.out _ _ _ _ HJ4.out HLL.out).mono ?_; rintro e w5 ⟨rfl, HJ5⟩)
        go_roundw
        case rel => exact ⟨k + 1, by go_num, by omega, by have := HJ5.out; rw [HAP.out] at this; exact this⟩
        case measure => simp [intOf]; omega
    · have hltI : ¬ (k : Int) < (xs.length : Int) := by omega
      obtain rfl : k = xs.length := by omega
      have HS := hide (Any.Builder_String_any_k Try.lays169 Try.Builder_Extra_169 w.heap.size w.heap.size (jn (xs.take xs.length)) wl (Lib.IsBuilderF.of HJ.out.bu) HJ.out.bel.size)
      rw [List.take_length] at HS
      have HFin : Hid (∀ w2, Below w.heap.size wl w2 → Lib.OthersKept 5 (some w.heap.size) wl w2 → OL 1 3 w2 (.slice aL xs.length cL) xs.length (nC (pcs xs xs.length)) ∧ Below w.heap.size w w2) := by
        intro w2 k1 k2
        have hl := HJ.out.list
        rw [pcs_length] at hl
        refine ⟨hl.stay fun c hc => ?_, HJ.out.bel.trans k1⟩
        obtain ⟨cur, k⟩ := hl.elem hc
        rw [k]
        refine k2 c _ k (fun q => ?_) (fun c' fz q => ?_)
        · injection q with q
          have hb : ∃ cs, wl.heap[w.heap.size]? = some (Obj.cells cs 54 (0, 0)) := by
            rcases HJ.out.bu with ⟨_, v, hb, _⟩ | ⟨_, v, hb, _⟩
            · exact ⟨_, hb⟩
            · exact ⟨_, hb⟩
          obtain ⟨cs, hb⟩ := hb
          rw [q, hb] at k
          injection k with k
          injection k with k5 k6
          exact absurd k6 (by decide)
        · injection q with q5 q6
          exact absurd q6 (by decide)
      go_wp2_with (go_at_call 32; refine HS.out.mono ?_; rintro e w2 ⟨rfl, -, hb2, ho2⟩)
      go_ret2
      exact ⟨_, rfl, HFin.out w2 hb2 ho2⟩
end Lex
end Go.Proofs.Ytdlkjafdnaadgaa
