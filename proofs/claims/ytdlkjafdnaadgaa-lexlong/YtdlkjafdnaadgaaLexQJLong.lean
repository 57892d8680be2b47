/- The walk of LexLong. No statement of the seat is proved here. -/
import Derived.Test.YtdlkjafdnaadgaaLexOJLong
import Derived.Laws.BytesArg
namespace Go.Proofs.Ytdlkjafdnaadgaa
open Go Go.RowKit
set_option linter.unusedVariables false
set_option linter.unusedSimpArgs false
namespace Lex
open Euf (OL App Stop wpList_push)

theorem madeCells_get (z : Array Value) (n i j : Nat) (hi : i < n) (hj : j < z.size) : (madeCells z (n * z.size))[i * z.size + j]? = z[j]? := by
  have h1 : i * z.size + j < n * z.size := by
    have := Nat.mul_le_mul_right z.size (show i + 1 ≤ n by omega)
    rw [Nat.add_mul] at this
    omega
  have h2 : (i * z.size + j) % z.size = j := by rw [Nat.mul_add_mod_self_right, Nat.mod_eq_of_lt hj]
  unfold madeCells
  rw [Array.getElem?_map, Array.getElem?_range, if_pos h1, Option.map_some, h2, getElem!_pos z j hj, Array.getElem?_eq_getElem hj]
theorem wpList_make_ol {P : Program} (w : World) {ops : Array Oper} {rest : List Oper} {o : Oper} {a : Act} {Q : Exit → Act → World → Prop}
    (hg : o.guard = none) (l c : Operand) (t : TypeId) (hop : o.op = Op.makeSlice t l c)
    (e : TypeId) (z : Value) (sz bytes : Nat) (h1 : P.underlying t = some (.slice e)) (h2 : (P.info? e).map (fun i => (i.zero, i.size, i.bytes)) = some (some z, sz, bytes)) (hzs : z.cells.size = sz)
    (kl kc : IntKind) (L C : Int) (n m : Nat) (hl : a.eval l = .int kl L) (hc : a.eval c = .int kc C) (hL : L = (n : Int)) (hC : C = (m : Int)) (hnm : n ≤ m) (hby : bytes ≤ 1000) (hmm : m ≤ 1000000000)
    (hK : ∀ w', OL sz e w' (.slice (some ⟨w.heap.size, 0, none⟩) n m) n (fun _ => z.cells.toList) → Below w.heap.size w w' → w'.heap.size = w.heap.size + 1 → wpList P ops Q rest (a.put o.dst (.slice (some ⟨w.heap.size, 0, none⟩) n m)) w') :
    wpList P ops Q (o :: rest) a w := by
  obtain ⟨i, hi, hz0, hz1, hz2⟩ := info_parts h2
  subst hL
  subst hC
  have hmx : 2000000000 ≤ maxLen := by unfold maxLen; decide
  refine wpList_plain hg fun K hK' => ?_
  have b2 : bytes * m ≤ 1000 * 1000000000 := Nat.mul_le_mul hby hmm
  have b3' : (m : Int) ≤ 9223372036854775807 := by omega
  have hb' : (i.bytes : Int) * (m : Int) ≤ 281474976710656 := by
    rw [hz2]
    have h : ((bytes * m : Nat) : Int) ≤ 281474976710656 := by omega
    rwa [Int.natCast_mul] at h
  have hr := run_make (P := P) w t e i z h1 hi hz0 kl kc n m (by omega) (by omega) hb' b3'
  simp only [Int.toNat_natCast, hz1] at hr
  unfold Oper.wp
  simp only [execOp, hop, hl, hc, Sem.run_bind, hr, Result.andThen_ok, Sem.run_pure]
  refine hK' _ _ (hK _ ?_ ?_ ?_)
  · refine Or.inr ⟨w.heap.size, m, _, rfl, heap_alloc_new w _, hnm, by omega, by rw [size_madeCells], fun i9 hi9 j9 hj9 => ?_⟩
    have h9 := madeCells_get z.cells m i9 j9 (by omega) (by omega)
    rw [hzs] at h9
    rw [h9]; simp
  · exact (Below.refl _ _).alloc (Nat.le_refl _) _
  · simp
theorem iByte : (Try.prog.info? 5).map (fun i => (i.zero, i.size, i.bytes)) = some (some (.int .u8 0), 1, 1) := by kernel_rfl
/-- The first k bytes are c, the others 0. -/
def fl (c : Nat) (k i : Nat) : List Value := [.int .u8 (if i < k then (c : Int) else 0)]
/-- The state of the filling loop. -/
structure FS (w0 w1 wr : World) (n k c : Nat) : Prop where
  bel : Below w0.heap.size w0 wr
  row : OL 1 5 wr (.slice (some ⟨w1.heap.size, 0, none⟩) n n) n (fl c k)
theorem FS.set {w0 w1 wr : World} {n k c : Nat} (h : FS w0 w1 wr n k c) (hk : k < n) (hw : w0.heap.size ≤ w1.heap.size) : FS w0 w1 (wr.setCell ⟨w1.heap.size, k, none⟩ (.int .u8 (c : Int))) n (k + 1) c := by
  refine ⟨h.bel.setCell (p := ⟨w1.heap.size, k, none⟩) hw _, ?_⟩
  have := h.row.set (i := k) (j := 0) hk (by decide) (.int .u8 (c : Int)) (f' := fl c (k + 1)) (fun _ _ => rfl) (by simp [fl]) (fun i hi hne => by
    simp only [fl]
    by_cases e : i < k
    · rw [if_pos e, if_pos (by omega)]
    · rw [if_neg e, if_neg (by omega)])
  simpa using this
/-- n times the byte c. -/
def rep (n c : Nat) : ByteArray := strOfNums (List.replicate n (c : Int))
theorem FS.text {w0 w1 wr : World} {n c : Nat} (h : FS w0 w1 wr n n c) : (convert 40 9 (.slice (some ⟨w1.heap.size, 0, none⟩) n n)).run Try.prog wr = .ok (.string (rep n c)) wr := by
  refine run_convert_bytes_arg (P := Try.prog) wr 40 5 Try.underlying40 Try.underlying5 w1.heap.size 0 n n (List.replicate n (c : Int)) (by simp) (fun i hi => ?_) 9 Try.underlying9
  have := h.row.cell (i := i) (j := 0) hi (by decide)
  simp only [Nat.mul_one, Nat.add_zero, fl, if_pos hi, List.getElem?_cons_zero] at this
  rw [Nat.zero_add, this]
  congr 2
  simp [hi]
theorem bs_rep (n c : Nat) : bs (rep n c) = List.replicate n (UInt8.ofNat c) := by
  simp [rep, bs, strOfNums_data]
theorem FS.stay {w0 w1 wr w' : World} {n k c : Nat} (h : FS w0 w1 wr n k c) (hb : Below wr.heap.size wr w') : FS w0 w1 w' n k c :=
  ⟨h.bel.step hb (Nat.le_refl _), h.row.stay fun b k => hb.block b (h.row.lt k)⟩
theorem tw_rep (f : UInt8 → Bool) (n : Nat) (x : UInt8) (h : f x = true) : ((List.replicate n x).takeWhile f).length = n := by
  induction n with
  | zero => rfl
  | succ n ih => rw [List.replicate_succ, List.takeWhile_cons, if_pos h, List.length_cons, ih]
theorem sk_rep : ∀ n : Nat, sk (List.replicate n 32) = n
  | 0 => rfl
  | n + 1 => by rw [List.replicate_succ, sk_blank (by decide), sk_rep n]
theorem long_lx (n : Nat) (x : UInt8) (k mx : Nat) (hn : 1 ≤ n) (hk : sk (List.replicate n x) = 0) (ht : tk (List.replicate n x) = if mx < n then .bad 2 0 else .ok k n) :
    ∃ ts, Lx (List.replicate n x) 0 ts (if mx < n then 2 else 0) 0 := by
  by_cases h : mx < n
  · rw [if_pos h] at ht ⊢
    have := Lx.bad (l := List.replicate n x) (p := 0) (c := 2) (a := 0) (by rw [hk]; simp; omega) (by rw [hk, List.drop_zero]; exact ht)
    rw [hk] at this
    exact ⟨_, this⟩
  · rw [if_neg h] at ht ⊢
    exact ⟨_, Lx.tok (l := List.replicate n x) (p := 0) (k := k) (n := n) (ts := []) (c := 0) (a := 0) (by rw [hk]; simp; omega) (by rw [hk, List.drop_zero]; exact ht) (.done (by simp [hk]))⟩
theorem long_out {n c i mo code a : Nat} {ts : List T} (hn : 1 ≤ n) (hC : c = 97 ∧ i = 0 ∧ mo = 40 ∨ c = 49 ∧ i = 1 ∧ mo = 300 ∨ c = 32 ∧ i = 2 ∧ mo = 65536) (h : Out (bs (rep n c)) ts code a) :
    code = if n ≤ mo then 0 else 2 := by
  rw [bs_rep] at h
  by_cases hb : 65536 < n
  · have := (h.det (Or.inl ⟨by simp; exact hb, rfl, rfl, rfl⟩ : Out (List.replicate n (UInt8.ofNat c)) [] 2 65536)).2.1
    rw [if_neg (by omega)]; exact this
  · obtain ⟨m, rfl⟩ : ∃ m, n = m + 1 := ⟨n - 1, by omega⟩
    have fin : ∀ ts0 a0, Lx (List.replicate (m + 1) (UInt8.ofNat c)) 0 ts0 (if m + 1 ≤ mo then 0 else 2) a0 → code = if m + 1 ≤ mo then 0 else 2 := fun ts0 a0 k =>
      (h.det (Or.inr ⟨by simp; omega, ts0, k, rfl⟩)).2.1
    rcases hC with ⟨rfl, rfl, rfl⟩ | ⟨rfl, rfl, rfl⟩ | ⟨rfl, rfl, rfl⟩
    · have hl : isL (UInt8.ofNat 97) = true := by decide
      obtain ⟨ts0, k⟩ := long_lx (m + 1) (UInt8.ofNat 97) 1 40 (by omega) (by rw [List.replicate_succ]; exact sk_stop (by decide) (fun k => absurd k.1 (by decide))) (by
        have hw : spW (List.replicate (m + 1) (UInt8.ofNat 97)) = m + 1 := tw_rep isLD _ _ (by decide)
        rw [List.replicate_succ] at hw ⊢
        simp only [tk, hl, if_true, hw])
      refine fin ts0 0 ?_
      by_cases q : m + 1 ≤ 40
      · rw [if_pos q]; rwa [if_neg (by omega)] at k
      · rw [if_neg q]; rwa [if_pos (by omega)] at k
    · have hl : isL (UInt8.ofNat 49) = false := by decide
      have hd : isD (UInt8.ofNat 49) = true := by decide
      obtain ⟨ts0, k⟩ := long_lx (m + 1) (UInt8.ofNat 49) 2 300 (by omega) (by rw [List.replicate_succ]; exact sk_stop (by decide) (fun k => absurd k.1 (by decide))) (by
        have hw : spN (List.replicate (m + 1) (UInt8.ofNat 49)) = m + 1 := tw_rep isD _ _ (by decide)
        rw [List.replicate_succ] at hw ⊢
        have h49 : ¬ ((UInt8.ofNat 49).toNat = 48 ∧ 1 < m + 1) := fun k => absurd k.1 (by decide)
        have hh : ¬ hdL ((UInt8.ofNat 49 :: List.replicate m (UInt8.ofNat 49)).drop (m + 1)) = true := by
          rw [List.drop_eq_nil_of_le (by simp)]; simp [hdL]
        simp only [tk, hl, hd, Bool.false_eq_true, if_false, if_true, hw]
        rw [if_neg h49, if_neg hh])
      refine fin ts0 0 ?_
      by_cases q : m + 1 ≤ 300
      · rw [if_pos q]; rwa [if_neg (by omega)] at k
      · rw [if_neg q]; rwa [if_pos (by omega)] at k
    · refine fin [] 0 ?_
      rw [if_pos (by omega)]
      exact .done (by rw [show UInt8.ofNat 32 = 32 by decide, sk_rep]; simp)
set_option maxHeartbeats 4000000 in
theorem lexLong_any (z n : Int) (w : World) (hz : (Lit.int .i64 z).wf = true) (hn : (Lit.int .i64 n).wf = true) :
    Calls Try.prog 7 #[.int .i64 z, .int .i64 n] w fun e w' => e = .returned (.bool true) ∧ Below w.heap.size w w' := by
  go_enter Try.func7, Try.ntmps7
  go_wp2_with fail
  refine (awake_any w).mono ?_
  rintro e w1 ⟨rfl, hb1⟩
  by_cases h1 : n < 1
  · go_wp2
    go_ret
    exact ⟨rfl, hb1⟩
  by_cases h2 : 70000 < n
  · go_wp2
    go_ret
    exact ⟨rfl, hb1⟩
  obtain ⟨m, rfl⟩ : ∃ m : Nat, n = (m : Int) := ⟨n.toNat, by omega⟩
  have hm1 : 1 ≤ m := by omega
  have hm2 : m ≤ 70000 := by omega
  have HB1 := hide hb1
  clear hb1 hn
  go_wp2_with (at_make; refine wpList_make_ol _ rfl _ _ 40 rfl 5 (.int .u8 0) 1 1 Try.underlying40 iByte rfl _ _ _ _ m m rfl rfl rfl rfl (Nat.le_refl _) (by decide) (by omega) ?_; intro w2 hr2 hb2 hz2; have H2 := hide (And.intro hr2 hb2); clear hr2 hb2)
  have HX : ∃ (i c mo : Nat), Hid (c = 97 ∧ i = 0 ∧ mo = 40 ∨ c = 49 ∧ i = 1 ∧ mo = 300 ∨ c = 32 ∧ i = 2 ∧ mo = 65536) ∧ min (max z 0) 2 = (i : Int) := by
    by_cases k1 : z ≤ 0
    · exact ⟨0, 97, 40, Or.inl ⟨rfl, rfl, rfl⟩, by omega⟩
    · by_cases k2 : z = 1
      · exact ⟨1, 49, 300, Or.inr (Or.inl ⟨rfl, rfl, rfl⟩), by omega⟩
      · exact ⟨2, 32, 65536, Or.inr (Or.inr ⟨rfl, rfl, rfl⟩), by omega⟩
  obtain ⟨i, c, mo, HC, hmin⟩ := HX
  have H3 : Hid (FS w w1 w2 m 0 c) := ⟨HB1.out.step H2.out.2 (Nat.le_refl _), H2.out.1.congr (fun i hi => by simp [fl, Value.cells])⟩
  clear H2
  go_loopw [6] (fun v wr => ∃ k : Nat, v = .int .i64 (k : Int) ∧ k ≤ m ∧ Hid (FS w w1 wr m k c)) (fun v _ => m - (intOf v).toNat)
  case atStart => exact ⟨0, rfl, Nat.zero_le _, H3⟩
  case round =>
    rename World => wl
    clear H3
    obtain ⟨k, rfl, hk, HF⟩ := hrel
    by_cases hlt : k < m
    · have hltI : (k : Int) < (m : Int) := by omega
      have x0 := HF.out.row.cell (i := k) (j := 0) hlt (by decide)
      have x1 := HF.out.row.frozen (k * 1 + 0)
      simp only [Nat.mul_one, Nat.add_zero, fl, List.getElem?_cons_zero] at x0 x1
      go_wp2
      go_roundw
      case rel =>
        refine ⟨k + 1, by go_num, by omega, ?_⟩
        have h9 := HF.out.set hlt HB1.out.size
        rcases HC.out with ⟨rfl, rfl, rfl⟩ | ⟨rfl, rfl, rfl⟩ | ⟨rfl, rfl, rfl⟩ <;> exact h9
      case measure => simp [intOf]; omega
    · have hltI : ¬ (k : Int) < (m : Int) := by omega
      obtain rfl : k = m := by omega
      have hcv := HF.out.text
      have hrs : (rep k c).size ≤ 9223372036854775807 := by rw [← bs_length, bs_rep]; simp; omega
      go_wp2_with fail
      refine (tokens_any (rep k c) wl hrs).mono ?_
      rintro e w3 ⟨v, ts, code, a, rfl, hO, hL, -, hb3⟩
      obtain ⟨a1, c1, hv, -, -, -, -⟩ := hL.shape
      subst hv
      simp only [FV]
      have R0 := Blk.new w3 26 #[.int .i64 (code : Int), .int .i64 (a : Int)]
      have G0 : Below w3.heap.size w3 (w3.alloc (.cells #[.int .i64 (code : Int), .int .i64 (a : Int)] 26 (0, 0))) := by go_grown
      have HF3 := hide ((HF.out.stay hb3).stay G0)
      have HL3 := hide (hL.stay G0)
      have HO := hide hO
      have hcv3 := HF3.out.text
      clear HF hb3 hL hO hcv
      go_wp2_with fail
      refine (rTokens_any (rep k c) _ hrs).mono ?_
      rintro e w4 ⟨v', ts', code', a', rfl, hO', hL', -, hb4⟩
      obtain ⟨rfl, rfl, rfl⟩ := HO.out.det hO'
      obtain ⟨a2, c2, hv, -, -, -, -⟩ := hL'.shape
      subst hv
      have HL4 := hide (HL3.out.stay hb4)
      have HL5 := hide hL'
      have R4 := R0.stay hb4
      have hcnt := hO'.count
      have hcode := long_out hm1 HC.out hO'
      have HB4 := hide (HF3.out.stay hb4).bel
      clear R0 G0 hL' hO' hb4 HL3 HO hcv3 HF3
      have hlt4 := R4.lt
      have HR4 := hide R4
      clear R4
      have HS : Hid (∀ v1 v2, TL w4 v1 ts → TL w4 v2 ts → Calls Try.prog 12 #[v1, v2] w4 fun e w' => e = .returned (.bool true) ∧ (w'.cell? ⟨w3.heap.size, 0, none⟩ = some (.int .i64 (code : Int)) ∧ w'.cell? ⟨w3.heap.size, 1, none⟩ = some (.int .i64 (a : Int))) ∧ Hid (Below w.heap.size w w')) := by
        intro v1 v2 k1 k2
        refine (same_yes v1 v2 ts w4 k1 k2 hcnt).mono ?_
        rintro e w5 ⟨rfl, hb5⟩
        obtain ⟨r0, r1, -, -⟩ := (HR4.out.stay hb5).two
        exact ⟨rfl, ⟨r0, r1⟩, HB4.out.step hb5 (Nat.le_refl _)⟩
      have hsub : (c = 97 ∧ i = 0 ∧ mo = 40) ∨ (c = 49 ∧ i = 1 ∧ mo = 300) ∨ (c = 32 ∧ i = 2 ∧ mo = 65536) := HC.out
      clear HC HB4 HR4
      rcases hsub with ⟨rfl, rfl, rfl⟩ | ⟨rfl, rfl, rfl⟩ | ⟨rfl, rfl, rfl⟩
      · by_cases hq : k ≤ 40
        · rw [if_pos hq] at hcode
          subst hcode
          have hqI : (k : Int) ≤ 40 := by omega
          go_wp2_with (go_at_call 12; refine (HS.out _ _ HL4.out HL5.out).mono ?_; rintro e w5 ⟨rfl, ⟨r0, r1⟩, HB5⟩)
          go_ret
          exact ⟨by first | rfl | (simp; omega), HB5.out⟩
        · rw [if_neg hq] at hcode
          subst hcode
          have hqI : ¬ (k : Int) ≤ 40 := by omega
          go_wp2_with (go_at_call 12; refine (HS.out _ _ HL4.out HL5.out).mono ?_; rintro e w5 ⟨rfl, ⟨r0, r1⟩, HB5⟩)
          go_ret
          exact ⟨by first | rfl | (simp; omega), HB5.out⟩
      · by_cases hq : k ≤ 300
        · rw [if_pos hq] at hcode
          subst hcode
          have hqI : (k : Int) ≤ 300 := by omega
          go_wp2_with (go_at_call 12; refine (HS.out _ _ HL4.out HL5.out).mono ?_; rintro e w5 ⟨rfl, ⟨r0, r1⟩, HB5⟩)
          go_ret
          exact ⟨by first | rfl | (simp; omega), HB5.out⟩
        · rw [if_neg hq] at hcode
          subst hcode
          have hqI : ¬ (k : Int) ≤ 300 := by omega
          go_wp2_with (go_at_call 12; refine (HS.out _ _ HL4.out HL5.out).mono ?_; rintro e w5 ⟨rfl, ⟨r0, r1⟩, HB5⟩)
          go_ret
          exact ⟨by first | rfl | (simp; omega), HB5.out⟩
      · by_cases hq : k ≤ 65536
        · rw [if_pos hq] at hcode
          subst hcode
          have hqI : (k : Int) ≤ 65536 := by omega
          go_wp2_with (go_at_call 12; refine (HS.out _ _ HL4.out HL5.out).mono ?_; rintro e w5 ⟨rfl, ⟨r0, r1⟩, HB5⟩)
          go_ret
          exact ⟨by first | rfl | (simp; omega), HB5.out⟩
        · rw [if_neg hq] at hcode
          subst hcode
          have hqI : ¬ (k : Int) ≤ 65536 := by omega
          go_wp2_with (go_at_call 12; refine (HS.out _ _ HL4.out HL5.out).mono ?_; rintro e w5 ⟨rfl, ⟨r0, r1⟩, HB5⟩)
          go_ret
          exact ⟨by first | rfl | (simp; omega), HB5.out⟩
end Lex
end Go.Proofs.Ytdlkjafdnaadgaa
