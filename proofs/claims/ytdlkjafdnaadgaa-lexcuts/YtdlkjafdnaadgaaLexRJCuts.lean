/- The walk of LexCuts. No statement of the seat is proved here. -/
import Derived.Test.YtdlkjafdnaadgaaLexOJCuts
import Derived.Deep.DeepCutAuto
namespace Go.Proofs.Ytdlkjafdnaadgaa
open Go Go.RowKit
set_option linter.unusedVariables false
set_option linter.unusedSimpArgs false
namespace Lex
open Euf (OL App Stop wpList_push)

theorem out_cut {s : ByteArray} {ts : List T} {a : Nat} (h : Out (bs s) ts 0 a) {n : Nat} {t : T} (ht : ts[n]? = some t) {ts' : List T} {c' a' : Nat} (h' : Out (bs (s.extract 0 (t.a + t.x.length))) ts' c' a') : ts' = ts.take (n + 1) ∧ c' = 0 := by
  obtain ⟨h0, h1, -⟩ := h.good
  have h2 := h1.cut n t ht
  rw [Nat.sub_zero] at h2
  have e : bs (s.extract 0 (t.a + t.x.length)) = (bs s).take (t.a + t.x.length) := by
    rw [bs_extract s 0 _ (Nat.zero_le _), List.drop_zero, Nat.sub_zero]
  rw [e] at h'
  have := h'.det (Or.inr ⟨by rw [List.length_take]; omega, _, h2, rfl⟩)
  exact ⟨by rw [this.1, if_pos rfl], this.2.1⟩
theorem out_end {s : ByteArray} {ts : List T} {a : Nat} (h : Out (bs s) ts 0 a) {n : Nat} {t : T} (ht : ts[n]? = some t) : t.a + t.x.length ≤ s.size ∧ s.size ≤ 65536 := by
  obtain ⟨h0, h1, -⟩ := h.good
  have := h1.places t (List.mem_of_getElem? ht)
  rw [bs_length] at h0 this
  omega
theorem TL.store2 {w : World} {v : Value} {ts : List T} (h : TL w v ts) {b : Nat} (hb : v.ownBlock ≠ some b) (x y : Value) : TL ((w.setCell ⟨b, 0, none⟩ x).setCell ⟨b, 1, none⟩ y) v ts :=
  OL.stay h fun c hc => by
    have : ¬ c = b := fun k => hb (k ▸ hc)
    rw [heap_setCell_other _ _ _ _ (by simpa using this), heap_setCell_other _ _ _ _ (by simpa using this)]
theorem tx_size (x : List UInt8) : (tx x).size = x.length := by rw [← bs_length, bs_tx]
set_option maxHeartbeats 4000000 in
theorem lexCuts_any (s : ByteArray) (n : Int) (w : World) (hl : s.size ≤ maxLen) (hn : (Lit.int .i64 n).wf = true) :
    Calls Try.prog 8 #[.string s, .int .i64 n] w fun e w' => e = .returned (.bool true) ∧ Below w.heap.size w w' := by
  have hs : s.size ≤ 9223372036854775807 := by unfold maxLen at hl; omega
  clear hl
  go_enter Try.func8, Try.ntmps8
  go_wp2_with fail
  refine (awake_any w).mono ?_
  rintro e w1 ⟨rfl, hb1⟩
  go_wp2_with fail
  refine (tokens_any s w1 hs).mono ?_
  rintro e w2 ⟨v, ts, c, a, rfl, hO, hL, -, hb2⟩
  obtain ⟨a1, c1, hv, -, -, -, -⟩ := hL.shape
  subst hv
  have G0 : Below w2.heap.size w2 (w2.alloc (.cells #[.int .i64 (c : Int), .int .i64 (a : Int)] 26 (0, 0))) := by go_grown
  have HB2 := hide ((hb1.step hb2 (Nat.le_refl _)).step G0 (Nat.le_refl _))
  have HL := hide (hL.stay G0)
  have HO := hide hO
  have hcnt := hO.count
  clear hL hO hb1 hb2 G0
  simp only [FV]
  by_cases k1 : c = 0
  · subst k1
    by_cases k2 : n < 0
    · go_wp2
      go_ret
      exact ⟨by first | rfl | simp, HB2.out⟩
    · by_cases k3 : (ts.length : Int) ≤ n
      · go_wp2
        go_ret
        exact ⟨by first | rfl | simp, HB2.out⟩
      · obtain ⟨m, rfl⟩ : ∃ m : Nat, n = (m : Int) := ⟨n.toNat, by omega⟩
        have hm : m < ts.length := by omega
        obtain ⟨t, ht⟩ : ∃ t, ts[m]? = some t := ⟨ts[m], List.getElem?_eq_getElem hm⟩
        obtain ⟨W, hW⟩ : ∃ W, (w2.alloc (.cells #[.int .i64 0, .int .i64 (a : Int)] 26 (0, 0))) = W := ⟨_, rfl⟩
        obtain ⟨r0, r1, -, -⟩ := (show Blk 26 W w2.heap.size #[.int .i64 0, .int .i64 (a : Int)] by rw [← hW]; exact Blk.new w2 _ _).two
        replace HL : Hid (TL W (.slice a1 ts.length c1) ts) := by rw [← hW]; exact HL.out
        replace HB2 : Hid (Below w.heap.size w W) := by rw [← hW]; exact HB2.out
        obtain ⟨g1, cap1, hv, hc1, hc2⟩ := OL.open HL.out m hm
        simp only [Value.slice.injEq] at hv
        obtain ⟨rfl, -, rfl⟩ := hv
        obtain ⟨x0, x1, x2⟩ := HL.out.at m t ht
        have hgl := OL.lt HL.out (b := g1) rfl
        obtain ⟨he, h6⟩ := out_end HO.out ht
        have hts := tx_size t.x
        have HTK := hide <| fun w => tokens_any (s.extract 0 (t.a + t.x.length)) w (by rw [← bs_length, bs_extract s 0 _ (Nat.zero_le _), List.length_take, List.length_drop, bs_length]; omega)
        have HCT : Hid (∀ ts' c' a', Out (bs (s.extract 0 (t.a + t.x.length))) ts' c' a' → ts' = ts.take (m + 1) ∧ c' = 0) := fun ts' c' a' h => out_cut HO.out ht h
        generalize tx t.x = X at x1 hts
        generalize t.x.length = L at hts he HTK HCT
        generalize t.a = A at x2 he HTK HCT
        clear ht
        subst hts
        have heI : (A : Int) + (X.size : Int) ≤ (s.size : Int) := by omega
        have heJ : ¬ ((s.size : Int) < (A : Int) + (X.size : Int)) := by omega
        have heK : ((A : Int) + (X.size : Int)).toNat = A + X.size := by omega
        have heL : ¬ ((A : Int) + (X.size : Int) < 0) := by omega
        have heM : (0 : Int) ≤ (A : Int) + (X.size : Int) := by omega
        have heN : ¬ (s.size < A + X.size) := by omega
        have hsI : ((s.size : Int) ≤ 65536) := by omega
        have hsl : ∀ wq : World, (Instr.slice 9 (.string s) none (some (.int .i64 ((A : Int) + (X.size : Int)))) none).run Try.prog wq = .ok (.string (s.extract 0 (A + X.size))) wq := fun wq => by
          rw [run_slice_string_h wq _ _ Try.underlying9 _ _ heM heI, heK]
        have hw0 : IntKind.i64.wrap ((A : Int) + (X.size : Int)) = (A : Int) + (X.size : Int) := IntWalk.i64_in _ (by omega)
        have hsl1 : ∀ wq : World, (Instr.slice 9 (.string s) none (some (.int .i64 (IntKind.i64.wrap ((A : Int) + (X.size : Int))))) none).run Try.prog wq = .ok (.string (s.extract 0 (A + X.size))) wq := fun wq => by rw [hw0]; exact hsl wq
        clear heI heJ heK heL heM heN hsI hw0
        go_wp2
        have HTA : Hid (∀ wq : World, TL wq (.slice (some ⟨g1, 0, none⟩) ts.length c1) ts → Below w.heap.size w wq → Calls Try.prog 10 #[.string (s.extract 0 (A + X.size))] wq fun e w' => ∃ a2 c2 a', e = .returned (.tuple #[.slice a2 (m + 1) c2, .agg #[.int .i64 0, .int .i64 a']]) ∧ Hid (TL w' (.slice a2 (m + 1) c2) (ts.take (m + 1)) ∧ TL w' (.slice (some ⟨g1, 0, none⟩) ts.length c1) ts ∧ Below w.heap.size w w')) := by
          intro wq hq hB
          refine (HTK.out wq).mono ?_
          rintro e w5 ⟨v', ts', c', a', rfl, hO', hL', -, hb5⟩
          obtain ⟨rfl, rfl⟩ := HCT.out _ _ _ hO'
          obtain ⟨a2, c2, hv, -, -, -, -⟩ := hL'.shape
          have hlen : (ts.take (m + 1)).length = m + 1 := by rw [List.length_take]; omega
          rw [hlen] at hv
          subst hv
          exact ⟨a2, c2, _, rfl, hL', hq.stay hb5, hB.step hb5 (Nat.le_refl _)⟩
        have HTB : Hid (∀ wq : World, Blk 26 wq W.heap.size #[.int .i64 0, .int .i64 0] → TL wq (.slice (some ⟨g1, 0, none⟩) ts.length c1) ts → Below w.heap.size w wq → Calls Try.prog 10 #[.string (s.extract 0 (A + X.size))] wq fun e w' => ∃ a2 c2 a', e = .returned (.tuple #[.slice a2 (m + 1) c2, .agg #[.int .i64 0, .int .i64 a']]) ∧ (w'.cell? ⟨W.heap.size, 0, none⟩ = some (.int .i64 0) ∧ w'.cell? ⟨W.heap.size, 1, none⟩ = some (.int .i64 0) ∧ w'.frozen? ⟨W.heap.size, 0, none⟩ = false ∧ w'.frozen? ⟨W.heap.size, 1, none⟩ = false) ∧ W.heap.size < w'.heap.size ∧ Hid (TL w' (.slice a2 (m + 1) c2) (ts.take (m + 1)) ∧ TL w' (.slice (some ⟨g1, 0, none⟩) ts.length c1) ts ∧ Below w.heap.size w w' ∧ (Value.slice a2 (m + 1) c2).ownBlock ≠ some W.heap.size)) := by
          intro wq hR hq hB
          refine (HTK.out wq).mono ?_
          rintro e w5 ⟨v', ts', c', a', rfl, hO', hL', hown, hb5⟩
          obtain ⟨rfl, rfl⟩ := HCT.out _ _ _ hO'
          obtain ⟨a2, c2, hv, -, -, -, -⟩ := hL'.shape
          have hlen : (ts.take (m + 1)).length = m + 1 := by rw [List.length_take]; omega
          rw [hlen] at hv
          subst hv
          have hlt := hR.lt
          exact ⟨a2, c2, _, rfl, (hR.stay hb5).two, (hR.stay hb5).lt, hL', hq.stay hb5, hB.step hb5 (Nat.le_refl _), fun k => absurd (hown _ k) (by omega)⟩
        clear HTK HCT
        have hsz2 : w.heap.size ≤ W.heap.size := HB2.out.size
        go_cut [7, 8] (fun v7 v8 wx => ∃ a2 c2 b, v7 = .slice a2 (m + 1) c2 ∧ v8 = .pointer (some ⟨b, 0, none⟩) ∧ wx.cell? ⟨b, 0, none⟩ = some (.int .i64 0) ∧ Hid (TL wx (.slice a2 (m + 1) c2) (ts.take (m + 1)) ∧ TL wx (.slice (some ⟨g1, 0, none⟩) ts.length c1) ts ∧ Below w.heap.size w wx))
        case first =>
          go_region_with (first | (go_at_call 10; refine (HTB.out _ ?_ ?_ ?_).mono ?_; exact (Blk.new W _ _).drew; exact HL.out.stay (by go_grown); exact HB2.out.step (by go_grown) (Nat.le_refl _); rintro e w5 ⟨a2, c2, a', rfl, ⟨q0, q1, q2, q3⟩, q4, H5⟩) | (go_at_call 10; refine (HTA.out _ ?_ ?_).mono ?_; exact HL.out.stay (by go_grown); exact HB2.out.step (by go_grown) (Nat.le_refl _); rintro e w5 ⟨a2, c2, a', rfl, H5⟩))
          all_goals
            go_wp2_with fail
            go_meet
            first
              | exact ⟨a2, c2, w5.heap.size, rfl, rfl, by simp [go_sem], H5.out.1.stay (by go_grown), H5.out.2.1.stay (by go_grown), H5.out.2.2.step (by go_grown) (Nat.le_refl _)⟩
              | exact ⟨a2, c2, W.heap.size, rfl, rfl, by simp [go_sem, q0, q1, q2, q3], H5.out.1.store2 H5.out.2.2.2 _ _, H5.out.2.1.store2 (fun k => by simp [Value.ownBlock] at k; omega) _ _, below_store2 H5.out.2.2.1 hsz2 _ _⟩
        case rest =>
          obtain ⟨a2, c2, b, rfl, rfl, hcb, H5⟩ := hcut
          clear HTA HTB hsl hsl1 HL HB2 x0 x1 x2 r0 r1 hsz2 hW hgl he h6
          have hm65 : m ≤ 65536 := by omega
          go_wp2
          go_loopw [9] (fun i wr => ∃ k : Nat, k ≤ m + 1 ∧ i = .int .i64 k ∧ Hid (TL wr (.slice a2 (m + 1) c2) (ts.take (m + 1)) ∧ TL wr (.slice (some ⟨g1, 0, none⟩) ts.length c1) ts ∧ Below w.heap.size w wr)) (fun i _ => m + 1 - (intOf i).toNat)
          case atStart => exact ⟨0, Nat.zero_le _, rfl, H5⟩
          case round =>
            rename World => wl
            clear H5
            obtain ⟨k, hk, rfl, H5⟩ := hrel
            by_cases hlt : k ≤ m
            · have hltI : (k : Int) ≤ (m : Int) := by omega
              have hlen : (ts.take (m + 1)).length = m + 1 := by rw [List.length_take]; omega
              have G1 : TL wl (.slice a2 (ts.take (m + 1)).length c2) (ts.take (m + 1)) := by rw [hlen]; exact H5.out.1
              have G2 := H5.out.2.1
              obtain ⟨g2, cap2, hv, hd1, hd2⟩ := OL.open G1 k (by omega)
              simp only [Value.slice.injEq] at hv
              obtain ⟨rfl, -, rfl⟩ := hv
              obtain ⟨t, ht⟩ : ∃ t, ts[k]? = some t := ⟨ts[k], List.getElem?_eq_getElem (by omega)⟩
              obtain ⟨x0, x1, x2⟩ := G1.at k t (by rw [List.getElem?_take, if_pos (by omega)]; exact ht)
              obtain ⟨y0, y1, y2⟩ := G2.at k t ht
              have hlt1 : k < m + 1 := by omega
              have hlt2 : k < ts.length := by omega
              clear G1 G2 ht hd1 hd2 hlen
              go_wp2
              go_region
              all_goals
                go_wp2
                go_roundw
                case rel => exact ⟨k + 1, by omega, by go_num, H5.out.1, H5.out.2.1, H5.out.2.2.drew⟩
                case measure => simp [intOf]; omega
            · have hltI : ¬ (k : Int) ≤ (m : Int) := by omega
              go_wp2
              go_ret
              exact ⟨rfl, H5.out.2.2⟩
  · have k1I : ((c : Int) == 0) = false := by rw [beq_eq_false_iff_ne]; omega
    go_wp2
    go_ret
    exact ⟨by first | rfl | simp, HB2.out⟩
end Lex
end Go.Proofs.Ytdlkjafdnaadgaa
