/- All tokens of a text: the walk of lex.Tokens. No statement of the seat is proved here. -/
import Derived.Test.YtdlkjafdnaadgaaLexEJJoins
import Derived.Test.YtdlkjafdnaadgaaEufWJJoins
namespace Go.Proofs.Ytdlkjafdnaadgaa
open Go.RowKit
set_option linter.unusedVariables false
set_option linter.unusedSimpArgs false
namespace Lex
open Euf (OL App Stop wpList_push)

theorem clone_any (s : ByteArray) (w : World) (hs : s.size ≤ 281474976710656) :
    Calls Try.prog 20 #[.string s] w fun e w' => e = .returned (.string s) ∧ Below w.heap.size w w' := by
  go_enter Try.func20, Try.ntmps20
  go_wp2_with (go_at_call 41; refine (Try.stringslite_Clone s w hs).mono ?_; rintro e w1 ⟨rfl, hb⟩)
  go_ret
  exact ⟨rfl, hb⟩
theorem uTok : Try.prog.underlying 23 = some (.slice 34) := by kernel_rfl
theorem iTok : (Try.prog.info? 34).map (fun i => (i.zero, i.size, i.bytes)) = some (some (.agg #[.int .i64 0, .string ByteArray.empty, .int .i64 0]), 3, 32) := by kernel_rfl
/-- A token's cells. -/
def tv (t : T) : List Value := [.int .i64 (t.k : Int), .string (tx t.x), .int .i64 (t.a : Int)]
def tkC (ts : List T) (i : Nat) : List Value := tv (ts.getD i ⟨0, [], 0⟩)
/-- A list of tokens of the call's own. -/
def TL (w : World) (v : Value) (ts : List T) : Prop := OL 3 34 w v ts.length (tkC ts)
theorem tkC_app {ts : List T} {t : T} : (∀ k, k < ts.length → tkC (ts ++ [t]) k = tkC ts k) ∧ tkC (ts ++ [t]) ts.length = tv t := by
  refine ⟨fun k hk => ?_, ?_⟩
  · simp [tkC, List.getElem?_append_left hk]
  · simp [tkC]
/-- The state between two tokens. -/
structure TS (w0 wr : World) (v : Value) (ts : List T) : Prop where
  bel : Below w0.heap.size w0 wr
  res : Blk 26 wr w0.heap.size #[.int .i64 0, .int .i64 0]
  list : TL wr v ts
  own : ∀ b, v.ownBlock = some b → w0.heap.size < b
theorem TS.below {w0 wr w' : World} {v : Value} {ts : List T} (h : TS w0 wr v ts) (hb : Below wr.heap.size wr w') : TS w0 w' v ts :=
  ⟨h.bel.step hb (Nat.le_refl _), h.res.stay hb, h.list.stay fun b k => hb.block b (h.list.lt k), h.own⟩
theorem TS.push {w0 wr w' : World} {v v' : Value} {ts : List T} {t : T} (h : TS w0 wr v ts) (ha : App v v' wr w') (hl : TL w' v' (ts ++ [t])) : TS w0 w' v' (ts ++ [t]) := by
  have hr := h.res.lt
  have hn : v.ownBlock ≠ some w0.heap.size := fun k => absurd (h.own _ k) (Nat.lt_irrefl _)
  refine ⟨?_, (ha.other _ hr hn).trans h.res, hl, fun b hb => ?_⟩
  · exact ⟨ha.os.trans h.bel.os, ha.tape.trans h.bel.tape, ha.output.trans h.bel.output, Nat.le_trans h.bel.size ha.size, fun b hb => (ha.other b (by omega) (fun k => absurd (h.own _ k) (by omega))).trans (h.bel.block b hb)⟩
  · rcases ha.at_ with k | ⟨b', k, k2⟩
    · exact h.own b (k ▸ hb)
    · rw [hb] at k; injection k with k; omega
/-- What is still to come behind q. -/
def J (s : ByteArray) (q : Nat) (ts : List T) : Prop := sk ((bs s).drop q) = 0 ∧ ∀ ts' c a, Lx ((bs s).drop q) q ts' c a → Lx (bs s) 0 (ts ++ ts') c a
theorem J.start (s : ByteArray) : J s (0 + sk ((bs s).drop 0)) [] := by
  rw [List.drop_zero, Nat.zero_add]
  refine ⟨sk_end _, fun ts' c a h => ?_⟩
  exact h.ahead (by rw [sk_end, List.drop_zero]) (by rw [sk_end]; omega)
theorem J.done {s : ByteArray} {q : Nat} {ts : List T} (h : J s q ts) (hq : s.size ≤ q) : Lx (bs s) 0 ts 0 0 := by
  have := h.2 [] 0 0 (.done (by rw [drop_all s q hq]; exact Nat.zero_le _))
  rwa [List.append_nil] at this
theorem J.bad {s : ByteArray} {q c a : Nat} {ts : List T} (h : J s q ts) (hq : q < s.size) (ht : tk ((bs s).drop q) = .bad c a) : Lx (bs s) 0 ts c (q + a) := by
  have := h.2 [] c (q + a) (by
    have h1 := Lx.bad (p := q) (l := (bs s).drop q) (c := c) (a := a) (by rw [h.1, List.length_drop, bs_length]; omega) (by rw [h.1, List.drop_zero]; exact ht)
    rwa [h.1, Nat.add_zero] at h1)
  rwa [List.append_nil] at this
theorem J.next {s : ByteArray} {q k n : Nat} {ts : List T} (h : J s q ts) (hq : q < s.size) (ht : tk ((bs s).drop q) = .ok k n) :
    J s (q + n + sk ((bs s).drop (q + n))) (ts ++ [⟨k, ((bs s).drop q).take n, q⟩]) := by
  have e1 : (bs s).drop (q + n + sk ((bs s).drop (q + n))) = ((bs s).drop (q + n)).drop (sk ((bs s).drop (q + n))) := by rw [List.drop_drop]
  have e0 : sk ((bs s).drop (q + n + sk ((bs s).drop (q + n)))) = 0 := by rw [e1]; exact sk_end _
  refine ⟨e0, fun ts' c a h1 => ?_⟩
  have h2 : Lx ((bs s).drop (q + n)) (q + n) ts' c a := h1.ahead (by rw [e0, List.drop_zero, e1]) (by rw [e0]; omega)
  have h3 := Lx.tok (p := q) (l := (bs s).drop q) (k := k) (n := n) (ts := ts') (c := c) (a := a) (by rw [h.1, List.length_drop, bs_length]; omega) (by rw [h.1, List.drop_zero]; exact ht)
    (by rw [h.1, Nat.zero_add, List.drop_drop]; exact h2)
  rw [h.1, List.drop_zero, Nat.add_zero] at h3
  have := h.2 _ c a h3
  rwa [List.append_assoc]
/-- What a call of Tokens leaves. -/
def TkEnd (w0 : World) (s : ByteArray) (e : Ending) (w' : World) : Prop :=
  ∃ v ts c a, e = .returned (.tuple #[v, FV c a]) ∧ Out (bs s) ts c a ∧ TL w' v ts ∧ (∀ b, v.ownBlock = some b → w0.heap.size ≤ b) ∧ Below w0.heap.size w0 w'
set_option maxHeartbeats 4000000 in
theorem tokens_any (s : ByteArray) (w : World) (hs : s.size ≤ 9223372036854775807) :
    Calls Try.prog 10 #[.string s] w fun e w' => TkEnd w s e w' := by
  by_cases hbig : 65536 < s.size
  · have hbI : (65536 : Int) < (s.size : Int) := by omega
    go_enter Try.func10, Try.ntmps10
    go_wp2
    refine bodyPost_ret (v := .tuple #[.slice none 0 0, FV 2 65536]) (by simp [results, Try.results10, go_sem, FV]) rfl ?_
    refine ⟨_, [], 2, 65536, rfl, Or.inl ⟨by rw [bs_length]; exact hbig, rfl, rfl, rfl⟩, OL.nil _ _ _ _, (fun b h => by cases h), ?_⟩
    go_grown
  · have hbI : ¬ (65536 : Int) < (s.size : Int) := by omega
    have hle : s.size ≤ 65536 := by omega
    have hq0 := sk_le ((bs s).drop 0)
    rw [List.length_drop, bs_length] at hq0
    have HJ0 : Hid (J s (0 + sk ((bs s).drop 0)) []) := J.start s
    have HP0 := hide <| fun w => passOver_any s 0 w (Nat.zero_le _) hs
    have hq0' : 0 + sk ((bs s).drop 0) ≤ s.size := by omega
    generalize 0 + sk ((bs s).drop 0) = q0 at HJ0 HP0 hq0'
    have HT0 : Hid (TS w (w.alloc (.cells #[.int .i64 0, .int .i64 0] 26 (0, 0))) (.slice none 0 0) []) :=
      ⟨by go_grown, Blk.new w _ _, OL.nil _ _ _ _, fun b h => by cases h⟩
    clear hq0
    go_enter Try.func10, Try.ntmps10
    go_wp2_with (go_at_call 18; refine (HP0.out _).mono ?_; rintro e w' ⟨rfl, rfl⟩)
    go_loopw [4, 5] (fun v4 v5 wr => ∃ (q : Nat) (ts : List T), v5 = .int .i64 (q : Int) ∧ q ≤ s.size ∧ Hid (TS w wr v4 ts) ∧ Hid (J s q ts) ∧ ts.length ≤ q) (fun _ v _ => s.size - (intOf v).toNat)
    case atStart => exact ⟨q0, [], rfl, hq0', HT0, HJ0, Nat.zero_le _⟩
    case round =>
      rename World => wl
      clear HT0 HJ0 HP0 hq0'
      obtain ⟨q, ts, rfl, hq, HT, HJ, hn⟩ := hrel
      obtain ⟨aL, cL, hv, -, -, -, -⟩ := HT.out.list.shape
      subst hv
      by_cases hlt : q < s.size
      · have hltI : (q : Int) < (s.size : Int) := by omega
        have hsc := fun w => scan_any s q w hlt hs
        cases hr : tk ((bs s).drop q) with
        | bad c a =>
          rw [hr] at hsc
          have HS := hide hsc
          clear hsc
          have hc : ((c : Int) == 0) = false := by have := tk_bad hr; rw [beq_eq_false_iff_ne]; omega
          have HO : Hid (Out (bs s) [] c (q + a)) := by
            have := tk_bad hr
            exact Or.inr ⟨by rw [bs_length]; exact hle, ts, HJ.out.bad hlt hr, by rw [if_neg (by omega)]⟩
          clear hr HJ
          go_wp2_with (go_at_call 19; refine (HS.out _).mono ?_; rintro e w1 ⟨⟨x, y, rfl⟩, hb⟩; simp only [FV]; have HB : Hid (Below w.heap.size w w1) := (HT.out.below hb).bel; obtain ⟨r0, r1, q0, q1⟩ := (HT.out.below hb).res.two; have hlb := (HT.out.below hb).res.lt; clear HT hb)
          go_region
          all_goals
            go_wp2
            refine bodyPost_ret (v := .tuple #[.slice none 0 0, FV c (q + a)]) (by simp [results, Try.results10, go_sem, FV, r0, r1, q0, q1, hlb, Nat.ne_of_lt hlb]) rfl ?_
            refine ⟨_, [], c, q + a, rfl, HO.out, OL.nil _ _ _ _, (fun b h => by cases h), ?_⟩
            have := HB.out
            go_grown
        | ok k n =>
          rw [hr] at hsc
          have HS := hide hsc
          clear hsc
          have hnn := tk_ok hr
          rw [List.length_drop, bs_length] at hnn
          have hqn : q + n ≤ s.size := by omega
          have hn0 : 0 < n := hnn.1
          clear hnn
          have HJ2 := hide (HJ.out.next hlt hr)
          have hq2 := sk_le ((bs s).drop (q + n))
          rw [List.length_drop, bs_length] at hq2
          have HP := hide <| fun w => passOver_any s (q + n) w hqn hs
          have hq2' : q + n + sk ((bs s).drop (q + n)) ≤ s.size ∧ q < q + n + sk ((bs s).drop (q + n)) := by omega
          generalize q + n + sk ((bs s).drop (q + n)) = q2 at HJ2 HP hq2'
          clear hq2 HJ hr
          have hx : tx (((bs s).drop q).take n) = s.extract q (q + n) := by
            rw [show n = q + n - q by omega, ← bs_extract s q (q + n) (by omega), tx_bs, show q + (q + n - q) = q + n by omega]
          have hxs : (s.extract q (q + n)).size ≤ 281474976710656 := by
            rw [← bs_length, bs_extract s q (q + n) (by omega), List.length_take, List.length_drop, bs_length]; omega
          obtain ⟨t, ht⟩ : ∃ t : T, Hid (t = ⟨k, ((bs s).drop q).take n, q⟩) := ⟨_, rfl⟩
          have htv : Hid (tv t = [.int .i64 (k : Int), .string (s.extract q (q + n)), .int .i64 (q : Int)]) := by
            rw [ht.out]; show tv _ = _; simp only [tv, hx]
          rw [← ht.out] at HJ2
          clear hx ht
          generalize hX : s.extract q (q + n) = X at hxs htv
          go_wp2_with (first | (go_at_call 19; refine (HS.out _).mono ?_; rintro e w1 ⟨rfl, hb⟩; simp only [FV]; have HT1 := hide (HT.out.below hb); clear HT hb) | (go_at_call 20; refine (clone_any _ _ (by first | exact hxs | (rw [hX]; exact hxs))).mono ?_; rintro e w2 ⟨rfl, hb⟩) | (at_builtin; refine Stop.of ?_))
          show wpList _ _ _ _ _ _
          have HT2 := hide (HT1.out.below ((show Below w1.heap.size w1 (w1.alloc (.cells #[.int .i64 0, .int .i64 0] 26 (0, 0))) by go_grown).step hb (Nat.le_refl _)))
          have hol3 : OL 3 34 (w2.alloc (.cells #[.int .i64 (k : Int), .string X, .int .i64 (q : Int)] 34 (0, 0))) (.slice aL ts.length cL) ts.length (tkC ts) := HT2.out.list.stay fun b hb => Below.heap_alloc w2 _ b (HT2.out.list.lt hb)
          refine wpList_push rfl (.tmp 30) (.tmp 39) 23 rfl 3 34 _ 32 uTok iTok (by decide) rfl (by decide) (.slice aL ts.length cL) ts.length (tkC ts) rfl [.int .i64 (k : Int), .string X, .int .i64 (q : Int)] 34 hol3 (fun _ _ => rfl) 1 rfl rfl (by intro u hu; simp at hu; rcases hu with rfl | rfl | rfl <;> rfl) (by omega) (tkC (ts ++ [t])) tkC_app.1 (tkC_app.2.trans htv.out) ?_
          intro v4 w4 hol4 hap4 hne4
          replace hap4 := hap4.of_alloc (fun b hb => HT2.out.list.lt hb)
          have HT4 : Hid (TS w w4 v4 (ts ++ [t])) := HT2.out.push hap4 (by have := hol4; rw [show ts.length + 1 = (ts ++ [t]).length by simp] at this; exact this)
          clear hol3 hol4 hap4 hne4 HT1 HT2 hb htv
          go_wp2_with (go_at_call 18; refine (HP.out _).mono ?_; rintro e w' ⟨rfl, rfl⟩)
          go_roundw
          case rel => exact ⟨q2, ts ++ [t], by go_num, hq2'.1, HT4, HJ2, by rw [List.length_append, List.length_singleton]; omega⟩
          case measure => simp [intOf]; omega
      · have hltI : ¬ (q : Int) < (s.size : Int) := by omega
        have HO : Hid (Out (bs s) ts 0 0) := Or.inr ⟨by rw [bs_length]; exact hle, ts, HJ.out.done (by omega), by rw [if_pos rfl]⟩
        obtain ⟨r0, r1, q0, q1⟩ := HT.out.res.two
        have hlb := HT.out.res.lt
        clear HJ
        go_wp2
        refine bodyPost_ret (v := .tuple #[.slice aL ts.length cL, FV 0 0]) (by simp [results, Try.results10, go_sem, FV, r0, r1, q0, q1, hlb]) rfl ?_
        have h9 := HT.out
        refine ⟨_, ts, 0, 0, rfl, HO.out, h9.list.stay (fun b hb => ?_), (fun b hb => Nat.le_of_lt (h9.own b hb)), below_store2 h9.bel (Nat.le_refl _) _ _⟩
        have := h9.own b hb
        rw [heap_setCell_other _ _ _ _ (by simp; omega), heap_setCell_other _ _ _ _ (by simp; omega)]
end Lex
end Go.Proofs.Ytdlkjafdnaadgaa
