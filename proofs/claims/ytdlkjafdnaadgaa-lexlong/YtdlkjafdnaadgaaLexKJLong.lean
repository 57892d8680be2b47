/- The document's tokens; are two lists of tokens the same? No statement of the seat is proved here. -/
import Derived.Test.YtdlkjafdnaadgaaLexIJLong
namespace Go.Proofs.Ytdlkjafdnaadgaa
open Go.RowKit
set_option linter.unusedVariables false
set_option linter.unusedSimpArgs false
namespace Lex
open Euf (OL App Stop wpList_push)

structure TS2 (w0 wr : World) (v : Value) (ts : List T) : Prop where
  bel : Below w0.heap.size w0 wr
  list : TL wr v ts
  own : ∀ b, v.ownBlock = some b → w0.heap.size ≤ b
theorem TS2.below {w0 wr w' : World} {v : Value} {ts : List T} (h : TS2 w0 wr v ts) (hb : Below wr.heap.size wr w') : TS2 w0 w' v ts :=
  ⟨h.bel.step hb (Nat.le_refl _), h.list.stay fun b k => hb.block b (h.list.lt k), h.own⟩
theorem TS2.push {w0 wr w' : World} {v v' : Value} {ts : List T} {t : T} (h : TS2 w0 wr v ts) (ha : App v v' wr w') (hl : TL w' v' (ts ++ [t])) : TS2 w0 w' v' (ts ++ [t]) := by
  have hs := h.bel.size
  refine ⟨?_, hl, fun b hb => ?_⟩
  · exact ⟨ha.os.trans h.bel.os, ha.tape.trans h.bel.tape, ha.output.trans h.bel.output, Nat.le_trans h.bel.size ha.size, fun b hb => (ha.other b (by omega) (fun k => absurd (h.own _ k) (by omega))).trans (h.bel.block b hb)⟩
  · rcases ha.at_ with k | ⟨b', k, k2⟩
    · exact h.own b (k ▸ hb)
    · rw [hb] at k; injection k with k; omega
/-- What a call of the document's Tokens leaves. -/
def RkEnd (w0 : World) (s : ByteArray) (e : Ending) (w' : World) : Prop :=
  ∃ v ts c a, e = .returned (.tuple #[v, .int .i64 ((c : Nat) : Int), .int .i64 ((a : Nat) : Int)]) ∧ Out (bs s) ts c a ∧ TL w' v ts ∧ (∀ b, v.ownBlock = some b → w0.heap.size ≤ b) ∧ Below w0.heap.size w0 w'
set_option maxHeartbeats 8000000 in
set_option maxRecDepth 100000 in
theorem rTokens_any (s : ByteArray) (w : World) (hs : s.size ≤ 9223372036854775807) :
    Calls Try.prog 11 #[.string s] w fun e w' => RkEnd w s e w' := by
  by_cases hbig : 65536 < s.size
  · have hbI : (65536 : Int) < (s.size : Int) := by omega
    go_enter Try.func11, Try.ntmps11
    go_wp2
    go_ret3
    exact ⟨_, [], 2, 65536, rfl, Or.inl ⟨by rw [bs_length]; exact hbig, rfl, rfl, rfl⟩, OL.nil _ _ _ _, (fun b h => by cases h), Below.refl _ _⟩
  · have hbI : ¬ (65536 : Int) < (s.size : Int) := by omega
    have hle : s.size ≤ 65536 := by omega
    have hq0 := sk_le ((bs s).drop 0)
    rw [List.length_drop, bs_length] at hq0
    have HJ0 : Hid (J s (0 + sk ((bs s).drop 0)) []) := J.start s
    have HP0 := hide <| fun w => skip_any s 0 w (Nat.zero_le _) (by omega)
    have hq0' : 0 + sk ((bs s).drop 0) ≤ s.size := by omega
    generalize 0 + sk ((bs s).drop 0) = q0 at HJ0 HP0 hq0'
    have HT0 : Hid (TS2 w w (.slice none 0 0) []) := ⟨Below.refl _ _, OL.nil _ _ _ _, fun b h => by cases h⟩
    clear hq0
    go_enter Try.func11, Try.ntmps11
    go_wp2_with (go_at_call 21; refine (HP0.out _).mono ?_; rintro e w' ⟨rfl, rfl⟩)
    rename World => w
    go_loopw [5, 6] (fun v4 v5 wr => ∃ (q : Nat) (ts : List T), v5 = .int .i64 (q : Int) ∧ q ≤ s.size ∧ Hid (TS2 w wr v4 ts) ∧ Hid (J s q ts) ∧ ts.length ≤ q) (fun _ v _ => s.size - (intOf v).toNat)
    case atStart => exact ⟨q0, [], rfl, hq0', HT0, HJ0, Nat.zero_le _⟩
    case round =>
      rename World => wl
      clear HT0 HJ0 HP0 hq0'
      obtain ⟨q, ts, rfl, hq, HT, HJ, hn⟩ := hrel
      obtain ⟨aL, cL, hv, -, -, -, -⟩ := HT.out.list.shape
      subst hv
      by_cases hlt : q < s.size
      · have hltI : (q : Int) < (s.size : Int) := by omega
        have hx := bs_drop s q hlt
        have hnb : isB (s[q]'hlt) = false := by
          cases h : isB (s[q]'hlt)
          · rfl
          · have := HJ.out.1; rw [hx, sk_blank h] at this; omega
        have HBW := hide HT.out.bel
        have hWl := tw_le isLD ((bs s).drop q)
        have hNl := tw_le isD ((bs s).drop q)
        change spW _ ≤ _ at hWl; change spN _ ≤ _ at hNl
        rw [List.length_drop, bs_length] at hWl hNl
        by_cases c1 : isL (s[q]'hlt) = true
        · have hkd := kd1 c1
          have hK : tk ((bs s).drop q) = if 40 < spW ((bs s).drop q) then .bad 2 0 else .ok 1 (spW ((bs s).drop q)) := by
            rw [hx]; simp [tk, c1]
          have HS := hide <| fun w => span_any s q true w (by omega) hs
          simp only [spB, if_true] at HS
          generalize spW ((bs s).drop q) = n at hK HS hWl
          have hqn : q + n ≤ s.size := by omega
          have e1 : ((q + n : Nat) : Int) - (q : Int) = (n : Int) := by omega
          clear hx hnb c1 hNl
          by_cases h40 : 40 < n
          · have HO : Hid (Out (bs s) [] 2 q) := by
              have hr : tk ((bs s).drop q) = .bad 2 0 := by rw [hK, if_pos h40]
              exact Or.inr ⟨by rw [bs_length]; exact hle, ts, HJ.out.bad hlt hr, rfl⟩
            clear hK HJ HT
            go_wp2_with (first | (go_at_call 22; refine (kind_any _ _).mono ?_; rintro e w' ⟨rfl, rfl⟩; rw [hkd]) | (go_at_call 23; refine (HS.out _).mono ?_; rintro e w' ⟨rfl, rfl⟩))
            go_ret3
            refine ⟨.slice none 0 0, [], 2, q, rfl, HO.out, OL.nil _ _ _ _, (fun b h => by cases h), HBW.out⟩
          · have hr : tk ((bs s).drop q) = .ok 1 n := by rw [hK, if_neg h40]
            clear hK
            have hnn := tk_ok hr
            rw [List.length_drop, bs_length] at hnn
            have hqn : q + n ≤ s.size := by omega
            have hn0 : 0 < n := hnn.1
            clear hnn
            have HJ2 := hide (HJ.out.next hlt hr)
            have hq2 := sk_le ((bs s).drop (q + n))
            rw [List.length_drop, bs_length] at hq2
            have HP := hide <| fun w => skip_any s (q + n) w hqn (by omega)
            have hq2' : q + n + sk ((bs s).drop (q + n)) ≤ s.size ∧ q < q + n + sk ((bs s).drop (q + n)) := by omega
            generalize q + n + sk ((bs s).drop (q + n)) = q2 at HJ2 HP hq2'
            clear hq2 HJ hr
            have hx : tx (((bs s).drop q).take n) = s.extract q (q + n) := by
              rw [show n = q + n - q by omega, ← bs_extract s q (q + n) (by omega), tx_bs, show q + (q + n - q) = q + n by omega]
            obtain ⟨t, ht⟩ : ∃ t : T, Hid (t = ⟨1, ((bs s).drop q).take n, q⟩) := ⟨_, rfl⟩
            have htv : Hid (tv t = [.int .i64 1, .string (s.extract q (q + n)), .int .i64 (q : Int)]) := by
              rw [ht.out]; show tv _ = _; simp only [tv, hx]; rfl
            rw [← ht.out] at HJ2
            clear hx ht
            generalize hX : s.extract q (q + n) = X at htv
            obtain ⟨WX, hWX⟩ : ∃ WX, WX = wl := ⟨_, rfl⟩
            subst hWX
            have HT2 := HT
            clear HT
            go_wp2_with (first | (go_at_call 22; refine (kind_any _ _).mono ?_; rintro e w' ⟨rfl, rfl⟩; rw [hkd]) | (go_at_call 23; refine (HS.out _).mono ?_; rintro e w' ⟨rfl, rfl⟩) | (at_builtin; refine Stop.of ?_))
            rename World => WX
            show wpList _ _ _ _ _ _
            have hol3 : OL 3 34 (WX.alloc (.cells #[.int .i64 1, .string X, .int .i64 (q : Int)] 34 (0, 0))) (.slice aL ts.length cL) ts.length (tkC ts) := HT2.out.list.stay fun b hb => Below.heap_alloc WX _ b (HT2.out.list.lt hb)
            refine wpList_push rfl (.tmp 96) (.tmp 104) 23 rfl 3 34 _ 32 uTok iTok (by decide) rfl (by decide) (.slice aL ts.length cL) ts.length (tkC ts) rfl [.int .i64 1, .string X, .int .i64 (q : Int)] 34 hol3 (fun _ _ => rfl) 1 rfl rfl (by intro u hu; simp at hu; rcases hu with rfl | rfl | rfl <;> rfl) (by omega) (tkC (ts ++ [t])) tkC_app.1 (tkC_app.2.trans htv.out) ?_
            intro v4 w4 hol4 hap4 hne4
            replace hap4 := hap4.of_alloc (fun b hb => HT2.out.list.lt hb)
            have HT4 : Hid (TS2 w w4 v4 (ts ++ [t])) := HT2.out.push hap4 (by have := hol4; rw [show ts.length + 1 = (ts ++ [t]).length by simp] at this; exact this)
            clear hol3 hol4 hap4 hne4 HT2 htv
            try clear e1
            try clear hX
            go_wp2_with (go_at_call 21; refine (HP.out _).mono ?_; rintro e w' ⟨rfl, rfl⟩)
            go_roundw
            case rel => exact ⟨q2, ts ++ [t], by go_num, hq2'.1, HT4, HJ2, by rw [List.length_append, List.length_singleton]; omega⟩
            case measure => simp [intOf]; omega
        · have c1' : isL (s[q]'hlt) = false := by simpa using c1
          by_cases c2 : isD (s[q]'hlt) = true
          · have hkd := kd2 c2
            have hK : tk ((bs s).drop q) = if 300 < spN ((bs s).drop q) then .bad 2 0 else if (s[q]'hlt).toNat = 48 ∧ 1 < spN ((bs s).drop q) then .bad 10 0 else if hdL (((bs s).drop q).drop (spN ((bs s).drop q))) then .bad 100 (spN ((bs s).drop q)) else .ok 2 (spN ((bs s).drop q)) := by
              rw [hx]; simp [tk, c1', c2]
            rw [List.drop_drop] at hK
            have HS := hide <| fun w => span_any s q false w (by omega) hs
            simp only [spB, Bool.false_eq_true, if_false] at HS
            generalize spN ((bs s).drop q) = n at hK HS hNl
            have hqn : q + n ≤ s.size := by omega
            have e1 : ((q + n : Nat) : Int) - (q : Int) = (n : Int) := by omega
            clear hx hnb c1 c1' c2 hWl
            by_cases h300 : 300 < n
            · have HO : Hid (Out (bs s) [] 2 (q)) := by
                have hr : tk ((bs s).drop q) = .bad 2 0 := by rw [hK, if_pos h300]
                exact Or.inr ⟨by rw [bs_length]; exact hle, ts, HJ.out.bad hlt hr, rfl⟩
              clear hK HJ HT
              go_wp2_with (first | (go_at_call 22; refine (kind_any _ _).mono ?_; rintro e w' ⟨rfl, rfl⟩; rw [hkd]) | (go_at_call 23; refine (HS.out _).mono ?_; rintro e w' ⟨rfl, rfl⟩))
              go_ret3
              refine ⟨.slice none 0 0, [], 2, q, rfl, HO.out, OL.nil _ _ _ _, (fun b h => by cases h), HBW.out⟩
            · by_cases h48 : (s[q]'hlt).toNat = 48
              · have hb48 := beq48 _ true (decide_eq_true h48)
                by_cases h1 : 1 < n
                · have h48n : (s[q]'hlt).toNat = 48 ∧ 1 < n := ⟨h48, h1⟩
                  clear h48
                  have HO : Hid (Out (bs s) [] 10 (q)) := by
                    have hr : tk ((bs s).drop q) = .bad 10 0 := by rw [hK, if_neg h300, if_pos h48n]
                    exact Or.inr ⟨by rw [bs_length]; exact hle, ts, HJ.out.bad hlt hr, rfl⟩
                  clear hK HJ HT h48n
                  go_wp2_with (first | (go_at_call 22; refine (kind_any _ _).mono ?_; rintro e w' ⟨rfl, rfl⟩; rw [hkd]) | (go_at_call 23; refine (HS.out _).mono ?_; rintro e w' ⟨rfl, rfl⟩))
                  go_ret3
                  refine ⟨.slice none 0 0, [], 10, q, rfl, HO.out, OL.nil _ _ _ _, (fun b h => by cases h), HBW.out⟩
                · have h48n : ¬ ((s[q]'hlt).toNat = 48 ∧ 1 < n) := fun k => h1 k.2
                  have hK := hK
                  rw [if_neg h300, if_neg h48n] at hK
                  clear h48 h48n
                  by_cases h4 : q + n < s.size
                  · have hx4 := bs_drop s (q + n) h4
                    by_cases h5 : isL (s[q + n]'h4) = true
                    · have hh : hdL ((bs s).drop (q + n)) = true := by rw [hx4]; exact h5
                      have hkd2 := kd1 h5
                      clear hx4 h5
                      have HO : Hid (Out (bs s) [] 100 (q + n)) := by
                        have hr : tk ((bs s).drop q) = .bad 100 n := by rw [hK, if_pos hh]
                        exact Or.inr ⟨by rw [bs_length]; exact hle, ts, HJ.out.bad hlt hr, rfl⟩
                      clear hK HJ HT
                      go_wp2_with (first | (go_at_call 22; refine (kind_any _ _).mono ?_; rintro e w' ⟨rfl, rfl⟩; rw [hkd]) | (go_at_call 23; refine (HS.out _).mono ?_; rintro e w' ⟨rfl, rfl⟩) | (go_at_call 22; refine (kind_any _ _).mono ?_; rintro e w' ⟨rfl, rfl⟩; rw [hkd2]))
                      go_ret3
                      refine ⟨.slice none 0 0, [], 100, q + n, rfl, HO.out, OL.nil _ _ _ _, (fun b h => by cases h), HBW.out⟩
                    · have hh : ¬ hdL ((bs s).drop (q + n)) = true := by rw [hx4]; exact h5
                      have hkd2 : (kd (s[q + n]'h4) == 1) = false := by
                        unfold kd
                        rw [show isL (s[q + n]'h4) = false by simpa using h5]
                        cases isD (s[q + n]'h4) <;> cases isB (s[q + n]'h4) <;> rfl
                      clear hx4 h5
                      have hr : tk ((bs s).drop q) = .ok 2 n := by rw [hK, if_neg hh]
                      clear hK
                      have hnn := tk_ok hr
                      rw [List.length_drop, bs_length] at hnn
                      have hqn : q + n ≤ s.size := by omega
                      have hn0 : 0 < n := hnn.1
                      clear hnn
                      have HJ2 := hide (HJ.out.next hlt hr)
                      have hq2 := sk_le ((bs s).drop (q + n))
                      rw [List.length_drop, bs_length] at hq2
                      have HP := hide <| fun w => skip_any s (q + n) w hqn (by omega)
                      have hq2' : q + n + sk ((bs s).drop (q + n)) ≤ s.size ∧ q < q + n + sk ((bs s).drop (q + n)) := by omega
                      generalize q + n + sk ((bs s).drop (q + n)) = q2 at HJ2 HP hq2'
                      clear hq2 HJ hr
                      have hx : tx (((bs s).drop q).take n) = s.extract q (q + n) := by
                        rw [show n = q + n - q by omega, ← bs_extract s q (q + n) (by omega), tx_bs, show q + (q + n - q) = q + n by omega]
                      obtain ⟨t, ht⟩ : ∃ t : T, Hid (t = ⟨2, ((bs s).drop q).take n, q⟩) := ⟨_, rfl⟩
                      have htv : Hid (tv t = [.int .i64 2, .string (s.extract q (q + n)), .int .i64 (q : Int)]) := by
                        rw [ht.out]; show tv _ = _; simp only [tv, hx]; rfl
                      rw [← ht.out] at HJ2
                      clear hx ht
                      generalize hX : s.extract q (q + n) = X at htv
                      obtain ⟨WX, hWX⟩ : ∃ WX, WX = wl := ⟨_, rfl⟩
                      subst hWX
                      have HT2 := HT
                      clear HT
                      go_wp2_with (first | (go_at_call 22; refine (kind_any _ _).mono ?_; rintro e w' ⟨rfl, rfl⟩; rw [hkd]) | (go_at_call 23; refine (HS.out _).mono ?_; rintro e w' ⟨rfl, rfl⟩) | (go_at_call 22; refine (kind_any _ _).mono ?_; rintro e w' ⟨rfl, rfl⟩) | (at_builtin; refine Stop.of ?_))
                      rename World => WX
                      show wpList _ _ _ _ _ _
                      have hol3 : OL 3 34 (WX.alloc (.cells #[.int .i64 2, .string X, .int .i64 (q : Int)] 34 (0, 0))) (.slice aL ts.length cL) ts.length (tkC ts) := HT2.out.list.stay fun b hb => Below.heap_alloc WX _ b (HT2.out.list.lt hb)
                      refine wpList_push rfl (.tmp 96) (.tmp 104) 23 rfl 3 34 _ 32 uTok iTok (by decide) rfl (by decide) (.slice aL ts.length cL) ts.length (tkC ts) rfl [.int .i64 2, .string X, .int .i64 (q : Int)] 34 hol3 (fun _ _ => rfl) 1 rfl rfl (by intro u hu; simp at hu; rcases hu with rfl | rfl | rfl <;> rfl) (by omega) (tkC (ts ++ [t])) tkC_app.1 (tkC_app.2.trans htv.out) ?_
                      intro v4 w4 hol4 hap4 hne4
                      replace hap4 := hap4.of_alloc (fun b hb => HT2.out.list.lt hb)
                      have HT4 : Hid (TS2 w w4 v4 (ts ++ [t])) := HT2.out.push hap4 (by have := hol4; rw [show ts.length + 1 = (ts ++ [t]).length by simp] at this; exact this)
                      clear hol3 hol4 hap4 hne4 HT2 htv
                      try clear e1
                      try clear hX
                      go_wp2_with (go_at_call 21; refine (HP.out _).mono ?_; rintro e w' ⟨rfl, rfl⟩)
                      go_roundw
                      case rel => exact ⟨q2, ts ++ [t], by go_num, hq2'.1, HT4, HJ2, by rw [List.length_append, List.length_singleton]; omega⟩
                      case measure => simp [intOf]; omega
                  · have hh : ¬ hdL ((bs s).drop (q + n)) = true := by rw [drop_all s (q + n) (by omega)]; simp [hdL]
                    have hr : tk ((bs s).drop q) = .ok 2 n := by rw [hK, if_neg hh]
                    clear hK
                    have hnn := tk_ok hr
                    rw [List.length_drop, bs_length] at hnn
                    have hqn : q + n ≤ s.size := by omega
                    have hn0 : 0 < n := hnn.1
                    clear hnn
                    have HJ2 := hide (HJ.out.next hlt hr)
                    have hq2 := sk_le ((bs s).drop (q + n))
                    rw [List.length_drop, bs_length] at hq2
                    have HP := hide <| fun w => skip_any s (q + n) w hqn (by omega)
                    have hq2' : q + n + sk ((bs s).drop (q + n)) ≤ s.size ∧ q < q + n + sk ((bs s).drop (q + n)) := by omega
                    generalize q + n + sk ((bs s).drop (q + n)) = q2 at HJ2 HP hq2'
                    clear hq2 HJ hr
                    have hx : tx (((bs s).drop q).take n) = s.extract q (q + n) := by
                      rw [show n = q + n - q by omega, ← bs_extract s q (q + n) (by omega), tx_bs, show q + (q + n - q) = q + n by omega]
                    obtain ⟨t, ht⟩ : ∃ t : T, Hid (t = ⟨2, ((bs s).drop q).take n, q⟩) := ⟨_, rfl⟩
                    have htv : Hid (tv t = [.int .i64 2, .string (s.extract q (q + n)), .int .i64 (q : Int)]) := by
                      rw [ht.out]; show tv _ = _; simp only [tv, hx]; rfl
                    rw [← ht.out] at HJ2
                    clear hx ht
                    generalize hX : s.extract q (q + n) = X at htv
                    obtain ⟨WX, hWX⟩ : ∃ WX, WX = wl := ⟨_, rfl⟩
                    subst hWX
                    have HT2 := HT
                    clear HT
                    go_wp2_with (first | (go_at_call 22; refine (kind_any _ _).mono ?_; rintro e w' ⟨rfl, rfl⟩; rw [hkd]) | (go_at_call 23; refine (HS.out _).mono ?_; rintro e w' ⟨rfl, rfl⟩) | (at_builtin; refine Stop.of ?_))
                    rename World => WX
                    show wpList _ _ _ _ _ _
                    have hol3 : OL 3 34 (WX.alloc (.cells #[.int .i64 2, .string X, .int .i64 (q : Int)] 34 (0, 0))) (.slice aL ts.length cL) ts.length (tkC ts) := HT2.out.list.stay fun b hb => Below.heap_alloc WX _ b (HT2.out.list.lt hb)
                    refine wpList_push rfl (.tmp 96) (.tmp 104) 23 rfl 3 34 _ 32 uTok iTok (by decide) rfl (by decide) (.slice aL ts.length cL) ts.length (tkC ts) rfl [.int .i64 2, .string X, .int .i64 (q : Int)] 34 hol3 (fun _ _ => rfl) 1 rfl rfl (by intro u hu; simp at hu; rcases hu with rfl | rfl | rfl <;> rfl) (by omega) (tkC (ts ++ [t])) tkC_app.1 (tkC_app.2.trans htv.out) ?_
                    intro v4 w4 hol4 hap4 hne4
                    replace hap4 := hap4.of_alloc (fun b hb => HT2.out.list.lt hb)
                    have HT4 : Hid (TS2 w w4 v4 (ts ++ [t])) := HT2.out.push hap4 (by have := hol4; rw [show ts.length + 1 = (ts ++ [t]).length by simp] at this; exact this)
                    clear hol3 hol4 hap4 hne4 HT2 htv
                    try clear e1
                    try clear hX
                    go_wp2_with (go_at_call 21; refine (HP.out _).mono ?_; rintro e w' ⟨rfl, rfl⟩)
                    go_roundw
                    case rel => exact ⟨q2, ts ++ [t], by go_num, hq2'.1, HT4, HJ2, by rw [List.length_append, List.length_singleton]; omega⟩
                    case measure => simp [intOf]; omega
              · have hb48 := beq48 _ false (decide_eq_false h48)
                have h48n : ¬ ((s[q]'hlt).toNat = 48 ∧ 1 < n) := fun k => h48 k.1
                rw [if_neg h300, if_neg h48n] at hK
                clear h48 h48n
                by_cases h4 : q + n < s.size
                · have hx4 := bs_drop s (q + n) h4
                  by_cases h5 : isL (s[q + n]'h4) = true
                  · have hh : hdL ((bs s).drop (q + n)) = true := by rw [hx4]; exact h5
                    have hkd2 := kd1 h5
                    clear hx4 h5
                    have HO : Hid (Out (bs s) [] 100 (q + n)) := by
                      have hr : tk ((bs s).drop q) = .bad 100 n := by rw [hK, if_pos hh]
                      exact Or.inr ⟨by rw [bs_length]; exact hle, ts, HJ.out.bad hlt hr, rfl⟩
                    clear hK HJ HT
                    go_wp2_with (first | (go_at_call 22; refine (kind_any _ _).mono ?_; rintro e w' ⟨rfl, rfl⟩; rw [hkd]) | (go_at_call 23; refine (HS.out _).mono ?_; rintro e w' ⟨rfl, rfl⟩) | (go_at_call 22; refine (kind_any _ _).mono ?_; rintro e w' ⟨rfl, rfl⟩; rw [hkd2]))
                    go_ret3
                    refine ⟨.slice none 0 0, [], 100, q + n, rfl, HO.out, OL.nil _ _ _ _, (fun b h => by cases h), HBW.out⟩
                  · have hh : ¬ hdL ((bs s).drop (q + n)) = true := by rw [hx4]; exact h5
                    have hkd2 : (kd (s[q + n]'h4) == 1) = false := by
                      unfold kd
                      rw [show isL (s[q + n]'h4) = false by simpa using h5]
                      cases isD (s[q + n]'h4) <;> cases isB (s[q + n]'h4) <;> rfl
                    clear hx4 h5
                    have hr : tk ((bs s).drop q) = .ok 2 n := by rw [hK, if_neg hh]
                    clear hK
                    have hnn := tk_ok hr
                    rw [List.length_drop, bs_length] at hnn
                    have hqn : q + n ≤ s.size := by omega
                    have hn0 : 0 < n := hnn.1
                    clear hnn
                    have HJ2 := hide (HJ.out.next hlt hr)
                    have hq2 := sk_le ((bs s).drop (q + n))
                    rw [List.length_drop, bs_length] at hq2
                    have HP := hide <| fun w => skip_any s (q + n) w hqn (by omega)
                    have hq2' : q + n + sk ((bs s).drop (q + n)) ≤ s.size ∧ q < q + n + sk ((bs s).drop (q + n)) := by omega
                    generalize q + n + sk ((bs s).drop (q + n)) = q2 at HJ2 HP hq2'
                    clear hq2 HJ hr
                    have hx : tx (((bs s).drop q).take n) = s.extract q (q + n) := by
                      rw [show n = q + n - q by omega, ← bs_extract s q (q + n) (by omega), tx_bs, show q + (q + n - q) = q + n by omega]
                    obtain ⟨t, ht⟩ : ∃ t : T, Hid (t = ⟨2, ((bs s).drop q).take n, q⟩) := ⟨_, rfl⟩
                    have htv : Hid (tv t = [.int .i64 2, .string (s.extract q (q + n)), .int .i64 (q : Int)]) := by
                      rw [ht.out]; show tv _ = _; simp only [tv, hx]; rfl
                    rw [← ht.out] at HJ2
                    clear hx ht
                    generalize hX : s.extract q (q + n) = X at htv
                    obtain ⟨WX, hWX⟩ : ∃ WX, WX = wl := ⟨_, rfl⟩
                    subst hWX
                    have HT2 := HT
                    clear HT
                    go_wp2_with (first | (go_at_call 22; refine (kind_any _ _).mono ?_; rintro e w' ⟨rfl, rfl⟩; rw [hkd]) | (go_at_call 23; refine (HS.out _).mono ?_; rintro e w' ⟨rfl, rfl⟩) | (go_at_call 22; refine (kind_any _ _).mono ?_; rintro e w' ⟨rfl, rfl⟩) | (at_builtin; refine Stop.of ?_))
                    rename World => WX
                    show wpList _ _ _ _ _ _
                    have hol3 : OL 3 34 (WX.alloc (.cells #[.int .i64 2, .string X, .int .i64 (q : Int)] 34 (0, 0))) (.slice aL ts.length cL) ts.length (tkC ts) := HT2.out.list.stay fun b hb => Below.heap_alloc WX _ b (HT2.out.list.lt hb)
                    refine wpList_push rfl (.tmp 96) (.tmp 104) 23 rfl 3 34 _ 32 uTok iTok (by decide) rfl (by decide) (.slice aL ts.length cL) ts.length (tkC ts) rfl [.int .i64 2, .string X, .int .i64 (q : Int)] 34 hol3 (fun _ _ => rfl) 1 rfl rfl (by intro u hu; simp at hu; rcases hu with rfl | rfl | rfl <;> rfl) (by omega) (tkC (ts ++ [t])) tkC_app.1 (tkC_app.2.trans htv.out) ?_
                    intro v4 w4 hol4 hap4 hne4
                    replace hap4 := hap4.of_alloc (fun b hb => HT2.out.list.lt hb)
                    have HT4 : Hid (TS2 w w4 v4 (ts ++ [t])) := HT2.out.push hap4 (by have := hol4; rw [show ts.length + 1 = (ts ++ [t]).length by simp] at this; exact this)
                    clear hol3 hol4 hap4 hne4 HT2 htv
                    try clear e1
                    try clear hX
                    go_wp2_with (go_at_call 21; refine (HP.out _).mono ?_; rintro e w' ⟨rfl, rfl⟩)
                    go_roundw
                    case rel => exact ⟨q2, ts ++ [t], by go_num, hq2'.1, HT4, HJ2, by rw [List.length_append, List.length_singleton]; omega⟩
                    case measure => simp [intOf]; omega
                · have hh : ¬ hdL ((bs s).drop (q + n)) = true := by rw [drop_all s (q + n) (by omega)]; simp [hdL]
                  have hr : tk ((bs s).drop q) = .ok 2 n := by rw [hK, if_neg hh]
                  clear hK
                  have hnn := tk_ok hr
                  rw [List.length_drop, bs_length] at hnn
                  have hqn : q + n ≤ s.size := by omega
                  have hn0 : 0 < n := hnn.1
                  clear hnn
                  have HJ2 := hide (HJ.out.next hlt hr)
                  have hq2 := sk_le ((bs s).drop (q + n))
                  rw [List.length_drop, bs_length] at hq2
                  have HP := hide <| fun w => skip_any s (q + n) w hqn (by omega)
                  have hq2' : q + n + sk ((bs s).drop (q + n)) ≤ s.size ∧ q < q + n + sk ((bs s).drop (q + n)) := by omega
                  generalize q + n + sk ((bs s).drop (q + n)) = q2 at HJ2 HP hq2'
                  clear hq2 HJ hr
                  have hx : tx (((bs s).drop q).take n) = s.extract q (q + n) := by
                    rw [show n = q + n - q by omega, ← bs_extract s q (q + n) (by omega), tx_bs, show q + (q + n - q) = q + n by omega]
                  obtain ⟨t, ht⟩ : ∃ t : T, Hid (t = ⟨2, ((bs s).drop q).take n, q⟩) := ⟨_, rfl⟩
                  have htv : Hid (tv t = [.int .i64 2, .string (s.extract q (q + n)), .int .i64 (q : Int)]) := by
                    rw [ht.out]; show tv _ = _; simp only [tv, hx]; rfl
                  rw [← ht.out] at HJ2
                  clear hx ht
                  generalize hX : s.extract q (q + n) = X at htv
                  obtain ⟨WX, hWX⟩ : ∃ WX, WX = wl := ⟨_, rfl⟩
                  subst hWX
                  have HT2 := HT
                  clear HT
                  go_wp2_with (first | (go_at_call 22; refine (kind_any _ _).mono ?_; rintro e w' ⟨rfl, rfl⟩; rw [hkd]) | (go_at_call 23; refine (HS.out _).mono ?_; rintro e w' ⟨rfl, rfl⟩) | (at_builtin; refine Stop.of ?_))
                  rename World => WX
                  show wpList _ _ _ _ _ _
                  have hol3 : OL 3 34 (WX.alloc (.cells #[.int .i64 2, .string X, .int .i64 (q : Int)] 34 (0, 0))) (.slice aL ts.length cL) ts.length (tkC ts) := HT2.out.list.stay fun b hb => Below.heap_alloc WX _ b (HT2.out.list.lt hb)
                  refine wpList_push rfl (.tmp 96) (.tmp 104) 23 rfl 3 34 _ 32 uTok iTok (by decide) rfl (by decide) (.slice aL ts.length cL) ts.length (tkC ts) rfl [.int .i64 2, .string X, .int .i64 (q : Int)] 34 hol3 (fun _ _ => rfl) 1 rfl rfl (by intro u hu; simp at hu; rcases hu with rfl | rfl | rfl <;> rfl) (by omega) (tkC (ts ++ [t])) tkC_app.1 (tkC_app.2.trans htv.out) ?_
                  intro v4 w4 hol4 hap4 hne4
                  replace hap4 := hap4.of_alloc (fun b hb => HT2.out.list.lt hb)
                  have HT4 : Hid (TS2 w w4 v4 (ts ++ [t])) := HT2.out.push hap4 (by have := hol4; rw [show ts.length + 1 = (ts ++ [t]).length by simp] at this; exact this)
                  clear hol3 hol4 hap4 hne4 HT2 htv
                  try clear e1
                  try clear hX
                  go_wp2_with (go_at_call 21; refine (HP.out _).mono ?_; rintro e w' ⟨rfl, rfl⟩)
                  go_roundw
                  case rel => exact ⟨q2, ts ++ [t], by go_num, hq2'.1, HT4, HJ2, by rw [List.length_append, List.length_singleton]; omega⟩
                  case measure => simp [intOf]; omega
          · have c2' : isD (s[q]'hlt) = false := by simpa using c2
            have hkd := kd0 c1' c2' hnb
            have hK : tk ((bs s).drop q) = if sgn ((bs s).drop q) = 0 then .bad 100 0 else .ok 3 (sgn ((bs s).drop q)) := by
              rw [hx]; simp [tk, c1', c2']
            have HS := hide <| fun w => span_any s q false w (by omega) hs
            simp only [spB, Bool.false_eq_true, if_false] at HS
            rw [show spN ((bs s).drop q) = 0 by rw [hx]; exact spN_stop c2', Nat.add_zero] at HS
            have HG := hide <| fun w => sign_any s q w hlt (by omega)
            have hGl := sgn_le ((bs s).drop q)
            rw [List.length_drop, bs_length] at hGl
            generalize sgn ((bs s).drop q) = n at hK HG hGl
            clear hx hnb c1 c1' c2 c2' hWl hNl
            by_cases h0 : n = 0
            · subst h0
              have HO : Hid (Out (bs s) [] 100 (q)) := by
                have hr : tk ((bs s).drop q) = .bad 100 0 := by rw [hK, if_pos rfl]
                exact Or.inr ⟨by rw [bs_length]; exact hle, ts, HJ.out.bad hlt hr, rfl⟩
              clear hK HJ HT
              have HBX : Hid (∀ w1, Below wl.heap.size wl w1 → Below w.heap.size w w1) := fun w1 hb => HBW.out.step hb (Nat.le_refl _)
              go_wp2_with (first | (go_at_call 22; refine (kind_any _ _).mono ?_; rintro e w' ⟨rfl, rfl⟩; rw [hkd]) | (go_at_call 23; refine (HS.out _).mono ?_; rintro e w' ⟨rfl, rfl⟩) | (go_at_call 24; refine (HG.out _).mono ?_; rintro e w1 ⟨rfl, hb⟩))
              go_ret3
              refine ⟨.slice none 0 0, [], 100, q, rfl, HO.out, OL.nil _ _ _ _, (fun b h => by cases h), HBX.out _ hb⟩
            · have h0' : ((n : Int) == 0) = false := by rw [beq_eq_false_iff_ne]; omega
              have hr : tk ((bs s).drop q) = .ok 3 n := by rw [hK, if_neg h0]
              clear hK h0
              have hnn := tk_ok hr
              rw [List.length_drop, bs_length] at hnn
              have hqn : q + n ≤ s.size := by omega
              have hn0 : 0 < n := hnn.1
              clear hnn
              have HJ2 := hide (HJ.out.next hlt hr)
              have hq2 := sk_le ((bs s).drop (q + n))
              rw [List.length_drop, bs_length] at hq2
              have HP := hide <| fun w => skip_any s (q + n) w hqn (by omega)
              have hq2' : q + n + sk ((bs s).drop (q + n)) ≤ s.size ∧ q < q + n + sk ((bs s).drop (q + n)) := by omega
              generalize q + n + sk ((bs s).drop (q + n)) = q2 at HJ2 HP hq2'
              clear hq2 HJ hr
              have hx : tx (((bs s).drop q).take n) = s.extract q (q + n) := by
                rw [show n = q + n - q by omega, ← bs_extract s q (q + n) (by omega), tx_bs, show q + (q + n - q) = q + n by omega]
              obtain ⟨t, ht⟩ : ∃ t : T, Hid (t = ⟨3, ((bs s).drop q).take n, q⟩) := ⟨_, rfl⟩
              have htv : Hid (tv t = [.int .i64 3, .string (s.extract q (q + n)), .int .i64 (q : Int)]) := by
                rw [ht.out]; show tv _ = _; simp only [tv, hx]; rfl
              rw [← ht.out] at HJ2
              clear hx ht
              generalize hX : s.extract q (q + n) = X at htv
              go_wp2_with (first | (go_at_call 22; refine (kind_any _ _).mono ?_; rintro e w' ⟨rfl, rfl⟩; rw [hkd]) | (go_at_call 23; refine (HS.out _).mono ?_; rintro e w' ⟨rfl, rfl⟩) | (go_at_call 24; refine (HG.out _).mono ?_; rintro e w1 ⟨rfl, hb⟩) | (at_builtin; refine Stop.of ?_))
              obtain ⟨WX, hWX⟩ : ∃ WX, WX = w1 := ⟨_, rfl⟩
              subst hWX
              have HT2 := hide (HT.out.below hb)
              clear HT hb
              rename World => WX
              show wpList _ _ _ _ _ _
              have hol3 : OL 3 34 (WX.alloc (.cells #[.int .i64 3, .string X, .int .i64 (q : Int)] 34 (0, 0))) (.slice aL ts.length cL) ts.length (tkC ts) := HT2.out.list.stay fun b hb => Below.heap_alloc WX _ b (HT2.out.list.lt hb)
              refine wpList_push rfl (.tmp 96) (.tmp 104) 23 rfl 3 34 _ 32 uTok iTok (by decide) rfl (by decide) (.slice aL ts.length cL) ts.length (tkC ts) rfl [.int .i64 3, .string X, .int .i64 (q : Int)] 34 hol3 (fun _ _ => rfl) 1 rfl rfl (by intro u hu; simp at hu; rcases hu with rfl | rfl | rfl <;> rfl) (by omega) (tkC (ts ++ [t])) tkC_app.1 (tkC_app.2.trans htv.out) ?_
              intro v4 w4 hol4 hap4 hne4
              replace hap4 := hap4.of_alloc (fun b hb => HT2.out.list.lt hb)
              have HT4 : Hid (TS2 w w4 v4 (ts ++ [t])) := HT2.out.push hap4 (by have := hol4; rw [show ts.length + 1 = (ts ++ [t]).length by simp] at this; exact this)
              clear hol3 hol4 hap4 hne4 HT2 htv
              try clear e1
              try clear hX
              go_wp2_with (go_at_call 21; refine (HP.out _).mono ?_; rintro e w' ⟨rfl, rfl⟩)
              go_roundw
              case rel => exact ⟨q2, ts ++ [t], by go_num, hq2'.1, HT4, HJ2, by rw [List.length_append, List.length_singleton]; omega⟩
              case measure => simp [intOf]; omega
      · have hltI : ¬ (q : Int) < (s.size : Int) := by omega
        have HO : Hid (Out (bs s) ts 0 0) := Or.inr ⟨by rw [bs_length]; exact hle, ts, HJ.out.done (by omega), by rw [if_pos rfl]⟩
        clear HJ
        go_wp2
        go_ret3
        have h9 := HT.out
        exact ⟨_, ts, 0, 0, rfl, HO.out, h9.list, h9.own, h9.bel⟩
end Lex
end Go.Proofs.Ytdlkjafdnaadgaa
