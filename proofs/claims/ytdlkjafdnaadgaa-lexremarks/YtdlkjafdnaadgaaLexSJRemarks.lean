/- The walk of LexRemarks. No statement of the seat is proved here. -/
import Derived.Test.YtdlkjafdnaadgaaLexRJRemarks
namespace Go.Proofs.Ytdlkjafdnaadgaa
open Go Go.RowKit
set_option linter.unusedVariables false
set_option linter.unusedSimpArgs false
namespace Lex
open Euf (OL App Stop wpList_push)

/-- What is passed over whatever follows. -/
def AH (x : List UInt8) : Prop := ∀ l, sk (x ++ l) = x.length + sk l
theorem AH.blank {x : List UInt8} (h : AH x) {b : UInt8} (hb : isB b = true) : AH (x ++ [b]) := by
  intro l
  rw [List.append_assoc, h, List.singleton_append, sk_blank hb, List.length_append, List.length_singleton]; omega
theorem ln_app : ∀ (r l : List UInt8), (∀ c ∈ r, ¬ c.toNat = 10) → ln (r ++ 10 :: l) = r.length
  | [], l, _ => by simp [ln]
  | c :: r, l, h => by
    have := ln_app r l (fun d hd => h d (by simp [hd]))
    rw [List.cons_append, ln_cons (h c (by simp)), this, List.length_cons]
theorem AH.remark (r : List UInt8) (h : ∀ c ∈ r, ¬ c.toNat = 10) : AH ([47, 47] ++ r ++ [10]) := by
  intro l
  have e : [47, 47] ++ r ++ [10] ++ l = 47 :: 47 :: (r ++ 10 :: l) := by simp
  have e1 : ln (47 :: 47 :: (r ++ 10 :: l)) = r.length + 2 := by
    rw [ln_cons (by decide), ln_cons (by decide), ln_app r l h]
  rw [e, sk_remark (by decide) (by decide), e1]
  have e2 : (47 :: 47 :: (r ++ 10 :: l)).drop (r.length + 2) = 10 :: l := by simp
  rw [e2, sk_blank (by decide)]
  simp; omega
theorem bs_app (a b : ByteArray) : bs (a ++ b) = bs a ++ bs b := by simp [bs]
def mv (d : Nat) (ts : List T) : List T := ts.map fun t => ⟨t.k, t.x, t.a + d⟩
theorem out_ahead {x s : List UInt8} (hx : AH x) (hl : x.length + s.length ≤ 65536) {ts ts' : List T} {c a c' a' : Nat} (h : Out s ts c a) (h' : Out (x ++ s) ts' c' a') :
    c' = c ∧ ts' = mv x.length ts ∧ (c ≠ 0 → a' = a + x.length) := by
  rcases h with ⟨h1, _⟩ | ⟨h1, ts0, h2, rfl⟩
  · omega
  have h3 := h2.move x.length
  rw [Nat.zero_add] at h3
  have h4 : Lx (x ++ s) 0 (ts0.map fun t => ⟨t.k, t.x, t.a + x.length⟩) c (if c = 0 then 0 else a + x.length) := h3.ahead (by rw [hx s, List.drop_append]; simp) (by rw [hx s]; omega)
  have h5 := h'.det (Or.inr ⟨by rw [List.length_append]; omega, _, h4, rfl⟩)
  refine ⟨h5.2.1, ?_, fun k => ?_⟩
  · rw [h5.1]
    by_cases k : c = 0
    · rw [if_pos k, if_pos k]; rfl
    · rw [if_neg k, if_neg k]; rfl
  · rw [h5.2.2, if_neg k]
theorem out_places {s : List UInt8} {ts : List T} {c a : Nat} (h : Out s ts c a) : ∀ t ∈ ts, t.a ≤ 65536 := by
  rcases h with ⟨_, rfl, _⟩ | ⟨h0, u, h, rfl⟩
  · simp
  · intro t ht
    split at ht
    · have := h.places t ht; omega
    · cases ht
set_option maxHeartbeats 8000000 in
set_option maxRecDepth 100000 in
theorem lexRemarks_any (s r : ByteArray) (n : Int) (w : World) (hs : s.size ≤ 140737488351232) (hr : r.size ≤ 140737488351232) (hn : (Lit.int .i64 n).wf = true) :
    Calls Try.prog 6 #[.string s, .string r, .int .i64 n] w fun e w' => e = .returned (.bool true) ∧ Below w.heap.size w w' := by
  go_enter Try.func6, Try.ntmps6
  go_wp2_with fail
  refine (awake_any w).mono ?_
  rintro e w1 ⟨rfl, hb1⟩
  have HB1 := hide hb1
  clear hb1
  go_wp2
  go_loop [7] (fun i => ∃ k : Nat, k ≤ r.size ∧ i = .int .i64 k ∧ Hid (∀ j, j < k → ∀ hj : j < r.size, ¬ (r[j]'hj).toNat = 10)) (fun i => r.size - (intOf i).toNat)
  case atStart => exact ⟨0, Nat.zero_le _, rfl, fun j hj => absurd hj (Nat.not_lt_zero _)⟩
  case round =>
    obtain ⟨k, hk, rfl, hN⟩ := hrel
    by_cases hlt : k < r.size
    · have hltI : (k : Int) < (r.size : Int) := by omega
      by_cases c3 : (r[k]'hlt).toNat = 10
      · have hb := beq10 _ true (decide_eq_true c3)
        clear c3
        go_wp2
        go_ret
        exact ⟨rfl, HB1.out⟩
      · have hb := beq10 _ false (decide_eq_false c3)
        have hN2 : Hid (∀ j, j < k + 1 → ∀ hj : j < r.size, ¬ (r[j]'hj).toNat = 10) := fun j hj hj2 => by
          by_cases e : j = k
          · subst e; exact c3
          · exact hN.out j (by omega) hj2
        clear c3
        go_wp2
        go_round
        case rel => exact ⟨k + 1, by omega, by go_num, hN2⟩
        case measure => simp [intOf]; omega
    · have hltI : ¬ (k : Int) < (r.size : Int) := by omega
      have HA0 : Hid (AH (bs (⟨#[47, 47]⟩ ++ r ++ ⟨#[10]⟩))) := by
        rw [bs_app, bs_app]
        refine AH.remark (bs r) fun c hc => ?_
        obtain ⟨j, hj, rfl⟩ := List.mem_iff_getElem.1 hc
        rw [bs_length] at hj
        have := bs_get r j hj
        rw [List.getElem?_eq_getElem (by rw [bs_length]; exact hj)] at this
        injection this with this
        rw [this]; exact hN.out j (by omega) hj
      have hz0 : ((⟨#[47, 47]⟩ : ByteArray) ++ r ++ ⟨#[10]⟩).size = r.size + 3 := by rw [← bs_length, bs_app, bs_app]; simp [bs]
      clear hN
      go_wp2
      obtain ⟨A0, hA0⟩ : ∃ A0 : ByteArray, (⟨#[47, 47]⟩ ++ r ++ ⟨#[10]⟩) = A0 := ⟨_, rfl⟩
      rw [hA0] at HA0 hz0 ⊢
      clear hA0
      go_loop [8, 9] (fun v8 v9 => ∃ (x : ByteArray) (k : Nat), v8 = .string x ∧ v9 = .int .i64 (k : Int) ∧ k ≤ 20 ∧ x.size ≤ r.size + 3 + k ∧ Hid (AH (bs x))) (fun _ v => 20 - (intOf v).toNat)
      case atStart => exact ⟨A0, 0, rfl, rfl, by omega, by omega, HA0⟩
      case round =>
        clear HA0 hz0
        obtain ⟨x, k, rfl, rfl, hk20, hxs, HA⟩ := hrel
        by_cases h1 : (k : Int) < n ∧ k < 20
        · obtain ⟨h1, h2⟩ := h1
          have h2I : (k : Int) < 20 := by omega
          have hmod : k % 4 = 0 ∨ k % 4 = 1 ∨ k % 4 = 2 ∨ k % 4 = 3 := by omega
          have hm1 : (k : Int).tmod 4 = ((k % 4 : Nat) : Int) := rfl
          have HS2 : Hid (∀ i, i < 4 → (x ++ (⟨#[32, 9, 13, 10]⟩ : ByteArray).extract i (i + 1)).size ≤ r.size + 3 + (k + 1) ∧ AH (bs (x ++ (⟨#[32, 9, 13, 10]⟩ : ByteArray).extract i (i + 1)))) := by
            intro i hi
            have hb : ∃ b : UInt8, isB b = true ∧ bs ((⟨#[32, 9, 13, 10]⟩ : ByteArray).extract i (i + 1)) = [b] := by
              rcases (by omega : i = 0 ∨ i = 1 ∨ i = 2 ∨ i = 3) with rfl | rfl | rfl | rfl
              · exact ⟨32, by decide, rfl⟩
              · exact ⟨9, by decide, rfl⟩
              · exact ⟨13, by decide, rfl⟩
              · exact ⟨10, by decide, rfl⟩
            obtain ⟨b, hb, he⟩ := hb
            refine ⟨?_, ?_⟩
            · rw [← bs_length, bs_app, he, List.length_append, bs_length, List.length_singleton]; omega
            · rw [bs_app, he]; exact HA.out.blank hb
          rcases hmod with hm | hm | hm | hm
          all_goals
            rw [hm] at hm1
            go_wp2
            go_round
            case rel => exact ⟨_, k + 1, rfl, by go_num, by omega, (HS2.out _ (by decide)).1, (HS2.out _ (by decide)).2⟩
            case measure => simp [intOf]; omega
        · by_cases hbig : 65536 < s.size + x.size
          · have hbI : (65536 : Int) < (s.size : Int) + (x.size : Int) := by omega
            by_cases h2 : (k : Int) < n
            · have h3 : ¬ (k : Int) < 20 := by omega
              clear h1
              go_wp2
              go_ret
              exact ⟨rfl, HB1.out⟩
            · clear h1
              go_wp2
              go_ret
              exact ⟨rfl, HB1.out⟩
          · have hbI : ¬ (65536 : Int) < (s.size : Int) + (x.size : Int) := by omega
            have h4 : ((k : Int) < n ∧ ¬ (k : Int) < 20) ∨ ¬ (k : Int) < n := by omega
            have hss : s.size ≤ 9223372036854775807 := by omega
            have hxss : (x ++ s).size ≤ 9223372036854775807 := by rw [← bs_length, bs_app, List.length_append, bs_length, bs_length]; omega
            have HOA : Hid (∀ ts c a ts' c' a', Out (bs s) ts c a → Out (bs (x ++ s)) ts' c' a' → c' = c ∧ ts' = mv x.size ts ∧ (c ≠ 0 → a' = a + x.size)) := by
              intro ts c a ts' c' a' h h'
              rw [bs_app] at h'
              have := out_ahead HA.out (by rw [bs_length, bs_length]; omega) h h'
              rwa [bs_length] at this
            clear HA h1
            rcases h4 with ⟨h4, h5⟩ | h4
            all_goals
              go_wp2_with fail
              refine (tokens_any s w1 hss).mono ?_
              rintro e w2 ⟨v, ts, c, a, rfl, hO, hL, -, hb2⟩
              obtain ⟨a1, c1, hv, -, -, -, -⟩ := hL.shape
              subst hv
              simp only [FV]
              have R2 := Blk.new w2 26 #[.int .i64 (c : Int), .int .i64 (a : Int)]
              have G2 : Below w2.heap.size w2 (w2.alloc (.cells #[.int .i64 (c : Int), .int .i64 (a : Int)] 26 (0, 0))) := by go_grown
              have HL2 := hide (hL.stay G2)
              have HB2 := hide ((HB1.out.step hb2 (Nat.le_refl _)).step G2 (Nat.le_refl _))
              have HO2 := hide hO
              have hsm := hO.small
              have hcnt := hO.count
              have HPL : Hid (∀ t ∈ ts, t.a ≤ 65536) := out_places hO
              clear hL hO hb2 G2 HB1
              go_wp2_with fail
              refine (tokens_any (x ++ s) _ hxss).mono ?_
              rintro e w3 ⟨v', ts', c', a', rfl, hO', hL', -, hb3⟩
              obtain ⟨rfl, rfl, hpl⟩ := HOA.out _ _ _ _ _ _ HO2.out hO'
              obtain ⟨a2, c2, hv, -, -, -, -⟩ := hL'.shape
              have hml : (mv x.size ts).length = ts.length := by simp [mv]
              rw [hml] at hv
              subst hv
              simp only [FV]
              have R3 := R2.stay hb3
              obtain ⟨r0, r1, -, -⟩ := R3.two
              have hlt3 := R3.lt
              have G3 : Below w3.heap.size w3 (w3.alloc (.cells #[.int .i64 (c' : Int), .int .i64 (a' : Int)] 26 (0, 0))) := by go_grown
              have H4 : Hid (TL (w3.alloc (.cells #[.int .i64 (c' : Int), .int .i64 (a' : Int)] 26 (0, 0))) (.slice a1 ts.length c1) ts ∧ TL (w3.alloc (.cells #[.int .i64 (c' : Int), .int .i64 (a' : Int)] 26 (0, 0))) (.slice a2 ts.length c2) (mv x.size ts) ∧ Below w.heap.size w (w3.alloc (.cells #[.int .i64 (c' : Int), .int .i64 (a' : Int)] 26 (0, 0)))) :=
                ⟨(HL2.out.stay hb3).stay G3, hL'.stay G3, (HB2.out.step hb3 (Nat.le_refl _)).step G3 (Nat.le_refl _)⟩
              clear R2 R3 hL' hO' hb3 HL2 HB2 HO2 HOA G3 hml
              by_cases hc0 : c' = 0
              · subst hc0
                clear hpl
                simp only [show ((0 : Nat) : Int) = 0 from rfl] at *
                go_wp2
                go_loopw [14] (fun i wr => ∃ k : Nat, k ≤ ts.length ∧ i = .int .i64 k ∧ Hid (TL wr (.slice a1 ts.length c1) ts ∧ TL wr (.slice a2 ts.length c2) (mv x.size ts) ∧ Below w.heap.size w wr)) (fun i _ => ts.length - (intOf i).toNat)
                case atStart => exact ⟨0, Nat.zero_le _, rfl, H4⟩
                case round =>
                  rename World => wl
                  clear H4 r0 r1
                  obtain ⟨q, hq, rfl, H5⟩ := hrel
                  by_cases hlt : q < ts.length
                  · have hltI : (q : Int) < (ts.length : Int) := by omega
                    have hml : (mv x.size ts).length = ts.length := by simp [mv]
                    have K1 := H5.out.1
                    have K2 : TL wl (.slice a2 (mv x.size ts).length c2) (mv x.size ts) := by rw [hml]; exact H5.out.2.1
                    obtain ⟨g1, cap1, hv, hd1, hd2⟩ := OL.open K1 q hlt
                    simp only [Value.slice.injEq] at hv
                    obtain ⟨rfl, -, rfl⟩ := hv
                    obtain ⟨g2, cap2, hv, hd1, hd2⟩ := OL.open K2 q (by omega)
                    simp only [Value.slice.injEq] at hv
                    obtain ⟨rfl, -, rfl⟩ := hv
                    obtain ⟨t, ht⟩ : ∃ t, ts[q]? = some t := ⟨ts[q], List.getElem?_eq_getElem hlt⟩
                    obtain ⟨x0, x1, x2⟩ := K1.at q t ht
                    obtain ⟨y0, y1, y2⟩ := K2.at q ⟨t.k, t.x, t.a + x.size⟩ (by simp [mv, ht])
                    have hta : t.a ≤ 65536 := HPL.out t (List.mem_of_getElem? ht)
                    have hw0 : IntKind.i64.wrap ((t.a : Int) + (x.size : Int)) = (t.a : Int) + (x.size : Int) := IntWalk.i64_in _ (by omega)
                    clear K1 K2 ht hd1 hd2 hml
                    simp only [Int.natCast_add] at y2
                    go_wp2
                    go_region
                    all_goals
                      go_wp2
                      go_roundw
                      case rel => exact ⟨q + 1, by omega, by go_num, H5.out.1, H5.out.2.1, H5.out.2.2.drew⟩
                      case measure => simp [intOf]; omega
                  · have hltI : ¬ (q : Int) < (ts.length : Int) := by omega
                    go_wp2
                    go_ret
                    exact ⟨rfl, H5.out.2.2⟩
              · have hcI : ((c' : Int) == 0) = false := by rw [beq_eq_false_iff_ne]; omega
                obtain rfl := hpl hc0
                clear hpl
                simp only [Int.natCast_add] at *
                go_wp2
                go_loopw [14] (fun i wr => ∃ k : Nat, k ≤ ts.length ∧ i = .int .i64 k ∧ Hid (TL wr (.slice a1 ts.length c1) ts ∧ TL wr (.slice a2 ts.length c2) (mv x.size ts) ∧ Below w.heap.size w wr)) (fun i _ => ts.length - (intOf i).toNat)
                case atStart => exact ⟨0, Nat.zero_le _, rfl, H4⟩
                case round =>
                  rename World => wl
                  clear H4 r0 r1
                  obtain ⟨q, hq, rfl, H5⟩ := hrel
                  by_cases hlt : q < ts.length
                  · have hltI : (q : Int) < (ts.length : Int) := by omega
                    have hml : (mv x.size ts).length = ts.length := by simp [mv]
                    have K1 := H5.out.1
                    have K2 : TL wl (.slice a2 (mv x.size ts).length c2) (mv x.size ts) := by rw [hml]; exact H5.out.2.1
                    obtain ⟨g1, cap1, hv, hd1, hd2⟩ := OL.open K1 q hlt
                    simp only [Value.slice.injEq] at hv
                    obtain ⟨rfl, -, rfl⟩ := hv
                    obtain ⟨g2, cap2, hv, hd1, hd2⟩ := OL.open K2 q (by omega)
                    simp only [Value.slice.injEq] at hv
                    obtain ⟨rfl, -, rfl⟩ := hv
                    obtain ⟨t, ht⟩ : ∃ t, ts[q]? = some t := ⟨ts[q], List.getElem?_eq_getElem hlt⟩
                    obtain ⟨x0, x1, x2⟩ := K1.at q t ht
                    obtain ⟨y0, y1, y2⟩ := K2.at q ⟨t.k, t.x, t.a + x.size⟩ (by simp [mv, ht])
                    have hta : t.a ≤ 65536 := HPL.out t (List.mem_of_getElem? ht)
                    have hw0 : IntKind.i64.wrap ((t.a : Int) + (x.size : Int)) = (t.a : Int) + (x.size : Int) := IntWalk.i64_in _ (by omega)
                    clear K1 K2 ht hd1 hd2 hml
                    simp only [Int.natCast_add] at y2
                    go_wp2
                    go_region
                    all_goals
                      go_wp2
                      go_roundw
                      case rel => exact ⟨q + 1, by omega, by go_num, H5.out.1, H5.out.2.1, H5.out.2.2.drew⟩
                      case measure => simp [intOf]; omega
                  · have hltI : ¬ (q : Int) < (ts.length : Int) := by omega
                    go_wp2
                    go_ret
                    exact ⟨rfl, H5.out.2.2⟩
end Lex
end Go.Proofs.Ytdlkjafdnaadgaa
