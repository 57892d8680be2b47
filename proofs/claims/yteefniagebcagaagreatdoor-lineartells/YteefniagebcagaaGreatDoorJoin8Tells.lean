/- Joined: RForm, RForm2, RExact, RParse: words and contracts; no statement of the seat is proved here. -/
import Derived.Test.YteefniagebcagaaGreatDoorJoin7Tells
/- Contract of suretyref01's form; it proves no statement of the seat. -/
namespace Go.Proofs.YteefniagebcagaaGreatDoor
open Go.RowKit

theorem good_iff (l : List Nat) (i0 : Nat) (hi : i0 = if pneg l = true then 1 else 0) :
    Good l ↔ i0 < l.length ∧ ¬ (l.getD i0 0 = 48 ∧ 1 < l.length) ∧ ∀ i, i0 ≤ i → i < l.length → 48 ≤ l.getD i 0 ∧ l.getD i 0 ≤ 57 := by
  unfold Good GoodB Plain pbody
  by_cases h : pneg l = true
  · rw [if_pos h] at hi ⊢
    subst hi
    cases l with
    | nil => simp
    | cons x r =>
      simp only [List.drop_succ_cons, List.drop_zero, List.length_cons]
      constructor
      · rintro ⟨⟨h1, h2, h3⟩, h4⟩
        refine ⟨by omega, ?_, ?_⟩
        · rintro ⟨h5, h6⟩
          have h7 : r.getD 0 0 = 48 := by simpa using h5
          apply h4
          refine ⟨h, ?_⟩
          match r, h1, h2, h7 with
          | [y], _, _, h7 => simp at h7; rw [h7]
          | y :: z :: q, _, h2, h7 => exact absurd ⟨h7, by simp⟩ h2
        · intro i h5 h6
          obtain ⟨j, rfl⟩ : ∃ j, i = j + 1 := ⟨i - 1, by omega⟩
          simpa using h3 j (by omega)
      · rintro ⟨h1, h2, h3⟩
        refine ⟨⟨by omega, ?_, ?_⟩, ?_⟩
        · rintro ⟨h5, h6⟩
          exact h2 ⟨by simpa using h5, by omega⟩
        · intro i h5
          simpa using h3 (i + 1) (by omega) (by omega)
        · rintro ⟨_, h5⟩
          subst h5
          exact h2 ⟨by simp, by simp⟩
  · rw [if_neg h] at hi ⊢
    subst hi
    constructor
    · rintro ⟨⟨h1, h2, h3⟩, _⟩
      exact ⟨h1, h2, fun i _ h5 => h3 i h5⟩
    · rintro ⟨h1, h2, h3⟩
      exact ⟨⟨h1, h2, fun i h5 => h3 i (Nat.zero_le _) h5⟩, fun h5 => h h5.1⟩

set_option maxHeartbeats 1000000 in
theorem form_yes (s : ByteArray) (w : World) (hl : s.size ≤ 10000) (hg : Good (bs s)) :
    Calls Tryz.prog 93 #[.string s] w fun e w' => e = .returned (.bool true) ∧ w' = w := by
  by_cases hp : pneg (bs s) = true
  · obtain ⟨g1, g2, g3⟩ := (good_iff (bs s) 1 (by rw [if_pos hp])).1 hg
    rw [bs_length] at g1 g2 g3
    have hp' := ((pneg_iff s).1 hp).2
    have x0 := bs_get s 0 (by omega)
    have x1 := bs_get s 1 g1
    have t0 : (((s[0]'(by omega)).toNat : Int) == 45) = true := by rw [beq_iff_eq]; omega
    have t1 : (((s[1]'g1).toNat : Int) == 48) = false := by
      rw [beq_eq_false_iff_ne]
      intro h
      exact g2 ⟨by omega, g1⟩
    have t2 : ((1 : Int) == (s.size : Int)) = false := by rw [beq_eq_false_iff_ne]; omega
    have hsz : 0 < s.size := by omega
    have HA : Hid (∀ i, 1 ≤ i → i < s.size → 48 ≤ (bs s).getD i 0 ∧ (bs s).getD i 0 ≤ 57) := g3
    clear g2 g3 x0 x1 hp' hp hg
    go_enter Tryz.func93, Tryz.ntmps93
    go_wp2
    go_loop [3] (fun i => ∃ k : Nat, 1 ≤ k ∧ k ≤ s.size ∧ i = .int .i64 k) (fun i => s.size - (intOf i).toNat)
    case atStart => exact ⟨1, Nat.le_refl _, by omega, rfl⟩
    case round =>
      obtain ⟨k, hk1, hk, rfl⟩ := hrel
      by_cases hlt : k < s.size
      · have hx := bs_get s k hlt
        have ha := HA.out k hk1 hlt
        rw [← hx] at ha
        obtain ⟨ha1, ha2⟩ := ha
        clear hx
        go_wp2
        go_round
        case rel => exact ⟨k + 1, by omega, by omega, by go_num⟩
        case measure => simp [intOf]; omega
      · go_wp2
        go_ret
        exact ⟨rfl, rfl⟩
  · obtain ⟨g1, g2, g3⟩ := (good_iff (bs s) 0 (by rw [if_neg hp])).1 hg
    rw [bs_length] at g1 g2 g3
    have x0 := bs_get s 0 g1
    have t0 : (((s[0]'g1).toNat : Int) == 45) = false := by
      rw [beq_eq_false_iff_ne]
      intro h
      exact hp ((pneg_iff s).2 ⟨g1, by omega⟩)
    have t2 : ((0 : Int) == (s.size : Int)) = false := by rw [beq_eq_false_iff_ne]; omega
    have hcase : ((((s[0]'g1).toNat : Int) == 48) = true ∧ ¬ 1 < s.size) ∨ (((s[0]'g1).toNat : Int) == 48) = false := by
      by_cases e : (s[0]'g1).toNat = 48
      · left; exact ⟨by simp [e], fun h => g2 ⟨by omega, h⟩⟩
      · right; rw [beq_eq_false_iff_ne]; omega
    have HA : Hid (∀ i, 0 ≤ i → i < s.size → 48 ≤ (bs s).getD i 0 ∧ (bs s).getD i 0 ≤ 57) := g3
    clear g2 g3 x0 hp hg
    rcases hcase with ⟨hf, hs⟩ | hf
    all_goals
      go_enter Tryz.func93, Tryz.ntmps93
      go_wp2
      go_loop [3] (fun i => ∃ k : Nat, k ≤ s.size ∧ i = .int .i64 k) (fun i => s.size - (intOf i).toNat)
      case atStart => exact ⟨0, by omega, rfl⟩
      case round =>
        obtain ⟨k, hk, rfl⟩ := hrel
        by_cases hlt : k < s.size
        · have hx := bs_get s k hlt
          have ha := HA.out k (Nat.zero_le _) hlt
          rw [← hx] at ha
          obtain ⟨ha1, ha2⟩ := ha
          clear hx
          go_wp2
          go_round
          case rel => exact ⟨k + 1, by omega, by go_num⟩
          case measure => simp [intOf]; omega
        · go_wp2
          go_ret
          exact ⟨rfl, rfl⟩
end Go.Proofs.YteefniagebcagaaGreatDoor
/- Contract of suretyref01's form where a text is no number's; it proves no statement of the seat. -/
namespace Go.Proofs.YteefniagebcagaaGreatDoor
open Go.RowKit

set_option maxHeartbeats 1000000 in
theorem form_no (s : ByteArray) (w : World) (hl : s.size ≤ 10000) (hg : ¬ Good (bs s)) :
    Calls Tryz.prog 93 #[.string s] w fun e w' => e = .returned (.bool false) ∧ w' = w := by
  by_cases hp : pneg (bs s) = true
  · have hgi := fun h => hg ((good_iff (bs s) 1 (by rw [if_pos hp])).2 h)
    rw [bs_length] at hgi
    obtain ⟨hsz, hp'⟩ := (pneg_iff s).1 hp
    have x0 := bs_get s 0 (by omega)
    have t0 : (((s[0]'(by omega)).toNat : Int) == 45) = true := by rw [beq_iff_eq]; omega
    clear x0 hp' hp hg
    by_cases g1 : 1 < s.size
    · have t2 : ((1 : Int) == (s.size : Int)) = false := by rw [beq_eq_false_iff_ne]; omega
      have x1 := bs_get s 1 g1
      by_cases e1 : (s[1]'g1).toNat = 48
      · have t1 : (((s[1]'g1).toNat : Int) == 48) = true := by rw [beq_iff_eq]; omega
        clear x1 e1 hgi
        go_enter Tryz.func93, Tryz.ntmps93
        go_wp2
        go_ret
        exact ⟨rfl, rfl⟩
      · have t1 : (((s[1]'g1).toNat : Int) == 48) = false := by rw [beq_eq_false_iff_ne]; omega
        have HA : Hid (¬ ∀ i, 1 ≤ i → i < s.size → 48 ≤ (bs s).getD i 0 ∧ (bs s).getD i 0 ≤ 57) := fun h => hgi ⟨g1, fun h' => e1 (by omega), h⟩
        clear x1 e1 hgi
        go_enter Tryz.func93, Tryz.ntmps93
        go_wp2
        go_loop [3] (fun i => ∃ k : Nat, 1 ≤ k ∧ k ≤ s.size ∧ i = .int .i64 k ∧ Hid (∀ i, 1 ≤ i → i < k → 48 ≤ (bs s).getD i 0 ∧ (bs s).getD i 0 ≤ 57)) (fun i => s.size - (intOf i).toNat)
        case atStart => exact ⟨1, Nat.le_refl _, by omega, rfl, fun i h1 h2 => by omega⟩
        case round =>
          obtain ⟨k, hk1, hk, rfl, hAD⟩ := hrel
          by_cases hlt : k < s.size
          · have HX : Hid ((s[k]'hlt).toNat = (bs s).getD k 0) := bs_get s k hlt
            by_cases hd1 : 48 ≤ (s[k]'hlt).toNat
            · by_cases hd2 : (s[k]'hlt).toNat ≤ 57
              · go_wp2
                go_round
                case rel =>
                  refine ⟨k + 1, by omega, by omega, by go_num, fun i h1 h2 => ?_⟩
                  by_cases e : i = k
                  · subst e; rw [← HX.out]; exact ⟨hd1, hd2⟩
                  · exact hAD.out i h1 (by omega)
                case measure => simp [intOf]; omega
              · go_wp2
                go_ret
                exact ⟨rfl, rfl⟩
            · go_wp2
              go_ret
              exact ⟨rfl, rfl⟩
          · have hk' : k = s.size := by omega
            exact absurd (hk' ▸ hAD.out) HA.out
    · have t2 : ((1 : Int) == (s.size : Int)) = true := by rw [beq_iff_eq]; omega
      clear hgi
      go_enter Tryz.func93, Tryz.ntmps93
      go_wp2
      go_ret
      exact ⟨rfl, rfl⟩
  · have hgi := fun h => hg ((good_iff (bs s) 0 (by rw [if_neg hp])).2 h)
    rw [bs_length] at hgi
    by_cases g1 : 0 < s.size
    · have x0 := bs_get s 0 g1
      have t0 : (((s[0]'g1).toNat : Int) == 45) = false := by
        rw [beq_eq_false_iff_ne]
        intro h
        exact hp ((pneg_iff s).2 ⟨g1, by omega⟩)
      have t2 : ((0 : Int) == (s.size : Int)) = false := by rw [beq_eq_false_iff_ne]; omega
      clear hp hg
      by_cases h2 : (s[0]'g1).toNat = 48 ∧ 1 < s.size
      · obtain ⟨e1, e2⟩ := h2
        have hf : (((s[0]'g1).toNat : Int) == 48) = true := by rw [beq_iff_eq]; omega
        clear e1 x0 hgi
        go_enter Tryz.func93, Tryz.ntmps93
        go_wp2
        go_ret
        exact ⟨rfl, rfl⟩
      · have hcase : ((((s[0]'g1).toNat : Int) == 48) = true ∧ ¬ 1 < s.size) ∨ (((s[0]'g1).toNat : Int) == 48) = false := by
          by_cases e : (s[0]'g1).toNat = 48
          · left; exact ⟨by simp [e], fun h => h2 ⟨e, h⟩⟩
          · right; rw [beq_eq_false_iff_ne]; omega
        have HA : Hid (¬ ∀ i, 0 ≤ i → i < s.size → 48 ≤ (bs s).getD i 0 ∧ (bs s).getD i 0 ≤ 57) := fun h => hgi ⟨g1, fun h' => h2 ⟨by omega, h'.2⟩, h⟩
        clear x0 h2 hgi
        rcases hcase with ⟨hf, hs⟩ | hf
        all_goals
          go_enter Tryz.func93, Tryz.ntmps93
          go_wp2
          go_loop [3] (fun i => ∃ k : Nat, k ≤ s.size ∧ i = .int .i64 k ∧ Hid (∀ i, 0 ≤ i → i < k → 48 ≤ (bs s).getD i 0 ∧ (bs s).getD i 0 ≤ 57)) (fun i => s.size - (intOf i).toNat)
          case atStart => exact ⟨0, by omega, rfl, fun i h1 h2 => by omega⟩
          case round =>
            obtain ⟨k, hk, rfl, hAD⟩ := hrel
            by_cases hlt : k < s.size
            · have HX : Hid ((s[k]'hlt).toNat = (bs s).getD k 0) := bs_get s k hlt
              by_cases hd1 : 48 ≤ (s[k]'hlt).toNat
              · by_cases hd2 : (s[k]'hlt).toNat ≤ 57
                · go_wp2
                  go_round
                  case rel =>
                    refine ⟨k + 1, by omega, by go_num, fun i h1 h2 => ?_⟩
                    by_cases e : i = k
                    · subst e; rw [← HX.out]; exact ⟨hd1, hd2⟩
                    · exact hAD.out i h1 (by omega)
                  case measure => simp [intOf]; omega
                · go_wp2
                  go_ret
                  exact ⟨rfl, rfl⟩
              · go_wp2
                go_ret
                exact ⟨rfl, rfl⟩
            · have hk' : k = s.size := by omega
              exact absurd (hk' ▸ hAD.out) HA.out
    · have hs : s = ByteArray.empty := by
        apply bs_inj
        apply List.eq_nil_of_length_eq_zero
        rw [bs_length]; omega
      subst hs
      go_enter Tryz.func93, Tryz.ntmps93
      go_wp2
      go_ret
      exact ⟨rfl, rfl⟩
end Go.Proofs.YteefniagebcagaaGreatDoor
/- Contract of suretyref01's Exact; it proves no statement of the seat. -/
namespace Go.Proofs.YteefniagebcagaaGreatDoor
open Go.RowKit

/-- The digits of a text's end, the lowest first. -/
def digs (l : List Nat) : List Nat := l.reverse.map fun c => c - 48
theorem digs_length (l : List Nat) : (digs l).length = l.length := by simp [digs]
theorem digs_cons (x : Nat) (l : List Nat) : digs (x :: l) = digs l ++ [x - 48] := by simp [digs]
theorem digs_snoc (x : Nat) (l : List Nat) : digs (l ++ [x]) = (x - 48) :: digs l := by simp [digs]
theorem dec_val_aux (n : Nat) : ∀ l : List Nat, l.length = n → dec l = val 10 (digs l) := by
  induction n with
  | zero => intro l h; rw [List.eq_nil_of_length_eq_zero h]; rfl
  | succ n ih =>
    intro l h
    have e := take_snoc l n (by omega)
    rw [show n + 1 = l.length by omega, List.take_length] at e
    have h1 := ih (l.take n) (by rw [List.length_take]; omega)
    rw [e, dec_snoc, digs_snoc, val_cons, h1]
    omega
theorem dec_val (l : List Nat) : dec l = val 10 (digs l) := dec_val_aux l.length l rfl
theorem digs_digs (l : List Nat) (h : ∀ x, x ∈ l → x ≤ 57) : Digs 10 (digs l) := by
  intro y hy
  obtain ⟨x, hx, rfl⟩ := List.mem_map.1 hy
  have := h x (List.mem_reverse.1 hx)
  omega

set_option maxHeartbeats 2000000 in
theorem exact_aux (s : ByteArray) (neg : Bool) (i0 : Nat) (w : World) (hl : s.size ≤ 9000) (hsz : i0 < s.size) (hi0 : i0 ≤ 1) (hneg : neg = true → i0 = 1 ∧ (bs s).getD 0 0 = 45) (hpos : neg = false → i0 = 0)
    (hdg : ∀ i, i0 ≤ i → i < s.size → 48 ≤ (bs s).getD i 0 ∧ (bs s).getD i 0 ≤ 57) :
    Calls Tryz.prog 94 #[.string s] w fun e w' => ∃ v, e = .returned v ∧ RNum w' v (sv neg (dec ((bs s).drop i0))) s.size ∧ Below w.heap.size w w' := by
  have HDG : Hid (∀ i, i0 ≤ i → i < s.size → 48 ≤ (bs s).getD i 0 ∧ (bs s).getD i 0 ≤ 57) := hdg
  have HNG : Hid ((neg = true → i0 = 1 ∧ (bs s).getD 0 0 = 45) ∧ (neg = false → i0 = 0)) := ⟨hneg, hpos⟩
  have B0 := Blk.new w 39 #[.bool false, .slice none 0 0]
  have hs0 : 0 < s.size := by omega
  have HT : Hid ((((s[0]'hs0).toNat : Int) == 45) = neg) := by
    show _ = _
    have hx := bs_get s 0 hs0
    cases neg with
    | true => rw [beq_iff_eq]; have := (hneg rfl).2; omega
    | false =>
      rw [beq_eq_false_iff_ne]
      have := hdg 0 (by rw [hpos rfl]; exact Nat.le_refl _) hs0
      omega
  clear hdg hneg hpos
  go_enter Tryz.func94, Tryz.ntmps94
  go_wp2
  go_loopw [3, 4] (fun v i wr => ∃ k : Nat, i0 ≤ k ∧ k ≤ s.size ∧ i = .int .i64 ((k : Int) - 1) ∧ Own .i64 3 (w.heap.size + 1) wr v (digs ((bs s).drop k)) ∧ Below (w.heap.size + 1) (w.alloc (.cells #[.bool false, .slice none 0 0] 39)) wr) (fun _ i _ => (intOf i + 1).toNat)
  case atStart =>
    refine ⟨s.size, by omega, Nat.le_refl _, rfl, ?_, Below.refl _ _⟩
    rw [List.drop_of_length_le (by rw [bs_length]; exact Nat.le_refl _)]
    exact Own.nil _ _ _ _
  case round =>
    obtain ⟨k, hk0, hk, rfl, hown, hbel⟩ := hrel
    by_cases hgo : i0 < k
    · obtain ⟨j, rfl⟩ : ∃ j, k = j + 1 := ⟨k - 1, by omega⟩
      have hlt : j < s.size := by omega
      have HX : Hid ((s[j]'hlt).toNat = (bs s).getD j 0) := bs_get s j hlt
      have hd := HDG.out j (by omega) hlt
      rw [← HX.out] at hd
      obtain ⟨hd1, hd2⟩ := hd
      have t1 : (((s[j]'hlt).toNat : Int) != 45) = true := by rw [bne_iff_ne]; omega
      have HZL : Hid ((digs ((bs s).drop (j + 1))).length ≤ 100000) := by show _ ≤ _; rw [digs_length, List.length_drop, bs_length]; omega
      have HSZ : Hid (w.heap.size + 1 ≤ wr.heap.size) := by have := hbel.size; simp at this; exact this
      go_wp2_with (at_builtin; refine wpList_append_num rfl (.tmp 18) (.tmp 24) 37 rfl (w.heap.size + 1) 3 .i64 8 Tryz.underlying37 Tryz.info3 (by decide) _ _ rfl hown _ ((s[j]'hlt).toNat - 48) (by omega) rfl HZL.out HSZ.out ?_; intro v' w3 hown3 hblk3 hbel3)
      go_roundw
      case rel =>
        refine ⟨j, by omega, by omega, rfl, ?_, hbel.trans hbel3⟩
        rw [drop_cons_getD _ j (by rw [bs_length]; exact hlt), digs_cons, ← HX.out]
        exact hown3
      case measure => simp [intOf]
    · have hki : k = i0 := by omega
      subst hki
      obtain ⟨ao, cap, rfl, q1, q2, hsg, q3⟩ := hown.open
      have HLL : Hid ((digs ((bs s).drop k)).length = s.size - k) := by show _ = _; rw [digs_length, List.length_drop, bs_length]
      rw [HLL.out] at q1
      rw [HLL.out]
      have hdd : Digs 10 (digs ((bs s).drop k)) := by
        refine digs_digs _ (fun x hx => ?_)
        obtain ⟨i, hi, rfl⟩ := List.mem_iff_getElem.1 hx
        rw [List.length_drop, bs_length] at hi
        have := HDG.out (k + i) (by omega) (by omega)
        rw [List.getD_eq_getElem?_getD, List.getElem?_eq_getElem (by rw [bs_length]; omega)] at this
        simp only [List.getElem_drop]
        simpa using this.2
      have B1 := B0.keep hbel (by omega)
      obtain ⟨c0, c1, f0, f1⟩ := B1.two
      have hbw : Below w.heap.size w wr := ((Below.refl _ _).alloc (Nat.le_refl _) _).trans (hbel.mono (by omega))
      cases neg with
      | true =>
        have hk1 := (HNG.out.1 rfl).1
        subst hk1
        have t0 : (((s[0]'hs0).toNat : Int) == 45) = true := HT.out
        have t1 : (((s[0]'hs0).toNat : Int) != 45) = false := by rw [bne_eq_false_iff_eq]; rw [beq_iff_eq] at t0; exact t0
        go_wp2_with fail
        refine (rtrim_any true ao (s.size - 1) cap (digs ((bs s).drop 1)) _ HLL.out q1 q2 (by omega) hsg hdd).mono ?_
        rintro e w4 ⟨v4, rfl, hn4, hb4⟩
        obtain ⟨x, a, n, c', rfl⟩ := hn4.shape
        have B2 := B1.stay hb4
        clear c0 c1 f0 f1
        obtain ⟨c0, c1, f0, f1⟩ := B2.two
        go_wp2
        refine bodyPost_ret (v := .agg #[.bool x, .slice a n c']) (by simp [results, Tryz.results94, go_sem, c0, c1]) rfl ?_
        refine ⟨_, rfl, ?_, below_store2 (hbw.step hb4 (Nat.le_refl _)) (Nat.le_refl _) _ _⟩
        rw [dec_val]
        exact (hn4.mono (Nat.sub_le _ _)).store2 B2 _ _ _ _
      | false =>
        have hk1 := HNG.out.2 rfl
        subst hk1
        have t0 : (((s[0]'hs0).toNat : Int) == 45) = false := HT.out
        go_wp2_with fail
        refine (rtrim_any false ao (s.size - 0) cap (digs ((bs s).drop 0)) _ HLL.out q1 q2 (by omega) hsg hdd).mono ?_
        rintro e w4 ⟨v4, rfl, hn4, hb4⟩
        obtain ⟨x, a, n, c', rfl⟩ := hn4.shape
        have B2 := B1.stay hb4
        clear c0 c1 f0 f1
        obtain ⟨c0, c1, f0, f1⟩ := B2.two
        go_wp2
        refine bodyPost_ret (v := .agg #[.bool x, .slice a n c']) (by simp [results, Tryz.results94, go_sem, c0, c1]) rfl ?_
        refine ⟨_, rfl, ?_, below_store2 (hbw.step hb4 (Nat.le_refl _)) (Nat.le_refl _) _ _⟩
        rw [dec_val]
        exact (hn4.mono (Nat.sub_le _ _)).store2 B2 _ _ _ _
end Go.Proofs.YteefniagebcagaaGreatDoor
/- Contract of suretyref01's Parse; it proves no statement of the seat. -/
namespace Go.Proofs.YteefniagebcagaaGreatDoor
open Go.RowKit

/-- What a reckoning of the document's answers: the number, or 11 and 0 where it is too large. -/
def RHeld (w : World) (v : Value) (c z : Int) (L : Nat) : Prop := (c = 0 ∧ z.natAbs < lim ∧ RNum w v z L) ∨ (c = 11 ∧ lim ≤ z.natAbs ∧ RNum w v 0 L)
/-- What its Parse answers. -/
def RParseR (w : World) (v : Value) (c : Int) (l : List Nat) : Prop := (¬ Good l ∧ c = 10 ∧ RNum w v 0 400) ∨ (Good l ∧ RHeld w v c (pval l) 400)

theorem pval_natAbs (l : List Nat) : (pval l).natAbs = dec (pbody l) := sv_natAbs _ _

theorem Good.big {l : List Nat} (h : Good l) (hl : 400 < l.length) : lim ≤ (pval l).natAbs := by
  rw [pval_natAbs]
  refine h.1.big ?_
  unfold pbody
  split
  · rw [List.length_drop]; omega
  · omega

theorem exact_any (s : ByteArray) (w : World) (hl : s.size ≤ 9000) (hg : Good (bs s)) :
    Calls Tryz.prog 94 #[.string s] w fun e w' => ∃ v, e = .returned v ∧ RNum w' v (pval (bs s)) s.size ∧ Below w.heap.size w w' := by
  by_cases hp : pneg (bs s) = true
  · obtain ⟨g1, g2, g3⟩ := (good_iff (bs s) 1 (by rw [if_pos hp])).1 hg
    rw [bs_length] at g1 g3
    have e : pval (bs s) = sv true (dec ((bs s).drop 1)) := by rw [pval, pbody, if_pos hp, hp]
    rw [e]
    exact exact_aux s true 1 w hl g1 (Nat.le_refl _) (fun _ => ⟨rfl, ((pneg_iff s).1 hp).2⟩) (fun h => by cases h) g3
  · obtain ⟨g1, g2, g3⟩ := (good_iff (bs s) 0 (by rw [if_neg hp])).1 hg
    rw [bs_length] at g1 g3
    have e : pval (bs s) = sv false (dec ((bs s).drop 0)) := by rw [pval, pbody, if_neg hp, Bool.eq_false_iff.2 hp, List.drop_zero]
    rw [e]
    exact exact_aux s false 0 w hl g1 (Nat.zero_le _) (fun h => by cases h) (fun _ => rfl) g3

set_option maxHeartbeats 1000000 in
theorem rparse_any (s : ByteArray) (w : World) (hl : s.size ≤ 10000) :
    Calls Tryz.prog 54 #[.string s] w fun e w' => ∃ v c, e = .returned (.tuple #[v, .int .i64 c]) ∧ Below w.heap.size w w' ∧ RParseR w' v c (bs s) := by
  have B0 := Blk.new w 39 #[.bool false, .slice none 0 0]
  by_cases hg : Good (bs s)
  · have HG : Hid (Good (bs s)) := hg
    clear hg
    by_cases h4 : 400 < s.size
    · go_enter Tryz.func54, Tryz.ntmps54
      go_wp2_with (go_at_call 93; refine (form_yes s _ hl HG.out).mono ?_; rintro e w' ⟨rfl, rfl⟩)
      refine bodyPost_ret (v := .tuple #[.agg #[.bool false, .slice none 0 0], .int .i64 11]) (by simp [results, Tryz.results54, go_sem]) rfl ?_
      exact ⟨_, _, rfl, (Below.refl _ _).alloc (Nat.le_refl _) _, Or.inr ⟨HG.out, Or.inr ⟨rfl, HG.out.big (by rw [bs_length]; exact h4), RNum.zero _ _⟩⟩⟩
    · go_enter Tryz.func54, Tryz.ntmps54
      go_wp2_with (first
        | (go_at_call 93; refine (form_yes s _ hl HG.out).mono ?_; rintro e w' ⟨rfl, rfl⟩)
        | (go_at_call 94; refine (exact_any s _ (by omega) HG.out).mono ?_; rintro e w1 ⟨v1, rfl, hn1, hb1⟩; obtain ⟨neg, ds, ⟨ao, cap, rfl, k1, k2, k3, k4, k5, k6, k7⟩, hz, hdl⟩ := hn1; have B1 := B0.stay hb1; obtain ⟨c0, c1, f0, f1⟩ := B1.two; have HZ : Hid (pval (bs s) = sv neg (val 10 ds)) := hz; clear hz))
      have hv1 : NumV w1 (.agg #[.bool neg, .slice ao ds.length cap]) neg ds := ⟨ao, cap, rfl, k1, k2, k3, k4, k5, k6, k7⟩
      have hb2 : Below w.heap.size w w1 := ((Below.refl _ _).alloc (Nat.le_refl _) _).step hb1 (Nat.le_refl _)
      have C1 := Blk.new w1 39 #[.bool neg, .slice ao ds.length cap]
      have hlt := B1.lt
      clear k3 k7
      by_cases hbig : lim ≤ val 10 ds
      · have hdc : decide (lim ≤ val 10 ds) = true := by simp [hbig]
        refine (toobig_any _ neg ds _ (hv1.below ((Below.refl _ _).alloc (Nat.le_refl _) _)) (by omega)).mono ?_
        rintro e w2 ⟨rfl, hb3⟩
        have B2 := (B1.alloc (.cells #[.bool neg, .slice ao ds.length cap] 39 (0, 0))).stay hb3
        have C2 := C1.stay hb3
        clear c0 c1 f0 f1
        obtain ⟨c0, c1, f0, f1⟩ := B2.two
        obtain ⟨d0, d1, g0, g1⟩ := C2.two
        have HB : Hid (lim ≤ val 10 ds) := hbig
        clear hbig
        go_wp2
        refine bodyPost_ret (v := .tuple #[.agg #[.bool false, .slice none 0 0], .int .i64 11]) (by simp [results, Tryz.results54, go_sem, c0, c1]) rfl ?_
        have hb4 : Below w.heap.size w w2 := (hb2.alloc hb2.size _).step hb3 (Nat.le_refl _)
        exact ⟨_, _, rfl, below_store2 hb4 (Nat.le_refl _) _ _, Or.inr ⟨HG.out, Or.inr ⟨rfl, by rw [HZ.out, sv_natAbs]; exact HB.out, RNum.zero _ _⟩⟩⟩
      · have hdc : decide (lim ≤ val 10 ds) = false := by simp [hbig]
        refine (toobig_any _ neg ds _ (hv1.below ((Below.refl _ _).alloc (Nat.le_refl _) _)) (by omega)).mono ?_
        rintro e w2 ⟨rfl, hb3⟩
        have B2 := (B1.alloc (.cells #[.bool neg, .slice ao ds.length cap] 39 (0, 0))).stay hb3
        have C2 := C1.stay hb3
        clear c0 c1 f0 f1
        obtain ⟨c0, c1, f0, f1⟩ := B2.two
        obtain ⟨d0, d1, g0, g1⟩ := C2.two
        have HB : Hid (¬ lim ≤ val 10 ds) := hbig
        clear hbig
        go_wp2
        refine bodyPost_ret (v := .tuple #[.agg #[.bool neg, .slice ao ds.length cap], .int .i64 0]) (by simp [results, Tryz.results54, go_sem, c0, c1]) rfl ?_
        have hb4 : Below w.heap.size w w2 := (hb2.alloc hb2.size _).step hb3 (Nat.le_refl _)
        have hw : Below w1.heap.size w1 w2 := ((Below.refl _ _).alloc (Nat.le_refl _) _).step hb3 (Nat.le_refl _)
        refine ⟨_, _, rfl, below_store2 hb4 (Nat.le_refl _) _ _, Or.inr ⟨HG.out, Or.inl ⟨rfl, by rw [HZ.out, sv_natAbs]; exact Nat.lt_of_not_le HB.out, ?_⟩⟩⟩
        exact ⟨neg, ds, (hv1.below hw).store2 B2 _ _ _ _, HZ.out, by omega⟩
  · have HG : Hid (¬ Good (bs s)) := hg
    clear hg
    go_enter Tryz.func54, Tryz.ntmps54
    go_wp2_with (go_at_call 93; refine (form_no s _ hl HG.out).mono ?_; rintro e w' ⟨rfl, rfl⟩)
    refine bodyPost_ret (v := .tuple #[.agg #[.bool false, .slice none 0 0], .int .i64 10]) (by simp [results, Tryz.results54, go_sem]) rfl ?_
    exact ⟨_, _, rfl, (Below.refl _ _).alloc (Nat.le_refl _) _, Or.inl ⟨HG.out, rfl, RNum.zero _ _⟩⟩
end Go.Proofs.YteefniagebcagaaGreatDoor
