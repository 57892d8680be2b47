/- Parse at the texts of SyntaxBinds. No statement of the seat is proved here. -/
import Derived.Test.YtomldkljlbdnjaaGreatSynIcCutJBinds
namespace Go.Proofs.YtomldkljlbdnjaaGreat
open Go Go.RowKit
set_option linter.unusedVariables false
set_option linter.unusedSimpArgs false
namespace Syn
open Lex (T TL tx bs tkC FV IsNm hide)
theorem pls_len (N : Nat → List UInt8) : ∀ (l : List It) (p : Nat), (pls N p l).length ≤ l.length
  | [], _ => by simp [pls]
  | .w x :: r, p => by simp only [pls, List.length_cons]; have := pls_len N r (p + x.length); omega
  | .n i :: r, p => by simp only [pls, List.length_cons]; have := pls_len N r (p + (N i).length); omega
  | .s x :: r, p => by simp only [pls, List.length_cons]; have := pls_len N r (p + x.length); omega
  | .b :: r, p => by simp only [pls, List.length_cons]; have := pls_len N r (p + 1); omega
theorem rnd_len {N : Nat → List UInt8} (hN : ∀ i, IsNm (N i)) : ∀ l : List It, chkI l = true → (rnd N l).length ≤ 40 * l.length
  | [], _ => by simp [rnd]
  | .b :: r, h => by
    have := rnd_len hN r (by simpa [chkI] using h)
    simp [rnd, It.tx] at this ⊢; omega
  | .w x :: r, h => by
    simp only [chkI, Bool.and_eq_true] at h
    have := rnd_len hN r h.2
    have := (wordB_ok h.1.1).2.2
    simp [rnd, It.tx] at *; omega
  | .n i :: r, h => by
    simp only [chkI, Bool.and_eq_true] at h
    have := rnd_len hN r h.2
    have := (hN i).2.1
    simp [rnd, It.tx] at *; omega
  | .s [] :: r, h => by simp [chkI] at h
  | .s (c :: e :: f :: x) :: r, h => by simp [chkI] at h
  | .s [c, e] :: r, h => by
    simp only [chkI, Bool.and_eq_true] at h
    have := rnd_len hN r h.2
    simp [rnd, It.tx] at *; omega
  | .s [c] :: r, h => by
    simp only [chkI, Bool.and_eq_true] at h
    have := rnd_len hN r h.2
    simp [rnd, It.tx] at *; omega
theorem prs_len : prs.all (fun x => decide ((its x.1).length ≤ 100) && decide ((its x.2).length ≤ 100)) = true ∧ (its lst).length ≤ 100 := by decide
theorem nms_nm {A B C : List UInt8} (hA : IsNm A) (hB : IsNm B) (hC : IsNm C) : ∀ i, IsNm (nms A B C i) := fun i => by
  match i with
  | 0 => exact hA
  | 1 => exact hB
  | i + 2 => exact hC
/-- What Parse promises at a text with main alone, whose statements are m. -/
def ParM (s : ByteArray) (m : List (List V)) : Prop := ∀ w : World, Calls Tryz.prog 10 #[.string s] w fun e w' => ∃ qA cA qB cB, e = .returned (.tuple #[.agg #[.slice qA 0 cA, .slice qB m.length cB], FV 0 0]) ∧ Hid (X w' (fun b => w.heap.size ≤ b) (.slice qB m.length cB) (.l 2 m) ∧ Below w.heap.size w w')
theorem text_read {A B C : List UInt8} (hA : IsNm A) (hB : IsNm B) (hC : IsNm C) {l : List It} (hc : chkI (its l) = true) (hw : chkW (its l) = true) (hl : (its l).length ≤ 100) {s : ByteArray} (hs : bs s = rnd (nms A B C) (its l)) {m : List (List V)} {st : List T} (hr : trd (vB A) (vB B) (vB C) l = .ok [.l 7 [], .l 2 m] st) : ∃ g, ParM s (mvL (fN A B C) g m) := by
  have hz : s.size ≤ 65536 := by
    rw [← Lex.bs_length, hs]
    have := rnd_len (nms_nm hA hB hC) (its l) hc
    omega
  obtain ⟨ts, g, hx, -, hP⟩ := bind_text hA hB hC l hc hw s hs (Nat.le_trans (pls_len _ _ _) hl)
  rw [hr] at hP
  refine ⟨g, fun w => (parse_ok s w ts hz hx (cls := []) (mn := mvL (fN A B C) g m) (st := st.map (mt (fN A B C) g)) (n := 120) ?_).mono ?_⟩
  · rw [hP]; simp [mvX, mvR, mv, mvL]
  · rintro e w' ⟨qA, cA, qB, cB, rfl, h⟩
    exact ⟨qA, cA, qB, cB, rfl, h.out.2.1, h.out.2.2⟩
theorem pair_read {A B C : List UInt8} (hA : IsNm A) (hB : IsNm B) (hC : IsNm C) (i : Nat) (hi : i < 9) {s s' : ByteArray} (hs : bs s = rnd (nms A B C) (its (prs.getD i ([], [])).1)) (hs' : bs s' = rnd (nms A B C) (its (prs.getD i ([], [])).2)) :
    ∃ m m', ParM s m ∧ ParM s' m' ∧ erL m = erL m' ∧ wfL m (sh 2) = true ∧ wfL m' (sh 2) = true := by
  obtain ⟨m, m', st, st', h1, h2, he, w1, w2⟩ := prs_read (vB A) (vB B) (vB C) i hi
  have hmem : prs.getD i ([], []) ∈ prs := by
    have hl : prs.length = 9 := rfl
    rw [List.getD_eq_getElem?_getD, List.getElem?_eq_getElem (by omega)]
    exact List.getElem_mem _
  have c1 := List.all_eq_true.1 prs_chk.1 _ hmem
  have c2 := List.all_eq_true.1 prs_chkW.1 _ hmem
  have c3 := List.all_eq_true.1 prs_len.1 _ hmem
  simp only [Bool.and_eq_true, decide_eq_true_eq] at c1 c2 c3
  obtain ⟨g, k1⟩ := text_read hA hB hC c1.1 c2.1 c3.1 hs h1
  obtain ⟨g', k2⟩ := text_read hA hB hC c1.2 c2.2 c3.2 hs' h2
  refine ⟨_, _, k1, k2, ?_, by rw [wfL_mv]; exact w1, by rw [wfL_mv]; exact w2⟩
  have e1 : ∀ (g : Nat → Nat) (m : List (List V)), erL (mvL (fN A B C) g m) = mvL (fN A B C) (fun _ => 0) (erL m) := fun g m => by
    simp only [erL, mvL_mv]
    rfl
  rw [e1, e1, he]
theorem last_read {A B C : List UInt8} (hA : IsNm A) (hB : IsNm B) (hC : IsNm C) {s : ByteArray} (hs : bs s = rnd (nms A B C) (its lst)) (w : World) :
    Calls Tryz.prog 10 #[.string s] w fun e w' => e = .returned (.tuple #[.agg #[.slice none 0 0, .slice none 0 0], FV 110 (17 + A.length + B.length)]) ∧ Hid (Below w.heap.size w w') := by
  have hz : s.size ≤ 65536 := by
    rw [← Lex.bs_length, hs]
    have := rnd_len (nms_nm hA hB hC) (its lst) prs_chk.2
    have := prs_len.2
    omega
  obtain ⟨ts, g, hx, hg, hP⟩ := bind_text hA hB hC lst prs_chk.2 prs_chkW.2 s hs (Nat.le_trans (pls_len _ _ _) prs_len.2)
  rw [lst_read] at hP
  have h6 : g 6 = 17 + A.length + B.length := by
    rw [hg 6 (by simp [its, lst, nA, nB, nC, bet, pls])]
    simp [its, lst, nA, nB, nC, bet, pls, nms]
    omega
  have := parse_bad s w ts hz hx (n := 120) (c := 110) (a := g 6) hP
  rw [h6] at this
  exact this
end Syn
end Go.Proofs.YtomldkljlbdnjaaGreat
