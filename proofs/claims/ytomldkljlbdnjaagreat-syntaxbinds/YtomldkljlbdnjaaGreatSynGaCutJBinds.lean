/- Parse at a text whose tokens and tree are known. No statement of the seat is proved here. -/
import Derived.Test.YtomldkljlbdnjaaGreatSynZvCutJBinds
import Derived.Test.YtomldkljlbdnjaaGreatJoin6Binds
namespace Go.Proofs.YtomldkljlbdnjaaGreat
open Go Go.RowKit
set_option linter.unusedVariables false
set_option linter.unusedSimpArgs false
namespace Syn
open Lex (T TL tx bs tkC FV IsNm hide)
theorem parse_ok (s : ByteArray) (w : World) (ts : List T) (hl : s.size ≤ 65536) (hx : Lex.Lx (bs s) 0 ts 0 0) {n : Nat} {cls mn : List (List V)} {st : List T} (hP : P s.size n .program 0 ts = .ok [.l 7 cls, .l 2 mn] st) :
    Calls Tryz.prog 10 #[.string s] w fun e w' => ∃ qA cA qB cB, e = .returned (.tuple #[.agg #[.slice qA cls.length cA, .slice qB mn.length cB], FV 0 0]) ∧ Hid (X w' (fun b => w.heap.size ≤ b) (.slice qA cls.length cA) (.l 7 cls) ∧ X w' (fun b => w.heap.size ≤ b) (.slice qB mn.length cB) (.l 2 mn) ∧ Below w.heap.size w w') := by
  refine (parse_n s w (by omega) n (fun ts' c' a' ho _ => by
    obtain ⟨rfl, -, -⟩ := ho.det (Or.inr ⟨by rw [Lex.bs_length]; exact hl, ts, hx, rfl⟩ : Lex.Out (bs s) ts 0 0)
    rw [hP]; intro e; cases e)).mono ?_
  rintro e w' ⟨ts', c, a, ho, hb, h⟩
  obtain ⟨rfl, rfl, rfl⟩ := ho.det (Or.inr ⟨by rw [Lex.bs_length]; exact hl, ts, hx, rfl⟩ : Lex.Out (bs s) ts 0 0)
  rcases h with ⟨h, -⟩ | ⟨-, m, hm, h⟩
  · exact absurd rfl h
  have hdet := P_det s.size (c := .program) (dp := 0) (st := ts') (n := n) (m := m) (by rw [hP]; intro e; cases e) hm
  rw [hP] at hdet
  rcases h with ⟨r, st', u, h1, ⟨cls', mn', A, B, rfl, rfl, xA, xB⟩, rfl⟩ | ⟨c', a', h1, -⟩
  · rw [hdet] at h1
    injection h1 with h2 h3
    injection h2 with h4 h5
    injection h4 with h4 h6
    injection h5 with h5
    injection h5 with h5 h7
    subst h6 h7
    obtain ⟨qA, cA, rfl⟩ := xA.slice
    obtain ⟨qB, cB, rfl⟩ := xB.slice
    exact ⟨qA, cA, qB, cB, rfl, xA, xB, hb⟩
  · rw [hdet] at h1; cases h1
theorem parse_bad (s : ByteArray) (w : World) (ts : List T) (hl : s.size ≤ 65536) (hx : Lex.Lx (bs s) 0 ts 0 0) {n c a : Nat} (hP : P s.size n .program 0 ts = .bad c a) :
    Calls Tryz.prog 10 #[.string s] w fun e w' => e = .returned (.tuple #[.agg #[.slice none 0 0, .slice none 0 0], FV c a]) ∧ Hid (Below w.heap.size w w') := by
  refine (parse_n s w (by omega) n (fun ts' c' a' ho _ => by
    obtain ⟨rfl, -, -⟩ := ho.det (Or.inr ⟨by rw [Lex.bs_length]; exact hl, ts, hx, rfl⟩ : Lex.Out (bs s) ts 0 0)
    rw [hP]; intro e; cases e)).mono ?_
  rintro e w' ⟨ts', c', a', ho, hb, h⟩
  obtain ⟨rfl, rfl, rfl⟩ := ho.det (Or.inr ⟨by rw [Lex.bs_length]; exact hl, ts, hx, rfl⟩ : Lex.Out (bs s) ts 0 0)
  rcases h with ⟨h, -⟩ | ⟨-, m, hm, h⟩
  · exact absurd rfl h
  have hdet := P_det s.size (c := .program) (dp := 0) (st := ts') (n := n) (m := m) (by rw [hP]; intro e; cases e) hm
  rw [hP] at hdet
  rcases h with ⟨r, st', u, h1, -, -⟩ | ⟨c1, a1, h1, rfl⟩
  · rw [hdet] at h1; cases h1
  · rw [hdet] at h1
    injection h1 with h2 h3
    subst h2 h3
    exact ⟨rfl, hb⟩
end Syn
end Go.Proofs.YtomldkljlbdnjaaGreat
