/- Joined: SynFaCut, SynFbCut, SynHaCut, SynIaCut: words and contracts; no statement of the seat is proved here. -/
import Derived.Test.YtomldkljlbdnjaaGreatJoin6Binds
/- Trees and tokens with texts and places put through functions: what stays. No statement of the seat is proved here. -/
namespace Go.Proofs.YtomldkljlbdnjaaGreat
set_option linter.unusedVariables false
set_option linter.unusedSimpArgs false
namespace Syn
open Lex (T IsNm)
mutual
def mv (f : List UInt8 → List UInt8) (g : Nat → Nat) : V → V
  | .s x => .s (f x)
  | .n k => .n k
  | .b t => .b t
  | .a p => .a (g p)
  | .l s rows => .l s (mvL f g rows)
def mvL (f : List UInt8 → List UInt8) (g : Nat → Nat) : List (List V) → List (List V)
  | [] => []
  | r :: t => mvR f g r :: mvL f g t
def mvR (f : List UInt8 → List UInt8) (g : Nat → Nat) : List V → List V
  | [] => []
  | v :: t => mv f g v :: mvR f g t
end
section
variable {f : List UInt8 → List UInt8} {g : Nat → Nat}
theorem mvR_map (r : List V) : mvR f g r = r.map (mv f g) := by induction r with
  | nil => simp [mvR]
  | cons a r ih => simp [mvR, ih]
theorem mvL_map (r : List (List V)) : mvL f g r = r.map (mvR f g) := by induction r with
  | nil => simp [mvL]
  | cons a r ih => simp [mvL, ih]
def mt (f : List UInt8 → List UInt8) (g : Nat → Nat) (t : T) : T := ⟨t.k, f t.x, g t.a⟩
def mvX (f : List UInt8 → List UInt8) (g : Nat → Nat) : Res → Res
  | .ok r st => .ok (mvR f g r) (st.map (mt f g))
  | .bad c a => .bad c (g a)
  | .out => .out
def mvC (f : List UInt8 → List UInt8) (g : Nat → Nat) : Cmd → Cmd
  | .impl ss sg => .impl (mvL f g ss) (sg.map (mt f g))
  | .binl k e => .binl k (mvR f g e)
  | .post e => .post (mvR f g e)
  | .part e => .part (mvR f g e)
  | .index e => .index (mvR f g e)
  | .commaL s acc => .commaL s (mvL f g acc)
  | .curlyL s acc => .curlyL s (mvL f g acc)
  | .listT t => .listT (mvR f g t)
  | .invs acc => .invs (mvL f g acc)
  | .classes acc => .classes (mvL f g acc)
  | .members c => .members (mvR f g c)
  | .member c => .member (mvR f g c)
  | c => c
def ops : List (List UInt8) := [([99, 97, 108, 108] : List UInt8), ([102, 105, 101, 108, 100] : List UInt8), ([105, 110, 100, 101, 120] : List UInt8), ([110, 101, 103] : List UInt8), ([110, 111, 116] : List UInt8), ([110, 117, 109] : List UInt8), ([101, 108, 101, 109] : List UInt8), ([115, 101, 116] : List UInt8), ([100, 111] : List UInt8), ([118, 97, 114] : List UInt8)]
/-- Names become names, all else stays. -/
structure Fm (f : List UInt8 → List UInt8) : Prop where
  nm : ∀ x, IsNm x → IsNm (f x)
  id : ∀ x, ¬ IsNm x → f x = x
  v : ∀ x, f x = ([118] : List UInt8) ↔ x = ([118] : List UInt8)
  op : ∀ x, x ∈ ops → f x = x
variable (H : Fm f)
include H
theorem Fm.nil : f [] = [] := H.id [] (by decide)
theorem Fm.kw {x : List UInt8} (hx : ¬ IsNm x) (y : List UInt8) : f y = x ↔ y = x := by
  constructor
  · intro h
    by_cases hy : IsNm y
    · exact absurd (h ▸ H.nm y hy) hx
    · rw [← H.id y hy]; exact h
  · rintro rfl; exact H.id _ hx
theorem Fm.isNm (y : List UInt8) : IsNm (f y) ↔ IsNm y := by
  constructor
  · intro h
    by_cases hy : IsNm y
    · exact hy
    · rw [H.id y hy] at h; exact h
  · exact H.nm y
theorem Fm.hd (en : Nat) (st : List T) : hd (g en) (st.map (mt f g)) = mt f g (hd en st) := by
  cases st with
  | nil => simp [Syn.hd, mt, H.nil]
  | cons a r => simp [Syn.hd]
theorem Fm.lvl (y : List UInt8) : lvl (f y) = lvl y := by
  unfold Syn.lvl
  simp only [H.kw (x := ([61, 62] : List UInt8)) (by decide), H.kw (x := ([124, 124] : List UInt8)) (by decide), H.kw (x := ([38, 38] : List UInt8)) (by decide), H.kw (x := ([61, 61] : List UInt8)) (by decide), H.kw (x := ([33, 61] : List UInt8)) (by decide), H.kw (x := ([60] : List UInt8)) (by decide), H.kw (x := ([60, 61] : List UInt8)) (by decide), H.kw (x := ([62] : List UInt8)) (by decide), H.kw (x := ([62, 61] : List UInt8)) (by decide), H.kw (x := ([43] : List UInt8)) (by decide), H.kw (x := ([45] : List UInt8)) (by decide), H.kw (x := ([42] : List UInt8)) (by decide), H.kw (x := ([47] : List UInt8)) (by decide), H.kw (x := ([37] : List UInt8)) (by decide)]
theorem Fm.sees (en : Nat) (st : List T) : seesP (g en) (st.map (mt f g)) [([123] : List UInt8), ([118] : List UInt8), ([124] : List UInt8)] ↔ seesP en st [([123] : List UInt8), ([118] : List UInt8), ([124] : List UInt8)] := by
  unfold seesP
  have h : ∀ j, Syn.hd (g en) ((st.map (mt f g)).drop j) = mt f g (Syn.hd en (st.drop j)) := fun j => by rw [← List.map_drop, H.hd]
  constructor
  all_goals
    intro k j hj
    have k := k j hj
    simp only [h, mt] at k ⊢
    match j, hj with
    | 0, _ => simp only [List.getD_cons_zero] at k ⊢; first | exact (H.kw (by decide) _).1 k | exact (H.kw (by decide) _).2 k
    | 1, _ => simp only [List.getD_cons_succ, List.getD_cons_zero] at k ⊢; first | exact (H.v _).1 k | exact (H.v _).2 k
    | 2, _ => simp only [List.getD_cons_succ, List.getD_cons_zero] at k ⊢; first | exact (H.kw (by decide) _).1 k | exact (H.kw (by decide) _).2 k
end
section
variable {f : List UInt8 → List UInt8} {g : Nat → Nat} {en : Nat} {st : List T}
theorem M.to {X' X : Res} {K' K : List V → List T → Res} (h : X' = mvX f g X) (hk : ∀ r s, X = .ok r s → K' (mvR f g r) (s.map (mt f g)) = mvX f g (K r s)) : X'.to K' = mvX f g (X.to K) := by
  subst h
  cases X with
  | ok r s => exact hk r s rfl
  | bad c a => rfl
  | out => rfl
theorem M.ifc {C' C : Prop} [Decidable C'] [Decidable C] {A' A B' B : Res} (hc : C' ↔ C) (ha : C → A' = mvX f g A) (hb : ¬ C → B' = mvX f g B) : (if C' then A' else B') = mvX f g (if C then A else B) := by
  by_cases h : C
  · rw [if_pos h, if_pos (hc.2 h)]; exact ha h
  · rw [if_neg h, if_neg (fun k => h (hc.1 k))]; exact hb h
variable (H : Fm f)
include H
theorem M.want {x : List UInt8} {K' K : List T → Res} (hx : ¬ IsNm x) (h : K' (st.tail.map (mt f g)) = mvX f g (K st.tail)) : wantP (g en) x (st.map (mt f g)) K' = mvX f g (wantP en x st K) := by
  unfold wantP
  rw [H.hd, ← List.map_tail]
  exact M.ifc (H.kw hx _) (fun _ => h) (fun _ => rfl)
theorem M.name {K' K : T → List T → Res} (h : K' (mt f g (hd en st)) (st.tail.map (mt f g)) = mvX f g (K (hd en st) st.tail)) : nameP (g en) (st.map (mt f g)) K' = mvX f g (nameP en st K) := by
  unfold nameP
  rw [H.hd, ← List.map_tail]
  exact M.ifc (H.isNm _) (fun _ => h) (fun _ => rfl)
theorem M.nest {dp : Nat} {K' K : Nat → Res} (h : K' (dp + 1) = mvX f g (K (dp + 1))) : nestP (g en) dp (st.map (mt f g)) K' = mvX f g (nestP en dp st K) := by
  unfold nestP
  rw [H.hd]
  exact M.ifc Iff.rfl (fun _ => rfl) (fun _ => h)
end
section
variable {f : List UInt8 → List UInt8} {g : Nat → Nat}
theorem m_gL (r : List V) (i : Nat) : gL (mvR f g r) i = mvL f g (gL r i) := by
  simp only [gL, mvR_map, List.getD_eq_getElem?_getD, List.getElem?_map]
  cases r[i]? with
  | none => simp [lOf, mvL]
  | some v => cases v <;> simp [lOf, mv, mvL]
theorem m_gS (h0 : f [] = []) (r : List V) (i : Nat) : gS (mvR f g r) i = f (gS r i) := by
  simp only [gS, mvR_map, List.getD_eq_getElem?_getD, List.getElem?_map]
  cases r[i]? with
  | none => simp [sOf, h0]
  | some v => cases v <;> simp [sOf, mv, h0]
theorem m_gB (r : List V) (i : Nat) : gB (mvR f g r) i = gB r i := by
  simp only [gB, mvR_map, List.getD_eq_getElem?_getD, List.getElem?_map]
  cases r[i]? with
  | none => simp [bOf]
  | some v => cases v <;> simp [bOf, mv]
theorem m_gA (h0 : g 0 = 0) (r : List V) (i : Nat) : gA (mvR f g r) i = g (gA r i) := by
  simp only [gA, mvR_map, List.getD_eq_getElem?_getD, List.getElem?_map]
  cases r[i]? with
  | none => simp [aOf, h0]
  | some v => cases v <;> simp [aOf, mv, h0]
end
end Syn
namespace Syn
open Lex (T IsNm)
section
variable {f : List UInt8 → List UInt8} {g : Nat → Nat}
/-- A row whose first text stays. -/
def opx (f : List UInt8 → List UInt8) (r : List V) : Prop := f (gS r 0) = gS r 0
def OutO (p : List V → Prop) (x : Res) : Prop := ∀ r s, x = .ok r s → p r
section
variable {p q : List V → Prop} {en : Nat} {st : List T}
theorem OutO.ok {r : List V} {s : List T} (h : p r) : OutO p (.ok r s) := fun _ _ e => by cases e; exact h
theorem OutO.bad {c a : Nat} : OutO p (.bad c a) := fun _ _ e => by cases e
theorem OutO.out : OutO p .out := fun _ _ e => by cases e
theorem OutO.any {x : Res} : OutO (fun _ => True) x := fun _ _ _ => trivial
theorem OutO.to {x : Res} {f : List V → List T → Res} (hx : OutO q x) (hf : ∀ r s, q r → OutO p (f r s)) : OutO p (x.to f) := by
  cases x with
  | ok r s => exact hf r s (hx r s rfl)
  | bad c a => exact OutO.bad
  | out => exact OutO.out
theorem OutO.ifc {C : Prop} [Decidable C] {A B : Res} (hA : C → OutO p A) (hB : ¬ C → OutO p B) : OutO p (if C then A else B) := by
  by_cases h : C
  · rw [if_pos h]; exact hA h
  · rw [if_neg h]; exact hB h
theorem OutO.want {x : List UInt8} {k : List T → Res} (h : OutO p (k st.tail)) : OutO p (wantP en x st k) := OutO.ifc (fun _ => h) (fun _ => OutO.bad)
theorem OutO.name {k : T → List T → Res} (h : OutO p (k (hd en st) st.tail)) : OutO p (nameP en st k) := OutO.ifc (fun _ => h) (fun _ => OutO.bad)
theorem OutO.nest {dp : Nat} {k : Nat → Res} (h : OutO p (k (dp + 1))) : OutO p (nestP en dp st k) := OutO.ifc (fun _ => OutO.bad) (fun _ => h)
end
theorem opE {op nm : List UInt8} {args tys : List (List V)} {p : Nat} (h : f op = op) : opx f (exR op nm args tys p) := h
def preO (f : List UInt8 → List UInt8) : Cmd → Prop
  | .impl ss sg => (∀ e ∈ ss, opx f e) ∧ ∀ t ∈ sg, f t.x = t.x
  | .operands k => k ≠ 0
  | .binl k e => k ≠ 0 ∧ opx f e
  | .post e => opx f e
  | .prefixed op | .alone op => f op = op
  | _ => True
def postO (f : List UInt8 → List UInt8) : Cmd → List V → Prop
  | .expr | .implied | .impl _ _ | .operands _ | .binl _ _ | .operand | .prefixed _ | .nestOperand | .post _ | .part _ | .index _ | .primary | .alone _ | .object | .list => opx f
  | .inRound => fun r => opx f ((gL r 0).getD 0 [])
  | _ => fun _ => True
theorem foldI_op (H : Fm f) : ∀ (ss : List (List V)) (sg : List T), (∀ e ∈ ss, opx f e) → (∀ t ∈ sg, f t.x = t.x) → opx f (foldI ss sg)
  | a :: ss, sg :: gs, _, h => h sg (List.mem_cons_self ..)
  | a :: ss, [], h, _ => h a (List.mem_cons_self ..)
  | [], _, _, _ => H.nil
theorem lvl_nm {x : List UInt8} (h : IsNm x) : lvl x = 0 := by
  unfold lvl
  have k : ∀ y : List UInt8, ¬ IsNm y → x ≠ y := fun y hy e => hy (e ▸ h)
  simp only [k ([61, 62] : List UInt8) (by decide), k ([124, 124] : List UInt8) (by decide), k ([38, 38] : List UInt8) (by decide), k ([61, 61] : List UInt8) (by decide), k ([33, 61] : List UInt8) (by decide), k ([60] : List UInt8) (by decide), k ([60, 61] : List UInt8) (by decide), k ([62] : List UInt8) (by decide), k ([62, 61] : List UInt8) (by decide), k ([43] : List UInt8) (by decide), k ([45] : List UInt8) (by decide), k ([42] : List UInt8) (by decide), k ([47] : List UInt8) (by decide), k ([37] : List UInt8) (by decide), if_false, or_self]
theorem P_op (H : Fm f) (en : Nat) : ∀ (n : Nat) (c : Cmd) (dp : Nat) (st : List T), preO f c → OutO (postO f c) (P en n c dp st)
  | 0, _, _, _, _ => OutO.out
  | n + 1, c, dp, st, hp => by
    have ih := P_op H en n
    have fx : ∀ x, x ∈ ops → f x = x := H.op
    have fk : ∀ x : List UInt8, ¬ IsNm x → f x = x := H.id
    cases c with
    | expr => simp only [P]; exact OutO.nest (ih .implied _ _ trivial)
    | implied => exact OutO.to (ih (.operands 2) _ _ (by simp [preO])) fun r s h => ih (.impl [r] []) _ _ ⟨by intro e he; simp at he; subst he; exact h, by simp⟩
    | impl ss sg =>
      refine OutO.ifc (fun hc => OutO.to (ih (.operands 2) _ _ (by simp [preO])) fun r s h => ih (.impl _ _) _ _ ⟨?_, ?_⟩) (fun _ => OutO.ok (foldI_op H ss sg hp.1 hp.2))
      · intro e he
        rcases List.mem_append.1 he with he | he
        · exact hp.1 e he
        · simp at he; subst he; exact h
      · intro t ht
        rcases List.mem_append.1 ht with ht | ht
        · exact hp.2 t ht
        · simp at ht; subst ht; rw [hc]; exact fk _ (by decide)
    | operands k => exact OutO.ifc (fun _ => ih .operand _ _ trivial) (fun _ => OutO.to (ih (.operands (k + 1)) _ _ (by simp [preO])) fun r s h => ih (.binl k r) _ _ ⟨hp, h⟩)
    | binl k e =>
      refine OutO.ifc (fun hc => ?_) (fun _ => OutO.ok hp.2)
      have hop : f (hd en st).x = (hd en st).x := by
        refine fk _ fun hn => ?_
        rw [lvl_nm hn] at hc
        exact hp.1 hc.symm
      exact OutO.to (ih (.operands (k + 1)) _ _ (by simp [preO])) fun r s h => OutO.ifc (fun _ => OutO.ok hop) (fun _ => ih (.binl k _) _ _ ⟨hp.1, hop⟩)
    | operand => exact OutO.ifc (fun _ => ih (.prefixed _) _ _ (fx _ (by decide))) (fun _ => OutO.ifc (fun _ => ih (.prefixed _) _ _ (fx _ (by decide))) (fun _ => OutO.to (ih .primary _ _ trivial) fun r s h => ih (.post r) _ _ h))
    | prefixed op => exact OutO.to OutO.any fun r s _ => OutO.ok hp
    | nestOperand => simp only [P]; exact OutO.nest (ih .operand _ _ trivial)
    | post e => exact OutO.ifc (fun _ => OutO.to (ih (.part e) _ _ trivial) fun r s h => ih (.post r) _ _ h) (fun _ => OutO.ifc (fun _ => OutO.to (ih (.index e) _ _ trivial) fun r s h => ih (.post r) _ _ h) (fun _ => OutO.ok hp))
    | part o =>
      simp only [P]
      refine OutO.name ?_
      exact OutO.ifc (fun _ => OutO.to OutO.any fun r s _ => OutO.ok (opE (fx _ (by decide)))) (fun _ => OutO.ok (opE (fx _ (by decide))))
    | index l => first | exact OutO.to OutO.any fun r s _ => OutO.want (OutO.ok (opE (fx _ (by decide)))) | exact OutO.out
    | primary =>
      refine OutO.ifc (fun _ => ih (.alone _) _ _ (fx _ (by decide))) (fun _ => OutO.ifc (fun _ => ih (.alone _) _ _ (fx _ (by decide))) (fun hn => OutO.ifc (fun _ => OutO.ok (fk _ hn)) (fun _ => OutO.ifc (fun _ => ih .object _ _ trivial) (fun _ => OutO.ifc (fun _ => ih .list _ _ trivial) (fun _ => OutO.ifc (fun _ => OutO.to OutO.any fun r s _ => OutO.ok (opE (fk _ (by decide)))) (fun _ => OutO.ifc (fun _ => OutO.want (OutO.want (OutO.ok (opE (fk _ (by decide)))))) (fun _ => OutO.ifc (fun _ => OutO.to (ih .inRound _ _ trivial) fun r s h => OutO.ok h) (fun _ => OutO.bad))))))))
    | alone op => exact OutO.ok hp
    | object => first | exact OutO.to OutO.any fun r s _ => OutO.to OutO.any fun r s _ => OutO.ok (opE (fk _ (by decide))) | exact OutO.out
    | list => first | exact OutO.to OutO.any fun r s _ => OutO.want (OutO.to OutO.any fun r s _ => OutO.want (OutO.to OutO.any fun r s _ => OutO.want (OutO.ok (opE (fk _ (by decide)))))) | exact OutO.out
    | inRound => simp only [P]; exact OutO.want (OutO.to (ih .expr _ _ trivial) fun r s h => OutO.want (OutO.ok h))
    | _ => exact fun _ _ _ => trivial
theorem foldI_mv (H : Fm f) : ∀ (ss : List (List V)) (sg : List T), foldI (mvL f g ss) (sg.map (mt f g)) = mvR f g (foldI ss sg)
  | a :: ss, sg :: gs => by
    simp only [mvL, List.map_cons, foldI, betw, exR, mvR, mv]
    rw [foldI_mv H ss gs]
    simp [mt, H.nil]
  | a :: ss, [] => by simp [mvL, foldI]
  | [], _ => by simp [mvL, foldI, mvR]
theorem mvL_app (a b : List (List V)) : mvL f g (a ++ b) = mvL f g a ++ mvL f g b := by simp [mvL_map]
theorem mvR_app (a b : List V) : mvR f g (a ++ b) = mvR f g a ++ mvR f g b := by simp [mvR_map]
theorem mvR_take (a : List V) (n : Nat) : mvR f g (a.take n) = (mvR f g a).take n := by simp [mvR_map, List.map_take]
theorem mvR_drop (a : List V) (n : Nat) : mvR f g (a.drop n) = (mvR f g a).drop n := by simp [mvR_map, List.map_drop]
theorem mvL_nth (a : List (List V)) (n : Nat) : (mvL f g a).getD n [] = mvR f g (a.getD n []) := by
  simp only [mvL_map, List.getD_eq_getElem?_getD, List.getElem?_map]
  cases a[n]? <;> simp [mvR]
theorem tgt_mv (H : Fm f) {e : List V} (he : opx f e) (a : Nat) : tgt (mvR f g e) (g a) = (tgt e a).map (mvR f g) := by
  unfold tgt
  have h0 := m_gS (g := g) H.nil e 0
  have h1 := m_gS (g := g) H.nil e 1
  have h2 := m_gL (f := f) (g := g) e 2
  simp only [h0, h1, h2, show f (gS e 0) = gS e 0 from he]
  split
  · simp [smR, mvR, mv, mvL, H.op ([115, 101, 116] : List UInt8) (by decide)]
  · split
    · simp [smR, mvR, mv, mvL, H.op ([102, 105, 101, 108, 100] : List UInt8) (by decide)]
    · split
      · simp [smR, mvR, mv, mvL, H.nil, H.op ([101, 108, 101, 109] : List UInt8) (by decide)]
      · rfl
end
end Syn
end Go.Proofs.YtomldkljlbdnjaaGreat
/- The pure reader goes through renaming and moving. No statement of the seat is proved here. -/
namespace Go.Proofs.YtomldkljlbdnjaaGreat
set_option linter.unusedVariables false
set_option linter.unusedSimpArgs false
namespace Syn
open Lex (T IsNm)
theorem mt_k (f : List UInt8 → List UInt8) (g : Nat → Nat) (t : T) : (mt f g t).k = t.k := rfl
theorem mt_x (f : List UInt8 → List UInt8) (g : Nat → Nat) (t : T) : (mt f g t).x = f t.x := rfl
theorem mt_a (f : List UInt8 → List UInt8) (g : Nat → Nat) (t : T) : (mt f g t).a = g t.a := rfl
section
variable {f : List UInt8 → List UInt8} {g : Nat → Nat}
theorem M.ifd {C' C : Prop} [Decidable C'] [Decidable C] {A' A B' B : Res} (hc : C' ↔ C) (ha : A' = mvX f g A) (hb : B' = mvX f g B) : (if C' then A' else B') = mvX f g (if C then A else B) := M.ifc hc (fun _ => ha) (fun _ => hb)
theorem ite_map {C : Prop} [Decidable C] (a b : List T) : (if C then a.map (mt f g) else b.map (mt f g)) = (if C then a else b).map (mt f g) := by by_cases h : C <;> simp [h]
theorem map_nil (l : List T) : l.map (mt f g) = [] ↔ l = [] := by cases l <;> simp
def okM (f : List UInt8 → List UInt8) : Cmd → Prop
  | .prefixed op | .alone op => f op = op
  | _ => True
theorem P_mv (H : Fm f) (h0 : g 0 = 0) (en : Nat) : ∀ (n : Nat) (c : Cmd) (dp : Nat) (st : List T), okM f c → P (g en) n (mvC f g c) dp (st.map (mt f g)) = mvX f g (P en n c dp st)
  | 0, _, _, _, _ => rfl
  | n + 1, c, dp, st, hc => by
    have ih := P_mv H h0 en n
    have fx : ∀ x, x ∈ ops → f x = x := H.op
    have hop := P_op H en n .expr dp st trivial
    cases c
    all_goals simp only [P, mvC]
    case wordless =>
      first | rfl | skip
      all_goals
        refine M.to (Eq.trans ?_ (ih .expr dp st trivial)) ?_
        · rfl
        intro e st1 he
        have hx := hop e st1 he
        refine M.ifd (by focus first | exact Iff.rfl | (simp (disch := decide) only [Fm.hd H, mt_x, mt_k, mt_a, Fm.kw H, Fm.isNm H, Fm.lvl H]; done) | exact Fm.sees H _ _) ?_ ?_
        · rw [H.hd, mt_a, tgt_mv H hx]
          cases tgt e (hd en st).a with
          | none => simp only [Option.map_none, H.hd, mt_a, mvX]
          | some s =>
            simp only [Option.map_some]
            refine M.want H (by decide) ?_
            refine M.to (Eq.trans ?_ (ih .lastExpr _ _ trivial)) ?_
            · rfl
            intro v st3 _
            (focus first | rfl | (simp (disch := decide) only [mvC, mvX, mvR, mv, mvL, exR, tyR, smR, meR, ctR, clR, betw, m_gL, m_gB, m_gS (Fm.nil H), m_gA h0, mvL_app, mvR_app, mvR_take, mvR_drop, mvL_nth, foldI_mv H, ite_map, Fm.hd H, mt_x, mt_k, mt_a, Fm.nil H, Fm.id H, Fm.op H, Fm.kw H, ← List.map_tail, ← List.map_drop, List.map_nil, List.map_cons, List.map_append, List.cons_append, List.nil_append]; done))
        · refine M.want H (by decide) ?_
          (focus first | rfl | (simp (disch := decide) only [mvC, mvX, mvR, mv, mvL, exR, tyR, smR, meR, ctR, clR, betw, m_gL, m_gB, m_gS (Fm.nil H), m_gA h0, mvL_app, mvR_app, mvR_take, mvR_drop, mvL_nth, foldI_mv H, ite_map, Fm.hd H, mt_x, mt_k, mt_a, Fm.nil H, Fm.id H, Fm.op H, Fm.kw H, ← List.map_tail, ← List.map_drop, List.map_nil, List.map_cons, List.map_append, List.cons_append, List.nil_append]; done))
    all_goals
      repeat' (first
        | (refine M.want H (by decide) ?_)
        | (refine M.name H ?_)
        | (refine M.nest H ?_)
        | (refine M.to (Eq.trans ?_ (ih _ _ _ ?_)) ?_; rotate_left 2; intro _ _ _; rotate_left 2)
        | (refine M.ifd (by focus first | exact Iff.rfl | (simp (disch := decide) only [Fm.hd H, mt_x, mt_k, mt_a, Fm.kw H, Fm.isNm H, Fm.lvl H]; done) | exact Fm.sees H _ _) ?_ ?_)
        | (refine Eq.trans ?_ (ih _ _ _ ?_); (focus first | rfl | (simp (disch := decide) only [mvC, mvX, mvR, mv, mvL, exR, tyR, smR, meR, ctR, clR, betw, m_gL, m_gB, m_gS (Fm.nil H), m_gA h0, mvL_app, mvR_app, mvR_take, mvR_drop, mvL_nth, foldI_mv H, ite_map, Fm.hd H, mt_x, mt_k, mt_a, Fm.nil H, Fm.id H, Fm.op H, Fm.kw H, ← List.map_tail, ← List.map_drop, List.map_nil, List.map_cons, List.map_append, List.cons_append, List.nil_append]; done)))
        | exact True.intro
        | exact fx _ (by decide)
        | ((focus first | rfl | (simp (disch := decide) only [mvC, mvX, mvR, mv, mvL, exR, tyR, smR, meR, ctR, clR, betw, m_gL, m_gB, m_gS (Fm.nil H), m_gA h0, mvL_app, mvR_app, mvR_take, mvR_drop, mvL_nth, foldI_mv H, ite_map, Fm.hd H, mt_x, mt_k, mt_a, Fm.nil H, Fm.id H, Fm.op H, Fm.kw H, ← List.map_tail, ← List.map_drop, List.map_nil, List.map_cons, List.map_append, List.cons_append, List.nil_append]; done)))
        | (rw [← List.map_tail])
        | (rw [← List.map_drop]))
    case prefixed.refine_3 => have hc : f _ = _ := hc; simp only [mvX, exR, mvR, mv, mvL, H.hd, mt_a, H.nil, hc]
    case alone => have hc : f _ = _ := hc; simp only [mvX, exR, mvR, mv, mvL, H.hd, mt_a, mt_x, hc]
    all_goals first | (refine Eq.trans ?_ (ih _ _ _ ?_); (focus first | rfl | (simp (disch := decide) only [mvC, mvX, mvR, mv, mvL, exR, tyR, smR, meR, ctR, clR, betw, m_gL, m_gB, m_gS (Fm.nil H), m_gA h0, mvL_app, mvR_app, mvR_take, mvR_drop, mvL_nth, foldI_mv H, ite_map, Fm.hd H, mt_x, mt_k, mt_a, Fm.nil H, Fm.id H, Fm.op H, Fm.kw H, ← List.map_tail, ← List.map_drop, List.map_nil, List.map_cons, List.map_append, List.cons_append, List.nil_append]; done)); first | exact True.intro | exact fx _ (by decide)) | skip
    try
      case wholeType.refine_3.refine_3 =>
        refine Eq.trans ?_ (ih _ _ _ ?_)
        · rename_i r1 _ _ _ _ _
          simp (disch := decide) only [mvC, mvR, mv, mvL, tyR, m_gL, m_gB, m_gS H.nil, m_gA h0]
          rw [show (mvR f g r1).getD 0 (V.n 0) = mv f g (r1.getD 0 (V.n 0)) by
            simp only [mvR_map, List.getD_eq_getElem?_getD, List.getElem?_map]; cases r1[0]? <;> simp [mv]]
          cases r1.getD 0 (V.n 0) <;> rfl
        · exact True.intro
    case program.refine_3.refine_3 => exact M.ifd (map_nil _) (by focus first | rfl | (simp (disch := decide) only [mvC, mvX, mvR, mv, mvL, exR, tyR, smR, meR, ctR, clR, betw, m_gL, m_gB, m_gS (Fm.nil H), m_gA h0, mvL_app, mvR_app, mvR_take, mvR_drop, mvL_nth, foldI_mv H, ite_map, Fm.hd H, mt_x, mt_k, mt_a, Fm.nil H, Fm.id H, Fm.op H, Fm.kw H, ← List.map_tail, ← List.map_drop, List.map_nil, List.map_cons, List.map_append, List.cons_append, List.nil_append]; done)) (by focus first | rfl | (simp (disch := decide) only [mvC, mvX, mvR, mv, mvL, exR, tyR, smR, meR, ctR, clR, betw, m_gL, m_gB, m_gS (Fm.nil H), m_gA h0, mvL_app, mvR_app, mvR_take, mvR_drop, mvL_nth, foldI_mv H, ite_map, Fm.hd H, mt_x, mt_k, mt_a, Fm.nil H, Fm.id H, Fm.op H, Fm.kw H, ← List.map_tail, ← List.map_drop, List.map_nil, List.map_cons, List.map_append, List.cons_append, List.nil_append]; done))

end
end Syn
end Go.Proofs.YtomldkljlbdnjaaGreat
/- Trees that are alike but for their places; trees whose leaves are of the sorts that they should be. No statement of the seat is proved here. -/
namespace Go.Proofs.YtomldkljlbdnjaaGreat
set_option linter.unusedVariables false
set_option linter.unusedSimpArgs false
namespace Syn
open Lex (T IsNm)
abbrev erR (r : List V) : List V := mvR id (fun _ => 0) r
abbrev erL (r : List (List V)) : List (List V) := mvL id (fun _ => 0) r
/-- The sorts of a row's leaves: 0 a text, 1 a number, 2 a flag, 3 a place, 10 and more a list. -/
def sh : Nat → List Nat
  | 0 => [0, 0, 10, 11, 3]
  | 1 => [1, 0, 2, 11, 10, 3]
  | 2 => [0, 0, 11, 10, 12, 12, 3]
  | 3 => [0, 1, 0, 2, 11, 10, 3, 3]
  | 4 => [0, 1, 0, 2, 11, 10, 3, 2, 3]
  | 5 => [13, 2, 10, 12, 3]
  | 6 => [0, 13, 1, 0, 2, 11, 10, 3, 12, 2, 3]
  | 7 => [0, 2, 0, 18, 14, 10, 15, 16, 3]
  | _ => [0]
mutual
def wfV : V → Nat → Bool
  | .s _, k => k == 0
  | .n _, k => k == 1
  | .b _, k => k == 2
  | .a _, k => k == 3
  | .l s rows, k => k == 10 + s && wfL rows (sh s)
def wfL : List (List V) → List Nat → Bool
  | [], _ => true
  | r :: t, ks => wfR r ks && wfL t ks
def wfR : List V → List Nat → Bool
  | [], [] => true
  | v :: t, k :: ks => wfV v k && wfR t ks
  | [], _ :: _ => false
  | _ :: _, [] => false
end
theorem wfL_all : ∀ {rows : List (List V)} {ks : List Nat}, wfL rows ks = true ↔ ∀ r ∈ rows, wfR r ks = true
  | [], ks => by simp [wfL]
  | r :: t, ks => by simp [wfL, wfL_all (rows := t)]
theorem wfL_get {rows : List (List V)} {ks : List Nat} (h : wfL rows ks = true) {i : Nat} (hi : i < rows.length) : wfR (rows.getD i []) ks = true := by
  refine wfL_all.1 h _ ?_
  rw [List.getD_eq_getElem?_getD, List.getElem?_eq_getElem hi]
  exact List.getElem_mem hi
mutual
theorem wfV_mv (f : List UInt8 → List UInt8) (g : Nat → Nat) : ∀ (v : V) (k : Nat), wfV (mv f g v) k = wfV v k
  | .s _, k => by simp [mv, wfV]
  | .n _, k => by simp [mv, wfV]
  | .b _, k => by simp [mv, wfV]
  | .a _, k => by simp [mv, wfV]
  | .l s rows, k => by simp [mv, wfV, wfL_mv f g rows]
theorem wfL_mv (f : List UInt8 → List UInt8) (g : Nat → Nat) : ∀ (r : List (List V)) (ks : List Nat), wfL (mvL f g r) ks = wfL r ks
  | [], ks => by simp [mvL, wfL]
  | r :: t, ks => by simp [mvL, wfL, wfR_mv f g r, wfL_mv f g t]
theorem wfR_mv (f : List UInt8 → List UInt8) (g : Nat → Nat) : ∀ (r : List V) (ks : List Nat), wfR (mvR f g r) ks = wfR r ks
  | [], [] => by simp [mvR, wfR]
  | [], _ :: _ => by simp [mvR, wfR]
  | _ :: _, [] => by simp [mvR, wfR]
  | v :: t, k :: ks => by simp [mvR, wfR, wfV_mv f g v, wfR_mv f g t]
end
mutual
theorem mv_mv (f f' : List UInt8 → List UInt8) (g g' : Nat → Nat) : ∀ v : V, mv f' g' (mv f g v) = mv (f' ∘ f) (g' ∘ g) v
  | .s _ => by simp [mv]
  | .n _ => by simp [mv]
  | .b _ => by simp [mv]
  | .a _ => by simp [mv]
  | .l s rows => by simp [mv, mvL_mv f f' g g' rows]
theorem mvL_mv (f f' : List UInt8 → List UInt8) (g g' : Nat → Nat) : ∀ r : List (List V), mvL f' g' (mvL f g r) = mvL (f' ∘ f) (g' ∘ g) r
  | [] => by simp [mvL]
  | r :: t => by simp [mvL, mvR_mv f f' g g' r, mvL_mv f f' g g' t]
theorem mvR_mv (f f' : List UInt8 → List UInt8) (g g' : Nat → Nat) : ∀ r : List V, mvR f' g' (mvR f g r) = mvR (f' ∘ f) (g' ∘ g) r
  | [] => by simp [mvR]
  | v :: t => by simp [mvR, mv_mv f f' g g' v, mvR_mv f f' g g' t]
end
theorem erL_len {a b : List (List V)} (h : erL a = erL b) : a.length = b.length := by
  have := congrArg List.length h
  simpa [erL, mvL_map] using this
theorem erL_get {a b : List (List V)} (h : erL a = erL b) {i : Nat} (hi : i < a.length) : erR (a.getD i []) = erR (b.getD i []) := by
  have hb : i < b.length := erL_len h ▸ hi
  have h1 := congrArg (fun l => l[i]?) h
  simp only [erL, mvL_map, List.getElem?_map, List.getElem?_eq_getElem hi, List.getElem?_eq_getElem hb, Option.map_some, Option.some.injEq] at h1
  simpa [List.getD_eq_getElem?_getD, List.getElem?_eq_getElem hi, List.getElem?_eq_getElem hb] using h1
theorem wf_cons {r : List V} {k : Nat} {ks : List Nat} (h : wfR r (k :: ks) = true) : ∃ v t, r = v :: t ∧ wfV v k = true ∧ wfR t ks = true := by
  cases r with
  | nil => simp [wfR] at h
  | cons v t => simp only [wfR, Bool.and_eq_true] at h; exact ⟨v, t, rfl, h.1, h.2⟩
theorem wf_nil {r : List V} (h : wfR r [] = true) : r = [] := by
  cases r with
  | nil => rfl
  | cons v t => simp [wfR] at h
theorem wf_s {v : V} (h : wfV v 0 = true) : ∃ x, v = .s x := by
  cases v <;> simp [wfV] at h
  · exact ⟨_, rfl⟩
  · omega
theorem wf_n {v : V} (h : wfV v 1 = true) : ∃ x, v = .n x := by
  cases v <;> simp [wfV] at h
  · exact ⟨_, rfl⟩
  · omega
theorem wf_b {v : V} (h : wfV v 2 = true) : ∃ x, v = .b x := by
  cases v <;> simp [wfV] at h
  · exact ⟨_, rfl⟩
  · omega
theorem wf_a {v : V} (h : wfV v 3 = true) : ∃ x, v = .a x := by
  cases v <;> simp [wfV] at h
  · exact ⟨_, rfl⟩
  · omega
theorem wf_l {v : V} (s : Nat) (h : wfV v (10 + s) = true) : ∃ rows, v = .l s rows ∧ wfL rows (sh s) = true := by
  cases v with
  | s x => simp [wfV] at h
  | n x => simp [wfV] at h; omega
  | b x => simp [wfV] at h; omega
  | a x => simp [wfV] at h; omega
  | l s' rows =>
    simp only [wfV, Bool.and_eq_true, beq_iff_eq] at h
    obtain rfl : s' = s := by omega
    exact ⟨rows, rfl, h.2⟩
theorem wf_ex {r : List V} (h : wfR r (sh 0) = true) : ∃ op nm args tys p, r = exR op nm args tys p ∧ wfL args (sh 0) = true ∧ wfL tys (sh 1) = true := by
  simp only [sh] at h
  have g0 := h
  clear h
  obtain ⟨v0, t0, rfl, h0, g1⟩ := wf_cons g0
  obtain ⟨op, rfl⟩ := wf_s h0
  obtain ⟨v1, t1, rfl, h1, g2⟩ := wf_cons g1
  obtain ⟨nm, rfl⟩ := wf_s h1
  obtain ⟨v2, t2, rfl, h2, g3⟩ := wf_cons g2
  obtain ⟨args, rfl, w2⟩ := wf_l 0 h2
  obtain ⟨v3, t3, rfl, h3, g4⟩ := wf_cons g3
  obtain ⟨tys, rfl, w3⟩ := wf_l 1 h3
  obtain ⟨v4, t4, rfl, h4, g5⟩ := wf_cons g4
  obtain ⟨p, rfl⟩ := wf_a h4
  obtain rfl := wf_nil g5
  exact ⟨op, nm, args, tys, p, rfl, w2, w3⟩
theorem wf_ty {r : List V} (h : wfR r (sh 1) = true) : ∃ k nm nl elem pred p, r = tyR k nm nl elem pred p ∧ wfL elem (sh 1) = true ∧ wfL pred (sh 0) = true := by
  simp only [sh] at h
  have g0 := h
  clear h
  obtain ⟨v0, t0, rfl, h0, g1⟩ := wf_cons g0
  obtain ⟨k, rfl⟩ := wf_n h0
  obtain ⟨v1, t1, rfl, h1, g2⟩ := wf_cons g1
  obtain ⟨nm, rfl⟩ := wf_s h1
  obtain ⟨v2, t2, rfl, h2, g3⟩ := wf_cons g2
  obtain ⟨nl, rfl⟩ := wf_b h2
  obtain ⟨v3, t3, rfl, h3, g4⟩ := wf_cons g3
  obtain ⟨elem, rfl, w3⟩ := wf_l 1 h3
  obtain ⟨v4, t4, rfl, h4, g5⟩ := wf_cons g4
  obtain ⟨pred, rfl, w4⟩ := wf_l 0 h4
  obtain ⟨v5, t5, rfl, h5, g6⟩ := wf_cons g5
  obtain ⟨p, rfl⟩ := wf_a h5
  obtain rfl := wf_nil g6
  exact ⟨k, nm, nl, elem, pred, p, rfl, w3, w4⟩
theorem wf_sm {r : List V} (h : wfR r (sh 2) = true) : ∃ kd nm tys exprs body els p, r = smR kd nm tys exprs body els p ∧ wfL tys (sh 1) = true ∧ wfL exprs (sh 0) = true ∧ wfL body (sh 2) = true ∧ wfL els (sh 2) = true := by
  simp only [sh] at h
  have g0 := h
  clear h
  obtain ⟨v0, t0, rfl, h0, g1⟩ := wf_cons g0
  obtain ⟨kd, rfl⟩ := wf_s h0
  obtain ⟨v1, t1, rfl, h1, g2⟩ := wf_cons g1
  obtain ⟨nm, rfl⟩ := wf_s h1
  obtain ⟨v2, t2, rfl, h2, g3⟩ := wf_cons g2
  obtain ⟨tys, rfl, w2⟩ := wf_l 1 h2
  obtain ⟨v3, t3, rfl, h3, g4⟩ := wf_cons g3
  obtain ⟨exprs, rfl, w3⟩ := wf_l 0 h3
  obtain ⟨v4, t4, rfl, h4, g5⟩ := wf_cons g4
  obtain ⟨body, rfl, w4⟩ := wf_l 2 h4
  obtain ⟨v5, t5, rfl, h5, g6⟩ := wf_cons g5
  obtain ⟨els, rfl, w5⟩ := wf_l 2 h5
  obtain ⟨v6, t6, rfl, h6, g7⟩ := wf_cons g6
  obtain ⟨p, rfl⟩ := wf_a h6
  obtain rfl := wf_nil g7
  exact ⟨kd, nm, tys, exprs, body, els, p, rfl, w2, w3, w4, w5⟩
end Syn
end Go.Proofs.YtomldkljlbdnjaaGreat
/- Texts put together of words, names, signs and blanks: their tokens. No statement of the seat is proved here. -/
namespace Go.Proofs.YtomldkljlbdnjaaGreat
set_option linter.unusedVariables false
set_option linter.unusedSimpArgs false
namespace Lex
/-- A word or a name, with a rest that doesn't go on so. -/
def Wrd (x : List UInt8) : Prop := hdL x = true ∧ x.all isLD = true ∧ x.length ≤ 40
theorem Wrd.of_nm {x : List UInt8} (h : IsNm x) : Wrd x := ⟨h.2.2.1, h.2.2.2.1, h.2.1⟩
theorem isL_notB {c : UInt8} (h : isL c = true) : isB c = false ∧ c.toNat ≠ 47 := by
  unfold isL at h
  unfold isB
  simp only [Bool.or_eq_true, Bool.and_eq_true, decide_eq_true_eq, beq_iff_eq] at h
  constructor
  · simp only [Bool.or_eq_false_iff, beq_eq_false_iff_ne]; omega
  · omega
theorem lx_word {x r : List UInt8} {p : Nat} {ts : List T} {c a : Nat} (hx : Wrd x) (hr : ∀ d ∈ r.head?, isLD d = false) (h : Lx r (p + x.length) ts c a) : Lx (x ++ r) p (⟨1, x, p⟩ :: ts) c a := by
  obtain ⟨h1, h2, h3⟩ := hx
  match x, h1, h2, h3 with
  | d :: x', h1, h2, h3 =>
    have h1 : isL d = true := h1
    obtain ⟨hb, h47⟩ := isL_notB h1
    have hsk : sk ((d :: x') ++ r) = 0 := sk_stop hb (fun k => h47 k.1)
    have hsp : spW ((d :: x') ++ r) = (d :: x').length := tw_app isLD (d :: x') r h2 hr
    have htk : tk ((d :: x') ++ r) = .ok 1 (d :: x').length := by
      show (if isL d then (if 40 < spW ((d :: x') ++ r) then R.bad 2 0 else .ok 1 (spW ((d :: x') ++ r))) else _) = _
      rw [if_pos h1, hsp, if_neg (by omega)]
    have := Lx.tok (l := (d :: x') ++ r) (p := p) (k := 1) (n := (d :: x').length) (ts := ts) (c := c) (a := a) (by rw [hsk]; simp) (by rw [hsk]; exact htk) (by rw [hsk, Nat.zero_add]; simpa using h)
    rw [hsk] at this
    simpa using this
theorem lx_sign {x r : List UInt8} {p : Nat} {ts : List T} {c a : Nat} (h0 : x ≠ []) (hd : ∀ d ∈ x.head?, isL d = false ∧ isD d = false ∧ isB d = false) (h47 : sk (x ++ r) = 0) (hs : sgn (x ++ r) = x.length) (h : Lx r (p + x.length) ts c a) : Lx (x ++ r) p (⟨3, x, p⟩ :: ts) c a := by
  match x, h0, hd, hs with
  | d :: x', _, hd, hs =>
    obtain ⟨k1, k2, k3⟩ := hd d (by simp)
    have htk : tk ((d :: x') ++ r) = .ok 3 (d :: x').length := by
      show (if isL d then _ else if isD d then _ else if sgn ((d :: x') ++ r) = 0 then R.bad 100 0 else .ok 3 (sgn ((d :: x') ++ r))) = _
      rw [if_neg (by simp [k1]), if_neg (by simp [k2]), hs, if_neg (by simp)]
    have := Lx.tok (l := (d :: x') ++ r) (p := p) (k := 3) (n := (d :: x').length) (ts := ts) (c := c) (a := a) (by rw [h47]; simp) (by rw [h47]; exact htk) (by rw [h47, Nat.zero_add]; simpa using h)
    rw [h47] at this
    simpa using this
end Lex
namespace Syn
open Lex (T IsNm)
/-- A part of a text: a word, a name by its number, a sign, a blank. -/
inductive It where
  | w (x : List UInt8)
  | n (i : Nat)
  | s (x : List UInt8)
  | b
/-- What a part is written as, with these names. -/
def It.tx (N : Nat → List UInt8) : It → List UInt8
  | .w x => x
  | .n i => N i
  | .s x => x
  | .b => [32]
def rnd (N : Nat → List UInt8) (l : List It) : List UInt8 := (l.map (It.tx N)).flatten
/-- The tokens, with their places. -/
def tks (N : Nat → List UInt8) : Nat → List It → List T
  | _, [] => []
  | p, .w x :: r => ⟨1, x, p⟩ :: tks N (p + x.length) r
  | p, .n i :: r => ⟨1, N i, p⟩ :: tks N (p + (N i).length) r
  | p, .s x :: r => ⟨3, x, p⟩ :: tks N (p + x.length) r
  | p, .b :: r => tks N (p + 1) r
def wordB (x : List UInt8) : Bool := Lex.hdL x && x.all Lex.isLD && decide (x.length ≤ 40)
/-- May these stand behind one another? -/
def chkI : List It → Bool
  | [] => true
  | .w x :: r => wordB x && (match r with | .w _ :: _ | .n _ :: _ => false | _ => true) && chkI r
  | .n _ :: r => (match r with | .w _ :: _ | .n _ :: _ => false | _ => true) && chkI r
  | .s [c] :: r => decide (c ∈ Lex.ones) && (match r with | .s (d :: _) :: _ => decide ([c, d] ∉ Lex.twos) && decide (c ≠ 47) | .b :: _ => decide ([c, 32] ∉ Lex.twos) | _ => true) && chkI r
  | .s [c, d] :: r => decide ([c, d] ∈ Lex.twos) && chkI r
  | .s _ :: _ => false
  | .b :: r => chkI r
theorem ones_ok : ∀ c ∈ Lex.ones, Lex.isL c = false ∧ Lex.isD c = false ∧ Lex.isB c = false ∧ Lex.isLD c = false := by decide
theorem twos_ok : ∀ x ∈ Lex.twos, ∀ d ∈ x.head?, Lex.isL d = false ∧ Lex.isD d = false ∧ Lex.isB d = false ∧ Lex.isLD d = false ∧ d.toNat ≠ 47 := by decide
theorem twos_snd : ∀ x ∈ Lex.twos, ∀ d ∈ (x.drop 1).head?, Lex.isL d = false := by decide
theorem twos_len : ∀ x ∈ Lex.twos, x.length = 2 := by decide
theorem wordB_ok {x : List UInt8} (h : wordB x = true) : Lex.Wrd x := by
  simp only [wordB, Bool.and_eq_true, decide_eq_true_eq] at h
  exact ⟨h.1.1, h.1.2, h.2⟩
theorem Wrd_head {x r : List UInt8} (h : Lex.Wrd x) : ∃ d t, x ++ r = d :: t ∧ Lex.isL d = true := by
  obtain ⟨h1, _, _⟩ := h
  match x, h1 with
  | d :: t, h1 => exact ⟨d, t ++ r, rfl, h1⟩
section
variable {N : Nat → List UInt8}
/-- What a part begins with. -/
theorem rnd_head : ∀ (r : List It), chkI r = true → (match r with | .w _ :: _ | .n _ :: _ => false | _ => true) = true → ∀ d ∈ (rnd N r).head?, Lex.isLD d = false
  | [], _, _ => by simp [rnd]
  | .w _ :: _, _, h => by simp at h
  | .n _ :: _, _, h => by simp at h
  | .b :: r, _, _ => by
    intro d hd
    simp [rnd, It.tx] at hd
    subst hd
    decide
  | .s [] :: r, h, _ => by simp [chkI] at h
  | .s [c] :: r, h, _ => by
    intro d hd
    simp [rnd, It.tx] at hd
    subst hd
    simp only [chkI, Bool.and_eq_true, decide_eq_true_eq] at h
    exact (ones_ok _ h.1.1).2.2.2
  | .s [c, e] :: r, h, _ => by
    intro d hd
    simp [rnd, It.tx] at hd
    subst hd
    simp only [chkI, Bool.and_eq_true, decide_eq_true_eq] at h
    exact (twos_ok _ h.1 _ (by simp)).2.2.2.1
  | .s (c :: e :: f :: x) :: r, h, _ => by simp [chkI] at h
theorem sgn_one {c : UInt8} {t : List UInt8} (hc : c ∈ Lex.ones) (ht : ∀ d ∈ t.head?, ([c, d] : List UInt8) ∉ Lex.twos) : Lex.sgn (c :: t) = 1 := by
  unfold Lex.sgn
  have h2 : (c :: t).take 2 ∉ Lex.twos := by
    cases t with
    | nil => intro k; have := twos_len _ k; simp at this
    | cons d u => simpa using ht d (by simp)
  rw [if_neg h2, if_pos ⟨c, by simp, hc⟩]
variable (hN : ∀ i, IsNm (N i))
include hN
theorem tks_lx : ∀ (l : List It) (p : Nat), chkI l = true → Lex.Lx (rnd N l) p (tks N p l) 0 0
  | [], p, _ => .done (by simp [rnd])
  | .b :: r, p, h => by
    have := Lex.Lx.blank (tks_lx r (p + 1) (by simpa [chkI] using h))
    simpa [rnd, tks, It.tx] using this
  | .w x :: r, p, h => by
    simp only [chkI, Bool.and_eq_true] at h
    have := Lex.lx_word (wordB_ok h.1.1) (rnd_head r h.2 h.1.2) (tks_lx r (p + x.length) h.2)
    simpa [rnd, tks, It.tx] using this
  | .n i :: r, p, h => by
    simp only [chkI, Bool.and_eq_true] at h
    have := Lex.lx_word (Lex.Wrd.of_nm (hN i)) (rnd_head r h.2 h.1) (tks_lx r (p + (N i).length) h.2)
    simpa [rnd, tks, It.tx] using this
  | .s [] :: r, p, h => by simp [chkI] at h
  | .s (c :: e :: f :: x) :: r, p, h => by simp [chkI] at h
  | .s [c, e] :: r, p, h => by
    simp only [chkI, Bool.and_eq_true, decide_eq_true_eq] at h
    obtain ⟨k1, k2, k3, k4, k5⟩ := twos_ok _ h.1 c (by simp)
    have := Lex.lx_sign (x := [c, e]) (r := rnd N r) (p := p) (by simp) (by intro d hd; simp at hd; subst hd; exact ⟨k1, k2, k3⟩) (Lex.sk_stop k3 (fun k => k5 k.1)) (by
      unfold Lex.sgn
      rw [if_pos (by simpa using h.1)]; rfl) (tks_lx r (p + 2) h.2)
    simpa [rnd, tks, It.tx] using this
  | .s [c] :: r, p, h => by
    simp only [chkI, Bool.and_eq_true, decide_eq_true_eq] at h
    obtain ⟨⟨h1, h2⟩, h3⟩ := h
    obtain ⟨k1, k2, k3, k4⟩ := ones_ok _ h1
    have key : (∀ d ∈ (rnd N r).head?, ([c, d] : List UInt8) ∉ Lex.twos) ∧ ¬ (c.toNat = 47 ∧ ((rnd N r).head?.map (·.toNat)) = some 47) := by
      have lett : ∀ d t, rnd N r = d :: t → Lex.isL d = true → (∀ d ∈ (rnd N r).head?, ([c, d] : List UInt8) ∉ Lex.twos) ∧ ¬ (c.toNat = 47 ∧ ((rnd N r).head?.map (·.toNat)) = some 47) := by
        intro d t e hd
        rw [e]
        refine ⟨fun d' hd' hk => ?_, fun hk => ?_⟩
        · simp at hd'; subst hd'
          have := twos_snd _ hk d (by simp)
          rw [hd] at this; cases this
        · simp at hk
          exact (Lex.isL_notB hd).2 hk.2
      match r, h2, h3 with
      | [], _, _ => simp [rnd]
      | .b :: r, h2, _ =>
        have h2 : ([c, 32] : List UInt8) ∉ Lex.twos := by simpa using h2
        refine ⟨fun d hd => ?_, fun hk => ?_⟩
        · simp [rnd, It.tx] at hd; subst hd; exact h2
        · simp [rnd, It.tx] at hk
      | .w x :: r, _, h3 =>
        simp only [chkI, Bool.and_eq_true] at h3
        obtain ⟨d, t, e, hd⟩ := Wrd_head (r := rnd N r) (wordB_ok h3.1.1)
        exact lett d t (by simpa [rnd, It.tx] using e) hd
      | .n i :: r, _, h3 =>
        obtain ⟨d, t, e, hd⟩ := Wrd_head (r := rnd N r) (Lex.Wrd.of_nm (hN i))
        exact lett d t (by simpa [rnd, It.tx] using e) hd
      | .s [] :: r, _, h3 => simp [chkI] at h3
      | .s (d :: x) :: r, h2, _ =>
        have h2 : ([c, d] : List UInt8) ∉ Lex.twos ∧ c ≠ 47 := by simpa using h2
        refine ⟨fun d' hd => ?_, fun hk => ?_⟩
        · simp [rnd, It.tx] at hd; subst hd; exact h2.1
        · exact h2.2 (UInt8.toNat_inj.1 hk.1)
    have := Lex.lx_sign (x := [c]) (r := rnd N r) (p := p) (by simp) (by intro d hd; simp at hd; subst hd; exact ⟨k1, k2, k3⟩) (Lex.sk_stop k3 key.2) (sgn_one h1 key.1) (tks_lx r (p + 1) h3)
    simpa [rnd, tks, It.tx] using this
end
end Syn
end Go.Proofs.YtomldkljlbdnjaaGreat
