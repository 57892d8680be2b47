/- A text cut into tokens, as lists of bytes: what stands between, one token, all of them; what is cut off, moved, joined. No statement of the seat is proved here. -/
import Derived.WalkKit
namespace Go.Proofs.YtomldkljlbdnjaaGreat
set_option linter.unusedVariables false
set_option linter.unusedSimpArgs false
namespace Lex

/-- A text's bytes, and back. -/
def bs (s : ByteArray) : List UInt8 := s.data.toList
def tx (l : List UInt8) : ByteArray := ⟨l.toArray⟩
theorem tx_bs (s : ByteArray) : tx (bs s) = s := by cases s; simp [tx, bs]
theorem bs_tx (l : List UInt8) : bs (tx l) = l := by simp [tx, bs]
theorem bs_length (s : ByteArray) : (bs s).length = s.size := by simp [bs]
theorem bs_drop (s : ByteArray) (i : Nat) (h : i < s.size) : (bs s).drop i = (s[i]'h) :: (bs s).drop (i + 1) := by
  have h1 : i < (bs s).length := by rw [bs_length]; exact h
  rw [List.drop_eq_getElem_cons h1]
  congr 1
theorem bs_extract (s : ByteArray) (a b : Nat) (h : a ≤ b) : bs (s.extract a b) = ((bs s).drop a).take (b - a) := by
  simp only [bs, ByteArray.data_extract, Array.toList_extract, List.extract_eq_take_drop]

def isL (c : UInt8) : Bool := (97 ≤ c.toNat && c.toNat ≤ 122) || (65 ≤ c.toNat && c.toNat ≤ 90) || c.toNat == 95
def isD (c : UInt8) : Bool := 48 ≤ c.toNat && c.toNat ≤ 57
def isB (c : UInt8) : Bool := c.toNat == 32 || c.toNat == 9 || c.toNat == 10 || c.toNat == 13
def isLD (c : UInt8) : Bool := isL c || isD c
/-- How many bytes stand between (in a remark or not). -/
def skp : Bool → List UInt8 → Nat
  | _, [] => 0
  | true, c :: r => if c.toNat = 10 then skp false r + 1 else skp true r + 1
  | false, c :: r => if isB c then skp false r + 1 else if c.toNat = 47 ∧ (r.head?.map (·.toNat)) = some 47 then skp true r + 1 else 0
def sk (l : List UInt8) : Nat := skp false l
def spW (l : List UInt8) : Nat := (l.takeWhile isLD).length
def spN (l : List UInt8) : Nat := (l.takeWhile isD).length
def twos : List (List UInt8) := [[61, 61], [33, 61], [60, 61], [62, 61], [38, 38], [124, 124], [61, 62]]
def ones : List UInt8 := [40, 41, 123, 125, 91, 93, 44, 59, 58, 46, 61, 60, 62, 43, 45, 42, 47, 37, 33, 124, 63]
def sgn (l : List UInt8) : Nat := if l.take 2 ∈ twos then 2 else if ∃ c ∈ l.head?, c ∈ ones then 1 else 0
inductive R where
  | ok (k n : Nat)
  | bad (c a : Nat)
/-- Does a letter stand ahead? -/
def hdL (l : List UInt8) : Bool := match l with
  | [] => false
  | c :: _ => isL c
def tk (l : List UInt8) : R := match l with
  | [] => .bad 100 0
  | c :: r =>
    if isL c then (if 40 < spW (c :: r) then .bad 2 0 else .ok 1 (spW (c :: r)))
    else if isD c then
      (if 300 < spN (c :: r) then .bad 2 0 else if c.toNat = 48 ∧ 1 < spN (c :: r) then .bad 10 0 else if hdL ((c :: r).drop (spN (c :: r))) then .bad 100 (spN (c :: r)) else .ok 2 (spN (c :: r)))
    else if sgn (c :: r) = 0 then .bad 100 0 else .ok 3 (sgn (c :: r))
/-- A token: kind, text, place. -/
structure T where
  k : Nat
  x : List UInt8
  a : Nat
inductive Lx : List UInt8 → Nat → List T → Nat → Nat → Prop
  | done {l : List UInt8} {p : Nat} : l.length ≤ sk l → Lx l p [] 0 0
  | bad {l : List UInt8} {p c a : Nat} : sk l < l.length → tk (l.drop (sk l)) = .bad c a → Lx l p [] c (p + sk l + a)
  | tok {l : List UInt8} {p k n c a : Nat} {ts : List T} : sk l < l.length → tk (l.drop (sk l)) = .ok k n → Lx (l.drop (sk l + n)) (p + (sk l + n)) ts c a →
      Lx l p (⟨k, (l.drop (sk l)).take n, p + sk l⟩ :: ts) c a
theorem skp_le : ∀ (b : Bool) (l : List UInt8), skp b l ≤ l.length
  | b, [] => by cases b <;> simp [skp]
  | true, c :: r => by
    have h1 := skp_le true r; have h2 := skp_le false r
    simp only [skp, List.length_cons]; split <;> omega
  | false, c :: r => by
    have h1 := skp_le true r; have h2 := skp_le false r
    simp only [skp, List.length_cons]; split
    · omega
    · split <;> omega
theorem sk_le (l : List UInt8) : sk l ≤ l.length := skp_le _ _
theorem tw_le (f : UInt8 → Bool) (l : List UInt8) : (l.takeWhile f).length ≤ l.length := by
  induction l with
  | nil => simp
  | cons c r ih => simp only [List.takeWhile_cons]; split <;> simp <;> omega
theorem sgn_le (l : List UInt8) : sgn l ≤ l.length := by
  unfold sgn
  split
  · rename_i h
    rcases l with _ | ⟨c, _ | ⟨d, r⟩⟩ <;> simp [twos] at h ⊢
  · split
    · rename_i h
      rcases l with _ | ⟨c, r⟩ <;> simp at h ⊢
    · omega
theorem spW_pos {c : UInt8} {r : List UInt8} (h : isL c = true) : 0 < spW (c :: r) := by simp [spW, isLD, h]
theorem spN_pos {c : UInt8} {r : List UInt8} (h : isD c = true) : 0 < spN (c :: r) := by simp [spN, h]
theorem tk_ok {l : List UInt8} {k n : Nat} (h : tk l = .ok k n) : 0 < n ∧ n ≤ l.length := by
  rcases l with _ | ⟨c, r⟩
  · simp [tk] at h
  · have hW := tw_le isLD (c :: r); have hN := tw_le isD (c :: r); have hS := sgn_le (c :: r)
    change spW _ ≤ _ at hW; change spN _ ≤ _ at hN
    simp only [tk] at h
    split at h
    · rename_i hc
      have := spW_pos (r := r) hc
      split at h
      · cases h
      · injection h with h1 h2; subst h2; exact ⟨this, hW⟩
    · split at h
      · rename_i hc
        have := spN_pos (r := r) hc
        split at h
        · cases h
        · split at h
          · cases h
          · split at h
            · cases h
            · injection h with h1 h2; subst h2; exact ⟨this, hN⟩
      · split at h
        · cases h
        · injection h with h1 h2; subst h2; omega
theorem tk_bad {l : List UInt8} {c a : Nat} (h : tk l = .bad c a) : c = 2 ∨ c = 10 ∨ c = 100 := by
  rcases l with _ | ⟨d, r⟩
  · simp [tk] at h; omega
  · simp only [tk] at h
    split at h
    · split at h
      · injection h; omega
      · cases h
    · split at h
      · split at h
        · injection h; omega
        · split at h
          · injection h; omega
          · split at h
            · injection h; omega
            · cases h
      · split at h
        · injection h; omega
        · cases h
theorem Lx.det {l : List UInt8} {p : Nat} {ts ts' : List T} {c a c' a' : Nat} (h : Lx l p ts c a) (h' : Lx l p ts' c' a') : ts = ts' ∧ c = c' ∧ a = a' := by
  induction h generalizing ts' c' a' with
  | done h1 => cases h' with
    | done _ => exact ⟨rfl, rfl, rfl⟩
    | bad h2 _ => omega
    | tok h2 _ _ => omega
  | bad h1 h2 => cases h' with
    | done h3 => omega
    | bad _ h3 => rw [h2] at h3; injection h3 with e1 e2; subst e1 e2; exact ⟨rfl, rfl, rfl⟩
    | tok _ h3 _ => rw [h2] at h3; cases h3
  | tok h1 h2 h3 ih => cases h' with
    | done h4 => omega
    | bad _ h4 => rw [h2] at h4; cases h4
    | tok _ h4 h5 =>
      rw [h2] at h4; injection h4 with e1 e2; subst e1 e2
      obtain ⟨rfl, rfl, rfl⟩ := ih h5
      exact ⟨rfl, rfl, rfl⟩
theorem Lx.code {l : List UInt8} {p : Nat} {ts : List T} {c a : Nat} (h : Lx l p ts c a) : (c = 0 ∧ a = 0) ∨ c = 2 ∨ c = 10 ∨ c = 100 := by
  induction h with
  | done _ => exact Or.inl ⟨rfl, rfl⟩
  | bad _ h => exact Or.inr (tk_bad h)
  | tok _ _ _ ih => exact ih
/-- What tokens there are is told by the whole text. -/
def Out (s : List UInt8) (ts : List T) (c a : Nat) : Prop :=
  (65536 < s.length ∧ ts = [] ∧ c = 2 ∧ a = 65536) ∨ (s.length ≤ 65536 ∧ ∃ ts0, Lx s 0 ts0 c a ∧ ts = if c = 0 then ts0 else [])
theorem Out.det {s : List UInt8} {ts ts' : List T} {c a c' a' : Nat} (h : Out s ts c a) (h' : Out s ts' c' a') : ts = ts' ∧ c = c' ∧ a = a' := by
  rcases h with ⟨h1, rfl, rfl, rfl⟩ | ⟨h1, u, h2, rfl⟩ <;> rcases h' with ⟨h3, rfl, rfl, rfl⟩ | ⟨h3, u', h4, rfl⟩
  · exact ⟨rfl, rfl, rfl⟩
  · omega
  · omega
  · obtain ⟨rfl, rfl, rfl⟩ := h2.det h4; exact ⟨rfl, rfl, rfl⟩
theorem Out.good {s : List UInt8} {ts : List T} {a : Nat} (h : Out s ts 0 a) : s.length ≤ 65536 ∧ Lx s 0 ts 0 0 ∧ a = 0 := by
  rcases h with ⟨_, _, h, _⟩ | ⟨h0, u, h, rfl⟩
  · cases h
  · obtain ⟨_, rfl⟩ := h.code.resolve_right (by omega)
    exact ⟨h0, h, rfl⟩

/- ## what stands between -/
theorem sk_blank {c : UInt8} {r : List UInt8} (h : isB c = true) : sk (c :: r) = sk r + 1 := by simp [sk, skp, h]
theorem sk_stop {c : UInt8} {r : List UInt8} (h : isB c = false) (h2 : ¬ (c.toNat = 47 ∧ (r.head?.map (·.toNat)) = some 47)) : sk (c :: r) = 0 := by simp [sk, skp, h]; intro e1 x hx; simpa [e1, hx] using h2
/-- How far a line goes on. -/
def ln (l : List UInt8) : Nat := (l.takeWhile (fun c => c.toNat != 10)).length
theorem ln_le (l : List UInt8) : ln l ≤ l.length := tw_le _ l
theorem skp_ln : ∀ l : List UInt8, skp true l = ln l + skp false (l.drop (ln l))
  | [] => by simp [skp, ln]
  | c :: r => by
    by_cases h : c.toNat = 10
    · simp [skp, ln, h, isB]
    · have := skp_ln r
      simp only [skp, h, if_false, ln, List.takeWhile_cons, bne_iff_ne, ne_eq, not_false_eq_true, if_true, List.length_cons, List.drop_succ_cons]
      rw [this]; simp only [ln]; omega
theorem sk_remark {c d : UInt8} {r : List UInt8} (h : c.toNat = 47) (h2 : d.toNat = 47) : sk (c :: d :: r) = ln (c :: d :: r) + sk ((c :: d :: r).drop (ln (c :: d :: r))) := by
  have e1 : sk (c :: d :: r) = skp true (d :: r) + 1 := by simp [sk, skp, isB, h, h2]
  have e2 : ln (c :: d :: r) = ln (d :: r) + 1 := by simp [ln, h]
  rw [e1, e2, skp_ln, List.drop_succ_cons]
  simp only [sk]; omega
theorem skp_end : ∀ (b : Bool) (l : List UInt8), skp false (l.drop (skp b l)) = 0
  | b, [] => by cases b <;> simp [skp]
  | true, c :: r => by
    simp only [skp]
    split
    · rw [List.drop_succ_cons]; exact skp_end false r
    · rw [List.drop_succ_cons]; exact skp_end true r
  | false, c :: r => by
    simp only [skp]
    split
    · rw [List.drop_succ_cons]; exact skp_end false r
    · split
      · rw [List.drop_succ_cons]; exact skp_end true r
      · rename_i h1 h2
        rw [List.drop_zero]; simp [skp, h1]; intro e1 x hx; simpa [e1, hx] using h2
theorem sk_end (l : List UInt8) : sk (l.drop (sk l)) = 0 := skp_end false l

/- ## moved -/
/-- What stands between ahead of a text changes nothing but places. -/
theorem Lx.ahead {l l' : List UInt8} {p p' : Nat} {ts : List T} {c a : Nat} (h : Lx l p ts c a) (hd : l'.drop (sk l') = l.drop (sk l)) (hp : p' + sk l' = p + sk l) : Lx l' p' ts c a := by
  have hlen : l'.length - sk l' = l.length - sk l := by rw [← List.length_drop, ← List.length_drop, hd]
  have k1 := sk_le l; have k2 := sk_le l'
  cases h with
  | done h1 => exact .done (by omega)
  | @bad _ _ c a h1 h2 => rw [← hp]; exact .bad (by omega) (by rw [hd]; exact h2)
  | @tok _ _ k n c a ts h1 h2 h3 =>
    have e1 : p' + (sk l' + n) = p + (sk l + n) := by omega
    have e2 : l'.drop (sk l' + n) = l.drop (sk l + n) := by rw [← List.drop_drop, ← List.drop_drop, hd]
    have := Lx.tok (l := l') (p := p') (k := k) (n := n) (ts := ts) (c := c) (a := a) (by omega) (by rw [hd]; exact h2) (by rw [e1, e2]; exact h3)
    rwa [hd, hp] at this

/- ## cut off -/
theorem tw_app (f : UInt8 → Bool) : ∀ (x r : List UInt8), x.all f = true → (∀ c ∈ r.head?, f c = false) → ((x ++ r).takeWhile f).length = x.length
  | [], r, _, h => by
    rcases r with _ | ⟨c, r⟩
    · rfl
    · have := h c (by simp); simp [this]
  | c :: x, r, h1, h2 => by
    simp only [List.all_cons, Bool.and_eq_true] at h1
    simp only [List.cons_append, List.takeWhile_cons, h1.1, if_true, List.length_cons]
    rw [tw_app f x r h1.2 h2]
theorem Lx.places {l : List UInt8} {p : Nat} {ts : List T} {c a : Nat} (h : Lx l p ts c a) : ∀ t ∈ ts, p ≤ t.a ∧ 0 < t.x.length ∧ t.a + t.x.length ≤ p + l.length := by
  induction h with
  | done _ => simp
  | bad _ _ => simp
  | @tok l p k n c a ts h1 h2 h3 ih =>
    obtain ⟨k1, k2⟩ := tk_ok h2
    rw [List.length_drop] at k2
    intro t ht
    rcases List.mem_cons.1 ht with rfl | ht
    · simp only [List.length_take, List.length_drop]; omega
    · have := ih t ht
      rw [List.length_drop] at this
      omega
/- ## joined -/
/-- The same texts, with their kinds, each behind the one before and a blank. -/
def put : Nat → List T → List T
  | _, [] => []
  | p, t :: r => ⟨t.k, t.x, p⟩ :: put (p + t.x.length + 1) r
theorem Lx.blank {r : List UInt8} {p : Nat} {ts : List T} {c a : Nat} (hl : Lx r (p + 1) ts c a) : Lx (32 :: r) p ts c a := by
  have e1 : sk (32 :: r) = sk r + 1 := sk_blank (by decide)
  refine hl.ahead ?_ ?_
  · rw [e1, List.drop_succ_cons]
  · rw [e1]; omega
end Lex
end Go.Proofs.YtomldkljlbdnjaaGreat
