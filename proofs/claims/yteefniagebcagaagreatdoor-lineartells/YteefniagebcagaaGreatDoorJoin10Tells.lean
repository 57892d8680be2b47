/- Joined: Vars, Lst, DivP, DivQ: words and contracts; no statement of the seat is proved here. -/
import Derived.Test.YteefniagebcagaaGreatDoorJoin9Tells
import Derived.Test.YteefniagebcagaaGreatDoorJoin2Tells
import Derived.Test.YteefniagebcagaaGreatDoorJoin5Tells
/- Numbers held by variables (boxed), and arith's calls with what they hold by one rule; they prove no statement of the seat. -/
namespace Go.Proofs.YteefniagebcagaaGreatDoor
open Go.RowKit

/-- What a call holds of a number: the number, or 0 where it is too large. -/
def hz (z : Int) : Int := if z.natAbs < lim then z else 0
/-- The code that a call tells with it. -/
def ec (z : Int) : Int := if z.natAbs < lim then 0 else 11

theorem hz_of {z : Int} (h : z.natAbs < lim) : hz z = z := if_pos h
theorem ec_of {z : Int} (h : z.natAbs < lim) : ec z = 0 := if_pos h
theorem ec_not {z : Int} (h : ¬ z.natAbs < lim) : ec z = 11 := if_neg h

theorem Held.code {w : World} {v : Value} {c z : Int} (h : Held w v c z) : c = ec z ∧ AInt w v (hz z) := by
  rcases h with ⟨h1, h2, h3⟩ | ⟨h1, h2, h3⟩
  · rw [ec_of h2, hz_of h2]; exact ⟨h1, h3⟩
  · have h4 : ¬ z.natAbs < lim := Nat.not_lt.2 h2
    refine ⟨by rw [ec_not h4]; exact h1, ?_⟩
    have e : hz z = 0 := if_neg h4
    rw [e]; exact h3

theorem AInt.lt {w : World} {v : Value} {z : Int} (h : AInt w v z) : z.natAbs < lim := by
  obtain ⟨neg, xs, _, h2, h3⟩ := h
  rw [h2, sv_natAbs]; exact h3

theorem below_new (w : World) (o : Obj) : Below w.heap.size w (w.alloc o) := (Below.refl _ _).alloc (Nat.le_refl _) _
theorem add_h (va vb : Value) (x y : Int) (w : World) (ha : AInt w va x) (hb : AInt w vb y) :
    Calls Tryz.prog 50 #[va, vb] w fun e w' => ∃ s a n c, e = .returned (.tuple #[.agg #[.bool s, .slice a n c], .int .i64 (ec (x + y))]) ∧ AInt w' (.agg #[.bool s, .slice a n c]) (hz (x + y)) ∧ Below w.heap.size w w' := by
  refine (add_any va vb x y w ha hb).mono ?_
  rintro e w' ⟨v, c, rfl, hh, hb⟩
  obtain ⟨rfl, h⟩ := hh.code
  obtain ⟨s, a, n, c, rfl⟩ := h.shape
  exact ⟨s, a, n, c, rfl, h, hb⟩
theorem mul_h (va vb : Value) (x y : Int) (w : World) (ha : AInt w va x) (hb : AInt w vb y) :
    Calls Tryz.prog 67 #[va, vb] w fun e w' => ∃ s a n c, e = .returned (.tuple #[.agg #[.bool s, .slice a n c], .int .i64 (ec (x * y))]) ∧ AInt w' (.agg #[.bool s, .slice a n c]) (hz (x * y)) ∧ Below w.heap.size w w' := by
  refine (mul_any va vb x y w ha hb).mono ?_
  rintro e w' ⟨v, c, rfl, hh, hb⟩
  obtain ⟨rfl, h⟩ := hh.code
  obtain ⟨s, a, n, c, rfl⟩ := h.shape
  exact ⟨s, a, n, c, rfl, h, hb⟩
theorem sign_h (va : Value) (x : Int) (w : World) (ha : AInt w va x) :
    Calls Tryz.prog 63 #[va] w fun e w' => e = .returned (.int .i64 x.sign) ∧ Below w.heap.size w w' := by
  obtain ⟨neg, xs, h1, h2, h3⟩ := ha
  rw [h2]
  exact sign_any va neg xs w h1
end Go.Proofs.YteefniagebcagaaGreatDoor
/- Words for slices of structs of a sign and a slice: what they hold, and the law of one append; no statement of the seat is proved here. -/
namespace Go.Proofs.YteefniagebcagaaGreatDoor
open Go.RowKit

/-- All cells that hold machine numbers hold them still. -/
def KeepI (w w' : World) : Prop := (∀ p k x, w.cell? p = some (.int k x) → w'.cell? p = some (.int k x)) ∧ ∀ (b : Nat) (cs : Array Value) (t : TypeId), w.heap[b]? = some (.cells cs t (0, 0)) → ∃ cs', w'.heap[b]? = some (.cells cs' t (0, 0))
section
variable {e : TypeId} {base : Nat} {w w' : World} {v : Value} {n : Nat} {xs : List Value}
end

theorem mem_zeroCells {z : Array Value} {n : Nat} {u : Value} (h : u ∈ (Builtin.zeroCells z n).toList) : u ∈ z.toList := by
  simp [Builtin.zeroCells] at h
  obtain ⟨a, ha, rfl⟩ := h
  have hz : 0 < z.size := by
    rcases Nat.eq_zero_or_pos z.size with k | k
    · rw [k, Nat.mul_zero] at ha; omega
    · exact k
  have hm := Nat.mod_lt a hz
  rw [getElem!_pos z (a % z.size) hm]
  simp
end Go.Proofs.YteefniagebcagaaGreatDoor
/- Plain facts for the long division: windows of a list, one step, the guess of a limb; no program is spoken of here. -/
namespace Go.Proofs.YteefniagebcagaaGreatDoor
open Go.RowKit

theorem mid_get (a b c : List Nat) (o k : Nat) (ho : a.length = o) (h : k < b.length) : (a ++ (b ++ c)).getD (o + k) 0 = b.getD k 0 := by
  subst ho
  rw [List.getD_eq_getElem?_getD, List.getElem?_append_right (by omega), Nat.add_sub_cancel_left, List.getElem?_append_left h, ← List.getD_eq_getElem?_getD]
theorem mid_set (a b c : List Nat) (o k d : Nat) (ho : a.length = o) (h : k < b.length) : (a ++ (b ++ c)).set (o + k) d = a ++ (b.set k d ++ c) := by
  subst ho
  rw [List.set_append_right _ _ (Nat.le_add_right _ _), Nat.add_sub_cancel_left, List.set_append_left _ _ h]

theorem take_step (P A m Y X c b y x l c' d b' B : Nat) (h : A + m * Y = X + P * (c + b)) (hp : m * y + c = l + B * c') (hs : d + l + b = x + B * b') : (A + P * d) + m * (Y + P * y) = (X + P * x) + P * B * (c' + b') := by
  have e : d + m * y + (c + b) = x + B * (c' + b') := by rw [Nat.mul_add]; omega
  have e2 := congrArg (P * ·) e
  simp only [Nat.mul_add] at e2 h ⊢
  rw [Nat.mul_left_comm m P y, Nat.mul_assoc P B c', Nat.mul_assoc P B b']
  omega
theorem take_last (P A Y X c b x d b' B : Nat) (h : A + Y = X + P * (c + b)) (hs : d + c + b = x + B * b') : (A + P * d) + Y = (X + P * x) + P * B * b' := by
  have e2 := congrArg (P * ·) hs
  simp only [Nat.mul_add] at e2 h
  rw [Nat.mul_assoc P B b']
  omega
theorem put_step (P A Y X c y x d c' B : Nat) (h : A + P * c = X + Y) (hs : d + B * c' = x + y + c) : (A + P * d) + P * B * c' = (X + P * x) + (Y + P * y) := by
  have e2 := congrArg (P * ·) hs
  simp only [Nat.mul_add] at e2
  rw [Nat.mul_assoc P B c']
  omega

/-- The guess is not too small .. -/
theorem guess_low {u v U V ul vl P B g : Nat} (hu : u = U * P + ul) (hul : ul < P) (hv : v = V * P + vl) (hb : u < B * v) (hg : U / V ≤ g ∨ B ≤ g + 1) (hV : 0 < V) : u / v ≤ g := by
  have hP : 0 < P := by omega
  have hv0 : 0 < v := by rw [hv]; have := Nat.mul_pos hV hP; omega
  rcases hg with h | h
  · refine Nat.le_trans ?_ h
    rw [Nat.le_div_iff_mul_le hV]
    have h1 : u / v * v ≤ u := Nat.div_mul_le_self u v
    have h2 : u / v * (V * P) ≤ u / v * v := Nat.mul_le_mul_left _ (by omega)
    rw [← Nat.mul_assoc] at h2
    have h3 : u / v * V * P < (U + 1) * P := by rw [Nat.add_mul, Nat.one_mul]; omega
    have := Nat.lt_of_mul_lt_mul_right h3
    omega
  · have : u / v < B := by rw [Nat.div_lt_iff_lt_mul hv0]; exact hb
    omega
/-- .. and too great by 1 at most. -/
theorem guess_high {u v U V ul vl P B g : Nat} (hu : u = U * P + ul) (hv : v = V * P + vl) (hvl : vl < P) (hg : g * V ≤ U) (hgB : g < B) (hvB : B * P ≤ v) : g ≤ u / v + 1 := by
  have hv0 : 0 < v := by have := Nat.mul_pos (show 0 < B by omega) (show 0 < P by omega); omega
  have h1 : g * v ≤ u + v := by
    rw [hv, Nat.mul_add, ← Nat.mul_assoc, ← hv]
    have h2 : g * V * P ≤ U * P := Nat.mul_le_mul_right _ hg
    have h3 : g * vl ≤ B * P := Nat.mul_le_mul (Nat.le_of_lt hgB) (Nat.le_of_lt hvl)
    omega
  have h4 : g ≤ (u + v) / v := by rw [Nat.le_div_iff_mul_le hv0]; exact h1
  rwa [Nat.add_div_right _ hv0] at h4

theorem val_three (B : Nat) (xs : List Nat) (m : Nat) (h : xs.length = m + 3) : val B xs = ((xs.getD (m + 2) 0 * B + xs.getD (m + 1) 0) * B + xs.getD m 0) * B ^ m + val B (xs.take m) := by
  have e : xs = xs.take (m + 3) := by rw [List.take_of_length_le (by omega)]
  rw [e, val_take_succ B xs (m + 2) (by omega), val_take_succ B xs (m + 1) (by omega), val_take_succ B xs m (by omega), ← e, show B ^ (m + 2) = B ^ m * B * B by rw [Nat.pow_succ, Nat.pow_succ], Nat.pow_succ]
  simp only [Nat.add_mul]
  generalize B ^ m = P
  generalize xs.getD (m + 2) 0 = a
  generalize xs.getD (m + 1) 0 = b
  generalize xs.getD m 0 = c
  simp only [Nat.mul_comm, Nat.mul_left_comm]
  omega
theorem val_two (B : Nat) (xs : List Nat) (m : Nat) (h : xs.length = m + 2) : val B xs = (xs.getD (m + 1) 0 * B + xs.getD m 0) * B ^ m + val B (xs.take m) := by
  have e : xs = xs.take (m + 2) := by rw [List.take_of_length_le (by omega)]
  rw [e, val_take_succ B xs (m + 1) (by omega), val_take_succ B xs m (by omega), ← e, Nat.pow_succ]
  simp only [Nat.add_mul]
  generalize B ^ m = P
  generalize xs.getD (m + 1) 0 = b
  generalize xs.getD m 0 = c
  rw [Nat.mul_comm P c, Nat.mul_comm (P * B) b, Nat.mul_comm P B]
  simp only [Nat.mul_assoc]
  omega

/-- One step of the division, out of a guess. -/
theorem step_low {u v g u' b T : Nat} (hg : g ≤ u / v) (hu' : u' < T) (h : u' + g * v = u + T * b) (hb : b ≤ 1) (hlow : u / v ≤ g) : b = 0 ∧ g = u / v ∧ u' = u % v := by
  have e : g = u / v := by omega
  have h1 : g * v ≤ u := by rw [e]; exact Nat.div_mul_le_self u v
  have hb0 : b = 0 := by
    rcases Nat.eq_zero_or_pos b with k | k
    · exact k
    · have : b = 1 := by omega
      subst this; omega
  subst hb0
  refine ⟨rfl, e, ?_⟩
  have h2 := Nat.div_add_mod u v
  rw [Nat.mul_comm, ← e] at h2
  omega
theorem step_high {u v g u' b T u2 c : Nat} (hv : 0 < v) (hg : g = u / v + 1) (_hu' : u' < T) (h : u' + g * v = u + T * b) (_hb : b ≤ 1) (hu2 : u2 < T) (hc : u2 + T * c = u' + v) (hc1 : c ≤ 1) : b = 1 ∧ u2 = u % v := by
  have h1 := Nat.div_add_mod u v
  have h2 := Nat.mod_lt u hv
  rw [Nat.mul_comm] at h1
  rw [hg, Nat.add_mul, Nat.one_mul] at h
  have hb1 : b = 1 := by
    rcases Nat.eq_zero_or_pos b with k | k
    · subst k; omega
    · omega
  subst hb1
  refine ⟨rfl, ?_⟩
  have : c = 1 := by
    rcases Nat.eq_zero_or_pos c with k | k
    · subst k; omega
    · omega
  subst this
  omega
end Go.Proofs.YteefniagebcagaaGreatDoor
/- Plain facts for the long division: shifts, the window's neighbours, start, step and end; no program is spoken of here. -/
namespace Go.Proofs.YteefniagebcagaaGreatDoor
open Go.RowKit

theorem down_step (P Q a b D : Nat) (hP : 0 < P) (ha : a < P * Q) (hb : D % P = b % P) : (a + P * Q * D) / P = ((a + P * Q * b) / P) % (P * Q) + P * Q * (D / P) := by
  have e1 (x : Nat) : (a + P * Q * x) / P = a / P + Q * x := by rw [Nat.mul_assoc, Nat.add_mul_div_left _ _ hP]
  have h1 : a / P < Q := by rw [Nat.div_lt_iff_lt_mul hP, Nat.mul_comm]; exact ha
  have e2 (x : Nat) : a / P + Q * x = (a / P + Q * (x % P)) + P * Q * (x / P) := by
    have h2 := Nat.mod_add_div x P
    have h3 : Q * x = Q * (x % P) + P * Q * (x / P) := by
      rw [Nat.mul_comm P Q, Nat.mul_assoc, ← Nat.mul_add, h2]
    omega
  have h4 : a / P + Q * (b % P) < P * Q := by
    have h5 := Nat.mod_lt b hP
    have h6 : Q * (b % P + 1) ≤ Q * P := Nat.mul_le_mul_left _ h5
    rw [Nat.mul_add, Nat.mul_one, Nat.mul_comm Q P] at h6
    omega
  rw [e1, e1, e2 b, Nat.add_mul_mod_self_left, Nat.mod_eq_of_lt h4, e2 D, hb]

theorem up_step (Pk A c X x P d h B : Nat) (h0 : A + Pk * c = X * P) (h1 : d + B * h = x * P + c) : (A + Pk * d) + Pk * B * h = (X + Pk * x) * P := by
  have e := congrArg (Pk * ·) h1
  simp only [Nat.mul_add] at e
  rw [Nat.add_mul, Nat.mul_assoc Pk B h, Nat.mul_assoc Pk x P]
  omega
theorem shl_or (s t c : Nat) (hc : c < 2 ^ s) : 2 ^ s * t ||| c = 2 ^ s * t + c := by
  rw [Nat.mul_comm, ← Nat.shiftLeft_eq, Nat.shiftLeft_add_eq_or_of_lt hc]

theorem val_cut (B : Nat) (xs : List Nat) (k : Nat) (h : k ≤ xs.length) : val B xs = val B (xs.take k) + B ^ k * val B (xs.drop k) := by
  have e := val_append B (xs.take k) (xs.drop k)
  rw [List.take_append_drop, List.length_take, Nat.min_eq_left h] at e
  exact e
theorem val_drop_cons (B : Nat) (xs : List Nat) (k : Nat) (h : k < xs.length) : val B (xs.drop k) = xs.getD k 0 + B * val B (xs.drop (k + 1)) := by
  rw [List.drop_eq_getElem_cons h]
  show _ + _ = _
  simp [List.getElem?_eq_getElem h]

/-- The window's rest: what lies above it is 0, and the window is below B times the divisor. -/
theorem win_facts {B V n : Nat} {R : List Nat} {j : Nat} (hB : 0 < B) (hd : Digs B R) (hl : j + n + 1 ≤ R.length) (hV : V ≤ B ^ n) (h : val B (R.drop (j + 1)) < V) :
    val B (R.drop (j + n + 1)) = 0 ∧ val B ((R.drop j).take (n + 1)) = val B (R.drop j) ∧ val B (R.drop j) < B * V := by
  have e1 := val_cut B (R.drop (j + 1)) n (by rw [List.length_drop]; omega)
  rw [List.drop_drop, show j + 1 + n = j + n + 1 by omega] at e1
  have z : val B (R.drop (j + n + 1)) = 0 := by
    rcases Nat.eq_zero_or_pos (val B (R.drop (j + n + 1))) with k | k
    · exact k
    · have := Nat.mul_le_mul_left (B ^ n) k
      omega
  refine ⟨z, ?_, ?_⟩
  · have e2 := val_cut B (R.drop j) (n + 1) (by rw [List.length_drop]; omega)
    rw [List.drop_drop, show j + (n + 1) = j + n + 1 by omega, z] at e2
    omega
  · rw [val_drop_cons B R j (by omega)]
    have h2 := hd.getD hB j
    have h3 : B * (val B (R.drop (j + 1)) + 1) ≤ B * V := Nat.mul_le_mul_left _ h
    rw [Nat.mul_add] at h3
    omega

theorem knuth_step (U V Q R T P W q W' B : Nat) (h : U = V * (P * B * Q) + R) (hR : R = T + P * W) (hW : W = V * q + W') : U = V * (P * (q + B * Q)) + (T + P * W') := by
  subst hR hW
  rw [h]
  simp only [Nat.mul_add, Nat.mul_assoc, Nat.mul_left_comm P V]
  omega
theorem knuth_end {U V Q R X Y S : Nat} (hS : 0 < S) (h : U = V * Q + R) (hR : R < V) (hU : U = X * S) (hV : V = Y * S) : Q = X / Y ∧ R / S = X % Y := by
  have hV0 : 0 < V := by omega
  have h1 : U / V = Q := by rw [h, Nat.mul_add_div hV0, Nat.div_eq_of_lt hR, Nat.add_zero]
  have h2 : U % V = R := by rw [h, Nat.mul_add_mod, Nat.mod_eq_of_lt hR]
  rw [hU, hV, Nat.mul_div_mul_right _ _ hS] at h1
  rw [hU, hV, Nat.mul_mod_mul_right] at h2
  refine ⟨h1.symm, ?_⟩
  rw [← h2, Nat.mul_div_cancel _ hS]
theorem knuth_start {B V X S la n L r : Nat} {R : List Nat} (hl : R.length = la + 1) (hR : val B R = X * S) (hX : X < B ^ la) (hn : 0 < n) (hL : L + n = la + 1) (hr : B ^ (n - 1) * r ≤ V) (hS : S ≤ r) (hS0 : 0 < S) : val B (R.drop L) < V := by
  have e := val_cut B R L (by omega)
  rw [hR] at e
  have h1 : X * S < B ^ la * S := Nat.mul_lt_mul_of_pos_right hX hS0
  have e2 : B ^ la = B ^ L * B ^ (n - 1) := by rw [← Nat.pow_add]; congr 1; omega
  rw [e2, Nat.mul_assoc] at h1
  have h2 : B ^ L * val B (R.drop L) < B ^ L * (B ^ (n - 1) * S) := by omega
  have h3 := Nat.lt_of_mul_lt_mul_left h2
  have h4 : B ^ (n - 1) * S ≤ B ^ (n - 1) * r := Nat.mul_le_mul_left _ hS
  omega

theorem norm_length {B n : Nat} {l : List Nat} (hB : 2 ≤ B) (hn : Norm l) (hd : Digs B l) (h0 : 0 < n) (h1 : B ^ (n - 1) ≤ val B l) (h2 : val B l < B ^ n) : l.length = n := by
  have h3 := val_lt hd
  have h4 : n - 1 < l.length := by
    rcases Nat.lt_or_ge (n - 1) l.length with k | k
    · exact k
    · have := Nat.pow_le_pow_right (show 0 < B by omega) k
      omega
  have h5 := hn.ge (B := B) (List.ne_nil_of_length_pos (by omega)) (by omega)
  have h6 : l.length - 1 < n := by
    rcases Nat.lt_or_ge (l.length - 1) n with k | k
    · exact k
    · have := Nat.pow_le_pow_right (show 0 < B by omega) k
      omega
  omega
end Go.Proofs.YteefniagebcagaaGreatDoor
