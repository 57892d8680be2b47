/- Contract of suretyref01.Mul; it proves no statement of the seat. -/
import Derived.Test.YteefniagebcagabGreatDoorRInts1JTights
import Derived.Test.YteefniagebcagabGreatDoorJoin11Tights
import Derived.Test.YteefniagebcagabGreatDoorJoin5Tights
namespace Go.Proofs.YteefniagebcagabGreatDoor
open Go.RowKit

theorem val_set_get (B : Nat) : ∀ (zs : List Nat) (k d : Nat), k < zs.length → val B (zs.set k d) + B ^ k * zs.getD k 0 = val B zs + B ^ k * d
  | [], k, _, h => by simp at h
  | z :: r, 0, d, _ => by simp [val]; omega
  | z :: r, k + 1, d, h => by
    have ih := val_set_get B r k d (by simpa using h)
    have e := congrArg (B * ·) ih
    simp only [Nat.mul_add] at e
    simp only [List.set_cons_succ, val, List.getD_cons_succ, Nat.pow_succ]
    rw [Nat.mul_comm (B ^ k) B, Nat.mul_assoc, Nat.mul_assoc]
    omega
/-- A digit is put down, a carry goes on. -/
theorem put_digit {B Z Z' P z d c c' T S : Nat} (hset : Z' + P * z = Z + P * d) (h : Z + P * c = T) (hd : d + B * c' = c + S + z) : Z' + P * B * c' = T + P * S := by
  have e := congrArg (P * ·) hd
  simp only [Nat.mul_add] at e
  rw [Nat.mul_assoc]
  omega
theorem carry_in {k N c T : Nat} (h : 10 ^ k * c ≤ T) (hT : T < 10 ^ N) (hc : 0 < c) : k < N := by
  rcases Nat.lt_or_ge k N with h1 | h1
  · exact h1
  · have h2 : 10 ^ N ≤ 10 ^ k := Nat.pow_le_pow_right (by decide) h1
    have h3 : 10 ^ k * 1 ≤ 10 ^ k * c := Nat.mul_le_mul_left _ hc
    omega
theorem prod_lt {xs ys : List Nat} (i : Nat) (hx : Digs 10 xs) (hy : Digs 10 ys) (hi : i ≤ xs.length) : val 10 (xs.take i) * val 10 ys < 10 ^ (xs.length + ys.length) := by
  have h1 := val_lt (hx.take i)
  rw [List.length_take, Nat.min_eq_left hi] at h1
  have h2 := val_lt hy
  have h3 : val 10 (xs.take i) * val 10 ys < 10 ^ i * 10 ^ ys.length := Nat.mul_lt_mul'' h1 h2
  rw [← Nat.pow_add] at h3
  exact Nat.lt_of_lt_of_le h3 (Nat.pow_le_pow_right (by decide) (by omega))

/-- What lies in the heap while the product grows: the digits, the two numbers, the answer's place. -/
def MulS (w wr : World) (A B : Array Value) (zs : List Nat) : Prop :=
  Row .i64 3 wr (w.heap.size + 1 + 1 + 1) zs ∧ Blk 74 wr w.heap.size A ∧ Blk 74 wr (w.heap.size + 1) B ∧ Blk 74 wr (w.heap.size + 1 + 1) #[.bool false, .slice none 0 0] ∧ Below w.heap.size w wr
theorem MulS.set {w wr : World} {A B : Array Value} {zs : List Nat} (h : MulS w wr A B zs) (k : Nat) (z : Int) (d : Nat) (hz : z = (d : Int)) : MulS w (wr.setCell ⟨w.heap.size + 1 + 1 + 1, k, none⟩ (.int .i64 z)) A B (zs.set k d) :=
  ⟨h.1.set k z d hz, h.2.1.other (by show w.heap.size + 1 + 1 + 1 ≠ _; omega) _, h.2.2.1.other (by show w.heap.size + 1 + 1 + 1 ≠ _; omega) _, h.2.2.2.1.other (by show w.heap.size + 1 + 1 + 1 ≠ _; omega) _, h.2.2.2.2.setCell (p := ⟨w.heap.size + 1 + 1 + 1, k, none⟩) (by show _ ≤ w.heap.size + 1 + 1 + 1; omega) _⟩
theorem MulS.dN {w wr : World} {A B : Array Value} {zs : List Nat} (h : MulS w wr A B zs) (q : Nat) : MulS w (wr.drewN q) A B zs := ⟨h.1, h.2.1, h.2.2.1, h.2.2.2.1, below_dN2 h.2.2.2.2 q⟩

end Go.Proofs.YteefniagebcagabGreatDoor
