/- Contract of suretyref01's Show; it proves no statement of the seat. -/
import Derived.Test.YteefniagebcagaaGreatDoorOwnCJTells
namespace Go.Proofs.YteefniagebcagaaGreatDoor
open Go.RowKit

theorem grown_bounds (w : World) (n : Nat) (e : TypeId) (h : n ≤ 10) : n ≤ grownCap w n 0 e ∧ grownCap w n 0 e ≤ maxLen :=
  ⟨grownCap_ge w n 0 e, grownCap_le_maxLen w n 0 e (by unfold maxLen; omega)⟩

set_option maxHeartbeats 2000000 in
theorem show_aux (neg : Bool) (pre : ByteArray) (hpre : bs pre = if neg = true then [45] else []) (ao : Option Addr) (cap : Nat) (ds : List Nat) (w : World) (hl : ds.length ≤ 20000) (hp : 0 < ds.length) (hs : Seg .i64 w ao ds) (hd : Digs 10 ds) (hn : Norm ds) :
    Calls Tryz.prog 32 #[.agg #[.bool neg, .slice ao ds.length cap]] w fun e w' => ∃ S, e = .returned (.string S) ∧ TextOf S (sv neg (val 10 ds)) ∧ Below w.heap.size w w' := by
  have B0 := Blk.new w 39 #[.bool neg, .slice ao ds.length cap]
  have hz : ((ds.length : Int) == 0) = false := by rw [beq_eq_false_iff_ne]; omega
  have HP : Hid (0 < ds.length) := hp
  have HPRE : Hid (bs pre = if neg = true then [45] else []) := hpre
  have hconv := fun (w : World) => run_bytes_of_string (P := Tryz.prog) w 9 126 5 pre Tryz.underlying9 Tryz.underlying126 Tryz.underlying5
  clear hp hpre
  cases neg with
  | true =>
    have hpe : pre = ⟨#[45]⟩ := bs_inj (by rw [HPRE.out]; rfl)
    subst hpe
    have hgb := grown_bounds (w.alloc (.cells #[.bool true, .slice ao ds.length cap] 39)) 1 5 (by decide)
    have h0 := ownc_of_string (w.alloc (.cells #[.bool true, .slice ao ds.length cap] 39)) 5 ⟨#[45]⟩ (grownCap (w.alloc (.cells #[.bool true, .slice ao ds.length cap] 39)) 1 0 5) hgb.1 hgb.2 (w.heap.size + 1) (by simp)
    have HO : Hid (OwnC .u8 (w.heap.size + 1) (((w.alloc (.cells #[.bool true, .slice ao ds.length cap] 39))).drew.alloc (.cells (bytesRow ⟨#[45]⟩ (grownCap (w.alloc (.cells #[.bool true, .slice ao ds.length cap] 39)) 1 0 5)) 5 ((bytesRow ⟨#[45]⟩ (grownCap (w.alloc (.cells #[.bool true, .slice ao ds.length cap] 39)) 1 0 5)).size, (bytesRow ⟨#[45]⟩ (grownCap (w.alloc (.cells #[.bool true, .slice ao ds.length cap] 39)) 1 0 5)).size + 1))) (.slice (some ⟨((w.alloc (.cells #[.bool true, .slice ao ds.length cap] 39))).heap.size, 0, none⟩) 1 (grownCap (w.alloc (.cells #[.bool true, .slice ao ds.length cap] 39)) 1 0 5)) [45]) := h0
    clear h0 hgb
    go_enter Tryz.func32, Tryz.ntmps32
    go_wp2
    go_loopw [4, 5] (fun v i wr => ∃ k : Nat, k ≤ ds.length ∧ i = .int .i64 ((k : Int) - 1) ∧ OwnC .u8 (w.heap.size + 1) wr v ([45] ++ (byt (ds.drop k)).reverse) ∧ Below (w.heap.size + 1) (w.alloc (.cells #[.bool true, .slice ao ds.length cap] 39)) wr) (fun _ i _ => (intOf i + 1).toNat)
    case atStart =>
      refine ⟨ds.length, Nat.le_refl _, rfl, ?_, ?_⟩
      · rw [List.drop_length]
        have h1 := HO.out
        simp only [World.size_alloc] at h1
        have e0 : [45] ++ (byt []).reverse = [45] := by simp [byt]
        rw [e0]
        exact h1
      · exact ((Below.refl _ _).alloc (by simp) _).drew
    case round =>
      obtain ⟨k, hk, rfl, hown, hbel⟩ := hrel
      have B1 := B0.keep hbel (by omega)
      obtain ⟨c0, c1, f0, f1⟩ := B1.two
      have hbw : Below w.heap.size w wr := ((Below.refl _ _).alloc (Nat.le_refl _) _).trans (hbel.mono (by omega))
      by_cases h0 : 0 < k
      · obtain ⟨j, rfl⟩ : ∃ j, k = j + 1 := ⟨k - 1, by omega⟩
        obtain ⟨b, off, rfl, hc⟩ := (hs.below hbw).open j (by omega)
        have hcell := hc j (by omega)
        obtain ⟨x, hx⟩ : ∃ x, x = ds.getD j 0 := ⟨_, rfl⟩
        rw [← hx] at hcell
        have hx10 : x < 10 := hx ▸ hd.getD (by decide) j
        have HX : Hid (x = ds.getD j 0) := hx
        have HZL : Hid (([45] ++ (byt (ds.drop (j + 1))).reverse).length ≤ 100000) := by
          show _ ≤ _
          rw [List.length_append, List.length_reverse, byt_length, List.length_drop]
          simp; omega
        have HSZ : Hid (w.heap.size + 1 ≤ wr.heap.size) := by have := hbel.size; simp at this; exact this
        clear hc hx
        go_wp2_with (at_builtin; refine wpList_append_c rfl (.tmp 22) (.tmp 30) 126 rfl (w.heap.size + 1) 5 .u8 1 Tryz.underlying126 Tryz.info5 (by decide) _ _ rfl hown _ (48 + x) (by omega) rfl HZL.out HSZ.out ?_; intro v' w3 hown3 hbel3)
        go_roundw
        case rel =>
          refine ⟨j, by omega, rfl, ?_, hbel.trans hbel3⟩
          rw [drop_cons_getD ds j (by omega), ← HX.out]
          have e : [45] ++ (byt (x :: ds.drop (j + 1))).reverse = ([45] ++ (byt (ds.drop (j + 1))).reverse) ++ [48 + x] := by simp [byt]
          rw [e]
          exact hown3
        case measure => simp [intOf]
      · have hk0 : k = 0 := by omega
        subst hk0
        rw [List.drop_zero] at hown
        obtain ⟨S, hS, hcv⟩ := ownc_convert (P := Tryz.prog) (src := 126) hown (by
          intro z hz
          rcases List.mem_append.1 hz with h | h
          · simp at h <;> omega
          · exact byt_lt ds hd z (List.mem_reverse.1 h)) Tryz.underlying126 Tryz.underlying5 9 Tryz.underlying9
        have HS : Hid (bs S = [45] ++ (byt ds).reverse) := hS
        clear hS
        go_wp2
        go_ret
        refine ⟨_, rfl, ⟨true, ds, hn, hd, fun h => absurd h (by have := HP.out; omega), rfl, ?_⟩, hbw⟩
        rw [HS.out, showB, if_neg (by have := HP.out; omega)]
        rfl
  | false =>
    have hpe : pre = ⟨#[]⟩ := bs_inj (by rw [HPRE.out]; rfl)
    subst hpe
    have hgb := grown_bounds (w.alloc (.cells #[.bool false, .slice ao ds.length cap] 39)) 0 5 (by decide)
    have h0 := ownc_of_string (w.alloc (.cells #[.bool false, .slice ao ds.length cap] 39)) 5 ⟨#[]⟩ (grownCap (w.alloc (.cells #[.bool false, .slice ao ds.length cap] 39)) 0 0 5) hgb.1 hgb.2 (w.heap.size + 1) (by simp)
    have HO : Hid (OwnC .u8 (w.heap.size + 1) (((w.alloc (.cells #[.bool false, .slice ao ds.length cap] 39))).drew.alloc (.cells (bytesRow ⟨#[]⟩ (grownCap (w.alloc (.cells #[.bool false, .slice ao ds.length cap] 39)) 0 0 5)) 5 ((bytesRow ⟨#[]⟩ (grownCap (w.alloc (.cells #[.bool false, .slice ao ds.length cap] 39)) 0 0 5)).size, (bytesRow ⟨#[]⟩ (grownCap (w.alloc (.cells #[.bool false, .slice ao ds.length cap] 39)) 0 0 5)).size + 1))) (.slice (some ⟨((w.alloc (.cells #[.bool false, .slice ao ds.length cap] 39))).heap.size, 0, none⟩) 0 (grownCap (w.alloc (.cells #[.bool false, .slice ao ds.length cap] 39)) 0 0 5)) ([] : List Nat)) := h0
    clear h0 hgb
    go_enter Tryz.func32, Tryz.ntmps32
    go_wp2
    go_loopw [4, 5] (fun v i wr => ∃ k : Nat, k ≤ ds.length ∧ i = .int .i64 ((k : Int) - 1) ∧ OwnC .u8 (w.heap.size + 1) wr v (([] : List Nat) ++ (byt (ds.drop k)).reverse) ∧ Below (w.heap.size + 1) (w.alloc (.cells #[.bool false, .slice ao ds.length cap] 39)) wr) (fun _ i _ => (intOf i + 1).toNat)
    case atStart =>
      refine ⟨ds.length, Nat.le_refl _, rfl, ?_, ?_⟩
      · rw [List.drop_length]
        have h1 := HO.out
        simp only [World.size_alloc] at h1
        have e0 : ([] : List Nat) ++ (byt []).reverse = ([] : List Nat) := by simp [byt]
        rw [e0]
        exact h1
      · exact ((Below.refl _ _).alloc (by simp) _).drew
    case round =>
      obtain ⟨k, hk, rfl, hown, hbel⟩ := hrel
      have B1 := B0.keep hbel (by omega)
      obtain ⟨c0, c1, f0, f1⟩ := B1.two
      have hbw : Below w.heap.size w wr := ((Below.refl _ _).alloc (Nat.le_refl _) _).trans (hbel.mono (by omega))
      by_cases h0 : 0 < k
      · obtain ⟨j, rfl⟩ : ∃ j, k = j + 1 := ⟨k - 1, by omega⟩
        obtain ⟨b, off, rfl, hc⟩ := (hs.below hbw).open j (by omega)
        have hcell := hc j (by omega)
        obtain ⟨x, hx⟩ : ∃ x, x = ds.getD j 0 := ⟨_, rfl⟩
        rw [← hx] at hcell
        have hx10 : x < 10 := hx ▸ hd.getD (by decide) j
        have HX : Hid (x = ds.getD j 0) := hx
        have HZL : Hid ((([] : List Nat) ++ (byt (ds.drop (j + 1))).reverse).length ≤ 100000) := by
          show _ ≤ _
          rw [List.length_append, List.length_reverse, byt_length, List.length_drop]
          simp; omega
        have HSZ : Hid (w.heap.size + 1 ≤ wr.heap.size) := by have := hbel.size; simp at this; exact this
        clear hc hx
        go_wp2_with (at_builtin; refine wpList_append_c rfl (.tmp 22) (.tmp 30) 126 rfl (w.heap.size + 1) 5 .u8 1 Tryz.underlying126 Tryz.info5 (by decide) _ _ rfl hown _ (48 + x) (by omega) rfl HZL.out HSZ.out ?_; intro v' w3 hown3 hbel3)
        go_roundw
        case rel =>
          refine ⟨j, by omega, rfl, ?_, hbel.trans hbel3⟩
          rw [drop_cons_getD ds j (by omega), ← HX.out]
          have e : ([] : List Nat) ++ (byt (x :: ds.drop (j + 1))).reverse = (([] : List Nat) ++ (byt (ds.drop (j + 1))).reverse) ++ [48 + x] := by simp [byt]
          rw [e]
          exact hown3
        case measure => simp [intOf]
      · have hk0 : k = 0 := by omega
        subst hk0
        rw [List.drop_zero] at hown
        obtain ⟨S, hS, hcv⟩ := ownc_convert (P := Tryz.prog) (src := 126) hown (by
          intro z hz
          rcases List.mem_append.1 hz with h | h
          · simp at h <;> omega
          · exact byt_lt ds hd z (List.mem_reverse.1 h)) Tryz.underlying126 Tryz.underlying5 9 Tryz.underlying9
        have HS : Hid (bs S = ([] : List Nat) ++ (byt ds).reverse) := hS
        clear hS
        go_wp2
        go_ret
        refine ⟨_, rfl, ⟨false, ds, hn, hd, fun h => absurd h (by have := HP.out; omega), rfl, ?_⟩, hbw⟩
        rw [HS.out, showB, if_neg (by have := HP.out; omega)]
        rfl

theorem show_any (v : Value) (neg : Bool) (ds : List Nat) (w : World) (hv : NumV w v neg ds) (hl : ds.length ≤ 20000) :
    Calls Tryz.prog 32 #[v] w fun e w' => ∃ S, e = .returned (.string S) ∧ TextOf S (sv neg (val 10 ds)) ∧ Below w.heap.size w w' := by
  obtain ⟨ao, cap, rfl, h1, h2, h3, hs, hd, hn, h4, -⟩ := hv
  by_cases h0 : ds.length = 0
  · have hx : ds = [] := List.eq_nil_of_length_eq_zero h0
    subst hx
    obtain rfl := h4 rfl
    go_enter Tryz.func32, Tryz.ntmps32
    go_wp2
    go_ret
    exact ⟨_, rfl, ⟨false, [], Norm.nil, Digs.nil _, fun _ => rfl, rfl, rfl⟩, (Below.refl _ _).alloc (Nat.le_refl _) _⟩
  · cases neg with
    | true => exact show_aux true ⟨#[45]⟩ rfl ao cap ds w hl (by omega) hs hd hn
    | false => exact show_aux false ⟨#[]⟩ rfl ao cap ds w hl (by omega) hs hd hn
end Go.Proofs.YteefniagebcagaaGreatDoor
