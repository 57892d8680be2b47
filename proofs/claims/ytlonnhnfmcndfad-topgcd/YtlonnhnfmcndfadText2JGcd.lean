/- Contract of arith's Text; it proves no statement of the seat. -/
import Derived.Test.YtlonnhnfmcndfadRevJGcd
namespace Go.Proofs.Ytlonnhnfmcndfad
open Go.RowKit

/-- The text of a number: its sign, its decimal digits, the lowest first. -/
def showB (neg : Bool) (ds : List Nat) : List Nat := if ds.length = 0 then [48] else (if neg = true then [45] else []) ++ (byt ds).reverse
/-- S is the number's text. -/
def TextOf (S : ByteArray) (z : Int) : Prop := ∃ neg ds, Norm ds ∧ Digs 10 ds ∧ (ds.length = 0 → neg = false) ∧ z = sv neg (val 10 ds) ∧ bs S = showB neg ds

theorem sv_inj {a b : Bool} {m n : Nat} (h : sv a m = sv b n) (ha : m = 0 → a = false) (hb : n = 0 → b = false) : a = b ∧ m = n := by
  have h1 : m = n := by rw [← sv_natAbs a m, h, sv_natAbs]
  subst h1
  refine ⟨?_, rfl⟩
  by_cases hm : m = 0
  · rw [ha hm, hb hm]
  · cases a <;> cases b <;> simp [sv] at h ⊢ <;> omega

theorem Norm.len_zero {xs : List Nat} {B : Nat} (h : Norm xs) (hB : 0 < B) : val B xs = 0 → xs.length = 0 := fun e => by rw [h.eq_nil hB e]; rfl

/-- A number has one text. -/
theorem TextOf.same {S T : ByteArray} {z : Int} (h : TextOf S z) (k : TextOf T z) : S = T := by
  obtain ⟨a, ds, n1, d1, z1, v1, s1⟩ := h
  obtain ⟨b, es, n2, d2, z2, v2, s2⟩ := k
  rw [v1] at v2
  obtain ⟨e1, e2⟩ := sv_inj v2 (fun h => z1 (n1.len_zero (by decide) h)) (fun h => z2 (n2.len_zero (by decide) h))
  have e3 := Norm.inj d1 d2 n1 n2 (by decide) e2
  subst e1; subst e3
  exact bs_inj (s1.trans s2.symm)

theorem bs_nums (zs : List Nat) (h : ∀ z, z ∈ zs → z < 256) : bs (strOfNums (zs.map fun z : Nat => (z : Int))) = zs := by
  unfold bs
  rw [strOfNums_data, List.map_map, List.map_map]
  have : ∀ z, z ∈ zs → ((UInt8.toNat ∘ fun n : Int => UInt8.ofNat n.toNat) ∘ fun z : Nat => (z : Int)) z = z := by
    intro z hz
    simp
    exact h z hz
  rw [List.map_congr_left this]
  simp

theorem own_convert {P : Program} {e src : TypeId} {base g n cap : Nat} {w : World} {zs : List Nat} (h : Own .u8 e base w (.slice (some ⟨g, 0, none⟩) n cap) zs) (hn : zs.length = n) (hz : ∀ z, z ∈ zs → z < 256) (hs : P.underlying src = some (.slice e)) (he : P.underlying e = some (.int .u8)) (dst : TypeId) (hd : P.underlying dst = some .string) :
    ∃ S, bs S = zs ∧ (convert src dst (.slice (some ⟨g, 0, none⟩) n cap)).run P w = .ok (.string S) w := by
  refine ⟨_, bs_nums zs hz, run_convert_bytes_arg (P := P) w src e hs he g 0 n cap _ (by simpa using hn) (fun i hi => ?_) dst hd⟩
  rw [Nat.zero_add, h.cell i (by omega)]
  congr 2
  simp [List.getElem?_eq_getElem (show i < zs.length by omega)]

theorem byt_lt (ds : List Nat) (h : Digs 10 ds) : ∀ z, z ∈ byt ds → z < 256 := by
  intro z hz
  obtain ⟨d, hd, rfl⟩ := List.mem_map.1 hz
  have := h d hd
  omega

set_option maxHeartbeats 1000000 in
theorem text_any (v : Value) (neg : Bool) (xs : List Nat) (w : World) (hv : IntV w v neg xs) (hl : xs.length ≤ 1000) :
    Calls Try.prog 18 #[v] w fun e w' => ∃ S, e = .returned (.string S) ∧ TextOf S (sv neg (val 4294967296 xs)) ∧ Below w.heap.size w w' := by
  have HV := hv
  obtain ⟨ao, cap, rfl, h1, h2, hs, hd, hn, h3⟩ := hv
  have B0 := Blk.new w 50 #[.bool neg, .slice ao xs.length cap]
  have hbx : Below w.heap.size w (w.alloc (.cells #[.bool neg, .slice ao xs.length cap] 50)) := (Below.refl _ _).alloc (Nat.le_refl _) _
  by_cases h0 : xs.length = 0
  · have hx : xs = [] := List.eq_nil_of_length_eq_zero h0
    subst hx
    obtain rfl := h3 rfl
    have hsg : ((sv false (val 4294967296 [])).sign == 0) = true := by rw [val_nil, sv_zero]; rfl
    go_enter Try.func18, Try.ntmps18
    go_wp2_with fail
    refine (sign_any _ false [] _ (HV.below hbx)).mono ?_
    rintro e w1 ⟨rfl, hb1⟩
    go_wp2
    go_ret
    refine ⟨_, rfl, ⟨false, [], Norm.nil, Digs.nil _, fun _ => rfl, by rw [val_nil, sv_zero]; simp [sv, val], rfl⟩, hbx.step hb1 (Nat.le_refl _)⟩
  · have hp := (hn.pos (B := 4294967296) (by intro e; subst e; simp at h0)).resolve_right (by decide)
    have hsg : ((sv neg (val 4294967296 xs)).sign == 0) = false := by
      rw [beq_eq_false_iff_ne]
      intro e
      have := Int.sign_eq_zero_iff_zero.1 e
      have h4 := sv_natAbs neg (val 4294967296 xs)
      rw [this] at h4
      simp at h4
      omega
    have HH : Hid (0 < val 4294967296 xs ∧ xs.length ≠ 0) := ⟨hp, h0⟩
    clear hp h0 h3
    go_enter Try.func18, Try.ntmps18
    go_wp2_with fail
    refine (sign_any _ neg xs _ (HV.below hbx)).mono ?_
    rintro e w1 ⟨rfl, hb1⟩
    have B1 := B0.stay hb1
    obtain ⟨c0, c1, f0, f1⟩ := B1.two
    have hb2 := hbx.step hb1 (Nat.le_refl _)
    go_wp2_with fail
    refine (writeDigits_any ao xs.length cap xs _ rfl hl (hs.below hb2) hd hn).mono ?_
    rintro e w2 ⟨vo, rfl, ds, hdn, hdd, hdv, hdl, hown, hb3⟩
    have HDV : Hid (val 10 ds = val 4294967296 xs) := hdv
    have hdp : 0 < ds.length := by
      rcases Nat.eq_zero_or_pos ds.length with h | h
      · have e := List.eq_nil_of_length_eq_zero h
        rw [e, val_nil] at hdv
        have := HH.out.1
        omega
      · exact h
    clear hdv
    have B2 := B1.stay hb3
    clear c0 c1 f0 f1
    obtain ⟨c0, c1, f0, f1⟩ := B2.two
    have hb4 := hb2.step hb3 (Nat.le_refl _)
    have hw1 : w.heap.size < w1.heap.size := B1.lt
    cases neg with
    | false =>
      obtain ⟨g, cp, rfl, hg1, hg2⟩ := hown.shape (by rw [byt_length]; exact hdp)
      have HBL : Hid ((byt ds).length ≤ 100000) := by show _ ≤ _; rw [byt_length]; omega
      go_wp2_with fail
      refine (reverse_any g (byt ds).length cp w1.heap.size (byt ds) _ HBL.out hown rfl).mono ?_
      rintro e w3 ⟨rfl, hown3, honly⟩
      obtain ⟨S, hS, hconv⟩ := own_convert (P := Try.prog) (src := 86) hown3 (by simp) (fun z hz => byt_lt ds hdd z (List.mem_reverse.1 hz)) Try.underlying86 Try.underlying5 9 Try.underlying9
      have HS : Hid (bs S = (byt ds).reverse) := hS
      clear hS
      go_wp2
      go_ret
      refine ⟨_, rfl, ⟨false, ds, hdn, hdd, fun _ => rfl, by rw [HDV.out], ?_⟩, hb4.trans (honly.below (by omega))⟩
      rw [HS.out, showB, if_neg (by omega)]
      rfl
    | true =>
      have HBL : Hid ((byt ds).length ≤ 100000) := by show _ ≤ _; rw [byt_length]; omega
      have HBB : Hid (w1.heap.size ≤ w2.heap.size) := hb3.size
      go_wp2_with (at_builtin; refine wpList_append_num rfl (.tmp 12) (.tmp 13) 86 rfl w1.heap.size 5 .u8 1 Try.underlying86 Try.info5 (by decide) _ _ rfl hown _ 45 rfl rfl HBL.out HBB.out ?_; intro v' w3 hown3 hblk3 hbel3)
      obtain ⟨g, cp, hv3, hg1, hg2⟩ := hown3.shape (by simp)
      have hLL : (byt ds ++ [45]).length = ds.length + 1 := by rw [List.length_append, byt_length]; rfl
      rw [hLL] at hv3
      subst hv3
      have HBL3 : Hid (ds.length + 1 ≤ 100000) := by show _ ≤ _; omega
      have HLL : Hid ((byt ds ++ [45]).length = ds.length + 1) := hLL
      clear hLL
      go_wp2_with fail
      refine (reverse_any g (ds.length + 1) cp w1.heap.size (byt ds ++ [45]) _ HBL3.out hown3 HLL.out).mono ?_
      rintro e w4 ⟨rfl, hown4, honly⟩
      obtain ⟨S, hS, hconv⟩ := own_convert (P := Try.prog) (src := 86) hown4 (by rw [List.length_reverse]; exact HLL.out) (by
        intro z hz
        rcases List.mem_append.1 (List.mem_reverse.1 hz) with h | h
        · exact byt_lt ds hdd z h
        · simp at h; omega) Try.underlying86 Try.underlying5 9 Try.underlying9
      have HS : Hid (bs S = (byt ds ++ [45]).reverse) := hS
      clear hS
      go_wp2
      go_ret
      refine ⟨_, rfl, ⟨true, ds, hdn, hdd, fun h => by omega, by rw [HDV.out], ?_⟩, (hb4.trans (hbel3.mono (by omega))).trans (honly.below (by omega))⟩
      rw [HS.out, showB, if_neg (by omega)]
      simp
end Go.Proofs.Ytlonnhnfmcndfad
