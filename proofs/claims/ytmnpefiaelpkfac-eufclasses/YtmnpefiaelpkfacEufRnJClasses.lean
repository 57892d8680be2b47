/- The contract of the document's Node; it proves no statement of the seat. -/
import Derived.Test.YtmnpefiaelpkfacEufReJClasses
namespace Go.Proofs.Ytmnpefiaelpkfac
open Go.RowKit
set_option linter.unusedVariables false
namespace Euf
def ndC (N : Nat → ByteArray × List Nat) (rg : Nat → Value) (i : Nat) : List Value := [.string (N i).1, rg i]
theorem addr_add (b off j : Nat) : ((⟨b, off, none⟩ : Addr).add j) = ⟨b, off + j, none⟩ := by
  unfold Addr.add
  split
  · rename_i h; subst h; rfl
  · rfl
/-- Ints that came in are put behind an empty list. -/
theorem wpList_append_ai {w : World} {ops : Array Oper} {rest : List Oper} {o : Oper} {act : Act} {Q : Exit → Act → World → Prop} (hgd : o.guard = none) (s x : Operand) (hop : o.op = .call { callee := .builtin .append, args := #[s, x], argTypes := #[31, 31] })
    (g : Nat) (hs : act.eval s = .slice (some ⟨g, 0, none⟩) 0 0) (hown : OL 1 3 w (.slice (some ⟨g, 0, none⟩) 0 0) 0 (inC [])) (aZ : Option Addr) (cZ : Nat) (zs : List Int) (hx : act.eval x = .slice aZ zs.length cZ) (h3 : AI w (.slice aZ zs.length cZ) zs) (hc : aZ = none → zs = [] ∧ cZ = 0) (hn : zs.length ≤ 1000000000)
    (h : ∀ v' w', OL 1 3 w' v' zs.length (inC zs) → App (.slice (some ⟨g, 0, none⟩) 0 0) v' w w' → wpList Try.prog ops Q rest (act.put o.dst v') w') : wpList Try.prog ops Q (o :: rest) act w := by
  cases aZ with
  | none =>
    obtain ⟨rfl, rfl⟩ := hc rfl
    refine wpList_append_list hgd s x 31 hop 1 3 _ 8 uIntsE iIntE (by decide) rfl (by decide) _ 0 (inC []) hs hown (fun k hk => absurd hk (Nat.not_lt_zero _)) (.slice none 0 0) 0 (inC []) hx (OL.nil _ _ _ _) (fun k hk => absurd hk (Nat.not_lt_zero _)) (fun u hu => by cases hu) (by omega) (inC []) (fun k hk => rfl) (fun k hk => absurd hk (Nat.not_lt_zero _)) h
  | some a =>
    refine wpList_plain hgd fun _ hK => wp_append s x 31 hop 1 3 _ 8 uIntsE iIntE (by decide) rfl (by decide) _ 0 (inC []) hs hown (fun k hk => absurd hk (Nat.not_lt_zero _)) a zs.length cZ hx (zs.map (Value.int .i64)) (by simp) (fun j u hj => ?_) (fun u hu => ?_) (Or.inr (fun e => by cases e)) (by omega) (inC zs) (fun k hk => absurd hk (Nat.not_lt_zero _)) (fun k hk j hj => ?_) (fun v' w' k1 k2 _ => hK _ _ (h v' w' (by rw [Nat.zero_add] at k1; exact k1) k2))
    · rw [List.getElem?_map] at hj
      obtain ⟨z, hz, rfl⟩ := Option.map_eq_some_iff.1 hj
      have hjl : j < zs.length := (List.getElem?_eq_some_iff.1 hz).1
      obtain ⟨-, b, off, e1, -, e2⟩ := h3.at hjl
      injection e1 with e1
      subst e1
      rw [addr_add, e2, List.getD_eq_getElem?_getD, hz]
      rfl
    · obtain ⟨z, _, rfl⟩ := List.mem_map.1 hu
      rfl
    · obtain rfl : j = 0 := by omega
      rw [Nat.zero_add]
      simp [inC, hk]
theorem own9 {g b : Nat} (hb : (Value.slice (some ⟨g, 0, none⟩) 0 0).ownBlock = some b) : b = g := by
  have e : (some g : Option Nat) = some b := hb
  injection e with e
  exact e.symm
/-- What the document's Node tells. -/
def RNodeEnd (aN aE : Option Addr) (cN cE : Nat) (rg : Nat → Value) (d : Gd) (s : ByteArray) (zs : List Int) (w : World) (e : Ending) (w' : World) : Prop :=
  Below w.heap.size w w' ∧
  ((zs.all (okIn d.t.nn) = false ∧ e = .returned (.tuple #[.agg #[.slice aN d.t.nn cN, .slice aE d.f.ne cE], .int .i64 0, .int .i64 50])) ∨
   (zs.all (okIn d.t.nn) = true ∧ ∃ i, i < d.t.nn ∧ d.t.N i = (s, zs.map Int.toNat) ∧ e = .returned (.tuple #[.agg #[.slice aN d.t.nn cN, .slice aE d.f.ne cE], .int .i64 (i : Nat), .int .i64 0])) ∨
   (zs.all (okIn d.t.nn) = true ∧ (∀ j, j < d.t.nn → d.t.N j ≠ (s, zs.map Int.toNat)) ∧ ∃ (aN' : Option Addr) (cN' : Nat) (u : Value), e = .returned (.tuple #[.agg #[.slice aN' (d.t.nn + 1) cN', .slice aE d.f.ne cE], .int .i64 (d.t.nn : Nat), .int .i64 0]) ∧
      OL 2 84 w' (.slice aN' (d.t.nn + 1) cN') (d.t.nn + 1) (ndC (upd d.t.N d.t.nn (s, zs.map Int.toNat)) (upd rg d.t.nn u)) ∧ OL 1 3 w' u zs.length (natC (zs.map Int.toNat)) ∧
      (∀ z, (Value.slice aN' (d.t.nn + 1) cN').ownBlock = some z → w.heap.size ≤ z) ∧ (∀ z, u.ownBlock = some z → w.heap.size ≤ z)))

set_option maxRecDepth 20000 in
set_option maxHeartbeats 16000000 in
theorem rNode_any (aN aE : Option Addr) (cN cE : Nat) (rg : Nat → Value) (d : Gd) (s : ByteArray) (v : Value) (zs : List Int) (w : World) (h : RG w (.slice aN d.t.nn cN) (.slice aE d.f.ne cE) rg d) (hz : AI w v zs) (hzc : ∀ c, v = .slice none 0 c → c = 0) (hzl : zs.length ≤ 10000) (hnn : d.t.nn ≤ 10000) (hne : d.f.ne ≤ 10000) (hal : ∀ i, i < d.t.nn → (d.t.N i).2.length ≤ 10000) :
    Calls Try.prog 27 #[.agg #[.slice aN d.t.nn cN, .slice aE d.f.ne cE], .string s, v] w fun e w' => RNodeEnd aN aE cN cE rg d s zs w e w' := by
  have HR : Hid (RG w (.slice aN d.t.nn cN) (.slice aE d.f.ne cE) rg d) := h
  have HZ : Hid (AI w v zs) := hz
  have HAL : Hid (∀ i, i < d.t.nn → (d.t.N i).2.length ≤ 10000) := hal
  obtain ⟨aZ, cZ, rfl⟩ := hz.shape
  have HZC : Hid (aZ = none → zs = [] ∧ cZ = 0) := by
    intro e
    obtain ⟨a1, c1, e1, _, h2⟩ := hz
    injection e1 with e1 _ e3
    have hz0 : zs = [] := by
      rcases h2 with h2 | ⟨b, off, k1, _⟩
      · exact h2
      · rw [← e1, e] at k1; cases k1
    refine ⟨hz0, hzc cZ (by rw [e, hz0]; rfl)⟩
  clear h hz hal hzc
  obtain ⟨W0, hW0⟩ : ∃ W0, W0 = (w.alloc (.cells #[.slice aN d.t.nn cN, .slice aE d.f.ne cE] 28 (0, 0))).alloc (.cells #[.slice none 0 0, .slice none 0 0] 28 (0, 0)) := ⟨_, rfl⟩
  have B0 : Blk 28 W0 w.heap.size #[.slice aN d.t.nn cN, .slice aE d.f.ne cE] := by rw [hW0]; exact (Below.heap_alloc _ _ w.heap.size (by simp)).trans (heap_alloc_new w _)
  have B1 : Blk 28 W0 (w.heap.size + 1) #[.slice none 0 0, .slice none 0 0] := by
    have k1 := heap_alloc_new (w.alloc (.cells #[.slice aN d.t.nn cN, .slice aE d.f.ne cE] 28 (0, 0))) (.cells #[.slice none 0 0, .slice none 0 0] 28 (0, 0))
    have s1 : (w.alloc (.cells #[.slice aN d.t.nn cN, .slice aE d.f.ne cE] 28 (0, 0))).heap.size = w.heap.size + 1 := by simp
    rw [s1] at k1
    rw [hW0]; exact k1
  have HB0 : Hid (Below w.heap.size w W0) := by show Below _ _ _; rw [hW0]; go_grown
  have HBX : Hid (Blk 28 W0 w.heap.size #[.slice aN d.t.nn cN, .slice aE d.f.ne cE] ∧ Blk 28 W0 (w.heap.size + 1) #[.slice none 0 0, .slice none 0 0]) := ⟨B0, B1⟩
  have HBB : Hid (Blk 28 W0 w.heap.size #[.slice aN d.t.nn cN, .slice aE d.f.ne cE] ∧ Blk 28 W0 (w.heap.size + 1) #[.slice none 0 0, .slice none 0 0]) := ⟨B0, B1⟩
  clear B0 B1
  go_enter Try.func27, Try.ntmps27
  go_wp2
  rw [← hW0]
  clear hW0
  go_loopw [9] (fun v9 wr => ∃ k : Nat, v9 = .int .i64 (k : Nat) ∧ k ≤ zs.length ∧ Hid ((zs.take k).all (okIn d.t.nn) = true) ∧ Below W0.heap.size W0 wr) (fun v _ => zs.length - (intOf v).toNat)
  case atStart => exact ⟨0, rfl, Nat.zero_le _, by show _ = _; simp, Below.refl _ _⟩
  case round =>
    rename World => wl
    obtain ⟨k, rfl, hk, HA, hbl⟩ := hrel
    have B0 := HBB.out.1.stay hbl
    have B1 := HBB.out.2.stay hbl
    obtain ⟨c0, c1, z0, z1⟩ := B0.two
    have hl0 := B0.lt
    have HBL : Hid (Below W0.heap.size W0 wl) := hbl
    by_cases hlt : k < zs.length
    · have hltI : (k : Int) < (zs.length : Int) := by omega
      obtain ⟨-, b1, o1, rfl, hb1, e1⟩ := HZ.out.at (i := k) hlt
      have hb1' : b1 < W0.heap.size := Nat.lt_of_lt_of_le hb1 HB0.out.size
      have e2 := ((hbl.cell (p := ⟨b1, o1 + k, none⟩) hb1').trans (HB0.out.cell (p := ⟨b1, o1 + k, none⟩) hb1)).trans e1
      obtain ⟨z, hz⟩ : ∃ z, z = zs.getD k 0 := ⟨_, rfl⟩
      rw [← hz] at e2
      have hget : zs[k] = z := by rw [hz, List.getD_eq_getElem?_getD, List.getElem?_eq_getElem hlt]; rfl
      have HTK : Hid (zs.take (k + 1) = zs.take k ++ [z]) := by show _ = _; rw [List.take_succ_eq_append_getElem hlt, hget]
      have HIN : Hid (z ∈ zs) := by show _ ∈ _; rw [← hget]; exact List.getElem_mem hlt
      clear hz hget e1 hb1
      by_cases h1 : z < 0
      · have HF : Hid (zs.all (okIn d.t.nn) = false) := by
          show _ = _
          rw [List.all_eq_false]
          exact ⟨z, HIN.out, by simp [okIn]; omega⟩
        obtain ⟨r0, r1, y0, y1⟩ := B1.two
        have hl1 := B1.lt
        clear hbl
        go_wp2
        go_quiet (fail)
        go_wp2
        refine bodyPost_ret (v := .tuple #[.agg #[.slice aN d.t.nn cN, .slice aE d.f.ne cE], .int .i64 0, .int .i64 50]) (by simp [results, Try.results27, go_sem, r0, r1]) rfl ?_
        have hb9 : Below w.heap.size w (wl.drewN nq) := HB0.out.trans ((⟨HBL.out.os, HBL.out.tape, HBL.out.output, HBL.out.size, HBL.out.block⟩ : Below W0.heap.size W0 (wl.drewN nq)).mono HB0.out.size)
        exact ⟨below_store2 hb9 (by omega) _ _, Or.inl ⟨HF.out, rfl⟩⟩
      · have h1d : decide (z < 0) = false := by simp; omega
        by_cases h2 : z < (d.t.nn : Int)
        · have h2d : decide ((d.t.nn : Int) ≤ z) = false := by simp; omega
          clear hbl
          go_wp2
          go_quiet (fail)
          go_wp2
          go_roundw
          case rel => exact ⟨k + 1, by go_num, by omega, by show _ = _; rw [HTK.out, List.all_append, HA.out]; simp [okIn]; omega, ⟨HBL.out.os, HBL.out.tape, HBL.out.output, HBL.out.size, HBL.out.block⟩⟩
          case measure => simp [intOf]; omega
        · have h2d : decide ((d.t.nn : Int) ≤ z) = true := by simp; omega
          have HF : Hid (zs.all (okIn d.t.nn) = false) := by
            show _ = _
            rw [List.all_eq_false]
            exact ⟨z, HIN.out, by simp [okIn]; omega⟩
          obtain ⟨r0, r1, y0, y1⟩ := B1.two
          have hl1 := B1.lt
          clear hbl
          go_wp2
          go_quiet (fail)
          go_wp2
          refine bodyPost_ret (v := .tuple #[.agg #[.slice aN d.t.nn cN, .slice aE d.f.ne cE], .int .i64 0, .int .i64 50]) (by simp [results, Try.results27, go_sem, r0, r1]) rfl ?_
          have hb9 : Below w.heap.size w (wl.drewN nq) := HB0.out.trans ((⟨HBL.out.os, HBL.out.tape, HBL.out.output, HBL.out.size, HBL.out.block⟩ : Below W0.heap.size W0 (wl.drewN nq)).mono HB0.out.size)
          exact ⟨below_store2 hb9 (by omega) _ _, Or.inl ⟨HF.out, rfl⟩⟩
    · have hk2 : k = zs.length := by omega
      have hltI : ¬ ((k : Int) < (zs.length : Int)) := by omega
      have HALL : Hid (zs.all (okIn d.t.nn) = true) := by
        have := HA.out
        rw [hk2, List.take_length] at this
        exact this
      have HL : Hid (zs = (zs.map Int.toNat).map Int.ofNat) := by
        show _ = _
        rw [List.map_map]
        have h9 := HALL.out
        rw [List.all_eq_true] at h9
        conv => lhs; rw [← List.map_id zs]
        refine List.map_congr_left (fun z hz => ?_)
        have := h9 z hz
        simp [okIn] at this
        show z = ((z.toNat : Nat) : Int)
        omega
      clear hk2 hbl B0 B1 HBB
      have HBB : Hid (Blk 28 wl w.heap.size #[.slice aN d.t.nn cN, .slice aE d.f.ne cE] ∧ Blk 28 wl (w.heap.size + 1) #[.slice none 0 0, .slice none 0 0] ∧ Below w.heap.size w wl) := ⟨HBX.out.1.stay HBL.out, HBX.out.2.stay HBL.out, HB0.out.trans (HBL.out.mono HB0.out.size)⟩
      go_wp2
      go_loopw [10] (fun v10 wr => ∃ j : Nat, v10 = .int .i64 (j : Nat) ∧ j ≤ d.t.nn ∧ Hid (∀ i, i < j → d.t.N i ≠ (s, zs.map Int.toNat)) ∧ Below wl.heap.size wl wr) (fun v _ => d.t.nn - (intOf v).toNat)
      case atStart => exact ⟨0, rfl, Nat.zero_le _, fun i hi => absurd hi (Nat.not_lt_zero _), Below.refl _ _⟩
      case round =>
        rename World => wm
        clear c0 c1 z0 z1 hl0
        obtain ⟨j, rfl, hj, HJ, hbm⟩ := hrel
        have B0 := HBB.out.1.stay hbm
        have B1 := HBB.out.2.1.stay hbm
        obtain ⟨c0, c1, z0, z1⟩ := B0.two
        have hl0 := B0.lt
        have HBM : Hid (Below wl.heap.size wl wm ∧ Below w.heap.size w wm) := ⟨hbm, HBB.out.2.2.trans (hbm.mono HBB.out.2.2.size)⟩
        have hRm := HR.out.below HBM.out.2
        by_cases hlt2 : j < d.t.nn
        · have hlt2I : (j : Int) < (d.t.nn : Int) := by omega
          obtain ⟨gn, cn, hvn, -, -⟩ := hRm.nodes.open j hlt2
          injection hvn with hvn1 hvn2 hvn3
          subst hvn1
          have hnd := hRm.nodes
          have n0 := hnd.cell (i := j) hlt2 (j := 0) (by omega)
          have n1 := hnd.cell (i := j) hlt2 (j := 1) (by omega)
          simp only [Nat.add_zero, List.getElem?_cons_zero, List.getElem?_cons_succ] at n0 n1
          have hgn : gn < wm.heap.size := hnd.lt rfl
          obtain ⟨ar, cr, hrg, -, -, -, -⟩ := (hRm.args j hlt2).shape
          have HRG : Hid (rg j = .slice ar (d.t.N j).2.length cr) := hrg
          rw [hrg] at n1
          obtain ⟨f1, hf1⟩ : ∃ f1, f1 = (d.t.N j).1 := ⟨_, rfl⟩
          rw [← hf1] at n0
          have HF1 : Hid ((d.t.N j).1 = f1) := hf1.symm
          have HAJ : Hid (AI wm (.slice ar (d.t.N j).2.length cr) ((d.t.N j).2.map Int.ofNat)) := by
            have h9 := ai_of_ol (hRm.args j hlt2) (by have := HAL.out j hlt2; omega)
            rw [hrg] at h9
            exact h9
          have HZM : Hid (AI wm (.slice aZ zs.length cZ) zs) := HZ.out.below HBM.out.2
          clear hRm hnd hvn2 hvn3 hrg hf1 hbm
          by_cases hs1 : f1 = s
          · subst hs1
            have hs2 : (f1.toList == f1.toList) = true := by simp
            go_wp2_with fail
            refine (Alike_any _ _ ((d.t.N j).2.map Int.ofNat) zs _ HAJ.out HZM.out).mono ?_
            rintro e w7 ⟨rfl, hb7⟩
            have B0' := B0.stay hb7
            have B1' := B1.stay hb7
            clear c0 c1 z0 z1 hl0 n0 n1 hgn
            obtain ⟨c0, c1, z0, z1⟩ := B0'.two
            obtain ⟨r0, r1, y0, y1⟩ := B1'.two
            have hl0 := B0'.lt
            have hl1 := B1'.lt
            have HB7 : Hid (Below wl.heap.size wl w7 ∧ Below w.heap.size w w7) := ⟨HBM.out.1.trans (hb7.mono HBM.out.1.size), HBM.out.2.trans (hb7.mono HBM.out.2.size)⟩
            clear B0 B1 hb7
            by_cases hq : (d.t.N j).2.map Int.ofNat = zs
            · have HE : Hid (d.t.N j = (f1, zs.map Int.toNat)) := by
                show _ = _
                refine Prod.ext HF1.out ?_
                show (d.t.N j).2 = zs.map Int.toNat
                rw [← hq, List.map_map]
                have : (Int.toNat ∘ Int.ofNat) = id := by funext n; rfl
                rw [this, List.map_id]
              have hqd : decide ((d.t.N j).2.map Int.ofNat = zs) = true := decide_eq_true hq
              rw [hqd]
              clear hq hqd
              go_wp2
              refine bodyPost_ret (v := .tuple #[.agg #[.slice (some ⟨gn, 0, none⟩) d.t.nn cN, .slice aE d.f.ne cE], .int .i64 (j : Nat), .int .i64 0]) (by simp [results, Try.results27, go_sem, r0, r1]) rfl ?_
              exact ⟨below_store2 HB7.out.2 (by omega) _ _, Or.inr (Or.inl ⟨HALL.out, j, hlt2, HE.out, rfl⟩)⟩
            · have HJ2 : Hid (∀ i, i < j + 1 → d.t.N i ≠ (f1, zs.map Int.toNat)) := by
                intro i hi
                by_cases e : i = j
                · subst e
                  intro e9
                  apply hq
                  rw [e9]
                  exact HL.out.symm
                · exact HJ.out i (by omega)
              have hqd : decide ((d.t.N j).2.map Int.ofNat = zs) = false := decide_eq_false hq
              rw [hqd]
              clear hq hqd
              go_wp2
              go_roundw
              case rel => exact ⟨j + 1, by go_num, by omega, HJ2.out, HB7.out.1⟩
              case measure => simp [intOf]; omega
          · have hs2 : (f1.toList == s.toList) = false := by
              rw [beq_eq_false_iff_ne]
              intro e9
              apply hs1
              rw [Go.ByteArray.toList_eq, Go.ByteArray.toList_eq] at e9
              exact WideShapes.bytes_inj e9
            have HJ2 : Hid (∀ i, i < j + 1 → d.t.N i ≠ (s, zs.map Int.toNat)) := by
              intro i hi
              by_cases e : i = j
              · subst e
                intro e9
                apply hs1
                rw [← HF1.out, e9]
              · exact HJ.out i (by omega)
            go_wp2
            go_roundw
            case rel => exact ⟨j + 1, by go_num, by omega, HJ2.out, HBM.out.1⟩
            case measure => simp [intOf]; omega
        · have hj2 : j = d.t.nn := by omega
          have hlt2I : ¬ ((j : Int) < (d.t.nn : Int)) := by omega
          have HNO : Hid (∀ i, i < d.t.nn → d.t.N i ≠ (s, zs.map Int.toNat)) := by rw [← hj2]; exact HJ.out
          clear hj2 hlt2 hbm
          have HRm : Hid (RG wm (.slice aN d.t.nn cN) (.slice aE d.f.ne cE) rg d) := hRm
          have HE2 : Hid (OL 2 84 (wm.alloc (.cells #[] 84 (0, 0))) (.slice aN d.t.nn cN) d.t.nn (ndC d.t.N rg)) := hRm.nodes.stay fun b hb => Below.heap_alloc wm _ b (hRm.nodes.lt hb)
          have HB1 : Hid (Blk 28 wm (w.heap.size + 1) #[.slice none 0 0, .slice none 0 0] ∧ Blk 28 wm w.heap.size #[.slice aN d.t.nn cN, .slice aE d.f.ne cE] ∧ w.heap.size + 1 < wm.heap.size) := ⟨B1, B0, B1.lt⟩
          have h17 : decide ((16384 : Int) ≤ (d.t.nn : Int)) = false := by simp; omega
          clear hRm B0 B1
          go_upto_if 64 with fail
          clear h17
          go_wp2_with (at_builtin; refine Stop.of ?_)
          show wpList _ _ _ _ _ _
          have hB9 : Below wm.heap.size wm (wm.alloc (.cells #[] 84 (0, 0))) := (Below.refl _ _).alloc (Nat.le_refl _) _
          refine wpList_append_list rfl (.tmp 66) (.tmp 68) 25 rfl 2 84 _ 40 uNodes iNode (by decide) rfl (by decide) (.slice (some ⟨wm.heap.size, 0, none⟩) 0 0) 0 (ndC d.t.N rg) rfl (ol_empty wm 2 84 _) (fun k hk => rfl) (.slice aN d.t.nn cN) d.t.nn (ndC d.t.N rg) rfl HE2.out (fun _ _ => rfl) (fun u hu => by
            obtain ⟨i, hi, hu⟩ := flat_mem _ _ hu
            obtain ⟨a9, c9, e9, -, -, -, -⟩ := (HRm.out.args i hi).shape
            simp [ndC] at hu
            rcases hu with rfl | rfl
            · rfl
            · rw [e9]; rfl) (by omega) (ndC d.t.N rg) (fun k hk => rfl) (fun k hk => by rw [Nat.zero_add]) ?_
          intro v3 w3 hol3 hap3
          rw [Nat.zero_add] at hol3
          have hb3 : Below wm.heap.size wm w3 := hB9.trans (hap3.toBelow hB9.size (fun b hb => by rw [own9 hb]; exact Nat.le_refl _))
          have hw3 : ∀ b, v3.ownBlock = some b → wm.heap.size ≤ b := by
            intro b hb
            rcases hap3.at_ with e | ⟨b', e1, e2⟩
            · rw [e] at hb; rw [own9 hb]; exact Nat.le_refl _
            · rw [e1] at hb; injection hb with hb
              have := hB9.size
              omega
          obtain ⟨a3, k3, hv3, -, -, -, -⟩ := hol3.shape
          subst hv3
          have hsz3 : wm.heap.size < w3.heap.size := Nat.lt_of_lt_of_le (by simp) hap3.size
          have HO3 : Hid (OL 2 84 w3 (.slice a3 d.t.nn k3) d.t.nn (ndC d.t.N rg) ∧ (∀ b, (Value.slice a3 d.t.nn k3).ownBlock = some b → wm.heap.size ≤ b) ∧ Below wm.heap.size wm w3) := ⟨hol3, hw3, hb3⟩
          have hz4 : AI (w3.alloc (.cells #[] 3 (0, 0))) (.slice aZ zs.length cZ) zs := ((HZ.out.below HBM.out.2).below hb3).below ((Below.refl _ _).alloc (Nat.le_refl _) _)
          clear hap3 hB9 HE2 hol3 hw3 hb3 c0 c1 z0 z1 hl0
          go_wp2_with (at_builtin; refine Stop.of ?_)
          show wpList _ _ _ _ _ _
          have hB4 : Below w3.heap.size w3 (w3.alloc (.cells #[] 3 (0, 0))) := (Below.refl _ _).alloc (Nat.le_refl _) _
          refine wpList_append_ai rfl (.tmp 72) (.tmp 73) rfl w3.heap.size rfl (ol_empty w3 1 3 _) aZ cZ zs rfl hz4 HZC.out (by omega) ?_
          intro v4 w4 hol4 hap4
          have hb4 : Below w3.heap.size w3 w4 := hB4.trans (hap4.toBelow hB4.size (fun b hb => by rw [own9 hb]; exact Nat.le_refl _))
          have hw4 : ∀ b, v4.ownBlock = some b → w3.heap.size ≤ b := by
            intro b hb
            rcases hap4.at_ with e | ⟨b', e1, e2⟩
            · rw [e] at hb; rw [own9 hb]; exact Nat.le_refl _
            · rw [e1] at hb; injection hb with hb
              have := hB4.size
              omega
          obtain ⟨a4, k4, hv4, -, -, -, -⟩ := hol4.shape
          subst hv4
          have hol4' : OL 2 84 w4 (.slice a3 d.t.nn k3) d.t.nn (ndC d.t.N rg) := HO3.out.1.stay fun b hb => hb4.block b (HO3.out.1.lt hb)
          have hol5 : OL 2 84 (w4.alloc (.cells #[.string s, .slice a4 zs.length k4] 84 (0, 0))) (.slice a3 d.t.nn k3) d.t.nn (ndC d.t.N rg) := hol4'.stay fun b hb => Below.heap_alloc w4 _ b (hol4'.lt hb)
          have HO4 : Hid (OL 1 3 w4 (.slice a4 zs.length k4) zs.length (inC zs) ∧ (∀ b, (Value.slice a4 zs.length k4).ownBlock = some b → w3.heap.size ≤ b) ∧ Below w3.heap.size w3 w4 ∧ OL 2 84 w4 (.slice a3 d.t.nn k3) d.t.nn (ndC d.t.N rg)) := ⟨hol4, hw4, hb4, hol4'⟩
          clear hz4 hB4 hol4 hap4 hb4 hw4 hol4'
          go_wp2_with (at_builtin; refine Stop.of ?_)
          show wpList _ _ _ _ _ _
          refine wpList_push rfl (.tmp 70) (.tmp 76) 25 rfl 2 84 _ 40 uNodes iNode (by decide) rfl (by decide) (.slice a3 d.t.nn k3) d.t.nn (ndC d.t.N rg) rfl [.string s, .slice a4 zs.length k4] 84 hol5 (fun _ _ => rfl) 1 rfl rfl (by intro u hu; simp at hu; rcases hu with rfl | rfl <;> rfl) (by omega) (ndC (upd d.t.N d.t.nn (s, zs.map Int.toNat)) (upd rg d.t.nn (.slice a4 zs.length k4))) (fun k hk => by simp [ndC, upd, Nat.ne_of_lt hk]) (by simp [ndC, upd]) ?_
          intro v6 w6 hol6 hap6 hne6
          replace hap6 := hap6.of_alloc (fun z hz => HO4.out.2.2.2.lt hz)
          have hm34 : wm.heap.size ≤ w4.heap.size := Nat.le_trans HO3.out.2.2.size HO4.out.2.2.1.size
          have hb6 : Below wm.heap.size w4 w6 := hap6.toBelow hm34 HO3.out.2.1
          have hw6 : ∀ z, v6.ownBlock = some z → wm.heap.size ≤ z := by
            intro z hz
            rcases hap6.at_ with e | ⟨b', e1, e2⟩
            · exact HO3.out.2.1 z (e ▸ hz)
            · rw [e1] at hz; injection hz with hz
              omega
          have hbm6 : Below wm.heap.size wm w6 := (HO3.out.2.2.trans (HO4.out.2.2.1.mono HO3.out.2.2.size)).trans hb6
          obtain ⟨a6, k6, hv6, -, -, -, -⟩ := hol6.shape
          subst hv6
          have hu6 : OL 1 3 w6 (.slice a4 zs.length k4) zs.length (inC zs) := HO4.out.1.stay fun b hb => hap6.other b (HO4.out.1.lt hb) (fun hc => HO4.out.1.ne HO4.out.2.2.2 (by decide) hb hc)
          have B0 := HB1.out.2.1.stay hbm6
          have B1 := HB1.out.1.stay hbm6
          have HF : Hid (OL 2 84 w6 (.slice a6 (d.t.nn + 1) k6) (d.t.nn + 1) (ndC (upd d.t.N d.t.nn (s, zs.map Int.toNat)) (upd rg d.t.nn (.slice a4 zs.length k4))) ∧ OL 1 3 w6 (.slice a4 zs.length k4) zs.length (inC zs) ∧ (∀ z, (Value.slice a6 (d.t.nn + 1) k6).ownBlock = some z → wm.heap.size ≤ z) ∧ (∀ z, (Value.slice a4 zs.length k4).ownBlock = some z → wm.heap.size ≤ z) ∧ Below w.heap.size w w6) := ⟨hol6, hu6, hw6, fun z hz => Nat.le_trans HO3.out.2.2.size (HO4.out.2.1 z hz), HBM.out.2.trans (hbm6.mono HBM.out.2.size)⟩
          clear hol5 hol6 hap6 hne6 hb6 hw6 hu6 hbm6 hm34
          obtain ⟨c0, c1, z0, z1⟩ := B0.two
          obtain ⟨r0, r1, y0, y1⟩ := B1.two
          have hl0 := B0.lt
          have hl1 := B1.lt
          go_wp2
          refine bodyPost_ret (v := .tuple #[.agg #[.slice a6 (d.t.nn + 1) k6, .slice aE d.f.ne cE], .int .i64 (d.t.nn : Nat), .int .i64 0]) (by simp [results, Try.results27, go_sem, r0, r1]) rfl ?_
          have hsw := HBM.out.2.size
          have hwm := HB1.out.2.2
          refine ⟨below_store2 HF.out.2.2.2.2 (by omega) _ _, Or.inr (Or.inr ⟨HALL.out, HNO.out, a6, k6, _, rfl, ?_, ?_, fun z hz => Nat.le_trans hsw (HF.out.2.2.1 z hz), fun z hz => Nat.le_trans hsw (HF.out.2.2.2.1 z hz)⟩)⟩
          · exact HF.out.1.stay fun z hz => by
              have := HF.out.2.2.1 z hz
              rw [heap_setCell_other _ ⟨w.heap.size + 1, 1, none⟩ z _ (by show z ≠ w.heap.size + 1; omega), heap_setCell_other _ ⟨w.heap.size + 1, 0, none⟩ z _ (by show z ≠ w.heap.size + 1; omega)]
          · have h9 : OL 1 3 w6 (.slice a4 zs.length k4) zs.length (natC (zs.map Int.toNat)) := HF.out.2.1.congr (fun i hi => by
              have h8 : zs.getD i 0 = (((zs.map Int.toNat).getD i 0 : Nat) : Int) := by
                conv => lhs; rw [HL.out]
                simp [hi]
              unfold natC inC
              rw [h8])
            exact h9.stay fun z hz => by
              have := HF.out.2.2.2.1 z hz
              rw [heap_setCell_other _ ⟨w.heap.size + 1, 1, none⟩ z _ (by show z ≠ w.heap.size + 1; omega), heap_setCell_other _ ⟨w.heap.size + 1, 0, none⟩ z _ (by show z ≠ w.heap.size + 1; omega)]
end Euf
end Go.Proofs.Ytmnpefiaelpkfac
