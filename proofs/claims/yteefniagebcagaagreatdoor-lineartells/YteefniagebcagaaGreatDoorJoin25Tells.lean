/- Joined: LinTm, LinPl, LinSR, LinSm: words and contracts; no statement of the seat is proved here. -/
import Derived.Test.YteefniagebcagaaGreatDoorJoin24Tells
import Derived.Laws.StructEq
import Derived.Test.YteefniagebcagaaGreatDoorJoin23Tells
/- Contract of suretylaw03's term; they prove no statement of the seat. -/
namespace Go.Proofs.YteefniagebcagaaGreatDoor
open Go.RowKit
set_option linter.unusedVariables false

/-- A plain part as a term: its parts, its number. -/
def xP (v z : Int) : List (Nat × Int) := if v < 0 ∨ z = 0 then [] else [(v.toNat, z)]
def xR (v z : Int) : Int := if v < 0 then z else 0
/-- What plain parts come to, behind a term. -/
def Tm : List (Int × ByteArray) → List (Nat × Int) → Int → List (Nat × Int) → Int → Prop
  | [], a, r, b, s => b = a ∧ s = r
  | p :: ms, a, r, b, s => pcd p.2 = 0 ∧ tAddOk a (xP p.1 (pzd p.2)) r (xR p.1 (pzd p.2)) ∧ Tm ms (addP a (xP p.1 (pzd p.2))) (r + xR p.1 (pzd p.2)) b s
theorem Tm.drop {ms : List (Int × ByteArray)} {k : Nat} {v : Int} {T : ByteArray} (hk : k < ms.length) (hp : ms.getD k (0, ⟨#[]⟩) = (v, T)) (a : List (Nat × Int)) (r : Int) (b : List (Nat × Int)) (s : Int) :
    Tm (ms.drop k) a r b s ↔ pcd T = 0 ∧ tAddOk a (xP v (pzd T)) r (xR v (pzd T)) ∧ Tm (ms.drop (k + 1)) (addP a (xP v (pzd T))) (r + xR v (pzd T)) b s := by
  have e : ms[k] = (v, T) := by rw [List.getD_eq_getElem?_getD, List.getElem?_eq_getElem hk] at hp; exact hp
  rw [List.drop_eq_getElem_cons hk, e, Tm]
theorem var_h (v : Int) (w : World) (h0 : 0 ≤ v) (h1 : v < 4096) :
    Calls Tryz.prog 27 #[.int .i64 v] w fun e w' => ∃ p q r x a n c, e = .returned (.tuple #[.agg #[.slice p q r, .bool x, .slice a n c], .int .i64 0]) ∧ TP w' p q r x a n c [(v.toNat, 1)] 0 ∧ Below w.heap.size w w' := by
  refine (lvar_any v w).mono ?_
  rintro e w' ⟨ao, n, cap, x, a, m, c, ps, rfl, h, rfl, hb⟩
  rw [if_pos ⟨h0, h1⟩] at h ⊢
  exact ⟨_, _, _, _, _, _, _, rfl, h, hb⟩
theorem scale_h (vX vB : Value) (v z : Int) (w : World) (h0 : 0 ≤ v) (hX : TermR w vX [(v.toNat, 1)] 0) (hB : AInt w vB z) (hz9 : z.natAbs < lim) :
    Calls Tryz.prog 23 #[vX, vB] w fun e w' => ∃ p q r x a n c, e = .returned (.tuple #[.agg #[.slice p q r, .bool x, .slice a n c], .int .i64 0]) ∧ TP w' p q r x a n c (xP v z) 0 ∧ Below w.heap.size w w' := by
  refine (lscale_any vX vB [(v.toNat, 1)] 0 z w hX hB).mono ?_
  rintro e w' ⟨u, co, rfl, hr, hb⟩
  rcases hr with ⟨h1, rfl, h2⟩ | ⟨h1, h3, rfl, h2⟩ | ⟨h1, h3, _, _⟩
  · obtain ⟨p, q, r, x, a, n, c, rfl, h⟩ := h2
    refine ⟨p, q, r, x, a, n, c, rfl, ?_, hb⟩
    unfold xP
    rw [if_pos (Or.inr h1)]; exact h
  · obtain ⟨p, q, r, x, a, n, c, rfl, h⟩ := h2
    refine ⟨p, q, r, x, a, n, c, rfl, ?_, hb⟩
    unfold xP
    rw [if_neg (fun k => k.elim (fun k => by omega) h1)]
    unfold mulP at h
    simpa using h
  · refine absurd ⟨?_, ?_⟩ h3
    · have := word_lim; simp; omega
    · intro p hp
      simp at hp
      subst hp
      simpa using hz9

set_option maxRecDepth 20000 in
set_option maxHeartbeats 16000000 in
theorem term_any (aX : Option Addr) (nX cX : Nat) (ms : List (Int × ByteArray)) (w : World) (hm : MArr w aX ms) (hl : ms.length = nX) (hx : nX ≤ maxLen) (hs : ∀ p ∈ ms, p.2.size ≤ 400 ∧ p.1 < 4096) :
    Calls Tryz.prog 11 #[.slice aX nX cX] w fun e w' => ∃ v ps r ok, e = .returned (.tuple #[v, .bool ok]) ∧ TermR w' v ps r ∧ Hid ((ok = true → Tm ms [] 0 ps r) ∧ (ok = false → ∀ b s, ¬ Tm ms [] 0 b s)) ∧ Below w.heap.size w w' := by
  have oR := ((Blk.new w 33 #[.slice none 0 0, .bool false, .slice none 0 0]).alloc (.cells #[.slice none 0 0, .bool false, .slice none 0 0] 33 (0, 0)))
  have oA := (Blk.new (w.alloc (.cells #[.slice none 0 0, .bool false, .slice none 0 0] 33 (0, 0))) 33 #[.slice none 0 0, .bool false, .slice none 0 0])
  simp only [World.size_alloc] at oA
  have hbw : Below w.heap.size w ((w.alloc (.cells #[.slice none 0 0, .bool false, .slice none 0 0] 33 (0, 0))).alloc (.cells #[.slice none 0 0, .bool false, .slice none 0 0] 33 (0, 0))) := by go_grown
  have ltR := oR.lt
  have lwR : w.heap.size ≤ w.heap.size := by omega
  have ltA := oA.lt
  have lwA : w.heap.size ≤ w.heap.size + 1 := by omega
  have HM : Hid (MArr w aX ms) := hm
  have HLN : Hid (ms.length = nX) := hl
  have HSZ : Hid (∀ p ∈ ms, p.2.size ≤ 400 ∧ p.1 < 4096) := hs
  have hn : (nX : Int) ≤ 9223372036854775807 := by unfold maxLen at hx; omega
  clear hm hl hs hx
  go_enter Tryz.func11, Tryz.ntmps11
  go_wp2
  go_loopw [5] (fun i wl => ∃ (k : Nat) (ps : List (Nat × Int)) (r : Int) (pA : Option Addr) (qA rA : Nat) (xA : Bool) (aA : Option Addr) (nA cA : Nat), k ≤ nX ∧ i = .int .i64 k ∧ Blk 33 wl w.heap.size #[.slice none 0 0, .bool false, .slice none 0 0] ∧ Blk 33 wl (w.heap.size + 1) #[.slice pA qA rA, .bool xA, .slice aA nA cA] ∧ TP wl pA qA rA xA aA nA cA ps r ∧ Hid (∀ b s, Tm (ms.drop k) ps r b s ↔ Tm ms [] 0 b s) ∧ Below w.heap.size w wl) (fun i _ => nX - (intOf i).toNat)
  case atStart => exact ⟨0, [], 0, none, 0, 0, false, none, 0, 0, Nat.zero_le _, rfl, oR, oA, TP.zero _, fun b s => Iff.rfl, hbw⟩
  case round =>
    rename World => wl
    clear oR oA hbw ltR ltA
    obtain ⟨k, ps, r, pA, qA, rA, xA, aA, nA, cA, hk, hi9, oR, oA, hA, HI, hbw⟩ := hrel
    subst hi9
    have ltR := oR.lt
    have ltA := oA.lt
    by_cases h0 : k < nX
    · obtain ⟨gE, oE, had, k1, k2⟩ := HM.out.at k (by rw [HLN.out]; exact h0)
      subst had
      obtain ⟨v, hpv⟩ : ∃ x9, x9 = (ms.getD k (0, ⟨#[]⟩)).1 := ⟨_, rfl⟩
      obtain ⟨T, hps⟩ : ∃ x9, x9 = (ms.getD k (0, ⟨#[]⟩)).2 := ⟨_, rfl⟩
      rw [← hpv] at k1
      rw [← hps] at k2
      have HPV : Hid (ms.getD k (0, ⟨#[]⟩) = (v, T)) := by show _ = _; rw [hpv, hps]
      clear hpv hps
      have K1 : Hid (w.cell? ⟨gE, oE + k * 2, none⟩ = some (.int .i64 v)) := k1
      have A1 := (hbw.cell (p := ⟨gE, oE + k * 2 + 1, none⟩) (World.block_lt_of_cell? w _ k2)).trans k2
      clear k1 k2
      have hmem : (v, T) ∈ ms := by have h := HPV.out; rw [List.getD_eq_getElem?_getD, List.getElem?_eq_getElem (by rw [HLN.out]; exact h0)] at h; simp at h; rw [← h]; exact List.getElem_mem _
      have hsz : T.size ≤ 10000 := by have := (HSZ.out _ hmem).1; simp at this; omega
      have hvm : v < 4096 := (HSZ.out _ hmem).2
      clear hmem
      have HST : Hid (∀ b s, Tm ms [] 0 b s ↔ pcd T = 0 ∧ tAddOk ps (xP v (pzd T)) r (xR v (pzd T)) ∧ Tm (ms.drop (k + 1)) (addP ps (xP v (pzd T))) (r + xR v (pzd T)) b s) := fun b s => (HI.out b s).symm.trans (Tm.drop (by rw [HLN.out]; exact h0) HPV.out ps r b s)
      go_wp2_with fail
      refine (parse_h T _ hsz).mono ?_
      rintro e w1 ⟨xP9, aP, nP, cP, rfl, hP, hb⟩
      replace oR := oR.stay hb
      replace ltR := oR.lt
      replace oA := oA.stay hb
      replace ltA := oA.lt
      replace hA := hA.below hb
      replace hbw := hbw.step hb (Nat.le_refl _)
      clear hb
      clear A1
      have hn := below_new w1 (.cells #[.bool xP9, .slice aP nP cP] 31 (0, 0))
      have oP := Blk.new w1 31 #[.bool xP9, .slice aP nP cP]
      have neRP : w.heap.size ≠ w1.heap.size := by have := ltR; (try simp at this); omega
      have neAP : w.heap.size + 1 ≠ w1.heap.size := by have := ltA; (try simp at this); omega
      have lwP : w.heap.size ≤ w1.heap.size := by have := hbw.size; (try simp at this); omega
      replace oR := oR.stay hn
      replace ltR := oR.lt
      replace oA := oA.stay hn
      replace ltA := oA.lt
      replace hA := hA.below hn
      replace hP := hP.below hn
      replace hbw := hbw.step hn (Nat.le_refl _)
      clear hn
      have ltP := oP.lt
      obtain ⟨co, hco⟩ : ∃ co, co = pcd T := ⟨_, rfl⟩
      obtain ⟨z, hzz⟩ : ∃ z, z = pzd T := ⟨_, rfl⟩
      rw [← hco] at HST ⊢
      rw [← hzz] at HST hP
      have HZL : Hid (z.natAbs < lim) := by show _ < _; rw [hzz]; exact pzd_lim T
      clear hco hzz
      by_cases hc : co = 0
      · subst hc
        obtain ⟨Pc0, Pc1, Pk0, Pk1⟩ := oP.two
        go_wp2_with fail
        refine (lnum_any _ z _ hP).mono ?_
        rintro e w2 ⟨pX, qX, rX, xX, aX, mX, cX, rfl, hX, hb⟩
        clear Pc0 Pc1 Pk0 Pk1
        replace oR := oR.stay hb
        replace ltR := oR.lt
        replace oA := oA.stay hb
        replace ltA := oA.lt
        replace oP := oP.stay hb
        replace ltP := oP.lt
        replace hA := hA.below hb
        replace hP := hP.below hb
        replace hbw := hbw.step hb (Nat.le_refl _)
        clear hb
        have hn := below_new w2 (.cells #[.slice pX qX rX, .bool xX, .slice aX mX cX] 33 (0, 0))
        have oX := Blk.new w2 33 #[.slice pX qX rX, .bool xX, .slice aX mX cX]
        have neRX : w.heap.size ≠ w2.heap.size := by have := ltR; (try simp at this); omega
        have neAX : w.heap.size + 1 ≠ w2.heap.size := by have := ltA; (try simp at this); omega
        have nePX : w1.heap.size ≠ w2.heap.size := by have := ltP; (try simp at this); omega
        have lwX : w.heap.size ≤ w2.heap.size := by have := hbw.size; (try simp at this); omega
        replace oR := oR.stay hn
        replace ltR := oR.lt
        replace oA := oA.stay hn
        replace ltA := oA.lt
        replace oP := oP.stay hn
        replace ltP := oP.lt
        replace hA := hA.below hn
        replace hP := hP.below hn
        replace hX := hX.below hn
        replace hbw := hbw.step hn (Nat.le_refl _)
        clear hn
        have ltX := oX.lt
        by_cases hv : 0 ≤ v
        · have hv1 : ¬ v < 0 := by omega
          have HXR : Hid (xR v z = 0) := if_neg hv1
          have A0 := (hbw.cell (p := ⟨gE, oE + k * 2, none⟩) (World.block_lt_of_cell? w _ K1.out)).trans K1.out
          go_wp2_with fail
          refine (var_h v _ hv hvm).mono ?_
          rintro e w3 ⟨pY, qY, rY, xY, aY, nY, cY, rfl, hY, hb⟩
          replace oR := oR.stay hb
          replace ltR := oR.lt
          replace oA := oA.stay hb
          replace ltA := oA.lt
          replace oP := oP.stay hb
          replace ltP := oP.lt
          replace oX := oX.stay hb
          replace ltX := oX.lt
          replace hA := hA.below hb
          replace hP := hP.below hb
          replace hX := hX.below hb
          replace hbw := hbw.step hb (Nat.le_refl _)
          clear hb
          clear A0
          have hn := below_new w3 (.cells #[.slice pY qY rY, .bool xY, .slice aY nY cY] 33 (0, 0))
          have oY := Blk.new w3 33 #[.slice pY qY rY, .bool xY, .slice aY nY cY]
          have neRY : w.heap.size ≠ w3.heap.size := by have := ltR; (try simp at this); omega
          have neAY : w.heap.size + 1 ≠ w3.heap.size := by have := ltA; (try simp at this); omega
          have nePY : w1.heap.size ≠ w3.heap.size := by have := ltP; (try simp at this); omega
          have neXY : w2.heap.size ≠ w3.heap.size := by have := ltX; (try simp at this); omega
          have lwY : w.heap.size ≤ w3.heap.size := by have := hbw.size; (try simp at this); omega
          replace oR := oR.stay hn
          replace ltR := oR.lt
          replace oA := oA.stay hn
          replace ltA := oA.lt
          replace oP := oP.stay hn
          replace ltP := oP.lt
          replace oX := oX.stay hn
          replace ltX := oX.lt
          replace hA := hA.below hn
          replace hP := hP.below hn
          replace hX := hX.below hn
          replace hY := hY.below hn
          replace hbw := hbw.step hn (Nat.le_refl _)
          clear hn
          have ltY := oY.lt
          obtain ⟨Yc0, Yc1, Yc2⟩ := oY.three
          obtain ⟨Yk0, Yk1, Yk2⟩ := oY.frozen3
          obtain ⟨Pc0, Pc1, Pk0, Pk1⟩ := oP.two
          go_wp2_with fail
          refine (scale_h _ _ v z _ hv hY.val hP HZL.out).mono ?_
          rintro e w4 ⟨pZ, qZ, rZ, xZ, aZ, nZ, cZ, rfl, hZ, hb⟩
          clear Yc0 Yc1 Yc2 Yk0 Yk1 Yk2
          clear Pc0 Pc1 Pk0 Pk1
          replace oR := oR.stay hb
          replace ltR := oR.lt
          replace oA := oA.stay hb
          replace ltA := oA.lt
          replace oP := oP.stay hb
          replace ltP := oP.lt
          replace oX := oX.stay hb
          replace ltX := oX.lt
          replace oY := oY.stay hb
          replace ltY := oY.lt
          replace hA := hA.below hb
          replace hP := hP.below hb
          replace hX := hX.below hb
          replace hY := hY.below hb
          replace hbw := hbw.step hb (Nat.le_refl _)
          clear hb
          have hn := below_new w4 (.cells #[.slice pZ qZ rZ, .bool xZ, .slice aZ nZ cZ] 33 (0, 0))
          have oZ := Blk.new w4 33 #[.slice pZ qZ rZ, .bool xZ, .slice aZ nZ cZ]
          have neRZ : w.heap.size ≠ w4.heap.size := by have := ltR; (try simp at this); omega
          have neAZ : w.heap.size + 1 ≠ w4.heap.size := by have := ltA; (try simp at this); omega
          have nePZ : w1.heap.size ≠ w4.heap.size := by have := ltP; (try simp at this); omega
          have neXZ : w2.heap.size ≠ w4.heap.size := by have := ltX; (try simp at this); omega
          have neYZ : w3.heap.size ≠ w4.heap.size := by have := ltY; (try simp at this); omega
          have lwZ : w.heap.size ≤ w4.heap.size := by have := hbw.size; (try simp at this); omega
          replace oR := oR.stay hn
          replace ltR := oR.lt
          replace oA := oA.stay hn
          replace ltA := oA.lt
          replace oP := oP.stay hn
          replace ltP := oP.lt
          replace oX := oX.stay hn
          replace ltX := oX.lt
          replace oY := oY.stay hn
          replace ltY := oY.lt
          replace hA := hA.below hn
          replace hP := hP.below hn
          replace hX := hX.below hn
          replace hY := hY.below hn
          replace hZ := hZ.below hn
          replace hbw := hbw.step hn (Nat.le_refl _)
          clear hn
          have ltZ := oZ.lt
          obtain ⟨Xc0, Xc1, Xc2⟩ := oX.three
          obtain ⟨Xk0, Xk1, Xk2⟩ := oX.frozen3
          obtain ⟨Zc0, Zc1, Zc2⟩ := oZ.three
          obtain ⟨Zk0, Zk1, Zk2⟩ := oZ.frozen3
          have HX2 := hX
          clear hX
          clear Xc0 Xc1 Xc2 Xk0 Xk1 Xk2
          clear Zc0 Zc1 Zc2 Zk0 Zk1 Zk2
          obtain ⟨hK, hB, hO⟩ := resT (by decide) (by decide) oX hbw lwX pZ qZ rZ xZ aZ nZ cZ
          have oA2 := oA.otherS neAX.symm 0 [.slice pZ qZ rZ, .bool xZ, .slice aZ nZ cZ]
          have oR2 := oR.otherS neRX.symm 0 [.slice pZ qZ rZ, .bool xZ, .slice aZ nZ cZ]
          have hA2 := hA.keepP hK
          have hZ2 := hZ.keepP hK
          obtain ⟨Xc0, Xc1, Xc2⟩ := oX.three
          obtain ⟨Xk0, Xk1, Xk2⟩ := oX.frozen3
          obtain ⟨Zc0, Zc1, Zc2⟩ := oZ.three
          obtain ⟨Zk0, Zk1, Zk2⟩ := oZ.frozen3
          obtain ⟨Qc0, Qc1, Qc2⟩ := Blk.three (show Blk _ ((((w4.alloc (.cells #[.slice pZ qZ rZ, .bool xZ, .slice aZ nZ cZ] 33 (0, 0))).setCell ⟨w2.heap.size, 0, none⟩ (.slice pZ qZ rZ)).setCell ⟨w2.heap.size, 1, none⟩ (.bool xZ)).setCell ⟨w2.heap.size, 2, none⟩ (.slice aZ nZ cZ)) _ _ from oA2)
          obtain ⟨Sc0, Sc1, Sc2⟩ := Blk.three (show Blk _ ((((w4.alloc (.cells #[.slice pZ qZ rZ, .bool xZ, .slice aZ nZ cZ] 33 (0, 0))).setCell ⟨w2.heap.size, 0, none⟩ (.slice pZ qZ rZ)).setCell ⟨w2.heap.size, 1, none⟩ (.bool xZ)).setCell ⟨w2.heap.size, 2, none⟩ (.slice aZ nZ cZ)) _ _ from hO)
          go_wp2_with fail
          refine (ladd_any _ _ ps (xP v z) r 0 _ hA2.val hZ2.val).mono ?_
          rintro e w5 ⟨u9, c9, rfl, hU, hb⟩
          clear Qc0 Qc1 Qc2 Sc0 Sc1 Sc2
          clear Xc0 Xc1 Xc2 Xk0 Xk1 Xk2
          clear Zc0 Zc1 Zc2 Zk0 Zk1 Zk2
          clear oP ltP
          clear oY ltY
          clear oZ ltZ
          clear oX ltX oA oR hA hZ hY hP
          replace oA := Blk.stay oA2 hb
          replace oR := Blk.stay oR2 hb
          replace ltA := oA.lt
          replace ltR := oR.lt
          replace hA := TP.below hA2 hb
          replace hbw := hB.step hb (Nat.le_refl _)
          clear hb oA2 oR2 hA2 hZ2 hK hB hO
          rcases hU with ⟨hok, rfl, hU⟩ | ⟨hno, rfl, hU⟩
          · have HOK : Hid (tAddOk _ _ _ _) := hok
            clear hok
            obtain ⟨pU, qU, rU, xU, aU, nU, cU, rfl, hU⟩ := hU
            obtain ⟨Ac0, Ac1, Ac2⟩ := oA.three
            obtain ⟨Ak0, Ak1, Ak2⟩ := oA.frozen3
            go_wp2
            clear Ac0 Ac1 Ac2 Ak0 Ak1 Ak2
            obtain ⟨hK, hB, hO⟩ := resT (by decide) (by decide) oA hbw lwA pU qU rU xU aU nU cU
            replace oR := oR.otherS (show w.heap.size + 1 ≠ w.heap.size by omega) 0 [.slice pU qU rU, .bool xU, .slice aU nU cU]
            replace hA := hA.keepP hK
            replace hU := hU.keepP hK
            replace oA := hO
            replace hbw := hB
            clear hK
            go_roundw
            case rel =>
              refine ⟨k + 1, _, _, pU, qU, rU, xU, aU, nU, cU, by omega, by go_num, oR, oA, hU, ?_, hbw⟩
              intro b s
              rw [HST.out b s]
              rw [HXR.out]
              exact ⟨fun h => ⟨by simp, HOK.out, h⟩, fun h => h.2.2⟩
            case measure => simp [intOf]; omega
          · have HNO : Hid (¬ tAddOk _ _ _ _) := hno
            clear hno
            obtain ⟨pU, qU, rU, xU, aU, nU, cU, rfl, hU⟩ := hU
            have HNN : Hid (∀ b s, ¬ Tm ms [] 0 b s) := by
              intro b s hh
              have hh2 := ((HST.out b s).1 hh).2.1
              rw [HXR.out] at hh2
              exact HNO.out hh2
            obtain ⟨Ac0, Ac1, Ac2⟩ := oA.three
            obtain ⟨Ak0, Ak1, Ak2⟩ := oA.frozen3
            obtain ⟨hK, hB, hO⟩ := resT (by decide) (by decide) oA hbw lwA pU qU rU xU aU nU cU
            replace oR := oR.otherS (show w.heap.size + 1 ≠ w.heap.size by omega) 0 [.slice pU qU rU, .bool xU, .slice aU nU cU]
            obtain ⟨Rz0, Rz1, Rz2⟩ := Blk.three (show Blk _ (((w5.setCell ⟨w.heap.size + 1, 0, none⟩ (.slice pU qU rU)).setCell ⟨w.heap.size + 1, 1, none⟩ (.bool xU)).setCell ⟨w.heap.size + 1, 2, none⟩ (.slice aU nU cU)) _ _ from oR)
            obtain ⟨Rf0, Rf1, Rf2⟩ := Blk.frozen3 (show Blk _ (((w5.setCell ⟨w.heap.size + 1, 0, none⟩ (.slice pU qU rU)).setCell ⟨w.heap.size + 1, 1, none⟩ (.bool xU)).setCell ⟨w.heap.size + 1, 2, none⟩ (.slice aU nU cU)) _ _ from oR)
            try simp only []
            try go_at_K
            repeat (first | go_values | go_skip | go_guarded | go_step | go_upon)
            refine bodyPost_ret (v := .tuple #[.agg #[.slice none 0 0, .bool false, .slice none 0 0], .bool false]) (by simp [results, Tryz.results11, go_sem, Rz0, Rz1, Rz2]) rfl ?_
            obtain ⟨K1, B1, _⟩ := resT (by decide) (by decide) oR hB lwR none 0 0 false none 0 0
            exact ⟨_, [], 0, false, rfl, (TP.zero _).val, ⟨(fun h => by cases h), fun _ => HNN.out⟩, B1⟩
        · have hv1 : v < 0 := by omega
          have HXP : Hid (xP v z = []) := if_pos (Or.inl hv1)
          have HXR : Hid (xR v z = z) := if_pos hv1
          have A0 := (hbw.cell (p := ⟨gE, oE + k * 2, none⟩) (World.block_lt_of_cell? w _ K1.out)).trans K1.out
          obtain ⟨Ac0, Ac1, Ac2⟩ := oA.three
          obtain ⟨Ak0, Ak1, Ak2⟩ := oA.frozen3
          obtain ⟨Xc0, Xc1, Xc2⟩ := oX.three
          obtain ⟨Xk0, Xk1, Xk2⟩ := oX.frozen3
          go_wp2_with fail
          refine (ladd_any _ _ ps [] r z _ hA.val hX.val).mono ?_
          rintro e w3 ⟨u9, c9, rfl, hU, hb⟩
          clear Ac0 Ac1 Ac2 Ak0 Ak1 Ak2
          clear Xc0 Xc1 Xc2 Xk0 Xk1 Xk2
          replace oR := oR.stay hb
          replace ltR := oR.lt
          replace oA := oA.stay hb
          replace ltA := oA.lt
          replace oP := oP.stay hb
          replace ltP := oP.lt
          replace oX := oX.stay hb
          replace ltX := oX.lt
          replace hA := hA.below hb
          replace hP := hP.below hb
          replace hX := hX.below hb
          replace hbw := hbw.step hb (Nat.le_refl _)
          clear hb
          rcases hU with ⟨hok, rfl, hU⟩ | ⟨hno, rfl, hU⟩
          · have HOK : Hid (tAddOk _ _ _ _) := hok
            clear hok
            obtain ⟨pU, qU, rU, xU, aU, nU, cU, rfl, hU⟩ := hU
            obtain ⟨Ac0, Ac1, Ac2⟩ := oA.three
            obtain ⟨Ak0, Ak1, Ak2⟩ := oA.frozen3
            go_wp2
            clear Ac0 Ac1 Ac2 Ak0 Ak1 Ak2
            obtain ⟨hK, hB, hO⟩ := resT (by decide) (by decide) oA hbw lwA pU qU rU xU aU nU cU
            replace oR := oR.otherS (show w.heap.size + 1 ≠ w.heap.size by omega) 0 [.slice pU qU rU, .bool xU, .slice aU nU cU]
            replace oP := oP.otherS neAP 0 [.slice pU qU rU, .bool xU, .slice aU nU cU]
            replace oX := oX.otherS neAX 0 [.slice pU qU rU, .bool xU, .slice aU nU cU]
            replace hA := hA.keepP hK
            replace hP := hP.keepP hK
            replace hX := hX.keepP hK
            replace hU := hU.keepP hK
            replace oA := hO
            replace hbw := hB
            clear hK
            go_roundw
            case rel =>
              refine ⟨k + 1, _, _, pU, qU, rU, xU, aU, nU, cU, by omega, by go_num, oR, oA, hU, ?_, hbw⟩
              intro b s
              rw [HST.out b s]
              rw [HXP.out, HXR.out]
              exact ⟨fun h => ⟨by simp, HOK.out, h⟩, fun h => h.2.2⟩
            case measure => simp [intOf]; omega
          · have HNO : Hid (¬ tAddOk _ _ _ _) := hno
            clear hno
            obtain ⟨pU, qU, rU, xU, aU, nU, cU, rfl, hU⟩ := hU
            have HNN : Hid (∀ b s, ¬ Tm ms [] 0 b s) := by
              intro b s hh
              have hh2 := ((HST.out b s).1 hh).2.1
              rw [HXP.out, HXR.out] at hh2
              exact HNO.out hh2
            obtain ⟨Ac0, Ac1, Ac2⟩ := oA.three
            obtain ⟨Ak0, Ak1, Ak2⟩ := oA.frozen3
            obtain ⟨hK, hB, hO⟩ := resT (by decide) (by decide) oA hbw lwA pU qU rU xU aU nU cU
            replace oR := oR.otherS (show w.heap.size + 1 ≠ w.heap.size by omega) 0 [.slice pU qU rU, .bool xU, .slice aU nU cU]
            obtain ⟨Rz0, Rz1, Rz2⟩ := Blk.three (show Blk _ (((w3.setCell ⟨w.heap.size + 1, 0, none⟩ (.slice pU qU rU)).setCell ⟨w.heap.size + 1, 1, none⟩ (.bool xU)).setCell ⟨w.heap.size + 1, 2, none⟩ (.slice aU nU cU)) _ _ from oR)
            obtain ⟨Rf0, Rf1, Rf2⟩ := Blk.frozen3 (show Blk _ (((w3.setCell ⟨w.heap.size + 1, 0, none⟩ (.slice pU qU rU)).setCell ⟨w.heap.size + 1, 1, none⟩ (.bool xU)).setCell ⟨w.heap.size + 1, 2, none⟩ (.slice aU nU cU)) _ _ from oR)
            try simp only []
            try go_at_K
            repeat (first | go_values | go_skip | go_guarded | go_step | go_upon)
            refine bodyPost_ret (v := .tuple #[.agg #[.slice none 0 0, .bool false, .slice none 0 0], .bool false]) (by simp [results, Tryz.results11, go_sem, Rz0, Rz1, Rz2]) rfl ?_
            obtain ⟨K1, B1, _⟩ := resT (by decide) (by decide) oR hB lwR none 0 0 false none 0 0
            exact ⟨_, [], 0, false, rfl, (TP.zero _).val, ⟨(fun h => by cases h), fun _ => HNN.out⟩, B1⟩
      · have hc2 : (co != 0) = true := by rw [bne_iff_ne]; exact hc
        have HC : Hid (¬ co = 0) := hc
        clear hc
        obtain ⟨Rc0, Rc1, Rc2⟩ := oR.three
        obtain ⟨Rk0, Rk1, Rk2⟩ := oR.frozen3
        obtain ⟨Ac0, Ac1, Ac2⟩ := oA.three
        obtain ⟨Ak0, Ak1, Ak2⟩ := oA.frozen3
        try simp only []
        try go_at_K
        repeat (first | go_values | go_skip | go_guarded | go_step | go_upon)
        refine bodyPost_ret (v := .tuple #[.agg #[.slice pA qA rA, .bool xA, .slice aA nA cA], .bool false]) (by simp [results, Tryz.results11, go_sem, Rc0, Rc1, Rc2]) rfl ?_
        obtain ⟨K1, B1, _⟩ := resT (by decide) (by decide) oR hbw lwR pA qA rA xA aA nA cA
        exact ⟨_, ps, r, false, rfl, (hA.keepP K1).val, ⟨(fun h => by cases h), fun _ b s hh => HC.out ((HST.out b s).1 hh).1⟩, B1⟩
    · have HT : Hid (Tm ms [] 0 ps r) := (HI.out ps r).1 (by rw [List.drop_eq_nil_of_le (by rw [HLN.out]; omega)]; exact ⟨rfl, rfl⟩)
      obtain ⟨Rc0, Rc1, Rc2⟩ := oR.three
      obtain ⟨Rk0, Rk1, Rk2⟩ := oR.frozen3
      obtain ⟨Ac0, Ac1, Ac2⟩ := oA.three
      obtain ⟨Ak0, Ak1, Ak2⟩ := oA.frozen3
      try simp only []
      try go_at_K
      repeat (first | go_values | go_skip | go_guarded | go_step | go_upon)
      refine bodyPost_ret (v := .tuple #[.agg #[.slice pA qA rA, .bool xA, .slice aA nA cA], .bool true]) (by simp [results, Tryz.results11, go_sem, Rc0, Rc1, Rc2]) rfl ?_
      obtain ⟨K1, B1, _⟩ := resT (by decide) (by decide) oR hbw lwR pA qA rA xA aA nA cA
      exact ⟨_, ps, r, true, rfl, (hA.keepP K1).val, ⟨fun _ => HT.out, (fun h => by cases h)⟩, B1⟩

end Go.Proofs.YteefniagebcagaaGreatDoor
/- Contract of linear's Plain; they prove no statement of the seat. -/
namespace Go.Proofs.YteefniagebcagaaGreatDoor
open Go.RowKit
set_option linter.unusedVariables false

end Go.Proofs.YteefniagebcagaaGreatDoor
/- Contract of suretyref03's SameRow; they prove no statement of the seat. -/
namespace Go.Proofs.YteefniagebcagaaGreatDoor
open Go.RowKit
set_option linter.unusedVariables false

end Go.Proofs.YteefniagebcagaaGreatDoor
/- Contracts of linear's sameParts and Same; they prove no statement of the seat. -/
namespace Go.Proofs.YteefniagebcagaaGreatDoor
open Go.RowKit
set_option linter.unusedVariables false

end Go.Proofs.YteefniagebcagaaGreatDoor
