/- Joined: SynYbCut, SynYdCut, SynYcCut, SynYeCut: words and contracts; no statement of the seat is proved here. -/
import Derived.Test.YtomldkljlbdnjaaGreatJoin8Binds
/- Lists of rows that are made by loops. No statement of the seat is proved here. -/
namespace Go.Proofs.YtomldkljlbdnjaaGreat
open Go.RowKit
set_option linter.unusedVariables false
set_option linter.unusedSimpArgs false
namespace Syn
open Euf (OL App Stop wpList_push)
open Lex (T TL tx bs tkC FV IsNm hide)
/-- A loop that makes a list of rows: so far it reads, and reading goes on so. -/
def CL (mk : List (List V) → Cmd) (s : Nat) (w wl : World) (g lo en dp N B : Nat) (R : Res) (v : Value) (len : Nat) : Prop :=
  ∃ m rows C stk, len = rows.length ∧ m < N ∧ R = P en m (mk rows) dp stk ∧ LS wl w.heap.size s v rows C ∧ Q wl g lo en dp stk ∧ MvR g w wl ∧ rows.length + stk.length ≤ B
def sliceLen : Value → Nat
  | .slice _ k _ => k
  | _ => 0
theorem LS.shape {w : World} {base s : Nat} {v : Value} {rows : List (List V)} {C : Nat → List Value} (h : LS w base s v rows C) : ∃ q c, v = .slice q rows.length c := by
  obtain ⟨a, cap, h2, _⟩ := h.ol.shape
  exact ⟨a, cap, h2⟩
theorem Q.few {w : World} {g lo en dp : Nat} {st : List T} (h : Q w g lo en dp st) : st.length ≤ 65536 := by
  obtain ⟨v, ts, i, h1, rfl, h3, _⟩ := h
  have := h1.few
  simp
  omega
theorem LS.one (w : World) (base s : Nat) (vs : List Value) (r : List V) (hb : base ≤ w.heap.size) (hl : vs.length = wd s) (hx : XR w (fun b => base ≤ b) vs r) : LS (w.alloc (.cells vs.toArray (ty s) (0, 0))) base s (.slice (some ⟨w.heap.size, 0, none⟩) 1 1) [r] (fun _ => vs) := by
  refine ⟨Or.inr ⟨w.heap.size, 1, vs.toArray, rfl, heap_alloc_new w _, Nat.le_refl _, by decide, by simp [hl], fun i hi j hj => ?_⟩, fun b k => ?_, fun i hi => hl, fun i hi => ?_⟩
  · obtain rfl : i = 0 := by simp at hi; omega
    simp
  · cases k; exact hb
  · obtain rfl : i = 0 := by simp at hi; omega
    refine hx.stay fun b k kl => ⟨Below.heap_alloc w _ b kl, k, fun e => ?_⟩
    have : w.heap.size = b := by simpa [Value.ownBlock] using e
    omega
theorem LS.mvR {w w' : World} {g base s : Nat} {v : Value} {rows : List (List V)} {C : Nat → List Value} (h : LS w base s v rows C) (m : MvR g w w') (hg : g < base) : LS w' base s v rows C :=
  h.stay fun b hb hl => m.other b hl (fun e => by have : b = g := e; omega)
/-- One more row: after a part was read and appended. -/
theorem LS.next {w1 w2 w3 : World} {g base s : Nat} {v v' : Value} {rows : List (List V)} {C : Nat → List Value} {vs : List Value} {r : List V} (h : LS w1 base s v rows C) (m : MvR g w1 w2) (hg : g < base) (hb : base ≤ w1.heap.size) (hl : vs.length = wd s) (hx : XR w2 (fun b => w1.heap.size ≤ b) vs r)
    (ho : OL (wd s) (ty s) w3 v' (rows.length + 1) (putC C rows.length vs)) (ha : App v v' (w2.alloc (.cells vs.toArray (ty s) (0, 0))) w3) : LS w3 base s v' (rows ++ [r]) (putC C rows.length vs) :=
  (h.mvR m hg).push ho (ha.of_alloc fun b k => ((h.mvR m hg).ol.lt k)) (Nat.le_trans hb m.size) hl (hx.stay fun b k _ => ⟨rfl, Nat.le_trans hb k, fun e => absurd (h.ol.lt e) (Nat.not_lt.2 k)⟩)
theorem uE_list : Tryz.prog.underlying 45 = some (.slice 49) := by kernel_rfl
theorem iE_elem : (Tryz.prog.info? 49).map (fun i => (i.zero, i.size, i.bytes)) = some (some (.agg #[.string ByteArray.empty, .string ByteArray.empty, .slice none 0 0, .slice none 0 0, .int .i64 0]), 5, 88) := by kernel_rfl
theorem uS_list : Tryz.prog.underlying 24 = some (.slice 47) := by kernel_rfl
theorem iS_elem : (Tryz.prog.info? 47).map (fun i => (i.zero, i.size, i.bytes)) = some (some (.agg #[.string ByteArray.empty, .string ByteArray.empty, .slice none 0 0, .slice none 0 0, .slice none 0 0, .slice none 0 0, .int .i64 0]), 7, 136) := by kernel_rfl
end Syn
end Go.Proofs.YtomldkljlbdnjaaGreat
/- curly. No statement of the seat is proved here. -/
namespace Go.Proofs.YtomldkljlbdnjaaGreat
open Go.RowKit
set_option linter.unusedVariables false
set_option linter.unusedSimpArgs false
namespace Syn
open Euf (OL App Stop wpList_push)
open Lex (T TL tx bs tkC FV IsNm hide)
set_option maxRecDepth 4000 in
set_option maxHeartbeats 2000000 in
theorem curlyS_any (fk : Nat) (hent : ∀ args w, (callFunc fk args).run Tryz.prog w = .ok (.enter fk args) w) (w : World) (g lo en dp N : Nat) (st : List T) (h : Q w g lo en dp st) (hne : P en N (.curly 2) dp st ≠ .out)
    (HR : ∀ m, m < N → ∀ w1 st1, Q w1 g lo en dp st1 → P en m (.elem 2) dp st1 ≠ .out → Calls Tryz.prog fk #[.pointer (some ⟨g, 0, none⟩)] w1 fun e w' => Ans ShS w1 g lo en dp e w' (P en m (.elem 2) dp st1)) :
    Calls Tryz.prog 142 #[.pointer (some ⟨g, 0, none⟩), .func (.func fk) #[.pointer (some ⟨g, 0, none⟩)] #[]] w fun e w' => Ans (ShL 2) w g lo en dp e w' (P en N (.curly 2) dp st) := by
  have hgw := h.lt
  have hlw := h.lw
  have hst := h.few
  have HST : Hid (st.length ≤ 65536) := hst
  obtain ⟨R, hRR⟩ : ∃ R, R = P en N (.curly 2) dp st := ⟨_, rfl⟩
  rw [← hRR] at hne ⊢
  cases N with
  | zero => exact absurd hRR hne
  | succ N =>
  simp only [P, wantP] at hRR
  have HW := hide <| want_q ([123] : List UInt8) (by decide) w g lo en dp st h
  have HR := hide HR
  by_cases hx : (Syn.hd en st).x = ([123] : List UInt8)
  · have hlt := hd_len hx (by decide)
    rw [if_pos hx] at hRR
    have HRR : Hid (R = P en N (.curlyL 2 []) dp st.tail) := hRR
    clear hRR h
    go_enter Tryz.func142, Tryz.ntmps142
    go_wp2_with fail
    refine HW.out.mono ?_
    rintro e w2 ⟨m2, ⟨-, rfl, q2⟩ | ⟨hno, -⟩⟩
    case inr => exact absurd hx hno
    have HF : Hid (LS w2 w.heap.size 2 (.slice none 0 0) [] (fun _ => []) ∧ Q w2 g lo en dp st.tail ∧ MvR g w w2) := ⟨LS.nil _ _ _, q2, m2⟩
    clear m2 q2 hx
    go_wp2
    go_loopw [5] (fun v5 wl => ∃ q k c, v5 = .slice q k c ∧ k ≤ st.length + 1 ∧ Hid (CL (.curlyL 2) 2 w wl g lo en dp (N + 1) (st.length + 1) R v5 k)) (fun v _ => st.length + 2 - sliceLen v)
    case atStart => exact ⟨none, 0, 0, rfl, by omega, N, [], _, st.tail, rfl, by omega, HRR.out, HF.out.1, HF.out.2.1, HF.out.2.2, by simp; omega⟩
    case round =>
      rename World => wl
      obtain ⟨q, k, c, rfl, hkB, HCL⟩ := hrel
      have hc := HCL.out
      obtain ⟨m, rows, C, stk, rfl, hmN, hR, hLS, hQ, hM, hlen⟩ := hc
      have hfew := hQ.few
      have hst : st.length ≤ 65536 := HST.out
      have HP := hide <| passes_q ([125] : List UInt8) (by decide) wl g lo en dp stk hQ
      have hwl : w.heap.size ≤ wl.heap.size := hM.size
      cases m with
      | zero => exact absurd hR hne
      | succ m =>
        by_cases hx : (Syn.hd en stk).x = ([125] : List UInt8)
        · simp only [P, if_pos hx] at hR
          rw [if_pos hx, decide_eq_true hx] at HP
          have HI : Hid (LS wl w.heap.size 2 (.slice q rows.length c) rows C ∧ MvR g w wl ∧ R = .ok [.l 2 rows] stk.tail) := ⟨hLS, hM, hR⟩
          clear hLS hM hQ HCL hx hR
          go_wp2_with fail
          refine HP.out.mono ?_
          rintro e w1 ⟨rfl, q1, m1⟩
          have HQ1 : Hid (Q w1 g lo en dp stk.tail ∧ MvR g wl w1) := ⟨q1, m1⟩
          clear q1 m1
          go_wp2
          go_ret
          rw [HI.out.2.2]
          exact ⟨HI.out.2.1.to HQ1.out.2, HQ1.out.1, _, rfl, rows, rfl, (HI.out.1.mvR HQ1.out.2 hgw).x⟩
        · simp only [P, if_neg hx] at hR
          rw [if_neg hx, decide_eq_false hx] at HP
          have HC := hide <| HR.out m (by omega)
          have HI : Hid (LS wl w.heap.size 2 (.slice q rows.length c) rows C ∧ MvR g w wl) := ⟨hLS, hM⟩
          have hpl := P_len en m (.elem 2) dp stk
          clear hLS hM hQ HCL hx
          go_wp2_with fail
          refine HP.out.mono ?_
          rintro e w1 ⟨rfl, q1, m1⟩
          have HQ1 : Hid (Q w1 g lo en dp stk ∧ MvR g wl w1) := ⟨q1, m1⟩
          have hw1 : wl.heap.size ≤ w1.heap.size := m1.size
          clear q1 m1
          generalize hE : P en m (.elem 2) dp stk = E at hR hpl
          have HEE : Hid (P en m (.elem 2) dp stk = E) := hE
          clear hE
          cases E with
          | out => exact absurd hR hne
          | bad cc a =>
            have HRR : Hid (R = .bad cc a) := hR
            clear hR
            go_wp2_with fail
            refine (HC.out w1 stk HQ1.out.1 (by rw [HEE.out]; exact fun e => by cases e)).mono ?_
            rintro e w2 ha
            rw [HEE.out] at ha
            obtain ⟨m2, rfl⟩ := ha
            go_wp2
            refine ⟨rfl, ?_⟩
            rw [HRR.out]
            exact ⟨(HI.out.2.to HQ1.out.2).to m2, rfl⟩
          | ok r stk' =>
            have hl2 := hpl r stk' rfl
            simp only [kOf] at hl2
            have HRR : Hid (R = P en m (.curlyL 2 (rows ++ [r])) dp stk') := hR
            clear hR hpl
            go_wp2_with fail
            refine (HC.out w1 stk HQ1.out.1 (by rw [HEE.out]; exact fun e => by cases e)).mono ?_
            rintro e w2 ha
            rw [HEE.out] at ha
            obtain ⟨m2, q2, u, rfl, kd, nm, tys, exprs, body, els, p, A, B, C, D, rfl, rfl, xA, xB, xC, xD⟩ := ha
            obtain ⟨qA, cA, rfl⟩ := xA.slice
            obtain ⟨qB, cB, rfl⟩ := xB.slice
            obtain ⟨qC, cC, rfl⟩ := xC.slice
            obtain ⟨qD, cD, rfl⟩ := xD.slice
            have hxr : XR w2 (fun b => w1.heap.size ≤ b) [.string (tx kd), .string (tx nm), .slice qA tys.length cA, .slice qB exprs.length cB, .slice qC body.length cC, .slice qD els.length cD, .int .i64 (p : Nat)] (smR kd nm tys exprs body els p) := (.cons (X.s _ _ _) (.cons (X.s _ _ _) (.cons xA (.cons xB (.cons xC (.cons xD (.cons (X.a _ _ _) .nil)))))))
            have hls1 : LS w1 w.heap.size 2 (.slice q rows.length c) rows C := HI.out.1.mvR HQ1.out.2 hgw
            have hol : OL 7 47 (w2.alloc (.cells #[.string (tx kd), .string (tx nm), .slice qA tys.length cA, .slice qB exprs.length cB, .slice qC body.length cC, .slice qD els.length cD, .int .i64 (p : Nat)] 47 (0, 0))) (.slice q rows.length c) rows.length C := ((hls1.mvR m2 hgw).ol).stay fun b hb => Below.heap_alloc w2 _ b ((hls1.mvR m2 hgw).ol.lt hb)
            have HX : Hid (XR w2 (fun b => w1.heap.size ≤ b) [.string (tx kd), .string (tx nm), .slice qA tys.length cA, .slice qB exprs.length cB, .slice qC body.length cC, .slice qD els.length cD, .int .i64 (p : Nat)] (smR kd nm tys exprs body els p) ∧ LS w1 w.heap.size 2 (.slice q rows.length c) rows C ∧ MvR g w1 w2 ∧ Q w2 g lo en dp stk') := ⟨hxr, hls1, m2, q2⟩
            have HO := hide hol
            have hlC := hls1.len
            have HLC := hide hlC
            clear hxr hls1 m2 q2 hol hlC xA xB xC xD
            go_wp2_with (at_builtin; refine Stop.of ?_)
            show wpList _ _ _ _ _ _
            refine wpList_push rfl (.tmp 11) (.tmp 14) 24 rfl 7 47 _ 136 uS_list iS_elem (by decide) rfl (by decide) (.slice q rows.length c) rows.length C rfl [.string (tx kd), .string (tx nm), .slice qA tys.length cA, .slice qB exprs.length cB, .slice qC body.length cC, .slice qD els.length cD, .int .i64 (p : Nat)] 47 HO.out HLC.out 1 rfl rfl (by intro u hu; simp at hu; rcases hu with rfl | rfl | rfl | rfl | rfl | rfl | rfl <;> rfl) (by omega) (putC C rows.length [.string (tx kd), .string (tx nm), .slice qA tys.length cA, .slice qB exprs.length cB, .slice qC body.length cC, .slice qD els.length cD, .int .i64 (p : Nat)]) (fun k hk => by unfold putC; rw [if_neg (by omega)]) (by unfold putC; rw [if_pos rfl]) ?_
            intro v3 w3 hol3 hap3 hne3
            have hls3 : LS w3 w.heap.size 2 v3 (rows ++ [(smR kd nm tys exprs body els p)]) (putC C rows.length [.string (tx kd), .string (tx nm), .slice qA tys.length cA, .slice qB exprs.length cB, .slice qC body.length cC, .slice qD els.length cD, .int .i64 (p : Nat)]) := HX.out.2.1.next HX.out.2.2.1 hgw (by omega) rfl HX.out.1 hol3 hap3
            have hap3' := hap3.of_alloc (fun b hb => (HX.out.2.1.mvR HX.out.2.2.1 hgw).ol.lt hb)
            have hown : ∀ b, (Value.slice q rows.length c).ownBlock = some b → w.heap.size ≤ b := HX.out.2.1.own
            have hq3 : Q w3 g lo en dp stk' := HX.out.2.2.2.mv (Sat.Mv.app (F := fun b => w.heap.size ≤ b) (Sat.Mv.refl _ w2) hap3' (fun b hb => Or.inl (hown b hb))) (fun b hb => Nat.le_trans hlw hb)
            have hm3 : MvR g w w3 := Sat.Mv.app ((HI.out.2.to HQ1.out.2).to HX.out.2.2.1) hap3' (fun b hb => Or.inr (hown b hb))
            obtain ⟨q3, c3, rfl⟩ := hls3.shape
            have HF := hide (And.intro hls3 (And.intro hq3 hm3))
            clear hls3 hap3 hap3' hq3 hm3 hol3 hown
            go_wp2
            rw [List.length_append] at *
            refine ⟨⟨q3, rows.length + 1, c3, rfl, by omega, m, rows ++ [(smR kd nm tys exprs body els p)], _, stk', by simp, by omega, HRR.out, HF.out.1, HF.out.2.1, HF.out.2.2, by simp; omega⟩, by simp [sliceLen]; omega⟩
  · rw [if_neg hx] at hRR
    have HRR : Hid (R = .bad 110 (Syn.hd en st).a) := hRR
    clear hRR h
    go_enter Tryz.func142, Tryz.ntmps142
    go_wp2_with fail
    refine HW.out.mono ?_
    rintro e w2 ⟨m2, ⟨hyes, -, -⟩ | ⟨-, rfl⟩⟩
    case inl => exact absurd hyes hx
    go_wp2
    refine ⟨rfl, ?_⟩
    rw [HRR.out]
    exact ⟨m2, rfl⟩
end Syn
end Go.Proofs.YtomldkljlbdnjaaGreat
/- commas. No statement of the seat is proved here. -/
namespace Go.Proofs.YtomldkljlbdnjaaGreat
open Go.RowKit
set_option linter.unusedVariables false
set_option linter.unusedSimpArgs false
namespace Syn
open Euf (OL App Stop wpList_push)
open Lex (T TL tx bs tkC FV IsNm hide)
set_option maxRecDepth 4000 in
set_option maxHeartbeats 2000000 in
theorem commasE_any (fk : Nat) (hent : ∀ args w, (callFunc fk args).run Tryz.prog w = .ok (.enter fk args) w) (w : World) (g lo en dp N : Nat) (st : List T) (h : Q w g lo en dp st) (hne : P en N (.commas 0) dp st ≠ .out)
    (HR : ∀ m, m < N → ∀ w1 st1, Q w1 g lo en dp st1 → P en m (.elem 0) dp st1 ≠ .out → Calls Tryz.prog fk #[.pointer (some ⟨g, 0, none⟩)] w1 fun e w' => Ans ShE w1 g lo en dp e w' (P en m (.elem 0) dp st1)) :
    Calls Tryz.prog 176 #[.pointer (some ⟨g, 0, none⟩), .func (.func fk) #[.pointer (some ⟨g, 0, none⟩)] #[]] w fun e w' => Ans (ShL 0) w g lo en dp e w' (P en N (.commas 0) dp st) := by
  have hgw := h.lt
  have hlw := h.lw
  have hst := h.few
  have HST : Hid (st.length ≤ 65536) := hst
  obtain ⟨R, hRR⟩ : ∃ R, R = P en N (.commas 0) dp st := ⟨_, rfl⟩
  rw [← hRR] at hne ⊢
  cases N with
  | zero => exact absurd hRR hne
  | succ N =>
  simp only [P] at hRR
  have hpl := P_len en N (.elem 0) dp st
  have HC := hide <| HR N (by omega) w st h
  have HR := hide HR
  generalize hE : P en N (.elem 0) dp st = E at hRR hpl HC
  clear hE
  cases E with
  | out => exact absurd hRR hne
  | bad cc a =>
    have HRR : Hid (R = .bad cc a) := hRR
    clear hRR hpl HR h
    go_enter Tryz.func176, Tryz.ntmps176
    go_wp2_with fail
    refine (HC.out (fun e => by cases e)).mono ?_
    rintro e w2 ⟨m2, rfl⟩
    go_wp2
    refine ⟨rfl, ?_⟩
    rw [HRR.out]
    exact ⟨m2, rfl⟩
  | ok r st1 =>
    have hl2 := hpl r st1 rfl
    simp only [kOf] at hl2
    have HRR : Hid (R = P en N (.commaL 0 [r]) dp st1) := hRR
    clear hRR hpl h
    go_enter Tryz.func176, Tryz.ntmps176
    go_wp2_with fail
    refine (HC.out (fun e => by cases e)).mono ?_
    rintro e w2 ha
    obtain ⟨m2, q2, u, rfl, op, nm, args, tys, p, A, B, rfl, rfl, xA, xB⟩ := ha
    obtain ⟨qA, cA, rfl⟩ := xA.slice
    obtain ⟨qB, cB, rfl⟩ := xB.slice
    have hxr : XR w2 (fun b => w.heap.size ≤ b) [.string (tx op), .string (tx nm), .slice qA args.length cA, .slice qB tys.length cB, .int .i64 (p : Nat)] (exR op nm args tys p) := (.cons (X.s _ _ _) (.cons (X.s _ _ _) (.cons xA (.cons xB (.cons (X.a _ _ _) .nil)))))
    have hls0 : LS (w2.alloc (.cells #[.string (tx op), .string (tx nm), .slice qA args.length cA, .slice qB tys.length cB, .int .i64 (p : Nat)] 49 (0, 0))) w.heap.size 0 (.slice (some ⟨w2.heap.size, 0, none⟩) 1 1) [(exR op nm args tys p)] (fun _ => [.string (tx op), .string (tx nm), .slice qA args.length cA, .slice qB tys.length cB, .int .i64 (p : Nat)]) := LS.one w2 w.heap.size 0 [.string (tx op), .string (tx nm), .slice qA args.length cA, .slice qB tys.length cB, .int .i64 (p : Nat)] _ m2.size rfl hxr
    have HF : Hid (LS (w2.alloc (.cells #[.string (tx op), .string (tx nm), .slice qA args.length cA, .slice qB tys.length cB, .int .i64 (p : Nat)] 49 (0, 0))) w.heap.size 0 (.slice (some ⟨w2.heap.size, 0, none⟩) 1 1) [(exR op nm args tys p)] (fun _ => [.string (tx op), .string (tx nm), .slice qA args.length cA, .slice qB tys.length cB, .int .i64 (p : Nat)]) ∧ Q (w2.alloc (.cells #[.string (tx op), .string (tx nm), .slice qA args.length cA, .slice qB tys.length cB, .int .i64 (p : Nat)] 49 (0, 0))) g lo en dp st1 ∧ MvR g w (w2.alloc (.cells #[.string (tx op), .string (tx nm), .slice qA args.length cA, .slice qB tys.length cB, .int .i64 (p : Nat)] 49 (0, 0)))) := ⟨hls0, q2.alloc _, m2.alloc _⟩
    clear hxr hls0 m2 q2 xA xB HC
    go_wp2
    go_loopw [5] (fun v5 wl => ∃ q k c, v5 = .slice q k c ∧ k ≤ st.length + 1 ∧ Hid (CL (.commaL 0) 0 w wl g lo en dp (N + 1) (st.length + 1) R v5 k)) (fun v _ => st.length + 2 - sliceLen v)
    case atStart => exact ⟨_, 1, _, rfl, by omega, N, [_], _, st1, rfl, by omega, HRR.out, HF.out.1, HF.out.2.1, HF.out.2.2, by simp; omega⟩
    case round =>
      rename World => wl
      obtain ⟨q, k, c, rfl, hkB, HCL⟩ := hrel
      have hc := HCL.out
      obtain ⟨m, rows, C, stk, rfl, hmN, hR, hLS, hQ, hM, hlen⟩ := hc
      have hfew := hQ.few
      have hst : st.length ≤ 65536 := HST.out
      have HP := hide <| passes_q ([44] : List UInt8) (by decide) wl g lo en dp stk hQ
      have hwl : w.heap.size ≤ wl.heap.size := hM.size
      cases m with
      | zero => exact absurd hR hne
      | succ m =>
        by_cases hx : (Syn.hd en stk).x = ([44] : List UInt8)
        · have hlt := hd_len hx (by decide)
          simp only [P, if_pos hx] at hR
          rw [if_pos hx, decide_eq_true hx] at HP
          have HC := hide <| HR.out m (by omega)
          have HI : Hid (LS wl w.heap.size 0 (.slice q rows.length c) rows C ∧ MvR g w wl) := ⟨hLS, hM⟩
          have hpl := P_len en m (.elem 0) dp stk.tail
          clear hLS hM hQ HCL hx
          go_wp2_with fail
          refine HP.out.mono ?_
          rintro e w1 ⟨rfl, q1, m1⟩
          have HQ1 : Hid (Q w1 g lo en dp stk.tail ∧ MvR g wl w1) := ⟨q1, m1⟩
          have hw1 : wl.heap.size ≤ w1.heap.size := m1.size
          clear q1 m1
          generalize hE : P en m (.elem 0) dp stk.tail = E at hR hpl
          have HEE : Hid (P en m (.elem 0) dp stk.tail = E) := hE
          clear hE
          cases E with
          | out => exact absurd hR hne
          | bad cc a =>
            have HRR : Hid (R = .bad cc a) := hR
            clear hR
            go_wp2_with fail
            refine (HC.out w1 stk.tail HQ1.out.1 (by rw [HEE.out]; exact fun e => by cases e)).mono ?_
            rintro e w2 ha
            rw [HEE.out] at ha
            obtain ⟨m2, rfl⟩ := ha
            go_wp2
            refine ⟨rfl, ?_⟩
            rw [HRR.out]
            exact ⟨(HI.out.2.to HQ1.out.2).to m2, rfl⟩
          | ok r stk' =>
            have hl2 := hpl r stk' rfl
            have HRR : Hid (R = P en m (.commaL 0 (rows ++ [r])) dp stk') := hR
            clear hR hpl
            go_wp2_with fail
            refine (HC.out w1 stk.tail HQ1.out.1 (by rw [HEE.out]; exact fun e => by cases e)).mono ?_
            rintro e w2 ha
            rw [HEE.out] at ha
            obtain ⟨m2, q2, u, rfl, op, nm, args, tys, p, A, B, rfl, rfl, xA, xB⟩ := ha
            obtain ⟨qA, cA, rfl⟩ := xA.slice
            obtain ⟨qB, cB, rfl⟩ := xB.slice
            have hxr : XR w2 (fun b => w1.heap.size ≤ b) [.string (tx op), .string (tx nm), .slice qA args.length cA, .slice qB tys.length cB, .int .i64 (p : Nat)] (exR op nm args tys p) := (.cons (X.s _ _ _) (.cons (X.s _ _ _) (.cons xA (.cons xB (.cons (X.a _ _ _) .nil)))))
            have hls1 : LS w1 w.heap.size 0 (.slice q rows.length c) rows C := HI.out.1.mvR HQ1.out.2 hgw
            have hol : OL 5 49 (w2.alloc (.cells #[.string (tx op), .string (tx nm), .slice qA args.length cA, .slice qB tys.length cB, .int .i64 (p : Nat)] 49 (0, 0))) (.slice q rows.length c) rows.length C := ((hls1.mvR m2 hgw).ol).stay fun b hb => Below.heap_alloc w2 _ b ((hls1.mvR m2 hgw).ol.lt hb)
            have HX : Hid (XR w2 (fun b => w1.heap.size ≤ b) [.string (tx op), .string (tx nm), .slice qA args.length cA, .slice qB tys.length cB, .int .i64 (p : Nat)] (exR op nm args tys p) ∧ LS w1 w.heap.size 0 (.slice q rows.length c) rows C ∧ MvR g w1 w2 ∧ Q w2 g lo en dp stk') := ⟨hxr, hls1, m2, q2⟩
            have HO := hide hol
            have hlC := hls1.len
            have HLC := hide hlC
            clear hxr hls1 m2 q2 hol hlC xA xB
            go_wp2_with (at_builtin; refine Stop.of ?_)
            show wpList _ _ _ _ _ _
            refine wpList_push rfl (.tmp 11) (.tmp 14) 45 rfl 5 49 _ 88 uE_list iE_elem (by decide) rfl (by decide) (.slice q rows.length c) rows.length C rfl [.string (tx op), .string (tx nm), .slice qA args.length cA, .slice qB tys.length cB, .int .i64 (p : Nat)] 49 HO.out HLC.out 1 rfl rfl (by intro u hu; simp at hu; rcases hu with rfl | rfl | rfl | rfl | rfl <;> rfl) (by omega) (putC C rows.length [.string (tx op), .string (tx nm), .slice qA args.length cA, .slice qB tys.length cB, .int .i64 (p : Nat)]) (fun k hk => by unfold putC; rw [if_neg (by omega)]) (by unfold putC; rw [if_pos rfl]) ?_
            intro v3 w3 hol3 hap3 hne3
            have hls3 : LS w3 w.heap.size 0 v3 (rows ++ [(exR op nm args tys p)]) (putC C rows.length [.string (tx op), .string (tx nm), .slice qA args.length cA, .slice qB tys.length cB, .int .i64 (p : Nat)]) := HX.out.2.1.next HX.out.2.2.1 hgw (by omega) rfl HX.out.1 hol3 hap3
            have hap3' := hap3.of_alloc (fun b hb => (HX.out.2.1.mvR HX.out.2.2.1 hgw).ol.lt hb)
            have hown : ∀ b, (Value.slice q rows.length c).ownBlock = some b → w.heap.size ≤ b := HX.out.2.1.own
            have hq3 : Q w3 g lo en dp stk' := HX.out.2.2.2.mv (Sat.Mv.app (F := fun b => w.heap.size ≤ b) (Sat.Mv.refl _ w2) hap3' (fun b hb => Or.inl (hown b hb))) (fun b hb => Nat.le_trans hlw hb)
            have hm3 : MvR g w w3 := Sat.Mv.app ((HI.out.2.to HQ1.out.2).to HX.out.2.2.1) hap3' (fun b hb => Or.inr (hown b hb))
            obtain ⟨q3, c3, rfl⟩ := hls3.shape
            have HF := hide (And.intro hls3 (And.intro hq3 hm3))
            clear hls3 hap3 hap3' hq3 hm3 hol3 hown
            go_wp2
            rw [List.length_append] at *
            refine ⟨⟨q3, rows.length + 1, c3, rfl, by omega, m, rows ++ [(exR op nm args tys p)], _, stk', by simp, by omega, HRR.out, HF.out.1, HF.out.2.1, HF.out.2.2, by simp; omega⟩, by simp [sliceLen]; omega⟩
        · simp only [P, if_neg hx] at hR
          rw [if_neg hx, decide_eq_false hx] at HP
          have HI : Hid (LS wl w.heap.size 0 (.slice q rows.length c) rows C ∧ MvR g w wl ∧ R = .ok [.l 0 rows] stk) := ⟨hLS, hM, hR⟩
          clear hLS hM hQ HCL hx hR
          go_wp2_with fail
          refine HP.out.mono ?_
          rintro e w1 ⟨rfl, q1, m1⟩
          have HQ1 : Hid (Q w1 g lo en dp stk ∧ MvR g wl w1) := ⟨q1, m1⟩
          clear q1 m1
          go_wp2
          go_ret
          rw [HI.out.2.2]
          exact ⟨HI.out.2.1.to HQ1.out.2, HQ1.out.1, _, rfl, rows, rfl, (HI.out.1.mvR HQ1.out.2 hgw).x⟩
end Syn
end Go.Proofs.YtomldkljlbdnjaaGreat
/- round. No statement of the seat is proved here. -/
namespace Go.Proofs.YtomldkljlbdnjaaGreat
open Go.RowKit
set_option linter.unusedVariables false
set_option linter.unusedSimpArgs false
namespace Syn
open Euf (OL App Stop wpList_push)
open Lex (T TL tx bs tkC FV IsNm hide)
set_option maxRecDepth 4000 in
set_option maxHeartbeats 2000000 in
theorem roundE_any (fk : Nat) (hent : ∀ args w, (callFunc fk args).run Tryz.prog w = .ok (.enter fk args) w) (w : World) (g lo en dp N : Nat) (st : List T) (h : Q w g lo en dp st) (hne : P en N (.round 0) dp st ≠ .out)
    (HR : ∀ m, m < N → ∀ w1 st1, Q w1 g lo en dp st1 → P en m (.elem 0) dp st1 ≠ .out → Calls Tryz.prog fk #[.pointer (some ⟨g, 0, none⟩)] w1 fun e w' => Ans ShE w1 g lo en dp e w' (P en m (.elem 0) dp st1)) :
    Calls Tryz.prog 159 #[.pointer (some ⟨g, 0, none⟩), .func (.func fk) #[.pointer (some ⟨g, 0, none⟩)] #[]] w fun e w' => Ans (ShL 0) w g lo en dp e w' (P en N (.round 0) dp st) := by
  obtain ⟨R, hRR⟩ : ∃ R, R = P en N (.round 0) dp st := ⟨_, rfl⟩
  rw [← hRR] at hne ⊢
  cases N with
  | zero => exact absurd hRR hne
  | succ N =>
  simp only [P, wantP] at hRR
  have HW := hide <| want_q ([40] : List UInt8) (by decide) w g lo en dp st h
  have HK : Hid (∀ w1 st1, Q w1 g lo en dp st1 → P en N (.commas 0) dp st1 ≠ .out → Calls Tryz.prog 176 #[.pointer (some ⟨g, 0, none⟩), .func (.func fk) #[.pointer (some ⟨g, 0, none⟩)] #[]] w1 fun e w' => Ans (ShL 0) w1 g lo en dp e w' (P en N (.commas 0) dp st1)) := fun w1 st1 q1 h1 => commasE_any fk hent w1 g lo en dp N st1 q1 h1 fun m hm => HR m (by omega)
  clear HR h
  by_cases hx : (Syn.hd en st).x = ([40] : List UInt8)
  case neg =>
    rw [if_neg hx] at hRR
    have HRR : Hid (R = .bad 110 (Syn.hd en st).a) := hRR
    clear hRR
    go_enter Tryz.func159, Tryz.ntmps159
    go_wp2_with fail
    refine HW.out.mono ?_
    rintro e w2 ⟨m2, ⟨hyes, -, -⟩ | ⟨-, rfl⟩⟩
    case inl => exact absurd hyes hx
    go_wp2
    refine ⟨rfl, ?_⟩
    rw [HRR.out]
    exact ⟨m2, rfl⟩
  rw [if_pos hx] at hRR
  generalize st.tail = s1 at hRR HW
  by_cases hy : (Syn.hd en s1).x = ([41] : List UInt8)
  case pos =>
    rw [if_pos hy] at hRR
    have HRR : Hid (R = .ok [.l 0 []] s1.tail) := hRR
    have HPS := hide <| fun w1 q1 => passes_q ([41] : List UInt8) (by decide) w1 g lo en dp s1 q1
    rw [if_pos hy, decide_eq_true hy] at HPS
    clear hRR
    go_enter Tryz.func159, Tryz.ntmps159
    go_wp2_with fail
    refine HW.out.mono ?_
    rintro e w2 ⟨m2, ⟨-, rfl, q2⟩ | ⟨hno, -⟩⟩
    case inr => exact absurd hx hno
    have HF : Hid (Q w2 g lo en dp s1 ∧ MvR g w w2) := ⟨q2, m2⟩
    clear m2 q2 hx hy
    go_wp2_with fail
    refine (HPS.out w2 HF.out.1).mono ?_
    rintro e w3 ⟨rfl, q3, m3⟩
    have HF3 : Hid (Q w3 g lo en dp s1.tail ∧ MvR g w2 w3) := ⟨q3, m3⟩
    clear m3 q3
    go_wp2
    go_ret
    rw [HRR.out]
    exact ⟨HF.out.2.to HF3.out.2, HF3.out.1, _, rfl, [], rfl, X.nil _ _ _⟩
  rw [if_neg hy] at hRR
  have HPS := hide <| fun w1 q1 => passes_q ([41] : List UInt8) (by decide) w1 g lo en dp s1 q1
  rw [if_neg hy, decide_eq_false hy] at HPS
  have HK := hide <| fun w1 q1 => HK.out w1 s1 q1
  generalize P en N (.commas 0) dp s1 = E at hRR HK
  cases E with
  | out => exact absurd hRR hne
  | bad cc a =>
    have HRR : Hid (R = .bad cc a) := hRR
    clear hRR
    go_enter Tryz.func159, Tryz.ntmps159
    go_wp2_with fail
    refine HW.out.mono ?_
    rintro e w2 ⟨m2, ⟨-, rfl, q2⟩ | ⟨hno, -⟩⟩
    case inr => exact absurd hx hno
    have HF : Hid (Q w2 g lo en dp s1 ∧ MvR g w w2) := ⟨q2, m2⟩
    clear m2 q2 hx hy
    go_wp2_with fail
    refine (HPS.out w2 HF.out.1).mono ?_
    rintro e w3 ⟨rfl, q3, m3⟩
    have HF3 : Hid (Q w3 g lo en dp s1 ∧ MvR g w2 w3) := ⟨q3, m3⟩
    clear m3 q3
    go_wp2_with fail
    refine (HK.out w3 HF3.out.1 (fun e => by cases e)).mono ?_
    rintro e w4 ⟨m4, rfl⟩
    go_wp2
    refine ⟨rfl, ?_⟩
    rw [HRR.out]
    exact ⟨(HF.out.2.to HF3.out.2).to m4, rfl⟩
  | ok r s4 =>
    simp only [Res.to_ok] at hRR
    have HW4 := hide <| fun w1 q1 => want_q ([41] : List UInt8) (by decide) w1 g lo en dp s4 q1
    by_cases hz : (Syn.hd en s4).x = ([41] : List UInt8)
    case neg =>
      rw [if_neg hz] at hRR
      have HRR : Hid (R = .bad 110 (Syn.hd en s4).a) := hRR
      clear hRR
      go_enter Tryz.func159, Tryz.ntmps159
      go_wp2_with fail
      refine HW.out.mono ?_
      rintro e w2 ⟨m2, ⟨-, rfl, q2⟩ | ⟨hno, -⟩⟩
      case inr => exact absurd hx hno
      have HF : Hid (Q w2 g lo en dp s1 ∧ MvR g w w2) := ⟨q2, m2⟩
      clear m2 q2 hx hy
      go_wp2_with fail
      refine (HPS.out w2 HF.out.1).mono ?_
      rintro e w3 ⟨rfl, q3, m3⟩
      have HF3 : Hid (Q w3 g lo en dp s1 ∧ MvR g w2 w3) := ⟨q3, m3⟩
      clear m3 q3
      go_wp2_with fail
      refine (HK.out w3 HF3.out.1 (fun e => by cases e)).mono ?_
      rintro e w4 ⟨m4, q4, u, rfl, rows, rfl, xA⟩
      have HF4 : Hid (Q w4 g lo en dp s4 ∧ MvR g w3 w4) := ⟨q4, m4⟩
      clear m4 q4 xA
      go_wp2_with fail
      refine (HW4.out w4 HF4.out.1).mono ?_
      rintro e w5 ⟨m5, ⟨hyes, -, -⟩ | ⟨-, rfl⟩⟩
      case inl => exact absurd hyes hz
      go_wp2
      refine ⟨rfl, ?_⟩
      rw [HRR.out]
      exact ⟨((HF.out.2.to HF3.out.2).to HF4.out.2).to m5, rfl⟩
    rw [if_pos hz] at hRR
    have HRR : Hid (R = .ok r s4.tail) := hRR
    clear hRR
    go_enter Tryz.func159, Tryz.ntmps159
    go_wp2_with fail
    refine HW.out.mono ?_
    rintro e w2 ⟨m2, ⟨-, rfl, q2⟩ | ⟨hno, -⟩⟩
    case inr => exact absurd hx hno
    have HF : Hid (Q w2 g lo en dp s1 ∧ MvR g w w2) := ⟨q2, m2⟩
    clear m2 q2 hx hy
    go_wp2_with fail
    refine (HPS.out w2 HF.out.1).mono ?_
    rintro e w3 ⟨rfl, q3, m3⟩
    have HF3 : Hid (Q w3 g lo en dp s1 ∧ MvR g w2 w3) := ⟨q3, m3⟩
    clear m3 q3
    go_wp2_with fail
    refine (HK.out w3 HF3.out.1 (fun e => by cases e)).mono ?_
    rintro e w4 ⟨m4, q4, u, rfl, rows, rfl, xA⟩
    have HF4 : Hid (Q w4 g lo en dp s4 ∧ MvR g w3 w4 ∧ X w4 (fun b => w3.heap.size ≤ b) u (.l 0 rows)) := ⟨q4, m4, xA⟩
    clear m4 q4 xA
    go_wp2_with fail
    refine (HW4.out w4 HF4.out.1).mono ?_
    rintro e w5 ⟨m5, ⟨-, rfl, q5⟩ | ⟨hno, -⟩⟩
    case inr => exact absurd hz hno
    have HF5 : Hid (Q w5 g lo en dp s4.tail ∧ MvR g w4 w5) := ⟨q5, m5⟩
    clear m5 q5 hz
    go_wp2
    go_ret
    rw [HRR.out]
    have h0 := (HF.out.2.to HF3.out.2).size
    have hg := HF3.out.1.lt
    refine ⟨((HF.out.2.to HF3.out.2).to HF4.out.2.1).to HF5.out.2, HF5.out.1, _, rfl, rows, rfl, HF4.out.2.2.far HF5.out.2 (fun b hb hl hk => ?_) (fun b hb => ?_)⟩
    · have : b = g := hk
      have : w3.heap.size ≤ b := hb
      omega
    · exact Nat.le_trans h0 hb
end Syn
end Go.Proofs.YtomldkljlbdnjaaGreat
