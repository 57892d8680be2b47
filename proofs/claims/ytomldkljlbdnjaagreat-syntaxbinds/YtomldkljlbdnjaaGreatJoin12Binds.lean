/- Joined: SynYwCut, SynYzCut, SynZfCut, SynZsCut: words and contracts; no statement of the seat is proved here. -/
import Derived.Test.YtomldkljlbdnjaaGreatJoin10Binds
import Derived.Test.YtomldkljlbdnjaaGreatJoin11Binds
/- A list of rows that grows, its blocks among F. No statement of the seat is proved here. -/
namespace Go.Proofs.YtomldkljlbdnjaaGreat
open Go.RowKit
set_option linter.unusedVariables false
set_option linter.unusedSimpArgs false
namespace Syn
open Euf (OL App Stop wp_append_list wp_push1 ONE5 flat)
open Lex (T TL tx bs tkC FV IsNm hide)
structure LF (w : World) (F : Nat → Prop) (s : Nat) (v : Value) (rows : List (List V)) (C : Nat → List Value) : Prop where
  ol : OL (wd s) (ty s) w v rows.length C
  own : ∀ b, v.ownBlock = some b → F b
  len : ∀ i, i < rows.length → (C i).length = wd s
  el : ∀ i, i < rows.length → XR w (fun b => F b ∧ v.ownBlock ≠ some b) (C i) (rows.getD i [])
theorem LF.nil (w : World) (F : Nat → Prop) (s : Nat) : LF w F s (.slice none 0 0) [] (fun _ => []) :=
  ⟨OL.nil _ _ _ _, (fun b k => by cases k), (fun i hi => absurd hi (Nat.not_lt_zero _)), fun i hi => absurd hi (Nat.not_lt_zero _)⟩
section
variable {w w' : World} {F F' G : Nat → Prop} {s : Nat} {v v' : Value} {rows rows2 : List (List V)} {C C' C2 : Nat → List Value}
theorem LF.x (h : LF w F s v rows C) : X w F v (.l s rows) :=
  X.mk C h.ol h.own h.len h.el
theorem LF.ofX (h : X w F v (.l s rows)) : ∃ C, LF w F s v rows C := by
  obtain ⟨C, h1, h2, h3, h4⟩ := h.open
  exact ⟨C, h1, h2, h3, h4⟩
theorem LF.stay (h : LF w F s v rows C) (hb : ∀ b, F b → b < w.heap.size → w'.heap[b]? = w.heap[b]?) (hF : ∀ b, F b → F' b) : LF w' F' s v rows C :=
  ⟨h.ol.stay fun b k => hb b (h.own b k) (h.ol.lt k), fun b k => hF b (h.own b k), h.len, fun i hi => (h.el i hi).stay fun b k kl => ⟨hb b k.1 kl, hF b k.1, k.2⟩⟩
theorem LF.far (h : LF w F s v rows C) (m : Sat.Mv G w w') (hG : ∀ b, F b → b < w.heap.size → ¬ G b) (hF : ∀ b, F b → F' b) : LF w' F' s v rows C :=
  h.stay (fun b k kl => m.other b kl (hG b k kl)) hF
theorem LF.shape (h : LF w F s v rows C) : ∃ q c, v = .slice q rows.length c := by
  obtain ⟨a, cap, h2, _⟩ := h.ol.shape
  exact ⟨a, cap, h2⟩
theorem LF.cat (h : LF w F s v rows C) (F2 : Nat → Prop) (hl2 : ∀ i, i < rows2.length → (C2 i).length = wd s) (hx2 : ∀ i, i < rows2.length → XR w F2 (C2 i) (rows2.getD i [])) (ho : OL (wd s) (ty s) w' v' (rows.length + rows2.length) C') (hc1 : ∀ k, k < rows.length → C' k = C k) (hc2 : ∀ k, k < rows2.length → C' (rows.length + k) = C2 k)
    (ha : App v v' w w') (hF : ∀ b, F b → F' b) (hF2 : ∀ b, F2 b → F' b ∧ v.ownBlock ≠ some b) (hnew : ∀ b, w.heap.size ≤ b → F' b) : LF w' F' s v' (rows ++ rows2) C' := by
  have own' : ∀ b, b < w.heap.size → v.ownBlock ≠ some b → v'.ownBlock ≠ some b := fun b hb hn => by
    rcases ha.at_ with e | ⟨c, e, hc⟩
    · rw [e]; exact hn
    · rw [e]; intro hh; injection hh with hh; omega
  refine ⟨by rw [List.length_append]; exact ho, fun b k => ?_, fun i hi => ?_, fun i hi => ?_⟩
  · rcases ha.at_ with e | ⟨c, e, hc⟩
    · rw [e] at k; exact hF b (h.own b k)
    · rw [e] at k; injection k with k; exact hnew b (by omega)
  · rw [List.length_append] at hi
    by_cases hlt : i < rows.length
    · rw [hc1 i hlt]; exact h.len i hlt
    · have := hc2 (i - rows.length) (by omega)
      rw [show rows.length + (i - rows.length) = i by omega] at this
      rw [this]; exact hl2 _ (by omega)
  · rw [List.length_append] at hi
    by_cases hlt : i < rows.length
    · rw [hc1 i hlt]
      have := (h.el i hlt).stay (w' := w') (G := fun b => F' b ∧ v'.ownBlock ≠ some b) fun b k kl => ⟨ha.other b kl k.2, hF b k.1, own' b kl k.2⟩
      simpa [List.getD_eq_getElem?_getD, List.getElem?_append_left hlt] using this
    · have e := hc2 (i - rows.length) (by omega)
      rw [show rows.length + (i - rows.length) = i by omega] at e
      rw [e]
      have := (hx2 (i - rows.length) (by omega)).stay (w' := w') (G := fun b => F' b ∧ v'.ownBlock ≠ some b) fun b k kl => ⟨ha.other b kl (hF2 b k).2, (hF2 b k).1, own' b kl (hF2 b k).2⟩
      simpa [List.getD_eq_getElem?_getD, List.getElem?_append_right (Nat.le_of_not_lt hlt)] using this
theorem LF.push1 {vs : List Value} {t : List V} (h : LF w F s v rows C) (F2 : Nat → Prop) (hl2 : vs.length = wd s) (hx2 : XR w F2 vs t) (ho : OL (wd s) (ty s) w' v' (rows.length + 1) (putC C rows.length vs))
    (ha : App v v' w w') (hF : ∀ b, F b → F' b) (hF2 : ∀ b, F2 b → F' b ∧ v.ownBlock ≠ some b) (hnew : ∀ b, w.heap.size ≤ b → F' b) : LF w' F' s v' (rows ++ [t]) (putC C rows.length vs) :=
  h.cat (C2 := fun _ => vs) F2 (fun _ _ => hl2) (fun i hi => by
    obtain rfl : i = 0 := by simp at hi; omega
    simpa using hx2) ho (fun k hk => by unfold putC; rw [if_neg (by omega)]) (fun k hk => by
    obtain rfl : k = 0 := by simp at hk; omega
    unfold putC; rw [if_pos (by omega)]) ha hF hF2 hnew
/-- Moved, with an append besides. -/
theorem Mv.appF {g : Nat} {w0 : World} (m : MvR g w0 w) (h : ∀ b, v.ownBlock = some b → F b) (ha : App v v' w w') : Sat.Mv (fun b => b = g ∨ F b) w0 w' :=
  Sat.Mv.app (Mv.wide m (fun b k => Or.inl k)) ha (fun b k => Or.inl (Or.inr (h b k)))
end
theorem flat_ones {w : World} {F : Nat → Prop} (rows : List (List V)) (C : Nat → List Value) (hx : ∀ i, i < rows.length → XR w F (C i) (rows.getD i [])) : ∀ u ∈ flat C rows.length, u.oneCell' = true := by
  have h : ∀ n, n ≤ rows.length → ∀ u ∈ flat C n, u.oneCell' = true := by
    intro n
    induction n with
    | zero => intro _ u hu; simp [flat] at hu
    | succ n ih =>
      intro hn u hu
      have e : flat C (n + 1) = flat C n ++ C n := by simp [flat, List.range_succ]
      rw [e] at hu
      rcases List.mem_append.1 hu with hu | hu
      · exact ih (by omega) u hu
      · exact (hx n (by omega)).one u hu
  exact h _ (Nat.le_refl _)
/-- How many parts there can be. -/
theorem commaL_cnt (en s : Nat) : ∀ (n : Nat) (acc : List (List V)) (dp : Nat) (st : List T) (r : List V) (s' : List T), P en n (.commaL s acc) dp st = .ok r s' → ∃ rows, r = [.l s rows] ∧ rows.length + s'.length ≤ acc.length + st.length
  | 0, _, _, _, _, _, h => by cases h
  | n + 1, acc, dp, st, r, s', h => by
    simp only [P] at h
    by_cases hx : (hd en st).x = ([44] : List UInt8)
    · rw [if_pos hx] at h
      have hlt := hd_len hx (by decide)
      have hpl := P_len en n (.elem s) dp st.tail
      cases hE : P en n (.elem s) dp st.tail with
      | out => rw [hE] at h; cases h
      | bad c a => rw [hE] at h; cases h
      | ok e s1 =>
        rw [hE] at h
        have h1 := hpl e s1 hE
        obtain ⟨rows, hr, hl⟩ := commaL_cnt en s n _ dp s1 r s' h
        refine ⟨rows, hr, ?_⟩
        rw [List.length_append] at hl
        simp at hl
        omega
    · rw [if_neg hx] at h
      cases h
      exact ⟨acc, rfl, Nat.le_refl _⟩
theorem round_cnt (en s n dp : Nat) (st : List T) (r : List V) (s' : List T) (h : P en n (.round s) dp st = .ok r s') : ∀ rows, r = [.l s rows] → rows.length ≤ st.length := by
  intro rows hr
  cases n with
  | zero => cases h
  | succ n =>
    simp only [P, wantP] at h
    by_cases hx : (hd en st).x = ([40] : List UInt8)
    · rw [if_pos hx] at h
      by_cases hy : (hd en st.tail).x = ([41] : List UInt8)
      · rw [if_pos hy] at h
        cases h
        cases hr
        simp
      · rw [if_neg hy] at h
        cases n with
        | zero => cases h
        | succ n =>
          simp only [P] at h
          have hpl := P_len en n (.elem s) dp st.tail
          have hlt := hd_len hx (by decide)
          cases hE : P en n (.elem s) dp st.tail with
          | out => rw [hE] at h; cases h
          | bad c a => rw [hE] at h; cases h
          | ok e s1 =>
            rw [hE] at h
            have h1 := hpl e s1 hE
            simp only [Res.to_ok] at h
            cases hL : P en n (.commaL s [e]) dp s1 with
            | out => rw [hL] at h; cases h
            | bad c a => rw [hL] at h; cases h
            | ok r2 s2 =>
              rw [hL] at h
              simp only [Res.to_ok] at h
              obtain ⟨rows2, hr2, hl2⟩ := commaL_cnt en s n _ dp s1 r2 s2 hL
              by_cases hz : (hd en s2).x = ([41] : List UInt8)
              · rw [if_pos hz] at h
                cases h
                rw [hr2] at hr
                cases hr
                simp at hl2
                omega
              · rw [if_neg hz] at h; cases h
    · rw [if_neg hx] at h; cases h
theorem uK_list : Tryz.prog.underlying 23 = some (.slice 78) := by kernel_rfl
end Syn
end Go.Proofs.YtomldkljlbdnjaaGreat
/- Methods with an expression handed in: their promise; between, target. No statement of the seat is proved here. -/
namespace Go.Proofs.YtomldkljlbdnjaaGreat
open Go.RowKit
set_option linter.unusedVariables false
set_option linter.unusedSimpArgs false
namespace Syn
open Euf (OL App Stop)
open Lex (T TL tx bs tkC FV IsNm hide)
theorem new_at3 (w : World) (o o' o'' o3 : Obj) : ((((w.alloc o).alloc o').alloc o'').alloc o3).heap[w.heap.size + 1 + 1 + 1]? = some o3 := by
  have := heap_alloc_new (((w.alloc o).alloc o').alloc o'') o3
  simpa using this
theorem X.two (w : World) (n s : Nat) (F : Nat → Prop) (a b : List Value) (r1 r2 : List V) (hn : n = w.heap.size) (ha : a.length = wd s) (hb : b.length = wd s) (hF : F n) (x1 : XR w F a r1) (x2 : XR w F b r2) : X (w.alloc (.cells (a ++ b).toArray (ty s) (0, 0))) F (.slice (some ⟨n, 0, none⟩) 2 2) (.l s [r1, r2]) := by
  subst hn
  have st : ∀ {c : List Value} {r : List V}, XR w F c r → XR (w.alloc (.cells (a ++ b).toArray (ty s) (0, 0))) (fun k => F k ∧ (Value.slice (some ⟨w.heap.size, 0, none⟩) 2 2).ownBlock ≠ some k) c r := fun h => XR.stay h fun k hk kl => ⟨Below.heap_alloc w _ k kl, hk, fun e => absurd (show w.heap.size = k by simpa [Value.ownBlock] using e) (by omega)⟩
  refine X.mk (fun i => if i = 0 then a else b) (Or.inr ⟨w.heap.size, 2, (a ++ b).toArray, rfl, heap_alloc_new w _, Nat.le_refl _, by decide, by simp [ha, hb]; omega, fun i hi j hj => ?_⟩) (fun k hk => by cases hk; exact hF) (fun i hi => by show (if i = 0 then a else b).length = wd s; split <;> assumption) (fun i hi => ?_)
  · obtain rfl | rfl : i = 0 ∨ i = 1 := by simp at hi; omega
    · simp; rw [List.getElem?_append_left (by omega)]
    · simp; rw [List.getElem?_append_right (by omega)]; congr 1; omega
  · obtain rfl | rfl : i = 0 ∨ i = 1 := by simp at hi; omega
    · exact st x1
    · exact st x2
def AnsB (sh : World → (Nat → Prop) → Value → List V → Prop) (base ex : Nat) (w : World) (g lo en dp : Nat) (e : Ending) (w' : World) : Res → Prop
  | .ok r st => MvR g w w' ∧ Q w' g lo en dp st ∧ ∃ u, e = .returned u ∧ sh w' (fun b => base ≤ b ∧ b ≠ ex) u r
  | .bad c a => MvR g w w' ∧ Gives e c a
  | .out => False
def SpB (f : FuncId) (sh : World → (Nat → Prop) → Value → List V → Prop) (mk : List V → Cmd) (en g lo m : Nat) : Prop :=
  ∀ w dp st base ex op nm args tys p qA cA qB cB, Q w g lo en dp st → g < base → base ≤ w.heap.size → ex < w.heap.size → X w (fun b => base ≤ b ∧ b ≠ ex) (.slice qA (List.length args) cA) (.l 0 args) → X w (fun b => base ≤ b ∧ b ≠ ex) (.slice qB (List.length tys) cB) (.l 1 tys) → P en m (mk (exR op nm args tys p)) dp st ≠ .out →
    Calls Tryz.prog f #[.pointer (some ⟨g, 0, none⟩), .agg #[.string (tx op), .string (tx nm), .slice qA (List.length args) cA, .slice qB (List.length tys) cB, .int .i64 (p : Nat)]] w fun e w' => AnsB sh base ex w g lo en dp e w' (P en m (mk (exR op nm args tys p)) dp st)
def SpB1 (f : FuncId) (sh : World → (Nat → Prop) → Value → List V → Prop) (mk : List V → Cmd) (en g lo m : Nat) : Prop :=
  ∀ w dp st base ex op nm args tys p qA cA qB cB, Q w g lo en dp st → g < base → base ≤ w.heap.size → ex < w.heap.size → X w (fun b => base ≤ b ∧ b ≠ ex) (.slice qA (List.length args) cA) (.l 0 args) → X w (fun b => base ≤ b ∧ b ≠ ex) (.slice qB (List.length tys) cB) (.l 1 tys) → st ≠ [] → P en m (mk (exR op nm args tys p)) dp st ≠ .out →
    Calls Tryz.prog f #[.pointer (some ⟨g, 0, none⟩), .agg #[.string (tx op), .string (tx nm), .slice qA (List.length args) cA, .slice qB (List.length tys) cB, .int .i64 (p : Nat)]] w fun e w' => AnsB sh base ex w g lo en dp e w' (P en m (mk (exR op nm args tys p)) dp st)
theorem step_b {f : FuncId} {args : Array Value} {wk wx : World} {g lo en dp : Nat} {st : List T} {post : World → Ending → World → Prop} (Gl : Nat → Prop) (hM : Sat.Mv Gl wk wx) (hq : Q wk g lo en dp st) (hl : ∀ b, Gl b → lo ≤ b)
    (hC : ∀ wz, Q wz g lo en dp st → Sat.Mv Gl wk wz → Calls Tryz.prog f args wz (post wz)) : Calls Tryz.prog f args wx (fun e w' => post wx e w' ∧ Sat.Mv Gl wk wx) :=
  (hC wx (hq.mv hM hl) hM).mono fun e w' h => ⟨h, hM⟩
theorem ans_finB {sh : World → (Nat → Prop) → Value → List V → Prop} {w wk wf : World} {base ex g lo en dp : Nat} {u : Value} {r : List V} {st : List T} (GL : Nat → Prop) (sE : Sat.Mv GL wk wf) (m : Sat.Mv (fun b => b = g ∨ GL b) w wk) (hG : ∀ b, (b = g ∨ GL b) → b = g ∨ w.heap.size ≤ b)
    (q : Q wk g lo en dp st) (hl : ∀ b, GL b → lo ≤ b) (hsh : sh wf (fun b => base ≤ b ∧ b ≠ ex) u r) : AnsB sh base ex w g lo en dp (.returned u) wf (.ok r st) :=
  ⟨Mv.out (mvt m (Mv.wide sE fun b k => Or.inr k)) hG, q.mv sE hl, u, rfl, hsh⟩
theorem alloc2_blk (w : World) (o : Obj) (ty : TypeId) (C : Array Value) (t2 : TypeId) (C2 : Array Value) : Blk ty ((w.alloc (.cells C ty (0, 0))).alloc (.cells C2 t2 (0, 0))) w.heap.size C := by
  exact (Below.heap_alloc _ _ w.heap.size (by simp)).trans (heap_alloc_new w _)
set_option maxRecDepth 4000 in
set_option maxHeartbeats 2000000 in
theorem between_any (w : World) (base ex : Nat) (hex : ex < w.heap.size) (sg : T) (op nm : List UInt8) (args tys : List (List V)) (p : Nat) (qA qB : Option Addr) (cA cB : Nat) (op2 nm2 : List UInt8) (args2 tys2 : List (List V)) (p2 : Nat) (qA2 qB2 : Option Addr) (cA2 cB2 : Nat) (hb : base ≤ w.heap.size)
    (xA : X w (fun b => base ≤ b ∧ b ≠ ex) (.slice qA args.length cA) (.l 0 args)) (xB : X w (fun b => base ≤ b ∧ b ≠ ex) (.slice qB tys.length cB) (.l 1 tys)) (xA2 : X w (fun b => base ≤ b ∧ b ≠ ex) (.slice qA2 args2.length cA2) (.l 0 args2)) (xB2 : X w (fun b => base ≤ b ∧ b ≠ ex) (.slice qB2 tys2.length cB2) (.l 1 tys2)) :
    Calls Tryz.prog 185 #[.agg #[.string (tx op), .string (tx nm), .slice qA args.length cA, .slice qB tys.length cB, .int .i64 (p : Nat)], TV sg, .agg #[.string (tx op2), .string (tx nm2), .slice qA2 args2.length cA2, .slice qB2 tys2.length cB2, .int .i64 (p2 : Nat)]] w fun e w' =>
      Below w.heap.size w w' ∧ ∃ b, (base ≤ b ∧ b ≠ ex) ∧ b < w'.heap.size ∧ e = .returned (.agg #[.string (tx sg.x), .string { data := #[] }, .slice (some ⟨b, 0, none⟩) 2 2, .slice none 0 0, .int .i64 (sg.a : Nat)]) ∧ X w' (fun b => base ≤ b ∧ b ≠ ex) (.slice (some ⟨b, 0, none⟩) 2 2) (.l 0 [exR op nm args tys p, exR op2 nm2 args2 tys2 p2]) := by
  have HX := hide (And.intro xA (And.intro xB (And.intro xA2 xB2)))
  clear xA xB xA2 xB2
  simp only [TV]
  go_enter Tryz.func185, Tryz.ntmps185
  go_wp2
  refine bodyPost_ret (v := .agg #[.string (tx sg.x), .string { data := #[] }, .slice (some ⟨w.heap.size + 1 + 1 + 1 + 1, 0, none⟩) 2 2, .slice none 0 0, .int .i64 (sg.a : Nat)]) (by simp [results, Tryz.results185, go_sem]) rfl ?_
  obtain ⟨W, hW⟩ : ∃ W, W = ((((w.alloc (.cells #[.string (tx op), .string (tx nm), .slice qA args.length cA, .slice qB tys.length cB, .int .i64 (p : Nat)] 49 (0, 0))).alloc (.cells #[.int .i64 (sg.k : Nat), .string (tx sg.x), .int .i64 (sg.a : Nat)] 43 (0, 0))).alloc (.cells #[.string (tx op2), .string (tx nm2), .slice qA2 args2.length cA2, .slice qB2 tys2.length cB2, .int .i64 (p2 : Nat)] 49 (0, 0))).alloc (.cells #[.string (tx sg.x), .string { data := #[] }, .slice (some ⟨w.heap.size + 1 + 1 + 1 + 1, 0, none⟩) 2 2, .slice none 0 0, .int .i64 (sg.a : Nat)] 49 (0, 0))) := ⟨_, rfl⟩
  rw [← hW]
  have hs : W.heap.size = w.heap.size + 1 + 1 + 1 + 1 := by rw [hW]; simp
  have hbW : Below w.heap.size w W := by rw [hW]; go_grown
  have up : ∀ {v : Value} {t : V}, X w (fun b => base ≤ b ∧ b ≠ ex) v t → X W (fun b => base ≤ b ∧ b ≠ ex) v t := fun h => h.stay fun b hb hl => ⟨hbW.block b hl, hb⟩
  refine ⟨hbW.alloc (by omega) _, w.heap.size + 1 + 1 + 1 + 1, ⟨by omega, by omega⟩, by simp [hs], rfl, ?_⟩
  exact X.two W _ 0 _ [_, _, _, _, _] [_, _, _, _, _] (exR op nm args tys p) (exR op2 nm2 args2 tys2 p2) hs.symm rfl rfl (by show base ≤ _ ∧ _ ≠ ex; omega) (.cons (X.s _ _ _) (.cons (X.s _ _ _) (.cons (up HX.out.1) (.cons (up HX.out.2.1) (.cons (X.a _ _ _) .nil))))) (.cons (X.s _ _ _) (.cons (X.s _ _ _) (.cons (up HX.out.2.2.1) (.cons (up HX.out.2.2.2) (.cons (X.a _ _ _) .nil)))))
theorem X.ofBlk {w : World} {F : Nat → Prop} {s b : Nat} {vs : List Value} {r : List V} (hB : Blk (ty s) w b vs.toArray) (hl : vs.length = wd s) (hF : F b) (hx : XR w (fun k => F k ∧ k ≠ b) vs r) : X w F (.slice (some ⟨b, 0, none⟩) 1 1) (.l s [r]) := by
  refine X.mk (fun _ => vs) (Or.inr ⟨b, 1, vs.toArray, rfl, hB, Nat.le_refl _, by decide, by simp [hl], fun i hi j hj => ?_⟩) (fun k hk => by cases hk; exact hF) (fun i hi => hl) (fun i hi => ?_)
  · obtain rfl : i = 0 := by simp at hi; omega
    simp
  · obtain rfl : i = 0 := by simp at hi; omega
    exact XR.stay hx fun k hk _ => ⟨rfl, hk.1, fun e => hk.2 (by simpa [Value.ownBlock, eq_comm] using e)⟩
end Syn
end Go.Proofs.YtomldkljlbdnjaaGreat
/- signLevel; a promise with arguments. No statement of the seat is proved here. -/
namespace Go.Proofs.YtomldkljlbdnjaaGreat
open Go.RowKit
set_option linter.unusedVariables false
set_option linter.unusedSimpArgs false
namespace Syn
open Euf (OL App Stop)
open Lex (T TL tx bs tkC FV IsNm hide)
theorem lvl_ne {en : Nat} {st : List T} {k : Nat} (h : lvl (hd en st).x = k) (hk : k ≠ 0) : st ≠ [] := by
  rintro rfl
  exact hk (h.symm.trans (show lvl ([] : List UInt8) = 0 by decide))
theorem Blk.drewN {ty : TypeId} {w : World} {b : Nat} {C : Array Value} (h : Blk ty w b C) (n : Nat) : Blk ty (w.drewN n) b C := by
  unfold Blk at h ⊢
  rw [← h]; simp [World.drewN]
theorem iK_elem : (Tryz.prog.info? 78).map (fun i => (i.zero, i.size, i.bytes)) = some (some (.agg #[.string ByteArray.empty, .bool false, .string ByteArray.empty, .slice none 0 0, .slice none 0 0, .slice none 0 0, .slice none 0 0, .slice none 0 0, .int .i64 0]), 9, 168) := by kernel_rfl
/-- A promise with arguments besides the reader. -/
def SpA (f : FuncId) (args : Array Value) (sh : World → (Nat → Prop) → Value → List V → Prop) (c : Cmd) (en g lo m : Nat) : Prop :=
  ∀ w dp st, Q w g lo en dp st → P en m c dp st ≠ .out → Calls Tryz.prog f args w fun e w' => Ans sh w g lo en dp e w' (P en m c dp st)
set_option maxRecDepth 4000 in
set_option maxHeartbeats 2000000 in
theorem signLevel_any (x : List UInt8) (w : World) : Calls Tryz.prog 132 #[.string (tx x)] w fun e w' => e = .returned (.int .i64 (lvl x : Nat)) ∧ Below w.heap.size w w' := by
  obtain ⟨K, hK⟩ : ∃ K, K = lvl x := ⟨_, rfl⟩
  rw [← hK]
  have HK := hide hK
  clear hK
  by_cases y0 : x = ([61, 62] : List UInt8)
  · have hI0 : ((tx x).toList == ([61, 62] : List UInt8)) = true := by rw [Lex.eqT, Lex.bs_tx]; exact decide_eq_true y0
    obtain rfl : K = 1 := by rw [HK.out, y0]; decide
    clear HK y0
    go_enter Tryz.func132, Tryz.ntmps132
    go_wp2
    go_ret
    exact ⟨rfl, Below.refl _ _⟩
  have hI0 : ((tx x).toList == ([61, 62] : List UInt8)) = false := by rw [Lex.eqT, Lex.bs_tx]; exact decide_eq_false y0
  have Y0 := hide y0
  clear y0
  by_cases y1 : x = ([124, 124] : List UInt8)
  · have hI1 : ((tx x).toList == ([124, 124] : List UInt8)) = true := by rw [Lex.eqT, Lex.bs_tx]; exact decide_eq_true y1
    obtain rfl : K = 2 := by rw [HK.out, y1]; decide
    clear HK y1
    go_enter Tryz.func132, Tryz.ntmps132
    go_wp2
    go_ret
    exact ⟨rfl, Below.refl _ _⟩
  have hI1 : ((tx x).toList == ([124, 124] : List UInt8)) = false := by rw [Lex.eqT, Lex.bs_tx]; exact decide_eq_false y1
  have Y1 := hide y1
  clear y1
  by_cases y2 : x = ([38, 38] : List UInt8)
  · have hI2 : ((tx x).toList == ([38, 38] : List UInt8)) = true := by rw [Lex.eqT, Lex.bs_tx]; exact decide_eq_true y2
    obtain rfl : K = 3 := by rw [HK.out, y2]; decide
    clear HK y2
    go_enter Tryz.func132, Tryz.ntmps132
    go_wp2
    go_ret
    exact ⟨rfl, Below.refl _ _⟩
  have hI2 : ((tx x).toList == ([38, 38] : List UInt8)) = false := by rw [Lex.eqT, Lex.bs_tx]; exact decide_eq_false y2
  have Y2 := hide y2
  clear y2
  by_cases y3 : x = ([61, 61] : List UInt8)
  · have hI3 : ((tx x).toList == ([61, 61] : List UInt8)) = true := by rw [Lex.eqT, Lex.bs_tx]; exact decide_eq_true y3
    obtain rfl : K = 4 := by rw [HK.out, y3]; decide
    clear HK y3
    go_enter Tryz.func132, Tryz.ntmps132
    go_wp2
    go_ret
    exact ⟨rfl, Below.refl _ _⟩
  have hI3 : ((tx x).toList == ([61, 61] : List UInt8)) = false := by rw [Lex.eqT, Lex.bs_tx]; exact decide_eq_false y3
  have Y3 := hide y3
  clear y3
  by_cases y4 : x = ([33, 61] : List UInt8)
  · have hI4 : ((tx x).toList == ([33, 61] : List UInt8)) = true := by rw [Lex.eqT, Lex.bs_tx]; exact decide_eq_true y4
    obtain rfl : K = 4 := by rw [HK.out, y4]; decide
    clear HK y4
    go_enter Tryz.func132, Tryz.ntmps132
    go_wp2
    go_ret
    exact ⟨rfl, Below.refl _ _⟩
  have hI4 : ((tx x).toList == ([33, 61] : List UInt8)) = false := by rw [Lex.eqT, Lex.bs_tx]; exact decide_eq_false y4
  have Y4 := hide y4
  clear y4
  by_cases y5 : x = ([60] : List UInt8)
  · have hI5 : ((tx x).toList == ([60] : List UInt8)) = true := by rw [Lex.eqT, Lex.bs_tx]; exact decide_eq_true y5
    obtain rfl : K = 4 := by rw [HK.out, y5]; decide
    clear HK y5
    go_enter Tryz.func132, Tryz.ntmps132
    go_wp2
    go_ret
    exact ⟨rfl, Below.refl _ _⟩
  have hI5 : ((tx x).toList == ([60] : List UInt8)) = false := by rw [Lex.eqT, Lex.bs_tx]; exact decide_eq_false y5
  have Y5 := hide y5
  clear y5
  by_cases y6 : x = ([60, 61] : List UInt8)
  · have hI6 : ((tx x).toList == ([60, 61] : List UInt8)) = true := by rw [Lex.eqT, Lex.bs_tx]; exact decide_eq_true y6
    obtain rfl : K = 4 := by rw [HK.out, y6]; decide
    clear HK y6
    go_enter Tryz.func132, Tryz.ntmps132
    go_wp2
    go_ret
    exact ⟨rfl, Below.refl _ _⟩
  have hI6 : ((tx x).toList == ([60, 61] : List UInt8)) = false := by rw [Lex.eqT, Lex.bs_tx]; exact decide_eq_false y6
  have Y6 := hide y6
  clear y6
  by_cases y7 : x = ([62] : List UInt8)
  · have hI7 : ((tx x).toList == ([62] : List UInt8)) = true := by rw [Lex.eqT, Lex.bs_tx]; exact decide_eq_true y7
    obtain rfl : K = 4 := by rw [HK.out, y7]; decide
    clear HK y7
    go_enter Tryz.func132, Tryz.ntmps132
    go_wp2
    go_ret
    exact ⟨rfl, Below.refl _ _⟩
  have hI7 : ((tx x).toList == ([62] : List UInt8)) = false := by rw [Lex.eqT, Lex.bs_tx]; exact decide_eq_false y7
  have Y7 := hide y7
  clear y7
  by_cases y8 : x = ([62, 61] : List UInt8)
  · have hI8 : ((tx x).toList == ([62, 61] : List UInt8)) = true := by rw [Lex.eqT, Lex.bs_tx]; exact decide_eq_true y8
    obtain rfl : K = 4 := by rw [HK.out, y8]; decide
    clear HK y8
    go_enter Tryz.func132, Tryz.ntmps132
    go_wp2
    go_ret
    exact ⟨rfl, Below.refl _ _⟩
  have hI8 : ((tx x).toList == ([62, 61] : List UInt8)) = false := by rw [Lex.eqT, Lex.bs_tx]; exact decide_eq_false y8
  have Y8 := hide y8
  clear y8
  by_cases y9 : x = ([43] : List UInt8)
  · have hI9 : ((tx x).toList == ([43] : List UInt8)) = true := by rw [Lex.eqT, Lex.bs_tx]; exact decide_eq_true y9
    obtain rfl : K = 5 := by rw [HK.out, y9]; decide
    clear HK y9
    go_enter Tryz.func132, Tryz.ntmps132
    go_wp2
    go_ret
    exact ⟨rfl, Below.refl _ _⟩
  have hI9 : ((tx x).toList == ([43] : List UInt8)) = false := by rw [Lex.eqT, Lex.bs_tx]; exact decide_eq_false y9
  have Y9 := hide y9
  clear y9
  by_cases y10 : x = ([45] : List UInt8)
  · have hI10 : ((tx x).toList == ([45] : List UInt8)) = true := by rw [Lex.eqT, Lex.bs_tx]; exact decide_eq_true y10
    obtain rfl : K = 5 := by rw [HK.out, y10]; decide
    clear HK y10
    go_enter Tryz.func132, Tryz.ntmps132
    go_wp2
    go_ret
    exact ⟨rfl, Below.refl _ _⟩
  have hI10 : ((tx x).toList == ([45] : List UInt8)) = false := by rw [Lex.eqT, Lex.bs_tx]; exact decide_eq_false y10
  have Y10 := hide y10
  clear y10
  by_cases y11 : x = ([42] : List UInt8)
  · have hI11 : ((tx x).toList == ([42] : List UInt8)) = true := by rw [Lex.eqT, Lex.bs_tx]; exact decide_eq_true y11
    obtain rfl : K = 6 := by rw [HK.out, y11]; decide
    clear HK y11
    go_enter Tryz.func132, Tryz.ntmps132
    go_wp2
    go_ret
    exact ⟨rfl, Below.refl _ _⟩
  have hI11 : ((tx x).toList == ([42] : List UInt8)) = false := by rw [Lex.eqT, Lex.bs_tx]; exact decide_eq_false y11
  have Y11 := hide y11
  clear y11
  by_cases y12 : x = ([47] : List UInt8)
  · have hI12 : ((tx x).toList == ([47] : List UInt8)) = true := by rw [Lex.eqT, Lex.bs_tx]; exact decide_eq_true y12
    obtain rfl : K = 6 := by rw [HK.out, y12]; decide
    clear HK y12
    go_enter Tryz.func132, Tryz.ntmps132
    go_wp2
    go_ret
    exact ⟨rfl, Below.refl _ _⟩
  have hI12 : ((tx x).toList == ([47] : List UInt8)) = false := by rw [Lex.eqT, Lex.bs_tx]; exact decide_eq_false y12
  have Y12 := hide y12
  clear y12
  by_cases y13 : x = ([37] : List UInt8)
  · have hI13 : ((tx x).toList == ([37] : List UInt8)) = true := by rw [Lex.eqT, Lex.bs_tx]; exact decide_eq_true y13
    obtain rfl : K = 6 := by rw [HK.out, y13]; decide
    clear HK y13
    go_enter Tryz.func132, Tryz.ntmps132
    go_wp2
    go_ret
    exact ⟨rfl, Below.refl _ _⟩
  have hI13 : ((tx x).toList == ([37] : List UInt8)) = false := by rw [Lex.eqT, Lex.bs_tx]; exact decide_eq_false y13
  have Y13 := hide y13
  clear y13
  obtain rfl : K = 0 := by
    rw [HK.out]
    unfold lvl
    simp [Y0.out, Y1.out, Y2.out, Y3.out, Y4.out, Y5.out, Y6.out, Y7.out, Y8.out, Y9.out, Y10.out, Y11.out, Y12.out, Y13.out]
  clear HK
  go_enter Tryz.func132, Tryz.ntmps132
  go_wp2
  go_ret
  exact ⟨rfl, Below.refl _ _⟩
def ShR (w : World) (F : Nat → Prop) (u : Value) (r : List V) : Prop :=
  ∃ cls mn A B, r = [.l 7 cls, .l 2 mn] ∧ u = .agg #[A, B] ∧ X w F A (.l 7 cls) ∧ X w F B (.l 2 mn)
theorem Q.ends {w : World} {g lo en dp : Nat} {st : List T} (h : Q w g lo en dp st) : ∃ (q : Option Addr) (n c i : Nat), w.cell? ⟨g, 0, none⟩ = some (.slice q n c) ∧ w.cell? ⟨g, 2, none⟩ = some (.int .i64 (i : Int)) ∧ (st = [] ↔ ¬ (i : Int) < (n : Int)) := by
  obtain ⟨v, ts, i, h1, rfl, h3, h4, h5, h6, h7⟩ := h
  obtain ⟨q, c, rfl⟩ : ∃ q c, v = .slice q ts.length c := by
    obtain ⟨a, cap, h2, _⟩ := h1.list.shape
    exact ⟨a, cap, h2⟩
  refine ⟨q, ts.length, c, i, h1.c0, h1.c2, ?_⟩
  rw [List.drop_eq_nil_iff]
  omega
end Syn
end Go.Proofs.YtomldkljlbdnjaaGreat
/- A list whose last row is written over; a list of tokens that grows. No statement of the seat is proved here. -/
namespace Go.Proofs.YtomldkljlbdnjaaGreat
open Go.RowKit
set_option linter.unusedVariables false
set_option linter.unusedSimpArgs false
namespace Syn
open Euf (OL App Stop)
open Lex (T TL tx bs tkC FV IsNm hide)
theorem LF.re {w w' : World} {F : Nat → Prop} {s b n cap : Nat} {rows : List (List V)} {z r : List V} {C : Nat → List Value} (h : LF w F s (.slice (some ⟨b, 0, none⟩) (n + 1) cap) (rows ++ [z]) C) (hn : n = rows.length) (vs : List Value) (hl : vs.length = wd s) (cur' : Array Value) (hg' : w'.heap[b]? = some (.cells cur' (ty s) (0, 0)))
    (hcur : ∀ cur, w.heap[b]? = some (.cells cur (ty s) (0, 0)) → (n + 1) * wd s ≤ cur.size → cur'.size = cur.size ∧ (∀ k, k < n * wd s → cur'[k]? = cur[k]?) ∧ ∀ j, j < wd s → cur'[n * wd s + j]? = vs[j]?) (ho : ∀ k, k < w.heap.size → k ≠ b → w'.heap[k]? = w.heap[k]?) (hx : XR w' (fun k => F k ∧ k ≠ b) vs r) :
    LF w' F s (.slice (some ⟨b, 0, none⟩) (n + 1) cap) (rows ++ [r]) (putC C n vs) := by
  have hol := h.ol
  rcases hol with ⟨e, -⟩ | ⟨b', cap', cur, e, hg, hle, hmx, hsz, hc⟩
  · cases e
  simp only [Value.slice.injEq, Option.some.injEq, Addr.mk.injEq, and_true] at e
  obtain ⟨rfl, -, rfl⟩ := e
  have hll : (rows ++ [z]).length = n + 1 := by simp [hn]
  rw [hll] at hle hc
  have hsz1 : (n + 1) * wd s ≤ cur.size := by rw [hsz]; exact Nat.mul_le_mul_right _ hle
  obtain ⟨k1, k2, k3⟩ := hcur cur hg hsz1
  have hll2 : (rows ++ [r]).length = n + 1 := by simp [hn]
  refine ⟨Or.inr ⟨b, cap, cur', by rw [hll2], hg', by rw [hll2]; exact hle, hmx, k1.trans hsz, fun i hi j hj => ?_⟩, fun k hk => h.own k hk, fun i hi => ?_, fun i hi => ?_⟩
  · rw [hll2] at hi
    unfold putC
    by_cases hin : i = n
    · subst hin; rw [if_pos rfl]; exact k3 j hj
    · rw [if_neg hin, ← hc i (by omega) j hj]
      refine k2 _ ?_
      have : (i + 1) * wd s ≤ n * wd s := Nat.mul_le_mul_right _ (by omega)
      rw [Nat.add_mul] at this
      omega
  · rw [hll2] at hi
    unfold putC
    split
    · exact hl
    · exact h.len i (by rw [hll]; exact hi)
  · rw [hll2] at hi
    unfold putC
    by_cases hin : i = n
    · rw [if_pos hin]
      subst hin
      have e : (rows ++ [r]).getD i [] = r := by rw [List.getD_eq_getElem?_getD, List.getElem?_append_right (by omega)]; simp [hn]
      rw [e]
      exact XR.stay hx fun k hk _ => ⟨rfl, hk.1, fun e => hk.2 (by simpa [Value.ownBlock, eq_comm] using e)⟩
    · rw [if_neg hin]
      have hlt : i < rows.length := by omega
      have := (h.el i (by rw [hll]; exact hi)).stay (w' := w') (G := fun k => F k ∧ (Value.slice (some ⟨b, 0, none⟩) (n + 1) cap).ownBlock ≠ some k) fun k hk kl => ⟨ho k kl (fun e => hk.2 (by subst e; rfl)), hk⟩
      simpa [List.getD_eq_getElem?_getD, List.getElem?_append_left hlt] using this
/-- Five cells in a row are written. -/
theorem set5 (w : World) (b o : Nat) (cur : Array Value) (t : TypeId) (v0 v1 v2 v3 v4 : Value) (hg : w.heap[b]? = some (.cells cur t (0, 0))) :
    (((((w.setCell ⟨b, o, none⟩ v0).setCell ⟨b, o + 1, none⟩ v1).setCell ⟨b, o + 2, none⟩ v2).setCell ⟨b, o + 3, none⟩ v3).setCell ⟨b, o + 4, none⟩ v4).heap[b]? = some (.cells (((((cur.setIfInBounds o v0).setIfInBounds (o + 1) v1).setIfInBounds (o + 2) v2).setIfInBounds (o + 3) v3).setIfInBounds (o + 4) v4) t (0, 0)) := by
  have h1 := heap_setCell_same w b o cur t v0 hg
  have h2 := heap_setCell_same _ b (o + 1) _ t v1 h1
  have h3 := heap_setCell_same _ b (o + 2) _ t v2 h2
  have h4 := heap_setCell_same _ b (o + 3) _ t v3 h3
  exact heap_setCell_same _ b (o + 4) _ t v4 h4
theorem LF.put5 {w : World} {F : Nat → Prop} {b n cap : Nat} {rows : List (List V)} {z r : List V} {C : Nat → List Value} (v0 v1 v2 v3 v4 : Value) (h : LF w F 0 (.slice (some ⟨b, 0, none⟩) (n + 1) cap) (rows ++ [z]) C) (hn : n = rows.length) (hx : XR w (fun k => F k ∧ k ≠ b) [v0, v1, v2, v3, v4] r) :
    LF (((((w.setCell ⟨b, n * 5, none⟩ v0).setCell ⟨b, n * 5 + 1, none⟩ v1).setCell ⟨b, n * 5 + 2, none⟩ v2).setCell ⟨b, n * 5 + 3, none⟩ v3).setCell ⟨b, n * 5 + 4, none⟩ v4) F 0 (.slice (some ⟨b, 0, none⟩) (n + 1) cap) (rows ++ [r]) (putC C n [v0, v1, v2, v3, v4]) := by
  have hol := h.ol
  rcases hol with ⟨e, -⟩ | ⟨b', cap', cur, e, hg, hle, hmx, hsz, hc⟩
  · cases e
  simp only [Value.slice.injEq, Option.some.injEq, Addr.mk.injEq, and_true] at e
  obtain ⟨rfl, e2, rfl⟩ := e
  have oth : ∀ k, k < w.heap.size → k ≠ b → (((((w.setCell ⟨b, n * 5, none⟩ v0).setCell ⟨b, n * 5 + 1, none⟩ v1).setCell ⟨b, n * 5 + 2, none⟩ v2).setCell ⟨b, n * 5 + 3, none⟩ v3).setCell ⟨b, n * 5 + 4, none⟩ v4).heap[k]? = w.heap[k]? := fun k _ hk => by
    rw [heap_setCell_other _ _ k _ hk, heap_setCell_other _ _ k _ hk, heap_setCell_other _ _ k _ hk, heap_setCell_other _ _ k _ hk, heap_setCell_other _ _ k _ hk]
  refine h.re hn [v0, v1, v2, v3, v4] rfl _ (set5 w b (n * 5) cur _ v0 v1 v2 v3 v4 hg) (fun cur2 hg2 hz => ?_) oth (XR.stay hx fun k hk kl => ⟨oth k kl hk.2, hk⟩)
  rw [hg] at hg2
  cases hg2
  have hz : (n + 1) * 5 ≤ cur.size := hz
  refine ⟨by simp, fun k hk => ?_, fun j hj => ?_⟩
  · have hk : k < n * 5 := hk
    simp only [Array.getElem?_setIfInBounds]
    rw [if_neg (by omega), if_neg (by omega), if_neg (by omega), if_neg (by omega), if_neg (by omega)]
  · have hj : j < 5 := hj
    show _[n * 5 + j]? = _
    obtain rfl | rfl | rfl | rfl | rfl : j = 0 ∨ j = 1 ∨ j = 2 ∨ j = 3 ∨ j = 4 := by omega
    all_goals
      simp [Array.getElem?_setIfInBounds]
      try omega
end Syn
end Go.Proofs.YtomldkljlbdnjaaGreat
