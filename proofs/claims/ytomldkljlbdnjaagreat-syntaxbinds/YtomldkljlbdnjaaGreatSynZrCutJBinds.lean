/- Parse. No statement of the seat is proved here. -/
import Derived.Test.YtomldkljlbdnjaaGreatSynZqCutJBinds
import Derived.Test.YtomldkljlbdnjaaGreatJoin3Binds
namespace Go.Proofs.YtomldkljlbdnjaaGreat
open Go.RowKit
set_option linter.unusedVariables false
set_option linter.unusedSimpArgs false
namespace Syn
open Euf (OL App Stop)
open Lex (T TL tx bs tkC FV IsNm hide TkEnd)
theorem lx_count {l : List UInt8} {p : Nat} {ts : List T} {c a : Nat} (h : Lex.Lx l p ts c a) : ts.length ≤ l.length := by
  induction h with
  | done _ => simp
  | bad _ _ => simp
  | @tok l p k n c a ts h1 h2 h3 ih =>
    have := (Lex.tk_ok h2).1
    rw [List.length_drop] at ih
    rw [List.length_cons]; omega
/-- What Parse comes to: a fault of the tokens, or what the reader says of them. -/
def PaEnd (w : World) (s : ByteArray) (e : Ending) (w' : World) : Prop :=
  ∃ ts c a, Lex.Out (bs s) ts c a ∧ Below w.heap.size w w' ∧
    ((c ≠ 0 ∧ e = .returned (.tuple #[.agg #[.slice none 0 0, .slice none 0 0], FV c a])) ∨
     (c = 0 ∧ ∃ n, P s.size n .program 0 ts ≠ .out ∧
       ((∃ r st u, P s.size n .program 0 ts = .ok r st ∧ ShR w' (fun b => w.heap.size ≤ b) u r ∧ e = .returned (.tuple #[u, FV 0 0])) ∨
        (∃ c' a', P s.size n .program 0 ts = .bad c' a' ∧ e = .returned (.tuple #[.agg #[.slice none 0 0, .slice none 0 0], FV c' a'])))))
set_option maxRecDepth 4000 in
set_option maxHeartbeats 4000000 in
theorem parse_any (s : ByteArray) (w : World) (hs : s.size ≤ 9223372036854775807) (hprog : ∀ g lo m, Sp 26 ShR .program s.size g lo m) (nf : List T → Nat) (hnf : ∀ ts c a, Lex.Out (bs s) ts c a → c = 0 → P s.size (nf ts) .program 0 ts ≠ .out) :
    Calls Tryz.prog 10 #[.string s] w fun e w' => PaEnd w s e w' := by
  have hmf : ∀ (fn : Fn) (first cap : Array Value) (w : World), (Instr.makeFunc fn first cap).run Tryz.prog w = .ok (.func fn first cap) w := fun _ _ _ _ => rfl
  have HT : Hid (∀ wz, Calls Tryz.prog 16 #[.string s] wz fun e w' => TkEnd wz s e w') := hide fun wz => Lex.tokens_any s wz hs
  have HP := hide hprog
  have HNF := hide hnf
  clear hprog hnf
  go_enter_defers Tryz.func10, Tryz.ntmps10
  go_wp2_with fail
  obtain ⟨W0, hW0⟩ : ∃ W0, W0 = (w.alloc (.cells #[.slice none 0 0, .slice none 0 0] 26 (0, 0))).alloc (.cells #[.int .i64 0, .int .i64 0] 29 (0, 0)) := ⟨_, rfl⟩
  rw [← hW0]
  have hb0 : Below w.heap.size w W0 := by rw [hW0]; go_grown
  have hs0 : W0.heap.size = w.heap.size + 2 := by rw [hW0]; simp
  have hp0 : Blk 26 W0 w.heap.size #[.slice none 0 0, .slice none 0 0] := by rw [hW0]; exact alloc2_blk _ (.cells #[] 0 (0, 0)) _ _ _ _
  have hf0 : Blk 29 W0 (w.heap.size + 1) #[.int .i64 0, .int .i64 0] := by rw [hW0]; exact blk_new1 _ _ _ _
  refine (HT.out _).mono ?_
  rintro e w1 ⟨v, ts, c, a, rfl, ho, htl, hown, hb⟩
  simp only [FV]
  have hz1 := hb.size
  have hp1 := hp0.stay (hb.mono (Nat.le_refl _))
  have hf1 := hf0.stay (hb.mono (Nat.le_refl _))
  obtain ⟨a0, a1, g0, g1⟩ := bk2 hp1
  obtain ⟨d0, d1, h0, h1⟩ := bk2 hf1
  have lp1 := hp1.lt
  have lf1 := hf1.lt
  obtain ⟨qv, cv, rfl⟩ : ∃ q c, v = .slice q ts.length c := by
    obtain ⟨q, cap, h2, _⟩ := htl.shape
    exact ⟨q, cap, h2⟩
  have HB := hide (And.intro hb0 (And.intro hp1 hf1))
  by_cases hc : c = 0
  · subst hc
    have HH := hide (And.intro ho (And.intro htl (And.intro hown hb)))
    clear ho htl hown hb hb0 hp0 hf0 hp1 hf1 hW0
    go_wp2_with fail
    obtain ⟨W, hW⟩ : ∃ W, W = (w1.alloc (.cells #[.int .i64 0, .int .i64 (a : Nat)] 29 (0, 0))).alloc (.cells #[.slice qv ts.length cv, .int .i64 (s.size : Nat), .int .i64 0, .int .i64 0] 66 (0, 0)) := ⟨_, rfl⟩
    rw [← hW]
    have hsW : W.heap.size = w1.heap.size + 2 := by rw [hW]; simp
    have hbW : Below w1.heap.size w1 W := by rw [hW]; go_grown
    have hbk : Blk 66 W (w1.heap.size + 1) #[.slice qv ts.length cv, .int .i64 (s.size : Nat), .int .i64 0, .int .i64 0] := by rw [hW]; exact blk_new1 _ _ _ _
    obtain ⟨hl, hx, -⟩ := HH.out.1.good
    have hcn := lx_count hx
    have hlt : ∀ b, (Value.ownBlock (.slice qv ts.length cv)) = some b → b < w1.heap.size := fun b hb => HH.out.2.1.lt hb
    have hq : Q W (w1.heap.size + 1) (w1.heap.size + 2) s.size 0 ts := ⟨.slice qv ts.length cv, ts, 0, ⟨hbk, HH.out.2.1.stay fun b hb => hbW.block b (hlt b hb), (fun e => by have := hlt _ e; omega), by omega, by omega⟩, by simp, Nat.zero_le _, fun t ht => by have := (hx.places t ht).2.2; omega, by omega, by omega, fun b hb => by have := hlt b hb; omega⟩
    have hne : P s.size (nf ts) .program 0 ts ≠ .out := HNF.out ts 0 a HH.out.1 rfl
    have hr := HP.out (w1.heap.size + 1) (w1.heap.size + 2) (nf ts) W 0 ts hq hne
    have HPB := hide (And.intro (HB.out.2.1.stay hbW) (HB.out.2.2.stay hbW))
    have HBW := hide hbW
    have HN : Hid (∃ R, P s.size (nf ts) .program 0 ts = R) := ⟨_, rfl⟩
    obtain ⟨R, hR⟩ := HN.out
    rw [hR] at hr hne
    have HRE := hide hR
    clear hR HN hbW hbk hl hx hcn hlt hq hW a0 a1 g0 g1 d0 d1 h0 h1
    refine hr.mono ?_
    clear hr
    rintro e w2 ha
    cases R with
    | out => exact absurd rfl hne
    | ok r st =>
      obtain ⟨m, q, u, rfl, cls, mn, A, B, hrr, rfl, xA, xB⟩ := ha
      obtain ⟨qA, cA, rfl⟩ := xA.slice
      obtain ⟨qB, cB, rfl⟩ := xB.slice
      have hp2 := m.blk HPB.out.1 (by omega)
      have hf2 := m.blk HPB.out.2 (by omega)
      obtain ⟨a0, a1, g0, g1⟩ := bk2 hp2
      obtain ⟨d0, d1, h0, h1⟩ := bk2 hf2
      have lp2 := hp2.lt
      have lf2 := hf2.lt
      have HB2 := hide (And.intro hp2 hf2)
      have HX := hide (And.intro xA (And.intro xB (And.intro m hrr)))
      clear hp2 hf2 m q xA xB hrr
      go_wp2
      refine leaves_cons (f := 25) (args := #[.pointer (some ⟨w.heap.size, 0, none⟩), .pointer (some ⟨w.heap.size + 1, 0, none⟩)]) (by simp) (by simp [go_sem]) ?_
      refine (catch_idle _ _ _).mono ?_
      rintro e u' w'' ⟨rfl, rfl, rfl⟩
      obtain ⟨w3, hw3⟩ : ∃ w3, w3 = ((((w2.setCell ⟨w.heap.size, 0, none⟩ (.slice qA cls.length cA)).setCell ⟨w.heap.size, 1, none⟩ (.slice qB mn.length cB)).setCell ⟨w.heap.size + 1, 0, none⟩ (.int .i64 0)).setCell ⟨w.heap.size + 1, 1, none⟩ (.int .i64 0)) := ⟨_, rfl⟩
      rw [← hw3]
      have hp3 : Blk 26 w3 w.heap.size #[.slice qA cls.length cA, .slice qB mn.length cB] := by
        rw [hw3]
        exact (((HB2.out.1.set 0 (.slice qA cls.length cA)).set 1 (.slice qB mn.length cB)).other (a := ⟨w.heap.size + 1, 0, none⟩) (by show w.heap.size + 1 ≠ w.heap.size; omega) _).other (a := ⟨w.heap.size + 1, 1, none⟩) (by show w.heap.size + 1 ≠ w.heap.size; omega) _
      have hf3 : Blk 29 w3 (w.heap.size + 1) #[.int .i64 0, .int .i64 0] := by
        rw [hw3]
        exact (((HB2.out.2.other (a := ⟨w.heap.size, 0, none⟩) (by show w.heap.size ≠ w.heap.size + 1; omega) _).other (a := ⟨w.heap.size, 1, none⟩) (by show w.heap.size ≠ w.heap.size + 1; omega) _).set 0 (.int .i64 0)).set 1 (.int .i64 0)
      have m3 : Sat.Mv (fun b => b = w.heap.size ∨ b = w.heap.size + 1) w2 w3 := by
        rw [hw3]
        refine Sat.Mv.set (Sat.Mv.set (Sat.Mv.set (Sat.Mv.set (Sat.Mv.refl _ w2) ?_ _) ?_ _) ?_ _) ?_ _
        · exact Or.inl (Or.inl rfl)
        · exact Or.inl (Or.inl rfl)
        · exact Or.inl (Or.inr rfl)
        · exact Or.inl (Or.inr rfl)
      clear hw3 a0 a1 g0 g1 d0 d1 h0 h1
      obtain ⟨a0, a1, g0, g1⟩ := bk2 hp3
      obtain ⟨d0, d1, h0, h1⟩ := bk2 hf3
      have m := HX.out.2.2.1
      have xf : ∀ {v : Value} {t : V}, X w2 (fun b => W.heap.size ≤ b) v t → X w3 (fun b => w.heap.size ≤ b) v t := fun h => h.far m3 (fun b hb hl hk => by have hb : W.heap.size ≤ b := hb; rcases hk with hk | hk <;> omega) (fun b hb => by have hb : W.heap.size ≤ b := hb; show w.heap.size ≤ b; omega)
      refine ⟨.tuple #[.agg #[.slice qA cls.length cA, .slice qB mn.length cB], .agg #[.int .i64 0, .int .i64 0]], by simp [results, Tryz.results10, go_sem, a0, a1, d0, d1], ?_⟩
      refine ⟨ts, 0, a, HH.out.1, ?_, Or.inr ⟨rfl, _, by rw [HRE.out]; exact hne, Or.inl ⟨r, st, _, HRE.out, ⟨cls, mn, _, _, HX.out.2.2.2, rfl, xf HX.out.1, xf HX.out.2.1⟩, rfl⟩⟩⟩
      exact ((HB.out.1.trans (HH.out.2.2.2.mono (by omega))).trans (HBW.out.mono (by omega))).trans ((Sat.Mv.toBelow m (Nat.le_trans (by omega) (Nat.le_of_eq hsW.symm)) (fun b hb => by have hb : b = w1.heap.size + 1 := hb; omega) : Below w.heap.size W w2).trans (Sat.Mv.toBelow m3 (by have := m.size; omega) (fun b hb => by rcases hb with hb | hb <;> omega)))
    | bad cc aa =>
      obtain ⟨m, rfl⟩ := ha
      have hp2 := m.blk HPB.out.1 (by omega)
      have hf2 := m.blk HPB.out.2 (by omega)
      refine leaves_cons (f := 25) (args := #[.pointer (some ⟨w.heap.size, 0, none⟩), .pointer (some ⟨w.heap.size + 1, 0, none⟩)]) (by simp) (by simp [go_sem]) ?_
      refine (catch_fault w.heap.size (w.heap.size + 1) cc aa [] w2 _ _ _ _ (by omega) hp2 hf2).mono ?_
      rintro e u' w3 ⟨rfl, rfl, k1, k2, m3⟩
      obtain ⟨a0, a1, g0, g1⟩ := bk2 k1
      obtain ⟨d0, d1, h0, h1⟩ := bk2 k2
      refine ⟨.tuple #[.agg #[.slice none 0 0, .slice none 0 0], .agg #[.int .i64 (cc : Nat), .int .i64 (aa : Nat)]], by simp [results, Tryz.results10, go_sem, a0, a1, d0, d1], ?_⟩
      refine ⟨ts, 0, a, HH.out.1, ?_, Or.inr ⟨rfl, _, by rw [HRE.out]; exact hne, Or.inr ⟨cc, aa, HRE.out, rfl⟩⟩⟩
      exact ((HB.out.1.trans (HH.out.2.2.2.mono (by omega))).trans (HBW.out.mono (by omega))).trans ((Sat.Mv.toBelow m (Nat.le_trans (by omega) (Nat.le_of_eq hsW.symm)) (fun b hb => by have hb : b = w1.heap.size + 1 := hb; omega) : Below w.heap.size W w2).trans (Sat.Mv.toBelow m3 (by have := m.size; omega) (fun b hb => by rcases hb with hb | hb <;> omega)))
  · have hcI : ¬ (c : Int) = 0 := by omega
    have HH := hide (And.intro ho (And.intro htl (And.intro hown hb)))
    have HC := hide hc
    clear ho htl hown hb hb0 hp0 hf0 hp1 hf1 hW0 hc
    go_wp2_with fail
    go_region
    all_goals
      go_wp2
      obtain ⟨w3, hw3⟩ : ∃ w3, w3 = (((((w1.setCell ⟨w.heap.size, 0, none⟩ (.slice none 0 0)).setCell ⟨w.heap.size, 1, none⟩ (.slice none 0 0)).setCell ⟨w.heap.size + 1, 0, none⟩ (.int .i64 (c : Nat))).setCell ⟨w.heap.size + 1, 1, none⟩ (.int .i64 (a : Nat))).alloc (.cells #[.int .i64 (c : Nat), .int .i64 (a : Nat)] 29 (0, 0))).drew := ⟨_, rfl⟩
      rw [← hw3]
      have hp3 : Blk 26 w3 w.heap.size #[.slice none 0 0, .slice none 0 0] := by
        rw [hw3]
        exact ((((HB.out.2.1.set 0 (.slice none 0 0)).set 1 (.slice none 0 0)).other (a := ⟨w.heap.size + 1, 0, none⟩) (by show w.heap.size + 1 ≠ w.heap.size; omega) _).other (a := ⟨w.heap.size + 1, 1, none⟩) (by show w.heap.size + 1 ≠ w.heap.size; omega) _).alloc _
      have hf3 : Blk 29 w3 (w.heap.size + 1) #[.int .i64 (c : Nat), .int .i64 (a : Nat)] := by
        rw [hw3]
        exact ((((HB.out.2.2.other (a := ⟨w.heap.size, 0, none⟩) (by show w.heap.size ≠ w.heap.size + 1; omega) _).other (a := ⟨w.heap.size, 1, none⟩) (by show w.heap.size ≠ w.heap.size + 1; omega) _).set 0 (.int .i64 (c : Nat))).set 1 (.int .i64 (a : Nat))).alloc _
      have m3 : Sat.Mv (fun b => b = w.heap.size ∨ b = w.heap.size + 1) w1 w3 := by
        rw [hw3]
        refine Sat.Mv.drew (Sat.Mv.alloc (Sat.Mv.set (Sat.Mv.set (Sat.Mv.set (Sat.Mv.set (Sat.Mv.refl _ w1) ?_ _) ?_ _) ?_ _) ?_ _) _)
        · exact Or.inl (Or.inl rfl)
        · exact Or.inl (Or.inl rfl)
        · exact Or.inl (Or.inr rfl)
        · exact Or.inl (Or.inr rfl)
      clear hw3 a0 a1 g0 g1 d0 d1 h0 h1
      obtain ⟨a0, a1, g0, g1⟩ := bk2 hp3
      obtain ⟨d0, d1, h0, h1⟩ := bk2 hf3
      refine ⟨.tuple #[.agg #[.slice none 0 0, .slice none 0 0], .agg #[.int .i64 (c : Nat), .int .i64 (a : Nat)]], by simp [results, Tryz.results10, go_sem, a0, a1, d0, d1], ?_⟩
      refine ⟨ts, c, a, HH.out.1, ?_, Or.inl ⟨HC.out, rfl⟩⟩
      exact (HB.out.1.trans (HH.out.2.2.2.mono (by omega))).trans (Sat.Mv.toBelow m3 (by omega) (fun b hb => by rcases hb with hb | hb <;> omega))
end Syn
end Go.Proofs.YtomldkljlbdnjaaGreat
