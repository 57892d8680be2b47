/- Words for the parts and terms of suretyref03 in the machine; no statement of the seat is proved here. -/
import Derived.Test.YteefniagebcagaaGreatDoorJoin25Reckons
import Derived.Test.YteefniagebcagaaGreatDoorJoin21Reckons
import Derived.Test.YteefniagebcagaaGreatDoorRegBJReckons
namespace Go.Proofs.YteefniagebcagaaGreatDoor
open Go.RowKit
set_option linter.unusedVariables false
structure KeepQ (w w' : World) : Prop where
  n : KeepN w w'
  q : ∀ (b : Nat) (cs : Array Value), w.heap[b]? = some (.cells cs 70 (0, 0)) → w'.heap[b]? = some (.cells cs 70 (0, 0))
theorem KeepQ.trans {a b c : World} (h : KeepQ a b) (k : KeepQ b c) : KeepQ a c := ⟨h.n.trans k.n, fun g cs hg => k.q g cs (h.q g cs hg)⟩
theorem KeepQ.below {w w' : World} (h : Below w.heap.size w w') : KeepQ w w' := ⟨KeepN.below h, fun b _ hb => (h.block b (Array.getElem?_eq_some_iff.1 hb).1).trans hb⟩
def QArr (w : World) (ao : Option Addr) (ps : List (Nat × Int)) : Prop :=
  ps = [] ∨ ∃ (g o : Nat) (cur : Array Value), ao = some ⟨g, o, none⟩ ∧ w.heap[g]? = some (.cells cur 70 (0, 0)) ∧ ∀ i, i < ps.length → ∃ s a n c,
    cur[o + i * 3]? = some (.int .i64 ((ps.getD i (0, 0)).1 : Nat)) ∧ cur[o + i * 3 + 1]? = some (.bool s) ∧ cur[o + i * 3 + 2]? = some (.slice a n c) ∧ RNum w (.agg #[.bool s, .slice a n c]) (ps.getD i (0, 0)).2 900
section
variable {w w' : World} {ao : Option Addr} {ps : List (Nat × Int)}
theorem QArr.nil (w : World) (ao : Option Addr) : QArr w ao [] := Or.inl rfl
theorem QArr.keepQ (h : QArr w ao ps) (hk : KeepQ w w') : QArr w' ao ps := by
 rcases h with h | ⟨g,o,cur,rfl,hg,hc⟩
 · exact Or.inl h
 ·
  refine Or.inr ⟨g,o,cur,rfl,hk.q _ _ hg,fun i hi => ?_⟩
  obtain ⟨s,a,n,c,h1,h2,h3,h4⟩ := hc i hi;exact ⟨s,a,n,c,h1,h2,h3,h4.keepN hk.n⟩
theorem QArr.below (h : QArr w ao ps) (hb : Below w.heap.size w w') : QArr w' ao ps := h.keepQ (KeepQ.below hb)
theorem QArr.at (h : QArr w ao ps) (i : Nat) (hi : i < ps.length) : ∃ g o s a n c,ao = some ⟨g,o,none⟩ ∧ w.cell? ⟨g,o + i * 3,none⟩ = some (.int .i64 ((ps.getD i (0,0)).1 : Nat)) ∧ w.cell? ⟨g,o + i * 3 + 1,none⟩ = some (.bool s) ∧
  w.cell? ⟨g,o + i * 3 + 2,none⟩ = some (.slice a n c) ∧ RNum w (.agg #[.bool s,.slice a n c]) (ps.getD i (0,0)).2 900 := by
 rcases h with h | ⟨g,o,cur,rfl,hg,hc⟩
 · subst h;simp at hi
 · obtain ⟨s,a,n,c,h1,h2,h3,h4⟩ := hc i hi;exact ⟨g,o,s,a,n,c,rfl,(cell_of_row w g _ cur _ (0,0) hg).trans h1,(cell_of_row w g _ cur _ (0,0) hg).trans h2,(cell_of_row w g _ cur _ (0,0) hg).trans h3,h4⟩
end
def ElsQ (w : World) (xs : List Value) (ps : List (Nat × Int)) : Prop :=
  ∀ i, i < ps.length → ∃ s a n c, xs[i * 3]? = some (.int .i64 ((ps.getD i (0, 0)).1 : Nat)) ∧ xs[i * 3 + 1]? = some (.bool s) ∧ xs[i * 3 + 2]? = some (.slice a n c) ∧ RNum w (.agg #[.bool s, .slice a n c]) (ps.getD i (0, 0)).2 900
theorem ElsQ.nil (w : World) : ElsQ w [] [] := fun i hi => by simp at hi
theorem ElsQ.keep {w w' : World} {xs : List Value} {ps : List (Nat × Int)} (h : ElsQ w xs ps) (hk : KeepN w w') : ElsQ w' xs ps := by
 intro i hi;obtain ⟨s,a,n,c,h1,h2,h3,h4⟩ := h i hi;exact ⟨s,a,n,c,h1,h2,h3,h4.keepN hk⟩
theorem ElsQ.app {w : World} {xs ys : List Value} {ps qs : List (Nat × Int)} (h : ElsQ w xs ps) (hl : xs.length = ps.length * 3) (k : ElsQ w ys qs) : ElsQ w (xs ++ ys) (ps ++ qs) := by
 intro i hi;rw [List.length_append] at hi;rcases Nat.lt_or_ge i ps.length with j | j
 ·
  obtain ⟨s,a,n,c,h1,h2,h3,h4⟩ := h i j;have e : (ps ++ qs).getD i (0,0) = ps.getD i (0,0) := by rw [List.getD_eq_getElem?_getD,List.getElem?_append_left j,← List.getD_eq_getElem?_getD]
  rw [e];refine ⟨s,a,n,c,?_,?_,?_,h4⟩
  · rw [List.getElem?_append_left (by omega)];exact h1
  · rw [List.getElem?_append_left (by omega)];exact h2
  · rw [List.getElem?_append_left (by omega)];exact h3
 ·
  obtain ⟨s,a,n,c,h1,h2,h3,h4⟩ := k (i - ps.length) (by omega)
  have e : (ps ++ qs).getD i (0,0) = qs.getD (i - ps.length) (0,0) := by rw [List.getD_eq_getElem?_getD,List.getElem?_append_right j,← List.getD_eq_getElem?_getD]
  have e2 : i * 3 - xs.length = (i - ps.length) * 3 := by rw [hl,Nat.sub_mul]
  rw [e];refine ⟨s,a,n,c,?_,?_,?_,h4⟩
  · rw [List.getElem?_append_right (by omega),e2];exact h1
  · rw [List.getElem?_append_right (by omega),show i * 3 + 1 - xs.length = (i - ps.length) * 3 + 1 by omega];exact h2
  · rw [List.getElem?_append_right (by omega),show i * 3 + 2 - xs.length = (i - ps.length) * 3 + 2 by omega];exact h3
theorem ElsQ.one {w : World} {v : Nat} {s : Bool} {a : Option Addr} {n c : Nat} {z : Int} (h : RNum w (.agg #[.bool s,.slice a n c]) z 900) : ElsQ w [.int .i64 v,.bool s,.slice a n c] [(v,z)] := by
 intro i hi;have : i = 0 := by simpa using hi
 subst this;exact ⟨s,a,n,c,rfl,rfl,rfl,h⟩
theorem LstG.qarr {base : Nat} {w : World} {v : Value} {n : Nat} {xs : List Value} {ps : List (Nat × Int)} (h : LstG 3 70 base w v n xs) (he : ElsQ w xs ps) (hl : ps.length = n) : ∃ ao cap,v = .slice ao n cap ∧ n ≤ cap ∧ cap ≤ maxLen ∧ (ao = none → cap = 0) ∧ QArr w ao ps := by
 rcases h.2 with ⟨rfl,h0⟩ | ⟨g,cap,cur,rfl,h3,h4,h5,h6,h7,h8,_⟩
 · exact ⟨none,0,by rw [h0],by omega,Nat.zero_le _,fun _ => rfl,Or.inl (List.eq_nil_of_length_eq_zero (hl.trans h0))⟩
 ·
  refine ⟨_,cap,rfl,h5,h6,(fun e => by cases e),Or.inr ⟨g,0,cur,rfl,h4,fun i hi => ?_⟩⟩
  obtain ⟨s,a,m,c,k1,k2,k3,k4⟩ := he i hi;have q : ∀ (j : Nat) u,xs[j]? = some u → cur[j]? = some u := by
   intro j u hj;have hj' : j < xs.length := (List.getElem?_eq_some_iff.1 hj).1;rw [← h8,List.getElem?_take] at hj;split at hj
   · rw [← Array.getElem?_toList];exact hj
   · cases hj
  exact ⟨s,a,m,c,by rw [Nat.zero_add];exact q _ _ k1,by rw [Nat.zero_add];exact q _ _ k2,by rw [Nat.zero_add];exact q _ _ k3,k4⟩
theorem QArr.cells {w : World} {ao : Option Addr} {ps : List (Nat × Int)} (h : QArr w ao ps) (hp : 0 < ps.length) : ∃ g o xs,ao = some ⟨g,o,none⟩ ∧ xs.length = ps.length * 3 ∧ ElsQ w xs ps ∧ (∀ j u,xs[j]? = some u → w.cell? ((⟨g,o,none⟩ : Addr).add j) = some u) ∧ (∀ u ∈ xs,u.oneCell' = true) ∧ ∀ u ∈ xs,NoU u := by
 rcases h with h | ⟨g,o,cur,rfl,hg,hc⟩
 · subst h;simp at hp
 ·
  have hlen : o + ps.length * 3 ≤ cur.size := by
   obtain ⟨_,_,_,_,_,_,h3,_⟩ := hc (ps.length - 1) (by omega)
   have := (Array.getElem?_eq_some_iff.1 h3).1;omega
  refine ⟨g,o,(cur.toList.drop o).take (ps.length * 3),rfl,by simp;omega,?_,?_,?_,?_⟩
  ·
   intro i hi;obtain ⟨s,a,n,c,h1,h2,h3,h4⟩ := hc i hi;refine ⟨s,a,n,c,?_,?_,?_,h4⟩
   · rw [List.getElem?_take,if_pos (by omega),List.getElem?_drop,Array.getElem?_toList];exact h1
   · rw [List.getElem?_take,if_pos (by omega),List.getElem?_drop,Array.getElem?_toList];exact h2
   · rw [List.getElem?_take,if_pos (by omega),List.getElem?_drop,Array.getElem?_toList];exact h3
  ·
   intro j u hj;rw [List.getElem?_take] at hj;split at hj
   · rw [List.getElem?_drop,Array.getElem?_toList] at hj;rw [Addr.add_lit,cell_of_row w g _ cur _ (0,0) hg];exact hj
   · cases hj
  all_goals
   intro u hu;obtain ⟨j,hj⟩ := List.mem_iff_getElem?.1 hu;rw [List.getElem?_take] at hj;split at hj
   ·
    rename_i hj3
    rw [List.getElem?_drop,Array.getElem?_toList] at hj;obtain ⟨s,a,n,c,h1,h2,h3,h4⟩ := hc (j / 3) (by omega)
    have hm : j % 3 = 0 ∨ j % 3 = 1 ∨ j % 3 = 2 := by omega
    rcases hm with k | k | k
    · rw [show o + j = o + j / 3 * 3 by omega,h1] at hj;cases hj;first | rfl | exact noU_i64 _
    · rw [show o + j = o + j / 3 * 3 + 1 by omega,h2] at hj;cases hj;first | rfl | exact noU_bool _
    · rw [show o + j = o + j / 3 * 3 + 2 by omega,h3] at hj;cases hj;first | rfl | exact noU_slice _ _ _
   · cases hj
theorem keepQ_stores {t : TypeId} {b : Nat} (ht : t ≠ 3) (hp : t ≠ 70) (vs : List Value) {w : World} {cs : Array Value} (i : Nat) (h : Blk t w b cs) (hN : ∀ u ∈ cs.toList,NoU u) (hv : ∀ u ∈ vs,NoU u) : KeepQ w (stores w b i vs) := by
 refine ⟨keepN_stores ht vs i h hN hv,fun g cs' hg => ?_⟩
 by_cases hb : g = b
 · subst hb;have h' : w.heap[g]? = some (.cells cs t (0,0)) := h;rw [h'] at hg;injection hg with hg;injection hg with _ h2;exact absurd h2 hp
 · exact (stores_other b g hb vs w i).trans hg
theorem LstG.keepQ {base : Nat} {w w' : World} {v : Value} {n : Nat} {xs : List Value} (h : LstG 3 70 base w v n xs) (hk : KeepQ w w') : LstG 3 70 base w' v n xs := by
 refine h.stay fun b hb => ?_
 rcases h.2 with ⟨rfl,_⟩ | ⟨g,cap,cur,rfl,_,hg,_⟩
 · cases hb
 ·
  have e1 : g = b := by simpa [Value.ownBlock] using hb
  subst e1;exact (hk.q _ _ hg).trans hg.symm
theorem KeepB.q {w w' : World} (h : KeepB w w') : KeepQ w w' := KeepQ.below h.b
theorem RNum.keepQ {w w' : World} {v : Value} {z : Int} {L : Nat} (h : RNum w v z L) (hk : KeepQ w w') : RNum w' v z L := h.keepN hk.n
theorem RNum.up {w : World} {v : Value} {z : Int} {L M : Nat} (h : RNum w v z L) (hl : L ≤ M) : RNum w v z M := by
 obtain ⟨neg,ds,h1,h2,h3⟩ := h;exact ⟨neg,ds,h1,h2,Nat.le_trans h3 hl⟩
theorem RNum.zeroN (w : World) (L : Nat) : RNum w (.agg #[.bool false, .slice none 0 0]) 0 L := ⟨false, [], ⟨none, 0, rfl, Nat.le_refl _, Nat.zero_le _, fun _ => rfl, Or.inl rfl, Digs.nil _, Norm.nil, fun _ => rfl, fun a h => by cases h⟩, by simp [sv, val], Nat.zero_le _⟩
theorem RNum.len {w : World} {x : Bool} {a : Option Addr} {n c : Nat} {z : Int} {L : Nat} (h : RNum w (.agg #[.bool x,.slice a n c]) z L) : (n = 0 ↔ z = 0) ∧ n ≤ L := by
 obtain ⟨neg,ds,⟨ao,cap,h1,h2,h3,h4,h5,hd,hn,h8,h9⟩,h10,h11⟩ := h;injection h1 with h1;simp at h1;obtain ⟨rfl,rfl,rfl,rfl⟩ := h1;refine ⟨⟨fun k => ?_,fun k => ?_⟩,h11⟩
 · rw [h10,List.eq_nil_of_length_eq_zero k];simp [sv,val]
 ·
  have hv : val 10 ds = 0 := by rw [← sv_natAbs _ (val 10 ds),← h10,k];rfl
  exact hn.len_zero (by decide) hv
structure RTP (w : World) (ao : Option Addr) (n cap : Nat) (x : Bool) (a : Option Addr) (m c : Nat) (ps : List (Nat × Int)) (r : Int) : Prop where
  len : ps.length = n
  cap1 : n ≤ cap
  cap2 : cap ≤ maxLen
  none : ao = none → cap = 0
  arr : QArr w ao ps
  rest : RNum w (.agg #[.bool x, .slice a m c]) r 400
  fine : Fine ps
  rlim : r.natAbs < lim
def RTermR (w : World) (v : Value) (ps : List (Nat × Int)) (r : Int) : Prop := ∃ ao n cap x a m c, v = .agg #[.slice ao n cap, .bool x, .slice a m c] ∧ RTP w ao n cap x a m c ps r
section
variable {w w' : World} {ao : Option Addr} {n cap : Nat} {x : Bool} {a : Option Addr} {m c : Nat} {ps : List (Nat × Int)} {r : Int} {v : Value}
theorem RTP.keepQ (h : RTP w ao n cap x a m c ps r) (hk : KeepQ w w') : RTP w' ao n cap x a m c ps r := ⟨h.len, h.cap1, h.cap2, h.none, h.arr.keepQ hk, h.rest.keepQ hk, h.fine, h.rlim⟩
theorem RTP.below (h : RTP w ao n cap x a m c ps r) (hb : Below w.heap.size w w') : RTP w' ao n cap x a m c ps r := h.keepQ (KeepQ.below hb)
theorem RTP.val (h : RTP w ao n cap x a m c ps r) : RTermR w (.agg #[.slice ao n cap, .bool x, .slice a m c]) ps r := ⟨ao, n, cap, x, a, m, c, rfl, h⟩
theorem RTermR.keepQ (h : RTermR w v ps r) (hk : KeepQ w w') : RTermR w' v ps r := by
 obtain ⟨ao,n,cap,x,a,m,c,rfl,h⟩ := h;exact (h.keepQ hk).val
theorem RTermR.below (h : RTermR w v ps r) (hb : Below w.heap.size w w') : RTermR w' v ps r := h.keepQ (KeepQ.below hb)
theorem RTermR.shape (h : RTermR w v ps r) : ∃ p n k x a m c,v = .agg #[.slice p n k,.bool x,.slice a m c] := by
 obtain ⟨p,n,k,x,a,m,c,rfl,_⟩ := h;exact ⟨p,n,k,x,a,m,c,rfl⟩
theorem RTP.n_le (h : RTP w ao n cap x a m c ps r) : n ≤ 4096 := by rw [← h.len];exact h.fine.len
theorem RTP.zero (w : World) : RTP w Option.none 0 0 false Option.none 0 0 [] 0 := ⟨rfl, Nat.le_refl _, Nat.zero_le _, fun _ => rfl, QArr.nil _ _, RNum.zeroN w 400, Fine.nil, by have := word_lim; simp; omega⟩
end
def QTS (ps : List (Nat × Int)) : Value → World → Prop := fun u w => ∃ ao n cap, u = .slice ao n cap ∧ ps.length = n ∧ n ≤ cap ∧ cap ≤ maxLen ∧ (ao = none → cap = 0) ∧ QArr w ao ps
theorem RTP.qts {w : World} {ao : Option Addr} {n cap : Nat} {x : Bool} {a : Option Addr} {m c : Nat} {ps : List (Nat × Int)} {r : Int} (h : RTP w ao n cap x a m c ps r) : QTS ps (.slice ao n cap) w := ⟨ao, n, cap, rfl, h.len, h.cap1, h.cap2, h.none, h.arr⟩
def RTM (ps : List (Nat × Int)) (r : Int) : Value → World → Prop := fun u w => RTermR w u ps r
def MonoQ (p : Value → World → Prop) : Prop := ∀ u w w', KeepQ w w' → p u w → p u w'
theorem MonoN.q {p : Value → World → Prop} (h : MonoN p) : MonoQ p := fun u w w' hk => h u w w' hk.n
theorem mq_is {v : Value} : MonoQ (IS v) := mn_is.q
theorem mq_rnm {z : Int} {N : Nat} : MonoQ (RNM z N) := mn_rnm.q
theorem mq_rtm {ps : List (Nat × Int)} {r : Int} : MonoQ (RTM ps r) := fun _ _ _ hk h => RTermR.keepQ h hk
theorem mq_qts {ps : List (Nat × Int)} : MonoQ (QTS ps) := fun _ _ _ hk h => by
  obtain ⟨ao, n, cap, h1, h2, h3, h4, h5, h6⟩ := h
  exact ⟨ao, n, cap, h1, h2, h3, h4, h5, h6.keepQ hk⟩
theorem mq_t2 {p q : Value → World → Prop} (hp : MonoQ p) (hq : MonoQ q) : MonoQ (T2 p q) := fun _ w w' hk h => by
  obtain ⟨a, b, rfl, h1, h2⟩ := h
  exact ⟨a, b, rfl, hp _ _ _ hk h1, hq _ _ _ hk h2⟩
theorem mvQ {p : Value → World → Prop} (hp : MonoQ p) {w w' : World} (hk : KeepQ w w') {b : Prop} {u : Value} (h : b → p u w) : b → p u w' := fun k => hp _ _ _ hk (h k)
theorem mb_rtm {ps : List (Nat × Int)} {r : Int} : MonoB (RTM ps r) := fun u w w' hk h => mq_rtm u w w' hk.q h
theorem mb_qts {ps : List (Nat × Int)} : MonoB (QTS ps) := fun u w w' hk h => mq_qts u w w' hk.q h
theorem QTS.below {w w' : World} {v : Value} {ps : List (Nat × Int)} (h : QTS ps v w) (hb : Below w.heap.size w w') : QTS ps v w' := mq_qts _ _ _ (KeepQ.below hb) h
theorem resNq {t : TypeId} {w w1 : World} {b B : Nat} {x : Bool} {a : Option Addr} {m c : Nat} (ht : t ≠ 3) (hp : t ≠ 70) (o : Blk t w1 b #[.bool x, .slice a m c]) (hbw : Below B w w1) (hle : B ≤ b) (x' : Bool) (a' : Option Addr) (m' c' : Nat) :
    KeepQ w1 ((w1.setCell ⟨b, 0, none⟩ (.bool x')).setCell ⟨b, 1, none⟩ (.slice a' m' c')) ∧ Below B w ((w1.setCell ⟨b, 0, none⟩ (.bool x')).setCell ⟨b, 1, none⟩ (.slice a' m' c')) ∧ Blk t ((w1.setCell ⟨b, 0, none⟩ (.bool x')).setCell ⟨b, 1, none⟩ (.slice a' m' c')) b #[.bool x', .slice a' m' c'] :=
  ⟨keepQ_stores ht hp [.bool x', .slice a' m' c'] 0 o (nuI _ _ _ _) (nuI _ _ _ _), below_stores hle [.bool x', .slice a' m' c'] 0 hbw, Blk.overS [.bool x', .slice a' m' c'] 0 o rfl⟩
theorem resTq {t : TypeId} {w w1 : World} {b B : Nat} {p : Option Addr} {n k : Nat} {x : Bool} {a : Option Addr} {m c : Nat} (ht : t ≠ 3) (hp : t ≠ 70) (o : Blk t w1 b #[.slice p n k, .bool x, .slice a m c]) (hbw : Below B w w1) (hle : B ≤ b) (p' : Option Addr) (n' k' : Nat) (x' : Bool) (a' : Option Addr) (m' c' : Nat) :
    KeepQ w1 (((w1.setCell ⟨b, 0, none⟩ (.slice p' n' k')).setCell ⟨b, 1, none⟩ (.bool x')).setCell ⟨b, 2, none⟩ (.slice a' m' c')) ∧ Below B w (((w1.setCell ⟨b, 0, none⟩ (.slice p' n' k')).setCell ⟨b, 1, none⟩ (.bool x')).setCell ⟨b, 2, none⟩ (.slice a' m' c')) ∧ Blk t (((w1.setCell ⟨b, 0, none⟩ (.slice p' n' k')).setCell ⟨b, 1, none⟩ (.bool x')).setCell ⟨b, 2, none⟩ (.slice a' m' c')) b #[.slice p' n' k', .bool x', .slice a' m' c'] :=
  ⟨keepQ_stores ht hp [.slice p' n' k', .bool x', .slice a' m' c'] 0 o (nuT _ _ _ _ _ _ _) (nuT _ _ _ _ _ _ _), below_stores hle [.slice p' n' k', .bool x', .slice a' m' c'] 0 hbw, Blk.overS [.slice p' n' k', .bool x', .slice a' m' c'] 0 o rfl⟩
theorem Tryz.und_qparts : Tryz.prog.underlying 36 = some (.slice 70) := by kernel_rfl
theorem Tryz.info_qpart : (Tryz.prog.info? 70).map (fun i => (i.zero,i.size,i.bytes)) = some (some (.agg #[.int .i64 0,.bool false,.slice none 0 0]),3,40) := by kernel_rfl
end Go.Proofs.YteefniagebcagaaGreatDoor
