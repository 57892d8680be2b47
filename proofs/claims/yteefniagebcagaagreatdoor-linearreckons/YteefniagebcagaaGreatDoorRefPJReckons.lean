/- Contracts of suretyref03's put and with; they prove no statement of the seat. -/
import Derived.Test.YteefniagebcagaaGreatDoorRefWJReckons
namespace Go.Proofs.YteefniagebcagaaGreatDoor
open Go.RowKit
set_option linter.unusedVariables false
def one (v : Nat) (z : Int) : List (Nat × Int) := if z = 0 then [] else [(v, z)]
theorem one_between : ∀ (l1 l2 : List (Nat × Int)) (v : Nat) (z : Int), (∀ p ∈ l1, p.1 < v) → (∀ p ∈ l2, v < p.1) → addP (l1 ++ l2) (one v z) = l1 ++ one v z ++ l2
  | l1, l2, v, z, h1, h2 => by
    unfold one
    by_cases hz9 : z = 0
    · rw [if_pos hz9, addP_nil_right, List.append_nil]
    · rw [if_neg hz9]
      induction l1 with
      | nil =>
        cases l2 with
        | nil => exact addP_nil_left _
        | cons x r =>
          have := h2 x (List.mem_cons_self ..)
          show addP (x :: r) [(v, z)] = (v, z) :: x :: r
          rw [addP]
          simp only []
          rw [if_neg (by omega), if_pos this, addP_nil_right]
      | cons y r ih =>
        have := h1 y (List.mem_cons_self ..)
        show addP (y :: (r ++ l2)) [(v, z)] = y :: (r ++ [(v, z)] ++ l2)
        rw [addP]
        simp only []
        rw [if_pos this, ih (fun p hp => h1 p (List.mem_cons_of_mem _ hp))]
theorem one_at : ∀ (l1 l2 : List (Nat × Int)) (v : Nat) (x z : Int), (∀ p ∈ l1, p.1 < v) → x ≠ 0 → addP (l1 ++ (v, x) :: l2) (one v z) = l1 ++ one v (x + z) ++ l2
  | l1, l2, v, x, z, h1, hx => by
    unfold one
    by_cases hz9 : z = 0
    · rw [if_pos hz9, addP_nil_right, hz9, Int.add_zero, if_neg hx]; simp
    · rw [if_neg hz9]
      induction l1 with
      | nil =>
        show addP ((v, x) :: l2) [(v, z)] = (if x + z = 0 then [] else [(v, x + z)]) ++ l2
        rw [addP]
        simp only []
        rw [if_neg (Nat.lt_irrefl _), if_neg (Nat.lt_irrefl _)]
        by_cases h0 : x + z = 0
        · rw [if_pos h0, if_pos h0, addP_nil_right]; rfl
        · rw [if_neg h0, if_neg h0, addP_nil_right]; rfl
      | cons y r ih =>
        have := h1 y (List.mem_cons_self ..)
        show addP (y :: (r ++ (v, x) :: l2)) [(v, z)] = y :: (r ++ (if x + z = 0 then [] else [(v, x + z)]) ++ l2)
        rw [addP]
        simp only []
        rw [if_pos this, ih (fun p hp => h1 p (List.mem_cons_of_mem _ hp))]
def WSt (l : List (Nat × Int)) (v : Nat) (z : Int) (j : Nat) (qs : List (Nat × Int)) (ok dn : Bool) : Prop :=
  (dn = false ∧ ok = true ∧ qs = l.take j ∧ ∀ p ∈ l.take j, p.1 < v) ∨ (dn = true ∧ ok = decide ((coef l v + z).natAbs < lim) ∧ qs ++ l.drop j = addP l (one v z) ∧ ∀ p ∈ l.drop j, v < p.1)
section
variable {l : List (Nat × Int)} {v : Nat} {z : Int} {j : Nat} {qs : List (Nat × Int)} {ok dn : Bool} {pv : Nat} {pz : Int}
theorem split_at (hj : j < l.length) (hp : l.getD j (0,0) = (pv,pz)) : l = l.take j ++ (pv,pz) :: l.drop (j + 1) := by
 rw [List.getD_eq_getElem?_getD,List.getElem?_eq_getElem hj] at hp;simp only [Option.getD_some] at hp;rw [← hp,← List.drop_eq_getElem_cons hj,List.take_append_drop]
theorem take_one (hj : j < l.length) (hp : l.getD j (0,0) = (pv,pz)) : l.take (j + 1) = l.take j ++ [(pv,pz)] := by
 rw [List.getD_eq_getElem?_getD,List.getElem?_eq_getElem hj] at hp;simp only [Option.getD_some] at hp;rw [List.take_succ_eq_append_getElem hj,hp]
theorem drop_one (hj : j < l.length) (hp : l.getD j (0,0) = (pv,pz)) : l.drop j = (pv,pz) :: l.drop (j + 1) := by
 rw [List.getD_eq_getElem?_getD,List.getElem?_eq_getElem hj] at hp;simp only [Option.getD_some] at hp;rw [List.drop_eq_getElem_cons hj,hp]
theorem coef_app9 (l1 l2 : List (Nat × Int)) (v : Nat) (h : ∀ p ∈ l1,p.1 ≠ v) : coef (l1 ++ l2) v = coef l2 v := by
 induction l1 with
 | nil => rfl
 | cons p r ih => rw [List.cons_append,coef,if_neg (h p (List.mem_cons_self ..)),ih (fun q hq => h q (List.mem_cons_of_mem _ hq))]
theorem coef_split (l1 l2 : List (Nat × Int)) (h1 : ∀ p ∈ l1, p.1 < v) (h2 : ∀ p ∈ l2, v < p.1) : coef (l1 ++ l2) v = 0 :=
  coef_out fun q hq => by
    rcases List.mem_append.1 hq with h | h
    · have := h1 q h; omega
    · have := h2 q h; omega
theorem rise_tail (hr : Rise l) (hj : j < l.length) (hp : l.getD j (0,0) = (pv,pz)) : ∀ p ∈ l.drop (j + 1),pv < p.1 := by
 have h : Rise (l.drop j) := hr.drop;rw [drop_one hj hp] at h;exact h.head
theorem WSt.less (h : WSt l v z j qs ok false) (hj : j < l.length) (hp : l.getD j (0,0) = (pv,pz)) (hv : pv < v) : WSt l v z (j + 1) (qs ++ [(pv,pz)]) ok false := by
 rcases h with ⟨_,h2,h3,h4⟩ | ⟨h1,_⟩
 ·
  refine Or.inl ⟨rfl,h2,by rw [h3,take_one hj hp],?_⟩
  intro p hq;rw [take_one hj hp] at hq;rcases List.mem_append.1 hq with k | k
  · exact h4 p k
  · rw [List.mem_singleton.1 k];exact hv
 · cases h1
theorem WSt.more (h : WSt l v z j qs ok false) (hr : Rise l) (hz : z.natAbs < lim) (hj : j < l.length) (hp : l.getD j (0,0) = (pv,pz)) (hv : v < pv) : WSt l v z (j + 1) (qs ++ one v z ++ [(pv,pz)]) ok true := by
 rcases h with ⟨_,h2,h3,h4⟩ | ⟨h1,_⟩
 ·
  have hd : ∀ p ∈ l.drop j,v < p.1 := by
   intro p hq;rw [drop_one hj hp] at hq;rcases List.mem_cons.1 hq with k | k
   · rw [k];exact hv
   · have := rise_tail hr hj hp p k;omega
  have hc : coef l v = 0 := by rw [← List.take_append_drop j l];exact coef_split _ _ h4 hd
  refine Or.inr ⟨rfl,?_,?_,?_⟩
  · rw [h2,hc,Int.zero_add,decide_eq_true hz]
  · have e := one_between (l.take j) (l.drop j) v z h4 hd;rw [List.take_append_drop] at e;rw [e,h3,drop_one hj hp];simp
  · intro p hq;have := rise_tail hr hj hp p hq;omega
 · cases h1
theorem WSt.here (h : WSt l v z j qs ok false) (hr : Rise l) (hj : j < l.length) (hp : l.getD j (0,0) = (v,pz)) (hn : pz ≠ 0) {b : Bool} (hb : b = decide ((pz + z).natAbs < lim)) : WSt l v z (j + 1) (qs ++ one v (pz + z)) b true := by
 rcases h with ⟨_,h2,h3,h4⟩ | ⟨h1,_⟩
 ·
  have hc : coef l v = pz := by
   rw [split_at hj hp,coef_app9 _ _ _ (fun q hq => by have := h4 q hq;omega),coef,if_pos rfl]
  refine Or.inr ⟨rfl,by rw [hb,hc],?_,rise_tail hr hj hp⟩
  have e := one_at (l.take j) (l.drop (j + 1)) v pz z h4 hn;rw [← split_at hj hp] at e;rw [e,h3]
 · cases h1
theorem WSt.past (h : WSt l v z j qs ok true) (hj : j < l.length) (hp : l.getD j (0,0) = (pv,pz)) : v < pv ∧ WSt l v z (j + 1) (qs ++ [(pv,pz)]) ok true := by
 rcases h with ⟨h1,_⟩ | ⟨_,h2,h3,h4⟩
 · cases h1
 · rw [drop_one hj hp] at h3 h4;refine ⟨h4 _ (List.mem_cons_self ..),Or.inr ⟨rfl,h2,by rw [← h3];simp,fun p hq => h4 p (List.mem_cons_of_mem _ hq)⟩⟩
theorem WSt.end1 (h : WSt l v z j qs ok true) (hj : l.length ≤ j) : qs = addP l (one v z) ∧ ok = decide ((coef l v + z).natAbs < lim) := by
 rcases h with ⟨h1,_⟩ | ⟨_,h2,h3,h4⟩
 · cases h1
 · rw [List.drop_eq_nil_of_le hj,List.append_nil] at h3;exact ⟨h3,h2⟩
theorem WSt.end0 (h : WSt l v z j qs ok false) (hz : z.natAbs < lim) (hj : l.length ≤ j) : qs ++ one v z = addP l (one v z) ∧ ok = decide ((coef l v + z).natAbs < lim) := by
 rcases h with ⟨_,h2,h3,h4⟩ | ⟨h1,_⟩
 ·
  rw [List.take_of_length_le hj] at h3 h4;have e := one_between l [] v z h4 (fun p hp => by cases hp)
  rw [List.append_nil,List.append_nil] at e;have hc : coef l v = 0 := coef_out fun q hq => by have := h4 q hq;omega
  exact ⟨by rw [h3,e],by rw [h2,hc,Int.zero_add,decide_eq_true hz]⟩
 · cases h1
end
structure PutR (base : Nat) (v : Value) (w w' : World) : Prop where
  bel : Below base w w'
  keep : KeepN w w'
  other : ∀ b, b < w.heap.size → v.ownBlock ≠ some b → w'.heap[b]? = w.heap[b]?
  size : w.heap.size ≤ w'.heap.size
theorem PutR.of {base : Nat} {v : Value} {w w1 w2 : World} {sz : Nat} {e : TypeId} {n : Nat} {xs : List Value} (hbase : base ≤ w.heap.size) (hb : Below w.heap.size w w1) (hA : AppG sz e base v n xs w1 w2) : PutR base v w w2 :=
  ⟨(hb.mono hbase).trans hA.bel, (KeepN.below hb).trans hA.keep, fun b h1 h2 => (hA.other b (Nat.lt_of_lt_of_le h1 hb.size) h2).trans (hb.block b h1), Nat.le_trans hb.size hA.size⟩
theorem PutR.same {base : Nat} {v : Value} {w w1 : World} (hbase : base ≤ w.heap.size) (hb : Below w.heap.size w w1) : PutR base v w w1 :=
  ⟨hb.mono hbase, KeepN.below hb, fun b h1 _ => hb.block b h1, hb.size⟩
set_option maxRecDepth 20000 in
set_option maxHeartbeats 8000000 in
theorem put_r (base : Nat) (v : Value) (n : Nat) (xs : List Value) (p : Nat) (xC : Bool) (aC : Option Addr) (nC cC : Nat) (z : Int) (L : Nat) (w : World) (hL : LstG 3 70 base w v n xs) (hC : RNum w (.agg #[.bool xC,.slice aC nC cC]) z L) (hn : n ≤ 9000) (hb : base ≤ w.heap.size) :
  Calls Tryz.prog 55 #[v,.int .i64 (p : Nat),.agg #[.bool xC,.slice aC nC cC]] w fun e w' => ∃ v',e = .returned v' ∧ ((z = 0 ∧ v' = v ∧ LstG 3 70 base w' v n xs) ∨ (z ≠ 0 ∧ LstG 3 70 base w' v' (n + 1) (xs ++ [.int .i64 (p : Nat),.bool xC,.slice aC nC cC]))) ∧ PutR base v w w' := by
 have oC := (Blk.new w 39 #[.bool xC,.slice aC nC cC]);have hbw : Below w.heap.size w (w.alloc (.cells #[.bool xC,.slice aC nC cC] 39 (0,0))) := by go_grown
 have ltC := oC.lt;have lwC : w.heap.size ≤ w.heap.size := by omega
 have hbw1 := hbw;have hL1 := hL.below hbw;have HZ : Hid (nC = 0 ↔ z = 0) := hC.len.1;go_enter Tryz.func55,Tryz.ntmps55;by_cases hz9 : nC = 0
 ·
  have HZ0 : Hid (z = 0) := HZ.out.1 hz9;subst hz9;obtain ⟨Cc0,Cc1,Ck0,Ck1⟩ := oC.two;go_wp2;go_ret
  exact ⟨_,rfl,Or.inl ⟨HZ0.out,rfl,hL1⟩,PutR.same hb hbw1⟩
 ·
  have HZ0 : Hid (z ≠ 0) := fun k => hz9 (HZ.out.2 k)
  have hzi : ¬ (nC : Int) = 0 := by omega
  have hb3 := below_new (w.alloc (.cells #[.bool xC,.slice aC nC cC] 39 (0,0))) (.cells #[.int .i64 (p : Nat),.bool xC,.slice aC nC cC] 70 (0,0));have oB := Blk.new (w.alloc (.cells #[.bool xC,.slice aC nC cC] 39 (0,0))) 70 #[.int .i64 (p : Nat),.bool xC,.slice aC nC cC];simp only [World.size_alloc] at oB;have hL3 := hL1.below hb3;have hbw3 := hbw1.step hb3 (Nat.le_refl _);clear hz9;obtain ⟨Cc0,Cc1,Ck0,Ck1⟩ := oC.two;go_wp2_with (at_builtin;refine wpList_append_g rfl _ _ 36 rfl 3 base 70 (.agg #[.int .i64 0,.bool false,.slice none 0 0]) 40 Tryz.und_qparts Tryz.info_qpart (by decide) rfl (by decide) (nuP _ _ _ _ _) (by decide) _ _ _ rfl hL3 ⟨w.heap.size + 1,0,none⟩ 1 1 [.int .i64 (p : Nat),.bool xC,.slice aC nC cC] rfl rfl (by intro j u hj;match j,hj with | 0,hj => (simp at hj;subst hj;exact oB.cell 0) | 1,hj => (simp at hj;subst hj;exact oB.cell 1) | 2,hj => (simp at hj;subst hj;exact oB.cell 2) | j + 3,hj => (simp at hj)) (by intro u hu;simp at hu;rcases hu with rfl | rfl | rfl <;> rfl) (nuP _ _ _ _ _) (Or.inl (by decide)) (by omega) (Nat.le_trans hb hbw3.size) ?_;intro v8 w8 hL8 hA8 hn8)
  go_ret
  exact ⟨_,rfl,Or.inr ⟨HZ0.out,hL8⟩,PutR.of hb hbw3 hA8⟩
theorem put_h (base : Nat) (v : Value) (n : Nat) (xs : List Value) (qs : List (Nat × Int)) (p : Nat) (xC : Bool) (aC : Option Addr) (nC cC : Nat) (z : Int) (L : Nat) (w : World) (hL : LstG 3 70 base w v n xs) (hE : ElsQ w xs qs) (hq : qs.length = n) (hC : RNum w (.agg #[.bool xC,.slice aC nC cC]) z L) (hl : L ≤ 900) (hn : n ≤ 9000) (hb : base ≤ w.heap.size) :
  Calls Tryz.prog 55 #[v,.int .i64 (p : Nat),.agg #[.bool xC,.slice aC nC cC]] w fun e w' => ∃ v' n' xs',e = .returned v' ∧ LstG 3 70 base w' v' n' xs' ∧ ElsQ w' xs' (qs ++ one p z) ∧ (qs ++ one p z).length = n' ∧ n' ≤ n + 1 ∧ PutR base v w w' := by
 refine (put_r base v n xs p xC aC nC cC z L w hL hC hn hb).mono ?_;rintro e w' ⟨v',rfl,h,hR⟩;have hE2 := hE.keep hR.keep;rcases h with ⟨h1,rfl,h2⟩ | ⟨h1,h2⟩
 ·
  have e1 : qs ++ one p z = qs := by rw [h1];exact List.append_nil _
  exact ⟨_,n,xs,rfl,h2,by rw [e1];exact hE2,by rw [e1];exact hq,Nat.le_succ _,hR⟩
 ·
  have e1 : one p z = [(p,z)] := if_neg h1;refine ⟨v',n + 1,_,rfl,h2,?_,by rw [e1,List.length_append,hq];rfl,Nat.le_refl _,hR⟩
  rw [e1];exact hE2.app (by rw [hq];exact hL.1) (ElsQ.one ((hC.up hl).keepN hR.keep))
set_option maxRecDepth 20000 in
set_option maxHeartbeats 16000000 in
theorem with_r (aX : Option Addr) (nX cX : Nat) (l : List (Nat × Int)) (v : Nat) (xC : Bool) (aC : Option Addr) (nC cC : Nat) (z : Int) (w : World) (ha : QArr w aX l) (hl : l.length = nX) (hr : Rise l) (hnz : ∀ p ∈ l,p.2 ≠ 0) (hlen : nX ≤ 4200) (hC : RNum w (.agg #[.bool xC,.slice aC nC cC]) z 400) (hz9 : z.natAbs < lim) (hcl : (coef l v).natAbs < lim) :
  Calls Tryz.prog 59 #[.slice aX nX cX,.int .i64 (v : Nat),.agg #[.bool xC,.slice aC nC cC]] w fun e w' => ∃ u b,e = .returned (.tuple #[u,.bool b]) ∧ QTS (addP l (one v z)) u w' ∧ b = decide ((coef l v + z).natAbs < lim) ∧ Below w.heap.size w w' := by
 have oC := (Blk.new w 39 #[.bool xC,.slice aC nC cC]);have hbw : Below w.heap.size w (w.alloc (.cells #[.bool xC,.slice aC nC cC] 39 (0,0))) := by go_grown
 have ltC := oC.lt;have lwC : w.heap.size ≤ w.heap.size := by omega
 have HX : Hid (QArr w aX l) := ha;have HLN : Hid (l.length = nX) := hl;have HRI : Hid (Rise l) := hr;have HNZ : Hid (∀ p ∈ l,p.2 ≠ 0) := hnz;have HC : Hid (RNum w (.agg #[.bool xC,.slice aC nC cC]) z 400) := hC;have HZL : Hid (z.natAbs < lim) := hz9;have HSM : Hid ((coef l v).natAbs < lim) := hcl;clear ha hl hr hnz hC hz9 hcl;go_enter Tryz.func59,Tryz.ntmps59;obtain ⟨Cc0,Cc1,Ck0,Ck1⟩ := oC.two;go_wp2;go_loopw [8,9,10,11] (fun u8 u9 u10 u11 wl => ∃ (j n : Nat) (xs : List Value) (qs : List (Nat × Int)) (ok dn : Bool),j ≤ nX ∧ n ≤ 2 * j ∧ u9 = .bool ok ∧ u10 = .bool dn ∧ u11 = .int .i64 j ∧ Blk 39 wl w.heap.size #[.bool xC,.slice aC nC cC] ∧ LstG 3 70 w.heap.size wl u8 n xs ∧ ElsQ wl xs qs ∧ Hid (qs.length = n) ∧ Hid (WSt l v z j qs ok dn) ∧ Below w.heap.size w wl) (fun _ _ _ i _ => nX - (intOf i).toNat)
 case atStart => exact ⟨0,0,[],[],true,false,Nat.zero_le _,Nat.zero_le _,rfl,rfl,rfl,oC,LstG.nil _ _ _ _,ElsQ.nil _,rfl,Or.inl ⟨rfl,rfl,rfl,fun p hp => by simp at hp⟩,hbw⟩
 case round =>
  rename World => wl
  clear oC hbw ltC Cc0 Cc1 Ck0 Ck1;obtain ⟨j,n,xs,qs,ok,dn,hj,hn,h9,h10,h11,oC,hL,hE,HQ,HS,hbw⟩ := hrel;subst h9;subst h10;subst h11;have ltC := oC.lt;by_cases h0 : j < nX
  ·
   obtain ⟨gE,oE,sE,aE,mE,cE,had,k1,k2,k3,k4⟩ := HX.out.at j (by rw [HLN.out];exact h0)
   subst had;obtain ⟨pv,hpv⟩ : ∃ x9,x9 = (l.getD j (0,0)).1 := ⟨_,rfl⟩;obtain ⟨pz,hpz⟩ : ∃ x9,x9 = (l.getD j (0,0)).2 := ⟨_,rfl⟩;rw [← hpv] at k1;rw [← hpz] at k4;have HPV : Hid (l.getD j (0,0) = (pv,pz)) := by show _ = _;rw [hpv,hpz]
   clear hpv hpz;have A0 := (hbw.cell (p := ⟨gE,oE + j * 3,none⟩) (World.block_lt_of_cell? w _ k1)).trans k1;have A1 := (hbw.cell (p := ⟨gE,oE + j * 3 + 1,none⟩) (World.block_lt_of_cell? w _ k2)).trans k2;have A2 := (hbw.cell (p := ⟨gE,oE + j * 3 + 2,none⟩) (World.block_lt_of_cell? w _ k3)).trans k3;have hE0 := k4.below hbw;clear k1 k2 k3 k4;have HPN : Hid (pz ≠ 0) := by
    have h := split_at (by rw [HLN.out];exact h0) HPV.out
    exact HNZ.out (pv,pz) (by rw [h];simp)
   have HO : Hid (one pv pz = [(pv,pz)]) := if_neg HPN.out;have hn9 := below_new wl (.cells #[.int .i64 (pv : Nat),.bool sE,.slice aE mE cE] 70 (0,0));have oX := Blk.new wl 70 #[.int .i64 (pv : Nat),.bool sE,.slice aE mE cE];have naX0 : u8.ownBlock ≠ some wl.heap.size := fun h => by have := (hL.lt _ h).2;omega
   have naC0 := hL.blk oC (by decide : 70 ≠ 39)
   replace oC := oC.stay hn9;replace hL := hL.below hn9;replace hE := hE.keep (KeepN.below hn9);replace hE0 := hE0.below hn9;replace hbw := hbw.step hn9 (Nat.le_refl _);have hlt9 : wl.heap.size < (wl.alloc (.cells #[.int .i64 (pv : Nat),.bool sE,.slice aE mE cE] 70 (0,0))).heap.size := by simp
   clear hn9;cases dn
   ·
    rcases Nat.lt_trichotomy pv v with hv | hv | hv
    ·
     have hv1 : ¬ (v : Int) < pv := by omega
     have hv2 : ¬ (pv : Int) = v := by omega
     have HV : Hid (pv < v) := hv;clear hv;obtain ⟨Cc0,Cc1,Ck0,Ck1⟩ := oC.two;obtain ⟨Xc0,Xc1,Xc2⟩ := oX.three;obtain ⟨Xk0,Xk1,Xk2⟩ := oX.frozen3;go_wp2_with fail
     refine (put_h w.heap.size _ n _ qs pv _ _ _ _ pz 900 _ hL hE HQ.out hE0 (by decide) (by omega) hbw.size).mono ?_
     rintro e w1 ⟨v1,n1,xs1,rfl,hL1,hE1,hQ1,hn1,hR⟩;have HQ1 : Hid (_ = n1) := hQ1;clear hQ1;replace oC := (hR.other _ oC.lt (LstG.blk hL oC (by decide))).trans oC
     replace hbw := hbw.trans hR.bel;go_wp2_with fail
     go_roundw
     case rel => exact ⟨j + 1,n1,xs1,_,ok,false,by omega,by omega,rfl,rfl,by go_num,oC,hL1,hE1,HQ1.out,(by rw [HO.out];exact HS.out.less (by rw [HLN.out];exact h0) HPV.out HV.out),hbw⟩
     case measure => simp [intOf];omega
    ·
     subst hv;have hv1 : ¬ (pv : Int) < pv := by omega
     obtain ⟨Cc0,Cc1,Ck0,Ck1⟩ := oC.two;obtain ⟨Xc0,Xc1,Xc2⟩ := oX.three;obtain ⟨Xk0,Xk1,Xk2⟩ := oX.frozen3;have HPL : Hid (pz.natAbs < lim) := by
      have h := HSM.out;rw [split_at (by rw [HLN.out];exact h0) HPV.out,coef_app9 _ _ _ (fun q hq => ?_),coef,if_pos rfl] at h
      · exact h
      ·
       have hs := split_at (by rw [HLN.out];exact h0) HPV.out
       have h2 := HRI.out;unfold Rise at h2;rw [hs,List.pairwise_append] at h2;have := h2.2.2 q hq _ (List.mem_cons_self ..);simp only [] at this;omega
     go_wp2_with fail
     refine (rAdd_any _ _ pz z (pz + z) 400 400 _ (hE0.short HPL.out) (HC.out.below hbw) (by decide) rfl).mono ?_
     rintro e w1 ⟨xQ,aQ,nQ,cQ,rfl,hQ,hb⟩;clear Cc0 Cc1 Ck0 Ck1;clear Xc0 Xc1 Xc2 Xk0 Xk1 Xk2;replace oC := oC.stay hb;replace oX := oX.stay hb;replace hL := hL.below hb;replace hE := hE.keep (KeepN.below hb);replace hbw := hbw.step hb (Nat.le_refl _);clear hb;have oX2 : Blk 70 (stores w1 wl.heap.size 1 [.bool xQ,.slice aQ nQ cQ]) wl.heap.size #[.int .i64 (pv : Nat),.bool xQ,.slice aQ nQ cQ] := Blk.overS [.bool xQ,.slice aQ nQ cQ] 1 oX rfl;have hK9 := keepN_stores (by decide) [.bool xQ,.slice aQ nQ cQ] 1 oX (nuP _ _ _ _ _) (nuI _ _ _ _)
     have hL2 := hL.stay (fun b hb => stores_other wl.heap.size b (fun e => naX0 (e ▸ hb)) [.bool xQ,.slice aQ nQ cQ] w1 1)
     have hE2 := hE.keep hK9;have oC2 := oC.otherS (show wl.heap.size ≠ w.heap.size by have := ltC;omega) 1 [.bool xQ,.slice aQ nQ cQ]
     have hbw2 := below_stores (show w.heap.size ≤ wl.heap.size by omega) [.bool xQ,.slice aQ nQ cQ] 1 hbw
     have hQ2 := hQ.keepN hK9;obtain ⟨Xc0,Xc1,Xc2⟩ := oX.three;obtain ⟨Xk0,Xk1,Xk2⟩ := oX.frozen3;obtain ⟨Yc0,Yc1,Yc2⟩ := Blk.three (show Blk _ ((w1.setCell ⟨wl.heap.size,1,none⟩ (.bool xQ)).setCell ⟨wl.heap.size,2,none⟩ (.slice aQ nQ cQ)) _ _ from oX2)
     go_wp2_with fail
     refine (toobig_r _ (pz + z) 801 (!decide ((pz + z).natAbs < lim)) _ hQ2 (by decide) (by rw [← decide_not,decide_eq_decide];omega)).mono ?_
     rintro e w2 ⟨rfl,hb⟩;clear Xc0 Xc1 Xc2 Xk0 Xk1 Xk2 Yc0 Yc1 Yc2;replace oX := Blk.stay oX2 hb;replace oC := Blk.stay oC2 hb;replace hL := LstG.below hL2 hb;replace hE := hE2.keep (KeepN.below hb);replace hQ := RNum.below hQ2 hb;replace hbw := hbw2.step hb (Nat.le_refl _);clear hb oX2 oC2 hL2 hE2 hQ2 hbw2 hK9;have hnn : (!(!decide ((pz + z).natAbs < lim))) = decide ((pz + z).natAbs < lim) := by simp
     obtain ⟨Xc0,Xc1,Xc2⟩ := oX.three;obtain ⟨Xk0,Xk1,Xk2⟩ := oX.frozen3;go_wp2_with fail
     refine (put_h w.heap.size _ n _ qs pv _ _ _ _ (pz + z) 801 _ hL hE HQ.out hQ (by decide) (by omega) hbw.size).mono ?_
     rintro e w1 ⟨v1,n1,xs1,rfl,hL1,hE1,hQ1,hn1,hR⟩;have HQ1 : Hid (_ = n1) := hQ1;clear hQ1;replace oC := (hR.other _ oC.lt (LstG.blk hL oC (by decide))).trans oC
     replace hbw := hbw.trans hR.bel;go_wp2_with fail
     go_roundw
     case rel => exact ⟨j + 1,n1,xs1,_,_,true,by omega,by omega,rfl,rfl,by go_num,oC,hL1,hE1,HQ1.out,(HS.out.here HRI.out (by rw [HLN.out];exact h0) HPV.out HPN.out (by simp)),hbw⟩
     case measure => simp [intOf];omega
    ·
     have hv1 : (v : Int) < pv := by omega
     have hv2 : ¬ (pv : Int) = v := by omega
     have HV : Hid (v < pv) := hv;clear hv;obtain ⟨Cc0,Cc1,Ck0,Ck1⟩ := oC.two;obtain ⟨Xc0,Xc1,Xc2⟩ := oX.three;obtain ⟨Xk0,Xk1,Xk2⟩ := oX.frozen3;go_wp2_with fail
     refine (put_h w.heap.size _ n _ qs v _ _ _ _ z 400 _ hL hE HQ.out (HC.out.below hbw) (by decide) (by omega) hbw.size).mono ?_
     rintro e w1 ⟨v1,n1,xs1,rfl,hL1,hE1,hQ1,hn1,hR⟩;have HQ1 : Hid (_ = n1) := hQ1;clear hQ1;clear Cc0 Cc1 Ck0 Ck1;clear Xc0 Xc1 Xc2 Xk0 Xk1 Xk2;replace oC : Blk 39 w1 w.heap.size #[.bool xC,.slice aC nC cC] := (hR.other _ oC.lt (LstG.blk hL oC (by decide))).trans oC
     replace oX : Blk 70 w1 wl.heap.size #[.int .i64 (pv : Nat),.bool sE,.slice aE mE cE] := (hR.other _ oX.lt naX0).trans oX;replace hE0 := hE0.keepN hR.keep;replace hbw := hbw.trans hR.bel;clear hR hL hE;obtain ⟨Cc0,Cc1,Ck0,Ck1⟩ := oC.two;obtain ⟨Xc0,Xc1,Xc2⟩ := oX.three;obtain ⟨Xk0,Xk1,Xk2⟩ := oX.frozen3;go_wp2_with fail
     refine (put_h w.heap.size _ n1 _ _ pv _ _ _ _ pz 900 _ hL1 hE1 HQ1.out hE0 (by decide) (by omega) hbw.size).mono ?_
     rintro e w2 ⟨v2,n2,xs2,rfl,hL2,hE2,hQ2,hn2,hR⟩;have HQ2 : Hid (_ = n2) := hQ2;clear hQ2;replace oC := (hR.other _ oC.lt (LstG.blk hL1 oC (by decide))).trans oC
     replace hbw := hbw.trans hR.bel;go_wp2_with fail
     go_roundw
     case rel => exact ⟨j + 1,n2,xs2,_,ok,true,by omega,by omega,rfl,rfl,by go_num,oC,hL2,hE2,HQ2.out,(by rw [HO.out];exact HS.out.more HRI.out HZL.out (by rw [HLN.out];exact h0) HPV.out HV.out),hbw⟩
     case measure => simp [intOf];omega
   ·
    obtain ⟨hv,hs2⟩ := HS.out.past (by rw [HLN.out];exact h0) HPV.out
    have HS2 : Hid (WSt _ _ _ _ _ _ _) := hs2;have hv1 : (v : Int) < pv := by omega
    have hv2 : ¬ (pv : Int) = v := by omega
    clear hs2 hv;obtain ⟨Cc0,Cc1,Ck0,Ck1⟩ := oC.two;obtain ⟨Xc0,Xc1,Xc2⟩ := oX.three;obtain ⟨Xk0,Xk1,Xk2⟩ := oX.frozen3;go_wp2_with fail
    refine (put_h w.heap.size _ n _ qs pv _ _ _ _ pz 900 _ hL hE HQ.out hE0 (by decide) (by omega) hbw.size).mono ?_
    rintro e w1 ⟨v1,n1,xs1,rfl,hL1,hE1,hQ1,hn1,hR⟩;have HQ1 : Hid (_ = n1) := hQ1;clear hQ1;replace oC := (hR.other _ oC.lt (LstG.blk hL oC (by decide))).trans oC
    replace hbw := hbw.trans hR.bel;go_wp2_with fail
    go_roundw
    case rel => exact ⟨j + 1,n1,xs1,_,ok,true,by omega,by omega,rfl,rfl,by go_num,oC,hL1,hE1,HQ1.out,(by rw [HO.out];exact HS2.out),hbw⟩
    case measure => simp [intOf];omega
  ·
   cases dn
   ·
    obtain ⟨Cc0,Cc1,Ck0,Ck1⟩ := oC.two;go_wp2_with fail
    refine (put_h w.heap.size _ n _ qs v _ _ _ _ z 400 _ hL hE HQ.out (HC.out.below hbw) (by decide) (by omega) hbw.size).mono ?_
    rintro e w1 ⟨v1,n1,xs1,rfl,hL1,hE1,hQ1,hn1,hR⟩;obtain ⟨e1,e2⟩ := HS.out.end0 HZL.out (by rw [HLN.out];omega)
    rw [e1] at hE1 hQ1;obtain ⟨ao,cap,hv9,hc1,hc2,hc3,hqa⟩ := hL1.qarr hE1 hQ1;subst hv9;have HE2 : Hid (ok = _) := e2;clear e1 e2;go_wp2;go_ret2
    refine ⟨_,_,rfl,⟨ao,n1,cap,rfl,hQ1,hc1,hc2,hc3,hqa⟩,HE2.out,hbw.trans hR.bel⟩
   ·
    obtain ⟨e1,e2⟩ := HS.out.end1 (by rw [HLN.out];omega)
    have HE2 : Hid (ok = _) := e2;have hq := HQ.out;rw [e1] at hE hq;obtain ⟨ao,cap,hv9,hc1,hc2,hc3,hqa⟩ := hL.qarr hE hq;subst hv9;clear e1 e2;go_wp2;go_ret2
    refine ⟨_,_,rfl,⟨ao,n,cap,rfl,hq,hc1,hc2,hc3,hqa⟩,HE2.out,hbw⟩
end Go.Proofs.YteefniagebcagaaGreatDoor
