/- Joined: SumsL, LinVl, LinHo, LinPl: words and contracts; no statement of the seat is proved here. -/
import Derived.Test.YteefniagebcagaaGreatDoorJoin21Reckons
import Derived.Test.YteefniagebcagaaGreatDoorJoin23Reckons
import Derived.Deep.RegionHeld3
namespace Go.Proofs.YteefniagebcagaaGreatDoor
open Go.RowKit
theorem Tryz.underlying54 : Tryz.prog.underlying 54 = some (.slice 31) := by kernel_rfl
theorem Tryz.underlying55 : Tryz.prog.underlying 55 = some (.slice 39) := by kernel_rfl
theorem Tryz.info31 : (Tryz.prog.info? 31).map (fun i => (i.zero,i.size,i.bytes)) = some (some (.agg #[.bool false,.slice none 0 0]),2,32) := by kernel_rfl
theorem Tryz.info39 : (Tryz.prog.info? 39).map (fun i => (i.zero,i.size,i.bytes)) = some (some (.agg #[.bool false,.slice none 0 0]),2,32) := by kernel_rfl
def AppK (e : TypeId) (base : Nat) (v : Value) (n : Nat) (xs : List Value) (w w' : World) : Prop :=
  (∀ b, b < w.heap.size → v.ownBlock ≠ some b → w'.heap[b]? = w.heap[b]?) ∧ KeepI w w' ∧ Below base w w' ∧ Lst e base w v n xs ∧ Lst e base w' v n xs
theorem step_append_two {P : Program} {w : World} {ops : Array Oper} {o : Oper} {a : Act} {K : Act → World → Prop} {Q : Exit → Act → World → Prop} {E : Prop} (hgd : o.guard = none) (s x : Operand) (t : TypeId)
  (ho : o.op = .call { callee := .builtin .append,args := #[s,x],argTypes := #[t,t] })
  (base : Nat) (e : TypeId) (bytes : Nat) (h1 : P.underlying t = some (.slice e)) (h2 : (P.info? e).map (fun i => (i.zero,i.size,i.bytes)) = some (some (.agg #[.bool false,.slice none 0 0]),2,bytes)) (hby : bytes ≤ 64)
  (v : Value) (n : Nat) (xs : List Value) (hs : a.eval s = v) (hown : Lst e base w v n xs) (b0 : Bool) (a1 : Option Addr) (n1 c1 : Nat) (g : Nat) (hx : a.eval x = .slice (some ⟨g,0,none⟩) 1 1)
  (hg : Blk e w g #[.bool b0,.slice a1 n1 c1]) (hn : n ≤ 1000) (hbase : base ≤ w.heap.size)
  (h : ∀ v' w',Lst e base w' v' (n + 1) (xs ++ [.bool b0,.slice a1 n1 c1]) → AppK e base v n xs w w' → K (a.put o.dst v') w') :
  if Region.wanted o (yielded ops a.tmps) = true then Oper.wp P o a w K Q else E := by
 have hw : Region.wanted o (yielded ops a.tmps) = true := by simp [Region.wanted,hgd]
 rw [if_pos hw];obtain ⟨i,hi,hz0,hz1,hz2⟩ := info_parts h2;obtain ⟨c0,c1',_,_⟩ := hg.two;have N0 : NoI (.bool b0) := fun _ _ hh => by cases hh
 have N1 : ∀ (p : Option Addr) (q r : Nat),NoI (.slice p q r) := fun _ _ _ _ _ hh => by cases hh
 have NF : NoI (.bool false) := fun _ _ hh => by cases hh
 obtain ⟨v',w',hr,k1,k2,k3,k4⟩ := run_append_two (P := P) w base t o.type e i _ h1 hi hz0 hz1 (by omega) rfl
  (by intro u hu;simp [Value.cells] at hu;rcases hu with rfl | rfl;exact NF;exact N1 _ _ _)
  v n xs hown ⟨g,0,none⟩ 1 (.bool b0) (.slice a1 n1 c1) c0 c1' rfl rfl N0 (N1 _ _ _) hn hbase
 have hblk : ∀ b,b < w.heap.size → v.ownBlock ≠ some b → w'.heap[b]? = w.heap[b]? := fun b hb1 hb2 => k2.block b hb1 (fun e => hb2 e.symm)
 unfold Oper.wp execOp;simp only [ho,resolve,invoke,builtin,Sem.run_bind,Sem.run_pure,Result.andThen_ok,List.map_toArray,List.map_cons,List.map_nil,hs,hx,hr];refine h v' w' k1 ⟨hblk,k3,?_,hown,k4⟩;refine ⟨k2.os,k2.tape,k2.output,k2.size,fun b hb1 => hblk b (by omega) (fun e => ?_)⟩
 have := (hown.lt b e).1;omega
theorem Lst.blk {e t : TypeId} {base : Nat} {w : World} {v : Value} {n : Nat} {xs : List Value} (h : Lst e base w v n xs) {b : Nat} {cs : Array Value} (hb : Blk t w b cs) (he : e ≠ t) : v.ownBlock ≠ some b := by
 intro hv;rcases h.2 with ⟨rfl,_⟩ | ⟨g,cap,cur,rfl,_,hg,_⟩
 · cases hv
 ·
  have e1 : g = b := by simpa [Value.ownBlock] using hv
  subst e1;have hb' : w.heap[g]? = some (.cells cs t (0,0)) := hb;rw [hg] at hb';injection hb' with hb';injection hb' with _ h2;exact he h2
theorem Blk.app {e t : TypeId} {base : Nat} {v : Value} {n : Nat} {xs : List Value} {w w' : World} {b : Nat} {cs : Array Value} (hb : Blk t w b cs) (h : AppK e base v n xs w w') (hne : v.ownBlock ≠ some b) : Blk t w' b cs := (h.1 b hb.lt hne).trans hb
theorem Lst.app {e t : TypeId} {base : Nat} {v v2 : Value} {n n2 : Nat} {xs xs2 : List Value} {w w' : World} (h2 : Lst t base w v2 n2 xs2) (h : AppK e base v n xs w w') (he : t ≠ e) : Lst t base w' v2 n2 xs2 :=
  h2.stay fun b hb => h.1 b (h2.lt b hb).2 (fun e' => h2.apart h.2.2.2.1 he b hb e'.symm)
def ElsR (w : World) (xs : List Value) (zs : List Int) : Prop :=
  ∀ i, i < zs.length → ∃ s a n c, xs[i * 2]? = some (.bool s) ∧ xs[i * 2 + 1]? = some (.slice a n c) ∧ RNum w (.agg #[.bool s, .slice a n c]) (zs.getD i 0) 400
theorem ElsR.nil (w : World) : ElsR w [] [] := fun i hi => by simp at hi
theorem ElsR.keep {w w' : World} {xs : List Value} {zs : List Int} (h : ElsR w xs zs) (hk : KeepI w w') : ElsR w' xs zs := by
 intro i hi;obtain ⟨s,a,n,c,h1,h2,h3⟩ := h i hi;exact ⟨s,a,n,c,h1,h2,h3.keepI hk⟩
theorem ElsR.push {w : World} {xs : List Value} {zs : List Int} (h : ElsR w xs zs) (hl : xs.length = zs.length * 2) {s : Bool} {a : Option Addr} {n c : Nat} {z : Int} (hz : RNum w (.agg #[.bool s,.slice a n c]) z 400) : ElsR w (xs ++ [.bool s,.slice a n c]) (zs ++ [z]) := by
 intro i hi;rw [List.length_append,List.length_singleton] at hi;rcases Nat.lt_or_ge i zs.length with k | k
 ·
  obtain ⟨s',a',n',c',h1,h2,h3⟩ := h i k;refine ⟨s',a',n',c',?_,?_,?_⟩
  · rw [List.getElem?_append_left (by omega)];exact h1
  · rw [List.getElem?_append_left (by omega)];exact h2
  · rw [List.getD_eq_getElem?_getD,List.getElem?_append_left k,← List.getD_eq_getElem?_getD];exact h3
 ·
  have e : i = zs.length := by omega
  subst e;refine ⟨s,a,n,c,?_,?_,?_⟩
  · rw [List.getElem?_append_right (by omega),hl,Nat.sub_self];rfl
  · rw [List.getElem?_append_right (by omega),hl,show zs.length * 2 + 1 - zs.length * 2 = 1 by omega];rfl
  · rw [List.getD_eq_getElem?_getD,List.getElem?_append_right (Nat.le_refl _),Nat.sub_self];exact hz
theorem Lst.arrR {e : TypeId} {base : Nat} {w : World} {v : Value} {n : Nat} {xs : List Value} {zs : List Int} (h : Lst e base w v n xs) (he : ElsR w xs zs) (hl : zs.length = n) : ∃ ao cap,v = .slice ao n cap ∧ ArrR w ao zs := by
 rcases h.2 with ⟨rfl,h0⟩ | ⟨g,cap,cur,rfl,h3,h4,h5,h6,_⟩
 · exact ⟨none,0,by rw [h0],Or.inl (List.eq_nil_of_length_eq_zero (hl.trans h0))⟩
 ·
  refine ⟨_,cap,rfl,?_⟩;rcases h.cells with k | ⟨g',cap',e1,_,_,_,_,h7⟩
  · exact Or.inl (List.eq_nil_of_length_eq_zero (hl.trans k))
  ·
   cases e1
   refine Or.inr ⟨g,0,rfl,fun i hi => ?_⟩
   obtain ⟨s,a,m,c,k1,k2,k3⟩ := he i hi;exact ⟨s,a,m,c,by rw [Nat.zero_add];exact h7 _ _ k1,by rw [Nat.zero_add];exact h7 _ _ k2,k3⟩
theorem Lst.arrI {e : TypeId} {base : Nat} {w : World} {v : Value} {n : Nat} {xs : List Value} {zs : List Int} (h : Lst e base w v n xs) (he : Els w xs zs) (hl : zs.length = n) : ∃ ao cap,v = .slice ao n cap ∧ Arr w ao zs := by
 rcases h.arr he hl with ⟨rfl,h0⟩ | ⟨g,cap,rfl,_,_,hA⟩
 · exact ⟨none,0,by rw [h0],Or.inl (List.eq_nil_of_length_eq_zero (hl.trans h0))⟩
 · exact ⟨_,cap,rfl,hA⟩
structure SumS (w1 : World) (k : Nat) (vA vX : Value) (xsA xsX : List Value) (zs : List Int) (z : Int) (b6 b7 : Nat) (x : Bool) (a : Option Addr) (m c : Nat) (y : Bool) (d : Option Addr) (m' f : Nat) (w' : World) : Prop where
  blkA : Blk 31 w' b6 #[.bool x, .slice a m c]
  blkX : Blk 39 w' b7 #[.bool y, .slice d m' f]
  lstA : Lst 31 w1.heap.size w' vA k xsA
  lstX : Lst 39 w1.heap.size w' vX k xsX
  els : Els w' xsA zs
  elsR : ElsR w' xsX zs
  numA : AInt w' (.agg #[.bool x, .slice a m c]) z
  numX : RNum w' (.agg #[.bool y, .slice d m' f]) z 400
  bel : Below w1.heap.size w1 w'
  neA : vA.ownBlock ≠ some b6
  neX : vX.ownBlock ≠ some b7
section
variable {w1 : World} {k : Nat} {vA vX : Value} {xsA xsX : List Value} {zs : List Int} {z : Int} {b6 b7 : Nat} {x : Bool} {a : Option Addr} {m c : Nat} {y : Bool} {d : Option Addr} {m' f : Nat} {w w' : World}
theorem SumS.below (h : SumS w1 k vA vX xsA xsX zs z b6 b7 x a m c y d m' f w) (hb : Below w.heap.size w w') : SumS w1 k vA vX xsA xsX zs z b6 b7 x a m c y d m' f w' :=
  ⟨h.blkA.stay hb, h.blkX.stay hb, h.lstA.below hb, h.lstX.below hb, h.els.keep (KeepI.below hb), h.elsR.keep (KeepI.below hb), h.numA.below hb, h.numX.below hb, h.bel.step hb (Nat.le_refl _), h.neA, h.neX⟩
theorem SumS.alloc (h : SumS w1 k vA vX xsA xsX zs z b6 b7 x a m c y d m' f w) (o : Obj) : SumS w1 k vA vX xsA xsX zs z b6 b7 x a m c y d m' f (w.alloc o) := h.below (below_new w o)
theorem SumS.drew (h : SumS w1 k vA vX xsA xsX zs z b6 b7 x a m c y d m' f w) : SumS w1 k vA vX xsA xsX zs z b6 b7 x a m c y d m' f w.drew := h.below (Below.refl _ _).drew
theorem SumS.appA (h : SumS w1 k vA vX xsA xsX zs z b6 b7 x a m c y d m' f w) (hk : AppK 31 w1.heap.size vA k xsA w w') : SumS w1 k vA vX xsA xsX zs z b6 b7 x a m c y d m' f w' :=
  ⟨h.blkA.app hk h.neA, h.blkX.app hk (h.lstA.blk h.blkX (by decide)), hk.2.2.2.2, h.lstX.app hk (by decide), h.els.keep hk.2.1, h.elsR.keep hk.2.1, h.numA.keepI hk.2.1, h.numX.keepI hk.2.1, h.bel.trans hk.2.2.1, h.neA, h.neX⟩
theorem SumS.appX (h : SumS w1 k vA vX xsA xsX zs z b6 b7 x a m c y d m' f w) (hk : AppK 39 w1.heap.size vX k xsX w w') : SumS w1 k vA vX xsA xsX zs z b6 b7 x a m c y d m' f w' :=
  ⟨h.blkA.app hk (h.lstX.blk h.blkA (by decide)), h.blkX.app hk h.neX, h.lstA.app hk (by decide), hk.2.2.2.2, h.els.keep hk.2.1, h.elsR.keep hk.2.1, h.numA.keepI hk.2.1, h.numX.keepI hk.2.1, h.bel.trans hk.2.2.1, h.neA, h.neX⟩
theorem SumS.all (h : SumS w1 k vA vX xsA xsX zs z b6 b7 x a m c y d m' f w) :
    (w.cell? ⟨b6, 0, none⟩ = some (.bool x) ∧ w.cell? ⟨b6, 1, none⟩ = some (.slice a m c) ∧ w.cell? ⟨b7, 0, none⟩ = some (.bool y) ∧ w.cell? ⟨b7, 1, none⟩ = some (.slice d m' f)) ∧ SumS w1 k vA vX xsA xsX zs z b6 b7 x a m c y d m' f w :=
  ⟨⟨h.blkA.two.1, h.blkA.two.2.1, h.blkX.two.1, h.blkX.two.2.1⟩, h⟩
end
set_option linter.unusedVariables false
def SArr (w : World) (ao : Option Addr) (ss : List ByteArray) : Prop := ss = [] ∨ ∃ (g o : Nat), ao = some ⟨g, o, none⟩ ∧ ∀ i, i < ss.length → w.cell? ⟨g, o + i, none⟩ = some (.string (ss.getD i ⟨#[]⟩))
theorem SArr.at {w : World} {ao : Option Addr} {ss : List ByteArray} (h : SArr w ao ss) (i : Nat) (hi : i < ss.length) : ∃ g o,ao = some ⟨g,o,none⟩ ∧ w.cell? ⟨g,o + i,none⟩ = some (.string (ss.getD i ⟨#[]⟩)) := by
 rcases h with h | ⟨g,o,h1,h2⟩
 · rw [h] at hi;simp at hi
 · exact ⟨g,o,h1,h2 i hi⟩
def valZ (ss : List ByteArray) : List Int := (ss.take 12).map fun s => pzd (cutS s)
def valK (ss : List ByteArray) (k : Nat) : List Int := (ss.take k).map fun s => pzd (cutS s)
theorem valK_step {ss : List ByteArray} {k : Nat} {S : ByteArray} (hk : k < ss.length) (hp : ss.getD k ⟨#[]⟩ = S) : valK ss (k + 1) = valK ss k ++ [pzd (cutS S)] := by
 unfold valK;rw [List.take_succ_eq_append_getElem hk,List.map_append];rw [List.getD_eq_getElem?_getD,List.getElem?_eq_getElem hk] at hp;simp at hp;rw [hp];rfl
theorem valK_length {ss : List ByteArray} {k : Nat} (hk : k ≤ ss.length) : (valK ss k).length = k := by
 unfold valK;rw [List.length_map,List.length_take];omega
set_option maxRecDepth 20000 in
set_option maxHeartbeats 8000000 in
theorem values_any (ao : Option Addr) (n cap : Nat) (ss : List ByteArray) (w : World) (hS : SArr w ao ss) (hl : ss.length = n) (hn' : n ≤ maxLen) :
  Calls Tryz.prog 22 #[.slice ao n cap] w fun e w' => ∃ a1 c1 a2 c2 k,e = .returned (.tuple #[.slice a1 k c1,.slice a2 k c2]) ∧ (valZ ss).length = k ∧ Arr w' a1 (valZ ss) ∧ ArrR w' a2 (valZ ss) ∧ Below w.heap.size w w' := by
 have hn : (n : Int) ≤ 9223372036854775807 := by unfold maxLen at hn';omega
 have HS : Hid (SArr w ao ss) := hS;have HLN : Hid (ss.length = n) := hl;clear hn' hS hl;go_enter Tryz.func22,Tryz.ntmps22;go_wp2;go_loopw [4,5,6] (fun v u i wr => ∃ k : Nat,∃ xsA xsX,k ≤ n ∧ k ≤ 12 ∧ i = .int .i64 k ∧ Lst 31 w.heap.size wr v k xsA ∧ Lst 39 w.heap.size wr u k xsX ∧ Els wr xsA (valK ss k) ∧ ElsR wr xsX (valK ss k) ∧ Below w.heap.size w wr) (fun _ _ i _ => 12 - (intOf i).toNat)
 case atStart => exact ⟨0,[],[],Nat.zero_le _,Nat.zero_le _,rfl,Lst.nil _ _ _,Lst.nil _ _ _,Els.nil _,ElsR.nil _,Below.refl _ _⟩
 case round =>
  rename World => wl
  obtain ⟨k,xsA,xsX,hk,hk',rfl,hLA,hLX,hEA,hEX,hB⟩ := hrel;have HVL : Hid ((valK ss k).length = k) := valK_length (by rw [HLN.out];exact hk)
  by_cases h0 : k < n ∧ k < 12
  ·
   obtain ⟨h0,h1⟩ := h0;have h1i : (k : Int) < 12 := by omega
   obtain ⟨gE,oE,had,k1⟩ := HS.out.at k (by rw [HLN.out];exact h0)
   subst had;obtain ⟨S,hps⟩ : ∃ S,S = ss.getD k ⟨#[]⟩ := ⟨_,rfl⟩;rw [← hps] at k1;have HPV : Hid (ss.getD k ⟨#[]⟩ = S) := hps.symm;clear hps;have c0 := (hB.cell (p := ⟨gE,oE + k,none⟩) (World.block_lt_of_cell? w _ k1)).trans k1;clear k1;by_cases hT : 400 < S.size
   ·
    have hT0 : (400 : Int) < S.size := by omega
    have hT1 : (400 : Int) ≤ S.size := by omega
    have hT2 : 400 ≤ S.size := by omega
    have HC : Hid (cutS S = S.extract 0 400) := if_pos hT;clear hT;obtain ⟨z,hz9⟩ : ∃ z,z = pzd (cutS S) := ⟨_,rfl⟩;have HZ : Hid (pzd (cutS S) = z) := hz9.symm;rw [HC.out] at hz9;have hsz : (S.extract 0 400).size ≤ 10000 := by have := cutS_size S;rw [HC.out] at this;omega
    go_wp2_with fail
    refine (parse_h (S.extract 0 400) _ hsz).mono ?_;rintro e w2 ⟨x,a,m,c,rfl,kx,hb2⟩;rw [← hz9] at kx;have hn1 := below_new w2 (.cells #[.bool x,.slice a m c] 31 (0,0));have B6 := Blk.new w2 31 #[.bool x,.slice a m c];go_wp2_with fail
    refine (rparse_h (S.extract 0 400) _ hsz).mono ?_;rintro e w3 ⟨y,d,m',f,rfl,ky,hb3⟩;rw [← hz9] at ky;have hn2 := below_new w3 (.cells #[.bool y,.slice d m' f] 39 (0,0));have B7 := Blk.new w3 39 #[.bool y,.slice d m' f];have hb4 := hn1.step hb3 (Nat.le_refl _);replace B6 := (B6.stay hb3).stay hn2;have hb5 := (hb2.step hb4 (Nat.le_refl _)).step hn2 (Nat.le_refl _);obtain ⟨b6,hb6⟩ : ∃ b,b = w2.heap.size := ⟨_,rfl⟩;obtain ⟨b7,hb7⟩ : ∃ b,b = w3.heap.size := ⟨_,rfl⟩;rw [← hb6] at B6 ⊢;rw [← hb7] at B7;have hSS : SumS w k u4 u5 xsA xsX (valK ss k) z b6 b7 x a m c y d m' f (w3.alloc (.cells #[.bool y,.slice d m' f] 39 (0,0))) :=
     ⟨B6,B7,hLA.below hb5,hLX.below hb5,hEA.keep (KeepI.below hb5),hEX.keep (KeepI.below hb5),((kx.below hn1).below hb3).below hn2,ky.below hn2,hB.step hb5 (Nat.le_refl _),
      fun e => by have := (hLA.lt _ e).2;have := hb2.size;omega,fun e => by have := (hLX.lt _ e).2;have := hb2.size;have := hb4.size;omega⟩
    clear c0 hb2 hn1 hn2 hb3 hb4 hb5 hb6 B6 B7 kx ky hLA hLX hEA hEX hB hz9;go_wp2;rw [← hb7];clear hb7;generalize (w3.alloc (.cells #[.bool y,.slice d m' f] 39 (0,0))) = W at hSS ⊢;obtain ⟨⟨c60,c61,c70,c71⟩,-⟩ := hSS.all;go_region_held3 (fun w' => (w'.cell? ⟨b6,0,none⟩ = some (.bool x) ∧ w'.cell? ⟨b6,1,none⟩ = some (.slice a m c) ∧ w'.cell? ⟨b7,0,none⟩ = some (.bool y) ∧ w'.cell? ⟨b7,1,none⟩ = some (.slice d m' f)) ∧ SumS w k u4 u5 xsA xsX (valK ss k) z b6 (b7) x a m c y d m' f w')
     ((refine SumS.all ?_;repeat' (first | assumption | refine SumS.drew ?_ | refine SumS.alloc ?_ _)))
     (first
      | (refine step_append_two (by rfl) (.tmp 41) (.tmp 43) 54 (by rfl) w.heap.size 31 32 Tryz.underlying54 Tryz.info31 (by decide) _ k xsA (by rfl) (SumS.lstA (show SumS w k u4 u5 xsA xsX (valK ss k) z b6 (b7) x a m c y d m' f _ from by repeat' (first | assumption | refine SumS.drew ?_ | refine SumS.alloc ?_ _))) x a m c _ (by rfl) (by first | exact Blk.new _ _ _ | exact (Blk.new _ _ _).alloc _ | (have hh := Blk.new (W.alloc (.cells #[.bool y,.slice d m' f] 39 (0,0))) 31 #[.bool x,.slice a m c];simp only [World.size_alloc] at hh;exact hh)) (by omega) (Below.size (SumS.bel (show SumS w k u4 u5 xsA xsX (valK ss k) z b6 (b7) x a m c y d m' f _ from by repeat' (first | assumption | refine SumS.drew ?_ | refine SumS.alloc ?_ _)))) ?_;intro vA wA hLA hKA;have hSA : SumS w k u4 u5 xsA xsX (valK ss k) z b6 (b7) x a m c y d m' f wA := SumS.appA (by repeat' (first | assumption | refine SumS.drew ?_ | refine SumS.alloc ?_ _)) hKA;(try (have hbX : Blk 39 wA (W.heap.size + 1) #[.bool y,.slice d m' f] := (by have hh := Blk.new (W.alloc (.cells #[.bool x,.slice a m c] 31 (0,0))) 39 #[.bool y,.slice d m' f];simp only [World.size_alloc] at hh;exact Blk.app hh.drew hKA (Lst.blk hKA.2.2.2.1 hh.drew (by decide)))));(try (have hbX : Blk 39 wA W.heap.size #[.bool y,.slice d m' f] := Blk.app ((Blk.new W 39 #[.bool y,.slice d m' f]).alloc (.cells #[.bool x,.slice a m c] 31 (0,0))).drew hKA (Lst.blk hKA.2.2.2.1 ((Blk.new W 39 #[.bool y,.slice d m' f]).alloc (.cells #[.bool x,.slice a m c] 31 (0,0))).drew (by decide)))))
      | (refine step_append_two (by rfl) (.tmp 45) (.tmp 47) 55 (by rfl) w.heap.size 39 32 Tryz.underlying55 Tryz.info39 (by decide) _ k xsX (by rfl) (SumS.lstX (show SumS w k u4 u5 xsA xsX (valK ss k) z b6 (b7) x a m c y d m' f _ from by repeat' (first | assumption | refine SumS.drew ?_ | refine SumS.alloc ?_ _))) y d m' f _ (by rfl) (by first | assumption | exact Blk.new _ _ _) (by omega) (Below.size (SumS.bel (show SumS w k u4 u5 xsA xsX (valK ss k) z b6 (b7) x a m c y d m' f _ from by repeat' (first | assumption | refine SumS.drew ?_ | refine SumS.alloc ?_ _)))) ?_;intro vX wX hLX hKX;have hSX : SumS w k u4 u5 xsA xsX (valK ss k) z b6 (b7) x a m c y d m' f wX := SumS.appX (by repeat' (first | assumption | refine SumS.drew ?_ | refine SumS.alloc ?_ _)) hKX))
    all_goals
     have hA' : Lst 31 w.heap.size wX vA (k + 1) (xsA ++ [.bool x,.slice a m c]) := by
      first
      | exact hLA.app hKX (by decide)
      | exact (hLA.below (below_new wA _)).app hKX (by decide)
     clear hKX hKA hSA hLA c60 c61 c70 c71;go_wp2;go_roundw
     case rel =>
      have HVS := valK_step (by rw [HLN.out];exact h0) HPV.out
      rw [HZ.out] at HVS;refine ⟨k + 1,xsA ++ [.bool x,.slice a m c],xsX ++ [.bool y,.slice d m' f],by omega,by omega,by go_num,hA',hLX,?_,?_,hSX.bel⟩
      · rw [HVS];exact hSX.els.push (by rw [HVL.out];exact hSX.lstA.1) hSX.numA
      · rw [HVS];exact hSX.elsR.push (by rw [HVL.out];exact hSX.lstX.1) hSX.numX
     case measure => simp [intOf];omega
   ·
    have hT0 : ¬ (400 : Int) < S.size := by omega
    have HC : Hid (cutS S = S) := if_neg hT;clear hT;obtain ⟨z,hz9⟩ : ∃ z,z = pzd (cutS S) := ⟨_,rfl⟩;have HZ : Hid (pzd (cutS S) = z) := hz9.symm;rw [HC.out] at hz9;have hsz : S.size ≤ 10000 := by have := cutS_size S;rw [HC.out] at this;omega
    go_wp2_with fail
    refine (parse_h S _ hsz).mono ?_;rintro e w2 ⟨x,a,m,c,rfl,kx,hb2⟩;rw [← hz9] at kx;have hn1 := below_new w2 (.cells #[.bool x,.slice a m c] 31 (0,0));have B6 := Blk.new w2 31 #[.bool x,.slice a m c];go_wp2_with fail
    refine (rparse_h S _ hsz).mono ?_;rintro e w3 ⟨y,d,m',f,rfl,ky,hb3⟩;rw [← hz9] at ky;have hn2 := below_new w3 (.cells #[.bool y,.slice d m' f] 39 (0,0));have B7 := Blk.new w3 39 #[.bool y,.slice d m' f];have hb4 := hn1.step hb3 (Nat.le_refl _);replace B6 := (B6.stay hb3).stay hn2;have hb5 := (hb2.step hb4 (Nat.le_refl _)).step hn2 (Nat.le_refl _);obtain ⟨b6,hb6⟩ : ∃ b,b = w2.heap.size := ⟨_,rfl⟩;obtain ⟨b7,hb7⟩ : ∃ b,b = w3.heap.size := ⟨_,rfl⟩;rw [← hb6] at B6 ⊢;rw [← hb7] at B7;have hSS : SumS w k u4 u5 xsA xsX (valK ss k) z b6 b7 x a m c y d m' f (w3.alloc (.cells #[.bool y,.slice d m' f] 39 (0,0))) :=
     ⟨B6,B7,hLA.below hb5,hLX.below hb5,hEA.keep (KeepI.below hb5),hEX.keep (KeepI.below hb5),((kx.below hn1).below hb3).below hn2,ky.below hn2,hB.step hb5 (Nat.le_refl _),
      fun e => by have := (hLA.lt _ e).2;have := hb2.size;omega,fun e => by have := (hLX.lt _ e).2;have := hb2.size;have := hb4.size;omega⟩
    clear c0 hb2 hn1 hn2 hb3 hb4 hb5 hb6 B6 B7 kx ky hLA hLX hEA hEX hB hz9;go_wp2;rw [← hb7];clear hb7;generalize (w3.alloc (.cells #[.bool y,.slice d m' f] 39 (0,0))) = W at hSS ⊢;obtain ⟨⟨c60,c61,c70,c71⟩,-⟩ := hSS.all;go_region_held3 (fun w' => (w'.cell? ⟨b6,0,none⟩ = some (.bool x) ∧ w'.cell? ⟨b6,1,none⟩ = some (.slice a m c) ∧ w'.cell? ⟨b7,0,none⟩ = some (.bool y) ∧ w'.cell? ⟨b7,1,none⟩ = some (.slice d m' f)) ∧ SumS w k u4 u5 xsA xsX (valK ss k) z b6 (b7) x a m c y d m' f w')
     ((refine SumS.all ?_;repeat' (first | assumption | refine SumS.drew ?_ | refine SumS.alloc ?_ _)))
     (first
      | (refine step_append_two (by rfl) (.tmp 41) (.tmp 43) 54 (by rfl) w.heap.size 31 32 Tryz.underlying54 Tryz.info31 (by decide) _ k xsA (by rfl) (SumS.lstA (show SumS w k u4 u5 xsA xsX (valK ss k) z b6 (b7) x a m c y d m' f _ from by repeat' (first | assumption | refine SumS.drew ?_ | refine SumS.alloc ?_ _))) x a m c _ (by rfl) (by first | exact Blk.new _ _ _ | exact (Blk.new _ _ _).alloc _ | (have hh := Blk.new (W.alloc (.cells #[.bool y,.slice d m' f] 39 (0,0))) 31 #[.bool x,.slice a m c];simp only [World.size_alloc] at hh;exact hh)) (by omega) (Below.size (SumS.bel (show SumS w k u4 u5 xsA xsX (valK ss k) z b6 (b7) x a m c y d m' f _ from by repeat' (first | assumption | refine SumS.drew ?_ | refine SumS.alloc ?_ _)))) ?_;intro vA wA hLA hKA;have hSA : SumS w k u4 u5 xsA xsX (valK ss k) z b6 (b7) x a m c y d m' f wA := SumS.appA (by repeat' (first | assumption | refine SumS.drew ?_ | refine SumS.alloc ?_ _)) hKA;(try (have hbX : Blk 39 wA (W.heap.size + 1) #[.bool y,.slice d m' f] := (by have hh := Blk.new (W.alloc (.cells #[.bool x,.slice a m c] 31 (0,0))) 39 #[.bool y,.slice d m' f];simp only [World.size_alloc] at hh;exact Blk.app hh.drew hKA (Lst.blk hKA.2.2.2.1 hh.drew (by decide)))));(try (have hbX : Blk 39 wA W.heap.size #[.bool y,.slice d m' f] := Blk.app ((Blk.new W 39 #[.bool y,.slice d m' f]).alloc (.cells #[.bool x,.slice a m c] 31 (0,0))).drew hKA (Lst.blk hKA.2.2.2.1 ((Blk.new W 39 #[.bool y,.slice d m' f]).alloc (.cells #[.bool x,.slice a m c] 31 (0,0))).drew (by decide)))))
      | (refine step_append_two (by rfl) (.tmp 45) (.tmp 47) 55 (by rfl) w.heap.size 39 32 Tryz.underlying55 Tryz.info39 (by decide) _ k xsX (by rfl) (SumS.lstX (show SumS w k u4 u5 xsA xsX (valK ss k) z b6 (b7) x a m c y d m' f _ from by repeat' (first | assumption | refine SumS.drew ?_ | refine SumS.alloc ?_ _))) y d m' f _ (by rfl) (by first | assumption | exact Blk.new _ _ _) (by omega) (Below.size (SumS.bel (show SumS w k u4 u5 xsA xsX (valK ss k) z b6 (b7) x a m c y d m' f _ from by repeat' (first | assumption | refine SumS.drew ?_ | refine SumS.alloc ?_ _)))) ?_;intro vX wX hLX hKX;have hSX : SumS w k u4 u5 xsA xsX (valK ss k) z b6 (b7) x a m c y d m' f wX := SumS.appX (by repeat' (first | assumption | refine SumS.drew ?_ | refine SumS.alloc ?_ _)) hKX))
    all_goals
     have hA' : Lst 31 w.heap.size wX vA (k + 1) (xsA ++ [.bool x,.slice a m c]) := by
      first
      | exact hLA.app hKX (by decide)
      | exact (hLA.below (below_new wA _)).app hKX (by decide)
     clear hKX hKA hSA hLA c60 c61 c70 c71;go_wp2;go_roundw
     case rel =>
      have HVS := valK_step (by rw [HLN.out];exact h0) HPV.out
      rw [HZ.out] at HVS;refine ⟨k + 1,xsA ++ [.bool x,.slice a m c],xsX ++ [.bool y,.slice d m' f],by omega,by omega,by go_num,hA',hLX,?_,?_,hSX.bel⟩
      · rw [HVS];exact hSX.els.push (by rw [HVL.out];exact hSX.lstA.1) hSX.numA
      · rw [HVS];exact hSX.elsR.push (by rw [HVL.out];exact hSX.lstX.1) hSX.numX
     case measure => simp [intOf];omega
  ·
   have HK : Hid (valK ss k = valZ ss) := by
    show _ = _
    unfold valK valZ;by_cases h : k < n
    ·
     have : k = 12 := by omega
     rw [this]
    · rw [List.take_of_length_le (by rw [HLN.out];omega),List.take_of_length_le (by rw [HLN.out];omega)]
   obtain ⟨ao1,cap1,rfl,hA⟩ := hLA.arrI hEA HVL.out;obtain ⟨ao2,cap2,rfl,hX⟩ := hLX.arrR hEX HVL.out;rw [HK.out] at hA hX;have HVZ : Hid ((valZ ss).length = k) := by rw [← HK.out];exact HVL.out
   have hcase : (k : Int) < n ∧ ¬ (k : Int) < 12 ∨ ¬ (k : Int) < n := by omega
   clear hLA hLX hEA hEX h0;rcases hcase with ⟨h0,h1⟩ | h0
   all_goals
    go_wp2;go_ret2
    exact ⟨ao1,cap1,ao2,cap2,k,rfl,HVZ.out,hA,hX,hB⟩
end Go.Proofs.YteefniagebcagaaGreatDoor
