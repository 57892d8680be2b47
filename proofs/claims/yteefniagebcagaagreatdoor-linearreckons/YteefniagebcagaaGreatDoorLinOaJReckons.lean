/- Rows of texts inside a struct that was handed in: what they hold; no statement of the seat is proved here. -/
import Derived.Test.YteefniagebcagaaGreatDoorLinOpJReckons
namespace Go.Proofs.YteefniagebcagaaGreatDoor
open Go.ChangeShapes Go.WideShapes Go.ChangeAt Go.RowKit Go.Deep Go.Joins
set_option linter.unusedVariables false
theorem one_cell9 {w : World} {a : Addr} {cs : List Value} (h : w.cells? 0 a 1 = some cs) : ∃ c0,cs = [c0] ∧ w.cell? a = some c0 := by
 unfold World.cells? at h;rw [if_pos (Nat.zero_le _),show List.range 1 = [0] from rfl] at h
 simp only [List.mapM_cons,List.mapM_nil,Option.bind_eq_bind,Option.bind_eq_some_iff,Option.pure_def,Option.some.injEq] at h;obtain ⟨c0,h0,_,rfl,rfl⟩ := h;exact ⟨c0,rfl,by simpa [Addr.add] using h0⟩
theorem sarr_open {H : Type} {enc : TypeId × Value → H} {W : World} {fuel : Nat} {v : Value} {y : DataW H × List MemPlace} (h : DataW.trod enc Tryz.prog W 0 (fun _ => true) true fuel 23 [v] = some y) :
  ∃ a0 len cap ss,v = .slice a0 len cap ∧ List.length ss = len ∧ len ≤ maxLen ∧ SArr W a0 ss := by
 rcases open_slice Tryz.und_strs h with ⟨hcs,_⟩ | ⟨a,len,cap,m,n,D,Pl,hcs,_,hl,hm,hmm,_,hx⟩
 · injection hcs with hcs;exact ⟨none,0,0,[],hcs,rfl,Nat.zero_le _,Or.inl rfl⟩
 ·
  injection hcs with hcs;simp only [if_true] at hmm;subst hmm;rw [Tryz.cells_s] at hx;have key : ∀ i,∃ p : ByteArray,i < len → W.cell? (a.add (i * 1)) = some (.string p) := fun i => by
   by_cases hi : i < len
   ·
    obtain ⟨cs',h1,h2⟩ := hx i (by omega)
    obtain ⟨c0,rfl,h3⟩ := one_cell9 h1;obtain ⟨s,e1,_,_⟩ := DataW.trod_string Tryz.underlying9 h2;injection e1 with e1;subst e1;exact ⟨s,fun _ => h3⟩
   · exact ⟨⟨#[]⟩,fun k => absurd k hi⟩
  obtain ⟨f,hf⟩ := Classical.axiomOfChoice key;refine ⟨some a,len,_,(List.range len).map f,hcs,by simp,Nat.le_trans hl hm,?_⟩
  rcases Nat.eq_zero_or_pos len with h0 | h0
  · subst h0;exact Or.inl rfl
  ·
   obtain ⟨b,off,spot⟩ := a;have hspot : spot = none := by simpa [Addr.add] using World.cell?_spot (hf 0 h0)
   subst hspot;refine Or.inr ⟨b,off,rfl,fun i hi => ?_⟩
   have hi' : i < len := by simpa using hi
   have e : ((List.range len).map f).getD i ⟨#[]⟩ = f i := by
    rw [List.getD_eq_getElem?_getD,List.getElem?_map,List.getElem?_range hi'];rfl
   rw [e];have k1 := hf i hi';rw [add_plain,Nat.mul_one] at k1;exact k1
end Go.Proofs.YteefniagebcagaaGreatDoor
