/- Lists of clauses as they are handed in, and the contracts of few and solver; it proves no statement of the seat. -/
import Derived.Test.YtbmkkhpoaicclabGreatJoin23Pauses
import Derived.Test.YtbmkkhpoaicclabGreatSatRoJPauses
import Derived.Test.YtbmkkhpoaicclabGreatSatSvJPauses
namespace Go.Proofs.YtbmkkhpoaicclabGreat
open Go Go.RowKit
set_option linter.unusedVariables false
namespace Sat
open Euf (OL App)
def Lo (N:Nat) (q:Option Addr) (zs:List Int):Prop:=zs≠[]→∀ b off, q=some ⟨b, off, none⟩→b < N
theorem IL.belowN {w w':World} {N:Nat} {q:Option Addr} {n cap:Nat} {zs:List Int} (h:IL w q n cap zs) (hl:Lo N q zs) (hb:Below N w w'):IL w' q n cap zs:=h.keep hb.size (fun e b off hq _=>hb.block b (hl e b off hq))
structure LL (w:World) (N:Nat) (q:Option Addr) (n cap:Nat) (ls:List (List Int)):Prop where
  len:ls.length=n
  le:n≤cap
  mx:cap≤maxLen
  nl:q=none→cap=0
  at_:ls=[]∨∃ b off, q=some ⟨b, off, none⟩∧b < N∧b < w.heap.size∧∀ i, i < n→∃ qi ci, w.cell? ⟨b, off + i, none⟩=some (.slice qi (ls.getD i []).length ci)∧IL w qi (ls.getD i []).length ci (ls.getD i [])∧Lo N qi (ls.getD i [])
theorem LL.below {w w':World} {N:Nat} {q:Option Addr} {n cap:Nat} {ls:List (List Int)} (h:LL w N q n cap ls) (hb:Below N w w'):LL w' N q n cap ls:=by
 refine ⟨h.len,h.le,h.mx,h.nl,?_⟩;rcases h.at_ with e | ⟨b,off,h1,h2,h3,h4⟩
 · exact Or.inl e
 ·
  refine Or.inr ⟨b,off,h1,h2,Nat.lt_of_lt_of_le h3 hb.size,fun i hi=>?_⟩
  obtain ⟨qi,ci,k1,k2,k3⟩:=h4 i hi;exact ⟨qi,ci,(World.cell?_of_block (a:=⟨b,off + i,none⟩) (hb.block b h2)).trans k1,k2.belowN k3 hb,k3⟩
theorem LL.get {w:World} {N:Nat} {q:Option Addr} {n cap:Nat} {ls:List (List Int)} (h:LL w N q n cap ls) {i:Nat} (hi:i < n):∃ b off qi ci zi,q=some ⟨b,off,none⟩∧b < w.heap.size∧zi∈ls∧ls[i]?=some zi∧w.cell? ⟨b,off + i,none⟩=some (.slice qi zi.length ci)∧IL w qi zi.length ci zi∧Lo N qi zi:=by
 have hl:=h.len;rcases h.at_ with e | ⟨b,off,h1,h2,h3,h4⟩
 · rw [e] at hl;simp at hl;omega
 ·
  obtain ⟨qi,ci,k1,k2,k3⟩:=h4 i hi;have hi':i < ls.length:=by omega
  have e9:ls.getD i []=ls[i]:=by rw [List.getD_eq_getElem?_getD,List.getElem?_eq_getElem hi'];rfl
  rw [e9] at k1 k2 k3;exact ⟨b,off,qi,ci,ls[i],h1,h3,List.getElem_mem hi',List.getElem?_eq_getElem hi',k1,k2,k3⟩
def Few1 (c:List Int):Prop:=c.length≤40∧∀ z∈c, Okl 9 z
end Sat
end Go.Proofs.YtbmkkhpoaicclabGreat
