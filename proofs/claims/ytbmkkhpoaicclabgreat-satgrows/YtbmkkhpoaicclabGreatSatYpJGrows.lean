/- The answer of Check is one; what awake asks of the example. It proves no statement of the seat. -/
import Derived.Test.YtbmkkhpoaicclabGreatSatCkJGrows
namespace Go.Proofs.YtbmkkhpoaicclabGreat
open Go Go.RowKit
set_option linter.unusedVariables false
namespace Sat
theorem Sets.uniq {ls ps ps':List (List Int)} (h:Sets ls ps) (h':Sets ls ps'):ps=ps':=by
 apply List.ext_getElem?
 intro i;by_cases hi:i<ls.length
 ·
  have h1:i<ps.length:=by rw[h.1];exact hi
  have h2:i<ps'.length:=by rw[h'.1];exact hi
  rw[List.getElem?_eq_getElem h1,List.getElem?_eq_getElem h2];congr 1
  exact (h.2 i _ _ (List.getElem?_eq_getElem hi) (List.getElem?_eq_getElem h1)).uniq (h'.2 i _ _ (List.getElem?_eq_getElem hi) (List.getElem?_eq_getElem h2))
 · rw[List.getElem?_eq_none (by rw[h.1];omega),List.getElem?_eq_none (by rw[h'.1];omega)]
theorem CkEnd.ok {ls ps:List (List Int)} {pf:List Chn} {e:Ending} (h:CkEnd ls pf e) (hl:∀c∈ls,∀z∈c,Okl 4096 z) (hs:Sets ls ps) (hp:OkPf ps pf):e=.returned (.int .i64 0):=by
 rcases h with⟨h1,_⟩|⟨_,ps',h2,h3⟩
 · exact absurd hl h1
 ·
  obtain rfl:=hs.uniq h2;rcases h3 with⟨_,h3⟩|⟨k,_⟩
  · exact h3
  · exact absurd hp k
theorem ex3_model {M:Nat→Bool} (h:∀L∈([[1,2],[-1,2],[1,-2]]:List (List Int)).map (·.map lit),∃m∈L,tru M m):M 1=true∧M 2=true:=by
 have h1:=h _ (by simp;exact Or.inl rfl)
 have h2:=h _ (by simp;exact Or.inr (Or.inl rfl))
 have h3:=h _ (by simp;exact Or.inr (Or.inr rfl))
 simp[tru,lit]at h1 h2 h3;cases e1:M 1<;>cases e2:M 2<;>simp[e1,e2]at h1 h2 h3 ⊢
end Sat
end Go.Proofs.YtbmkkhpoaicclabGreat
