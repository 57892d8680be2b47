/- Proof of a solver that isn't refuted; a model as bits; they prove no statement of the seat. -/
import Derived.Test.YtbmkkhpoaicclabGreatJoin23Grows
import Derived.Test.YtbmkkhpoaicclabGreatSatHdJGrows
namespace Go.Proofs.YtbmkkhpoaicclabGreat
open Go Go.RowKit
set_option linter.unusedVariables false
namespace Sat
open Euf (OL App)
theorem isPlace_any (q:Option Addr) (n cap:Nat) (k:Int) (w:World) :
  Calls Tryz.prog 87 #[.slice q n cap,.int .i64 k] w fun e w'=>e=.returned (.bool (decide (0≤k∧k<(n:Int))))∧w'=w:=by
 by_cases h0:0≤k
 ·
  by_cases h1:k<(n:Int)
  ·
   have hd:decide (0≤k∧k<(n:Int))=true:=by simp[h0,h1]
   rw[hd];go_enter Tryz.func87,Tryz.ntmps87;go_wp2;go_ret
   exact⟨rfl,rfl⟩
  ·
   have hd:decide (0≤k∧k<(n:Int))=false:=by simp[h1]
   rw[hd];go_enter Tryz.func87,Tryz.ntmps87;go_wp2;go_ret
   exact⟨rfl,rfl⟩
 ·
  have hd:decide (0≤k∧k<(n:Int))=false:=by simp[h0]
  rw[hd];go_enter Tryz.func87,Tryz.ntmps87;go_wp2;go_ret
  exact⟨rfl,rfl⟩
end Sat
end Go.Proofs.YtbmkkhpoaicclabGreat
