/- SameExprs, SameTypes, SameStmts, of any height. No statement of the seat is proved here. -/
import Derived.Test.YtomldkljlbdnjaaGreatSynHcCutJBinds
import Derived.Test.YtomldkljlbdnjaaGreatSynHdCutJBinds
import Derived.Test.YtomldkljlbdnjaaGreatSynHeCutJBinds
namespace Go.Proofs.YtomldkljlbdnjaaGreat
open Go Go.RowKit
set_option linter.unusedVariables false
set_option linter.unusedSimpArgs false
namespace Syn
open Lex (T TL tx bs tkC FV IsNm hide)
open Euf (OL)
set_option maxHeartbeats 2000000 in
set_option maxRecDepth 4000 in
theorem sameE_base : SmP 0 0 19 := fun w F G v v' rows rows' hx hx' hw hw' he wq hq => by
  obtain ⟨d, rfl⟩ := hq
  obtain ⟨rfl, rfl⟩ := hx
  have hl : rows'.length = 0 := (erL_len he).symm
  obtain ⟨qv', cv', rfl⟩ := hx'.slice
  rw [hl]
  clear hx' hw hw' he hl
  go_enter Tryz.func19, Tryz.ntmps19
  go_wp2
  go_loopw [5] (fun v5 wr => v5 = .int .i64 0 ∧ wr = w.drewN d) (fun _ _ => 0)
  case atStart => exact ⟨rfl, rfl⟩
  case round =>
    rename World => wl
    obtain ⟨rfl, hwl⟩ := hrel
    have HWL := hide hwl
    clear hwl
    go_wp2
    go_ret
    exact ⟨rfl, 0, HWL.out⟩
set_option maxHeartbeats 2000000 in
set_option maxRecDepth 4000 in
theorem sameT_base : SmP 0 1 22 := fun w F G v v' rows rows' hx hx' hw hw' he wq hq => by
  obtain ⟨d, rfl⟩ := hq
  obtain ⟨rfl, rfl⟩ := hx
  have hl : rows'.length = 0 := (erL_len he).symm
  obtain ⟨qv', cv', rfl⟩ := hx'.slice
  rw [hl]
  clear hx' hw hw' he hl
  go_enter Tryz.func22, Tryz.ntmps22
  go_wp2
  go_loopw [5] (fun v5 wr => v5 = .int .i64 0 ∧ wr = w.drewN d) (fun _ _ => 0)
  case atStart => exact ⟨rfl, rfl⟩
  case round =>
    rename World => wl
    obtain ⟨rfl, hwl⟩ := hrel
    have HWL := hide hwl
    clear hwl
    go_wp2
    go_ret
    exact ⟨rfl, 0, HWL.out⟩
set_option maxHeartbeats 2000000 in
set_option maxRecDepth 4000 in
theorem sameS_base : SmP 0 2 34 := fun w F G v v' rows rows' hx hx' hw hw' he wq hq => by
  obtain ⟨d, rfl⟩ := hq
  obtain ⟨rfl, rfl⟩ := hx
  have hl : rows'.length = 0 := (erL_len he).symm
  obtain ⟨qv', cv', rfl⟩ := hx'.slice
  rw [hl]
  clear hx' hw hw' he hl
  go_enter Tryz.func34, Tryz.ntmps34
  go_wp2
  go_loopw [5] (fun v5 wr => v5 = .int .i64 0 ∧ wr = w.drewN d) (fun _ _ => 0)
  case atStart => exact ⟨rfl, rfl⟩
  case round =>
    rename World => wl
    obtain ⟨rfl, hwl⟩ := hrel
    have HWL := hide hwl
    clear hwl
    go_wp2
    go_ret
    exact ⟨rfl, 0, HWL.out⟩
theorem same_all : ∀ n, SmP n 0 19 ∧ SmP n 1 22 ∧ SmP n 2 34
  | 0 => ⟨sameE_base, sameT_base, sameS_base⟩
  | n + 1 => by
    obtain ⟨h0, h1, h2⟩ := same_all n
    exact ⟨sameE_step n h0 h1, sameT_step n h0 h1, sameS_step n h0 h1 h2⟩
end Syn
end Go.Proofs.YtomldkljlbdnjaaGreat
