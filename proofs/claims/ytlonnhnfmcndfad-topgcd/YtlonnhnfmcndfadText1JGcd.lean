/- Contracts of strings.CutPrefix, arith.isPlain and arith.readDigits; they prove no statement of the seat. -/
import Derived.Test.YtlonnhnfmcndfadScaleJGcd
namespace Go.Proofs.Ytlonnhnfmcndfad
open Go.RowKit

/-- A text's bytes, as numbers. -/
def bs (s : ByteArray) : List Nat := s.data.toList.map UInt8.toNat

theorem bs_inj {s t : ByteArray} (h : bs s = bs t) : s = t := by
  have h1 : s.data.toList = t.data.toList := by
    unfold bs at h
    exact List.map_inj_right (fun a b e => UInt8.toNat_inj.1 e) |>.1 h
  cases s; cases t
  congr 1
  exact Array.toList_inj.1 h1
end Go.Proofs.Ytlonnhnfmcndfad
