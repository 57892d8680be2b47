/- Same, of programs without classes. No statement of the seat is proved here. -/
import Derived.Test.YtomldkljlbdnjaaGreatSynHiCutJBinds
namespace Go.Proofs.YtomldkljlbdnjaaGreat
open Go Go.RowKit
set_option linter.unusedVariables false
set_option linter.unusedSimpArgs false
namespace Syn
open Lex (T TL tx bs tkC FV IsNm hide)
open Euf (OL)
theorem sameS_any {w : World} {F G : Nat → Prop} {v v' : Value} {rows rows' : List (List V)} (hx : X w F v (.l 2 rows)) (hx' : X w G v' (.l 2 rows')) (hw : wfL rows (sh 2) = true) (hw' : wfL rows' (sh 2) = true) (he : erL rows = erL rows') :
    Calls Tryz.prog 34 #[v, v'] w fun e w' => e = .returned (.bool true) ∧ ∃ m, w' = w.drewN m := by
  obtain ⟨n, h⟩ := hx
  exact (same_all n).2.2 w F G v v' rows rows' h hx' hw hw' he w ⟨0, rfl⟩
set_option maxHeartbeats 4000000 in
set_option maxRecDepth 4000 in
theorem same_main (w : World) {F G : Nat → Prop} {qA : Option Addr} {cA : Nat} {qA' : Option Addr} {cA' : Nat} {qB : Option Addr} {cB : Nat} {qB' : Option Addr} {cB' : Nat} {m m' : List (List V)} (hx : X w F (.slice qB m.length cB) (.l 2 m)) (hx' : X w G (.slice qB' m'.length cB') (.l 2 m')) (hw : wfL m (sh 2) = true) (hw' : wfL m' (sh 2) = true) (he : erL m = erL m') :
    Calls Tryz.prog 12 #[.agg #[.slice qA 0 cA, .slice qB m.length cB], .agg #[.slice qA' 0 cA', .slice qB' m'.length cB']] w fun e w' => e = .returned (.bool true) ∧ Hid (Below w.heap.size w w') := by
  obtain ⟨W, hW⟩ : ∃ W, W = (w.alloc (.cells #[.slice qA 0 cA, .slice qB m.length cB] 26 (0, 0))).alloc (.cells #[.slice qA' 0 cA', .slice qB' m'.length cB'] 26 (0, 0)) := ⟨_, rfl⟩
  have hbW : Below w.heap.size w W := by rw [hW]; go_grown
  have k0 : Blk 26 W w.heap.size #[.slice qA 0 cA, .slice qB m.length cB] := by rw [hW]; exact (Blk.new _ _ _).alloc _
  have k1 : Blk 26 W (w.heap.size + 1) #[.slice qA' 0 cA', .slice qB' m'.length cB'] := by rw [hW]; exact blk_new1 _ _ _ _
  have HS := hide (sameS_any (hx.stay (w' := W) (G := F) fun b k kl => ⟨hbW.block b kl, k⟩) (hx'.stay (w' := W) (G := G) fun b k kl => ⟨hbW.block b kl, k⟩) hw hw' he)
  have HB := hide hbW
  have HK := hide (And.intro k0 k1)
  clear hx hx' hw hw' he hbW k0 k1
  generalize m.length = M at *
  generalize m'.length = M' at *
  go_enter Tryz.func12, Tryz.ntmps12
  go_wp2_with fail
  rw [← hW]
  refine HS.out.mono ?_
  rintro e w1 ⟨rfl, d, rfl⟩
  obtain ⟨a0, a1, g0, g1⟩ := bk2 HK.out.1
  obtain ⟨b0, b1, h0, h1⟩ := bk2 HK.out.2
  clear HS hW HK
  go_wp2
  go_loopw [5, 6, 7, 8] (fun v5 v6 v7 v8 wr => v5 = .int .i64 0 ∧ wr = W.drewN d) (fun _ _ _ _ _ => 0)
  case atStart => exact ⟨rfl, rfl⟩
  case round =>
    rename World => wl
    obtain ⟨rfl, rfl⟩ := hrel
    go_wp2
    go_ret
    exact ⟨rfl, HB.out.trans ⟨rfl, rfl, rfl, Nat.le_refl _, fun _ _ => rfl⟩⟩
end Syn
end Go.Proofs.YtomldkljlbdnjaaGreat
