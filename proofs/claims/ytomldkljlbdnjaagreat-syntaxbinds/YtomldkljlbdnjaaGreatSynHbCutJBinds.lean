/- Trees that are alike: words. No statement of the seat is proved here. -/
import Derived.Test.YtomldkljlbdnjaaGreatJoin7Binds
import Derived.Test.YtomldkljlbdnjaaGreatJoin10Binds
import Derived.Deep.QuietTactic
import Derived.BigQuiet
namespace Go.Proofs.YtomldkljlbdnjaaGreat
open Go Go.RowKit
set_option linter.unusedVariables false
set_option linter.unusedSimpArgs false
namespace Syn
open Lex (T TL tx bs tkC FV IsNm hide)
open Euf (OL)
theorem XV.open {w : World} {n : Nat} {F : Nat → Prop} {v : Value} {s : Nat} {rows : List (List V)} (h : XV w (n + 1) F v (.l s rows)) : ∃ C, OL (wd s) (ty s) w v rows.length C ∧ (∀ i, i < rows.length → (C i).length = wd s) ∧ ∀ i, i < rows.length → F2 (fun u t => XV w n F u t) (C i) (rows.getD i []) := by
  rcases h with ⟨rfl, rfl⟩ | ⟨s', rows', C, h1, h2, h3, h4⟩
  · exact ⟨fun _ => [], OL.nil _ _ _ _, (fun i hi => absurd hi (Nat.not_lt_zero _)), fun i hi => absurd hi (Nat.not_lt_zero _)⟩
  · cases h1
    exact ⟨C, h2, fun i hi => (h4 i hi).1, fun i hi => f2_imp (h4 i hi).2 fun _ _ k => k.stay fun b kb _ => ⟨rfl, kb.1⟩⟩
theorem XV.slice {w : World} {n : Nat} {F : Nat → Prop} {v : Value} {s : Nat} {rows : List (List V)} (h : XV w n F v (.l s rows)) : ∃ q c, v = .slice q rows.length c := (show X w F v _ from ⟨n, h⟩).slice
/-- A promise: lists of a sort that are alike but for their places are found to be. -/
def SmP (n s : Nat) (f : FuncId) : Prop := ∀ (w : World) (F G : Nat → Prop) (v v' : Value) (rows rows' : List (List V)), XV w n F v (.l s rows) → X w G v' (.l s rows') → wfL rows (sh s) = true → wfL rows' (sh s) = true → erL rows = erL rows' →
  ∀ (wq : World), (∃ d, wq = w.drewN d) → Calls Tryz.prog f #[v, v'] wq fun e w' => e = .returned (.bool true) ∧ ∃ m, w' = wq.drewN m
theorem f2_ex {w : World} {n : Nat} {F : Nat → Prop} {C : List Value} {op : List UInt8} {nm : List UInt8} {args : List (List V)} {tys : List (List V)} {p : Nat} (h : F2 (fun u t => XV w n F u t) C (exR op nm args tys p)) : ∃ q2 c2 q3 c3, C = [.string (tx op), .string (tx nm), .slice q2 args.length c2, .slice q3 tys.length c3, .int .i64 (p : Nat)] ∧ XV w n F (.slice q2 args.length c2) (.l 0 args) ∧ XV w n F (.slice q3 tys.length c3) (.l 1 tys) := by
  unfold exR at h
  cases h with
  | cons h0 h =>
  cases h with
  | cons h1 h =>
  cases h with
  | cons h2 h =>
  cases h with
  | cons h3 h =>
  cases h with
  | cons h4 h =>
  cases h
  obtain ⟨q2, c2, rfl⟩ := h2.slice
  obtain ⟨q3, c3, rfl⟩ := h3.slice
  exact ⟨q2, c2, q3, c3, by rw [(show X w F _ _ from ⟨n, h0⟩).isS, (show X w F _ _ from ⟨n, h1⟩).isS, (show X w F _ _ from ⟨n, h4⟩).isA], h2, h3⟩
theorem xr_ex {w : World} {F : Nat → Prop} {C : List Value} {op : List UInt8} {nm : List UInt8} {args : List (List V)} {tys : List (List V)} {p : Nat} (h : XR w F C (exR op nm args tys p)) : ∃ q2 c2 q3 c3, C = [.string (tx op), .string (tx nm), .slice q2 args.length c2, .slice q3 tys.length c3, .int .i64 (p : Nat)] ∧ X w F (.slice q2 args.length c2) (.l 0 args) ∧ X w F (.slice q3 tys.length c3) (.l 1 tys) := by
  unfold exR at h
  cases h with
  | cons h0 h =>
  cases h with
  | cons h1 h =>
  cases h with
  | cons h2 h =>
  cases h with
  | cons h3 h =>
  cases h with
  | cons h4 h =>
  cases h
  obtain ⟨q2, c2, rfl⟩ := h2.slice
  obtain ⟨q3, c3, rfl⟩ := h3.slice
  exact ⟨q2, c2, q3, c3, by rw [h0.isS, h1.isS, h4.isA], h2, h3⟩
theorem er_ex {op : List UInt8} {nm : List UInt8} {args : List (List V)} {tys : List (List V)} {p : Nat} {op' : List UInt8} {nm' : List UInt8} {args' : List (List V)} {tys' : List (List V)} {p' : Nat} (h : erR (exR op nm args tys p) = erR (exR op' nm' args' tys' p')) : op = op' ∧ nm = nm' ∧ erL args = erL args' ∧ erL tys = erL tys' := by
  simpa [erR, erL, exR, mvR, mv] using h
theorem f2_ty {w : World} {n : Nat} {F : Nat → Prop} {C : List Value} {kd : Nat} {nm : List UInt8} {nl : Bool} {elem : List (List V)} {pred : List (List V)} {p : Nat} (h : F2 (fun u t => XV w n F u t) C (tyR kd nm nl elem pred p)) : ∃ q3 c3 q4 c4, C = [.int .i64 (kd : Nat), .string (tx nm), .bool nl, .slice q3 elem.length c3, .slice q4 pred.length c4, .int .i64 (p : Nat)] ∧ XV w n F (.slice q3 elem.length c3) (.l 1 elem) ∧ XV w n F (.slice q4 pred.length c4) (.l 0 pred) := by
  unfold tyR at h
  cases h with
  | cons h0 h =>
  cases h with
  | cons h1 h =>
  cases h with
  | cons h2 h =>
  cases h with
  | cons h3 h =>
  cases h with
  | cons h4 h =>
  cases h with
  | cons h5 h =>
  cases h
  obtain ⟨q3, c3, rfl⟩ := h3.slice
  obtain ⟨q4, c4, rfl⟩ := h4.slice
  exact ⟨q3, c3, q4, c4, by rw [(show X w F _ _ from ⟨n, h0⟩).isN, (show X w F _ _ from ⟨n, h1⟩).isS, (show X w F _ _ from ⟨n, h2⟩).isB, (show X w F _ _ from ⟨n, h5⟩).isA], h3, h4⟩
theorem xr_ty {w : World} {F : Nat → Prop} {C : List Value} {kd : Nat} {nm : List UInt8} {nl : Bool} {elem : List (List V)} {pred : List (List V)} {p : Nat} (h : XR w F C (tyR kd nm nl elem pred p)) : ∃ q3 c3 q4 c4, C = [.int .i64 (kd : Nat), .string (tx nm), .bool nl, .slice q3 elem.length c3, .slice q4 pred.length c4, .int .i64 (p : Nat)] ∧ X w F (.slice q3 elem.length c3) (.l 1 elem) ∧ X w F (.slice q4 pred.length c4) (.l 0 pred) := by
  unfold tyR at h
  cases h with
  | cons h0 h =>
  cases h with
  | cons h1 h =>
  cases h with
  | cons h2 h =>
  cases h with
  | cons h3 h =>
  cases h with
  | cons h4 h =>
  cases h with
  | cons h5 h =>
  cases h
  obtain ⟨q3, c3, rfl⟩ := h3.slice
  obtain ⟨q4, c4, rfl⟩ := h4.slice
  exact ⟨q3, c3, q4, c4, by rw [h0.isN, h1.isS, h2.isB, h5.isA], h3, h4⟩
theorem er_ty {kd : Nat} {nm : List UInt8} {nl : Bool} {elem : List (List V)} {pred : List (List V)} {p : Nat} {kd' : Nat} {nm' : List UInt8} {nl' : Bool} {elem' : List (List V)} {pred' : List (List V)} {p' : Nat} (h : erR (tyR kd nm nl elem pred p) = erR (tyR kd' nm' nl' elem' pred' p')) : kd = kd' ∧ nm = nm' ∧ nl = nl' ∧ erL elem = erL elem' ∧ erL pred = erL pred' := by
  simpa [erR, erL, tyR, mvR, mv] using h
theorem f2_sm {w : World} {n : Nat} {F : Nat → Prop} {C : List Value} {kd : List UInt8} {nm : List UInt8} {tys : List (List V)} {exprs : List (List V)} {body : List (List V)} {els : List (List V)} {p : Nat} (h : F2 (fun u t => XV w n F u t) C (smR kd nm tys exprs body els p)) : ∃ q2 c2 q3 c3 q4 c4 q5 c5, C = [.string (tx kd), .string (tx nm), .slice q2 tys.length c2, .slice q3 exprs.length c3, .slice q4 body.length c4, .slice q5 els.length c5, .int .i64 (p : Nat)] ∧ XV w n F (.slice q2 tys.length c2) (.l 1 tys) ∧ XV w n F (.slice q3 exprs.length c3) (.l 0 exprs) ∧ XV w n F (.slice q4 body.length c4) (.l 2 body) ∧ XV w n F (.slice q5 els.length c5) (.l 2 els) := by
  unfold smR at h
  cases h with
  | cons h0 h =>
  cases h with
  | cons h1 h =>
  cases h with
  | cons h2 h =>
  cases h with
  | cons h3 h =>
  cases h with
  | cons h4 h =>
  cases h with
  | cons h5 h =>
  cases h with
  | cons h6 h =>
  cases h
  obtain ⟨q2, c2, rfl⟩ := h2.slice
  obtain ⟨q3, c3, rfl⟩ := h3.slice
  obtain ⟨q4, c4, rfl⟩ := h4.slice
  obtain ⟨q5, c5, rfl⟩ := h5.slice
  exact ⟨q2, c2, q3, c3, q4, c4, q5, c5, by rw [(show X w F _ _ from ⟨n, h0⟩).isS, (show X w F _ _ from ⟨n, h1⟩).isS, (show X w F _ _ from ⟨n, h6⟩).isA], h2, h3, h4, h5⟩
theorem xr_sm {w : World} {F : Nat → Prop} {C : List Value} {kd : List UInt8} {nm : List UInt8} {tys : List (List V)} {exprs : List (List V)} {body : List (List V)} {els : List (List V)} {p : Nat} (h : XR w F C (smR kd nm tys exprs body els p)) : ∃ q2 c2 q3 c3 q4 c4 q5 c5, C = [.string (tx kd), .string (tx nm), .slice q2 tys.length c2, .slice q3 exprs.length c3, .slice q4 body.length c4, .slice q5 els.length c5, .int .i64 (p : Nat)] ∧ X w F (.slice q2 tys.length c2) (.l 1 tys) ∧ X w F (.slice q3 exprs.length c3) (.l 0 exprs) ∧ X w F (.slice q4 body.length c4) (.l 2 body) ∧ X w F (.slice q5 els.length c5) (.l 2 els) := by
  unfold smR at h
  cases h with
  | cons h0 h =>
  cases h with
  | cons h1 h =>
  cases h with
  | cons h2 h =>
  cases h with
  | cons h3 h =>
  cases h with
  | cons h4 h =>
  cases h with
  | cons h5 h =>
  cases h with
  | cons h6 h =>
  cases h
  obtain ⟨q2, c2, rfl⟩ := h2.slice
  obtain ⟨q3, c3, rfl⟩ := h3.slice
  obtain ⟨q4, c4, rfl⟩ := h4.slice
  obtain ⟨q5, c5, rfl⟩ := h5.slice
  exact ⟨q2, c2, q3, c3, q4, c4, q5, c5, by rw [h0.isS, h1.isS, h6.isA], h2, h3, h4, h5⟩
theorem er_sm {kd : List UInt8} {nm : List UInt8} {tys : List (List V)} {exprs : List (List V)} {body : List (List V)} {els : List (List V)} {p : Nat} {kd' : List UInt8} {nm' : List UInt8} {tys' : List (List V)} {exprs' : List (List V)} {body' : List (List V)} {els' : List (List V)} {p' : Nat} (h : erR (smR kd nm tys exprs body els p) = erR (smR kd' nm' tys' exprs' body' els' p')) : kd = kd' ∧ nm = nm' ∧ erL tys = erL tys' ∧ erL exprs = erL exprs' ∧ erL body = erL body' ∧ erL els = erL els' := by
  simpa [erR, erL, smR, mvR, mv] using h
end Syn
end Go.Proofs.YtomldkljlbdnjaaGreat
