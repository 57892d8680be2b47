/- Words for sets, and for a map that is cleared; no statement of the seat is proved here. -/
import Derived.Test.YtlonnhnfmcndfacJoin0True
namespace Go.Proofs.Ytlonnhnfmcndfac
open Go.RowKit
set_option linter.unusedVariables false
namespace Euf
/-- Block b is a set of at most n: m tells what it holds. -/
def MapS (P : Program) (K : TypeId) (w : World) (b n : Nat) (m : Value → Bool) : Prop :=
  ∃ D : DataW Unit, w.ownsMap P K unitElem b n D ∧ ∀ key kl, keyOf P K key = some kl → Maps.has D kl = m key
section
variable {P : Program} {K E : TypeId} {w w' : World} {b n : Nat} {m : Value → Bool}
theorem MapS.lt (h : MapS P K w b n m) : b < w.heap.size := by obtain ⟨D, h, _⟩ := h; exact h.lt
theorem MapS.stay (h : MapS P K w b n m) (hb : w'.heap[b]? = w.heap[b]?) : MapS P K w' b n m := by
  obtain ⟨D, ⟨es, clock, h1, h2⟩, h3⟩ := h
  exact ⟨D, ⟨es, clock, hb.trans h1, h2⟩, h3⟩
theorem MapS.isMap (h : MapS P K w b n m) : ∃ es clock, w.heap[b]? = some (.map es clock) := by
  obtain ⟨D, ⟨es, clock, h1, _⟩, _⟩ := h
  exact ⟨es, clock, h1⟩
theorem MapS.mono (h : MapS P K w b n m) {n' : Nat} (hn : n ≤ n') : MapS P K w b n' m := by
  obtain ⟨D, h1, h2⟩ := h
  exact ⟨D, h1.mono hn, h2⟩
theorem MapS.look {t : TypeId} (h : MapS P K w b n m) (KL : Maps.Keyed P K) (ht : P.underlying t = some (.map K E)) (hz : (zeroValue E).run P w = .ok (.agg #[]) w) {key : Value} {kl : Lit} (hkey : keyOf P K key = some kl) :
    (Instr.lookup t (.map (some b)) key true).run P w = .ok (.tuple #[.agg #[], .bool (m key)]) w := by
  obtain ⟨D, ho, hD⟩ := h
  obtain ⟨v, ps, hrun, hv⟩ := ho.look_ok KL ht hz unitElem_mk hkey
  obtain ⟨rfl, _⟩ := unitElem_inv hv
  rw [hrun, hD key kl hkey]
theorem MapS.put {t : TypeId} (h : MapS P K w b n m) (KL : Maps.Keyed P K) (ht : P.underlying t = some (.map K E)) (hn : n < maxLen) {key : Value} {kl : Lit} (hkey : keyOf P K key = some kl)
    (m' : Value → Bool) (h1 : m' key = true) (h2 : ∀ k, k ≠ key → m' k = m k) :
    ∃ w', (Instr.mapUpdate t (.map (some b)) key (.agg #[])).run P w = .ok () w' ∧ MapS P K w' b (n + 1) m' ∧ w.mapTurned w' b := by
  obtain ⟨D, ho, hD⟩ := h
  obtain ⟨w', hrun, r1, r2⟩ := ho.store KL ht hn hkey (unitElem_mk (H := Unit))
  have hK : WideAt.IsKeyLit kl := KL.key hkey
  refine ⟨w', hrun, ⟨_, r1, fun key' kl' hk' => ?_⟩, r2⟩
  by_cases e : key' = key
  · subst e
    rw [hkey] at hk'
    cases hk'
    rw [Maps.has_put_same ho.isMap hK, h1]
  · have hne : kl' ≠ kl := fun e2 => e (KL.inj hk' (by rw [hkey, e2]))
    rw [Maps.has_put_other hne, h2 key' e]
    exact hD key' kl' hk'
theorem MapS.made (w : World) (P : Program) (K : TypeId) : MapS P K (w.alloc (.map #[] 0)) w.heap.size 0 (fun _ => false) :=
  ⟨_, World.ownsMap_made w P K _, fun _ _ _ => rfl⟩
/-- All entries go. -/
theorem MapF.clear {m : Value → Option Int} {t : TypeId} (h : MapF P K E w b n m) (ht : P.underlying t = some (.map K E)) (ty : TypeId) :
    ∃ w', (Builtin.clear_ #[t] ty #[.map (some b)]).run P w = .ok (.tuple #[]) w' ∧ MapF P K E w' b 0 (fun _ => none) ∧ w.mapTurned w' b := by
  obtain ⟨es, clock, hb⟩ := h.isMap
  refine ⟨ChangeMaps.setBlock w b (.map #[] clock), ?_, ⟨.map [], ⟨#[], clock, ChangeMaps.heap_setBlock_same hb _, ⟨by simp, MapKept.stamped_empty clock, by simp⟩, Nat.le_refl _, rfl⟩, fun _ _ _ => ⟨rfl, rfl⟩⟩, ⟨es, clock, #[], clock, hb, rfl⟩⟩
  simp [Builtin.clear_, run_underlying ht, MapKept.run_getObj_map hb, MapKept.run_setObj_map _ hb, ChangeMaps.setBlock, Result.andThen]
end
end Euf
end Go.Proofs.Ytlonnhnfmcndfac
