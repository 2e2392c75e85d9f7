/- Blocks whose first cells are known and may be written. -/
import Derived.Test.YtnpnhdaehddnmaaDoorKit
namespace Go.Proofs.YtnpnhdaehddnmaaDoor
open Go.RowKit

/-- The first cells of block b; they may be written. -/
def Mut (w : World) (b : Nat) (vs : List Value) : Prop := b < w.heap.size ∧ (∀ i v, vs[i]? = some v → w.cell? ⟨b, i, none⟩ = some v) ∧ ∀ i, i < vs.length → w.frozen? ⟨b, i, none⟩ = false
theorem Mut.below {w w' : World} {b : Nat} {vs : List Value} (h : Mut w b vs) (k : Below w.heap.size w w') : Mut w' b vs :=
  ⟨Nat.lt_of_lt_of_le h.1 k.size, fun i v hv => ((bcell k).1 _ _ h.1).trans (h.2.1 i v hv), fun i hi => ((bcell k).2 _ _ h.1).trans (h.2.2 i hi)⟩
theorem Mut.base {w w' : World} {b base : Nat} {vs : List Value} (h : Mut w b vs) (hb : b < base) (k : Below base w w') : Mut w' b vs :=
  ⟨Nat.lt_of_lt_of_le h.1 k.size, fun i v hv => (k.cell (p := ⟨b, i, none⟩) hb).trans (h.2.1 i v hv), fun i hi => (k.frozen (p := ⟨b, i, none⟩) hb).trans (h.2.2 i hi)⟩
theorem Mut.alloc {w : World} {b : Nat} {vs : List Value} (h : Mut w b vs) (o : Obj) : Mut (w.alloc o) b vs := h.below (below_box (Below.refl _ _))
theorem Mut.drew {w : World} {b : Nat} {vs : List Value} (h : Mut w b vs) : Mut w.drew b vs := h.below (Below.refl _ _).drew
theorem Mut.new (w : World) (vs : Array Value) (t : TypeId) : Mut (w.alloc (.cells vs t)) w.heap.size vs.toList :=
  ⟨by simp, fun i v hv => by simp [go_sem] at hv ⊢; exact hv, fun i _ => by simp [go_sem]⟩
theorem Mut.only {w w' : World} {b c : Nat} {vs : List Value} (h : Mut w b vs) (k : Only c w w') (hn : b ≠ c) : Mut w' b vs :=
  ⟨Nat.lt_of_lt_of_le h.1 k.2.2.2.1, fun i v hv => (k.cell h.1 hn).trans (h.2.1 i v hv), fun i hi => (k.frozen h.1 hn).trans (h.2.2 i hi)⟩
theorem Mut.other {w : World} {b c : Nat} {vs : List Value} (h : Mut w b vs) (hn : b ≠ c) (o : Nat) (v : Value) : Mut (w.setCell ⟨c, o, none⟩ v) b vs :=
  h.only ((Only.refl c w).setCell o v) hn
theorem Mut.set {w : World} {b : Nat} {vs : List Value} (h : Mut w b vs) (j : Nat) (v : Value) : Mut (w.setCell ⟨b, j, none⟩ v) b (vs.set j v) := by
  refine ⟨by simpa using h.1, fun i u hu => ?_, fun i hi => ?_⟩
  · by_cases e : j = i
    · subst e
      have hj : j < vs.length := by
        have := (List.getElem?_eq_some_iff.1 hu).1
        simpa using this
      rw [List.getElem?_set_self hj] at hu
      simp at hu
      subst hu
      obtain ⟨x, hx⟩ : ∃ x, vs[j]? = some x := ⟨_, List.getElem?_eq_getElem hj⟩
      have := h.2.1 j x hx
      simp [go_sem, this]
    · rw [List.getElem?_set_ne e] at hu
      rw [World.cell?_setCell_other _ _ _ _ (by simp <;> omega)]
      exact h.2.1 i u hu
  · have := h.2.2 i (by simpa using hi)
    simpa [go_sem] using this
end Go.Proofs.YtnpnhdaehddnmaaDoor
