/- Policies in memory: terms, each with its ranges, its pattern and its acts. -/
import Derived.Test.YtocgghhlfmgndaaGreatJB
import Derived.Test.YtocgghhlfmgndaaGreatJA
import Derived.Test.YtocgghhlfmgndaaGreatFlatRange
import Derived.Test.YtocgghhlfmgndaaGreatFlatAct
import Derived.Test.YtocgghhlfmgndaaGreatFlatReCell
import Derived.Test.YtocgghhlfmgndaaGreatMemQ
/- Blocks whose first cells are known and may be written. -/
namespace Go.Proofs.YtocgghhlfmgndaaGreat
open Go.RowKit

/-- The first cells of block b; they may be written. -/
def Mut (w : World) (b : Nat) (vs : List Value) : Prop := b < w.heap.size ∧ (∀ i v, vs[i]? = some v → w.cell? ⟨b, i, none⟩ = some v) ∧ ∀ i, i < vs.length → w.frozen? ⟨b, i, none⟩ = false
theorem Mut.below {w w' : World} {b : Nat} {vs : List Value} (h : Mut w b vs) (k : Below w.heap.size w w') : Mut w' b vs :=
  ⟨Nat.lt_of_lt_of_le h.1 k.size, fun i v hv => ((bcell k).1 _ _ h.1).trans (h.2.1 i v hv), fun i hi => ((bcell k).2 _ _ h.1).trans (h.2.2 i hi)⟩
theorem Mut.base {w w' : World} {b base : Nat} {vs : List Value} (h : Mut w b vs) (hb : b < base) (k : Below base w w') : Mut w' b vs :=
  ⟨Nat.lt_of_lt_of_le h.1 k.size, fun i v hv => (k.cell (p := ⟨b, i, none⟩) hb).trans (h.2.1 i v hv), fun i hi => (k.frozen (p := ⟨b, i, none⟩) hb).trans (h.2.2 i hi)⟩
theorem Mut.alloc {w : World} {b : Nat} {vs : List Value} (h : Mut w b vs) (o : Obj) : Mut (w.alloc o) b vs := h.below (below_box (Below.refl _ _))
theorem Mut.drew {w : World} {b : Nat} {vs : List Value} (h : Mut w b vs) : Mut w.drew b vs := h.below (Below.refl _ _).drew
theorem Mut.new (w : World) (vs : Array Value) (t : TypeId) : Mut (w.alloc (.cells vs t)) w.heap.size vs.toList :=
  ⟨by simp, fun i v hv => by simp [go_sem] at hv ⊢; exact hv, fun i _ => by simp [go_sem]⟩
theorem Mut.only {w w' : World} {b c : Nat} {vs : List Value} (h : Mut w b vs) (k : Only c w w') (hn : b ≠ c) : Mut w' b vs :=
  ⟨Nat.lt_of_lt_of_le h.1 k.2.2.2.1, fun i v hv => (k.cell h.1 hn).trans (h.2.1 i v hv), fun i hi => (k.frozen h.1 hn).trans (h.2.2 i hi)⟩
theorem Mut.other {w : World} {b c : Nat} {vs : List Value} (h : Mut w b vs) (hn : b ≠ c) (o : Nat) (v : Value) : Mut (w.setCell ⟨c, o, none⟩ v) b vs :=
  h.only ((Only.refl c w).setCell o v) hn
theorem Mut.set {w : World} {b : Nat} {vs : List Value} (h : Mut w b vs) (j : Nat) (v : Value) : Mut (w.setCell ⟨b, j, none⟩ v) b (vs.set j v) := by
  refine ⟨by simpa using h.1, fun i u hu => ?_, fun i hi => ?_⟩
  · by_cases e : j = i
    · subst e
      have hj : j < vs.length := by
        have := (List.getElem?_eq_some_iff.1 hu).1
        simpa using this
      rw [List.getElem?_set_self hj] at hu
      simp at hu
      subst hu
      obtain ⟨x, hx⟩ : ∃ x, vs[j]? = some x := ⟨_, List.getElem?_eq_getElem hj⟩
      have := h.2.1 j x hx
      simp [go_sem, this]
    · rw [List.getElem?_set_ne e] at hu
      rw [World.cell?_setCell_other _ _ _ _ (by simp <;> omega)]
      exact h.2.1 i u hu
  · have := h.2.2 i (by simpa using hi)
    simpa [go_sem] using this
end Go.Proofs.YtocgghhlfmgndaaGreat

namespace Go.Proofs.YtocgghhlfmgndaaGreat
open Go.RowKit

/-- What a term says. -/
structure Tc where
  nr : Nat
  np : Nat
  na : Nat
  f0 : Nat → Int
  f1 : Nat → Int
  f2 : Nat → Int
  f3 : Nat → Int
  q0 : Nat → Int
  q1 : Nat → Int
  g0 : Nat → Int
  g1 : Nat → Int
  cm : Int
  vd : Int
def Tc.tot (t : Tc) : Nat := t.nr + t.np + t.na
def tmT (t : Tc) : Bool := tmB t.nr t.f0 t.f1 t.f2 t.f3 (listQ t.np t.q0 t.q1) t.cm t.na t.g0 t.g1 t.vd
def plB (n : Nat) (T : Nat → Tc) : Bool := (List.range n).all (fun i => tmT (T i)) && decide (n ≤ 8)
/-- The lists of a term lie there. -/
def TmIn (ra : Option Addr) (pa : Option Addr) (pc : Nat) (aa : Option Addr) (t : Tc) (w : World) : Prop :=
  t.np ≤ pc ∧ RowRange ra t.nr t.f0 t.f1 t.f2 t.f3 w ∧ RowReCell pa t.np t.q0 t.q1 w ∧ RowAct aa t.na t.g0 t.g1 w
theorem TmIn.below {ra pa aa : Option Addr} {pc : Nat} {t : Tc} {w w' : World} (h : TmIn ra pa pc aa t w) (k : Below w.heap.size w w') : TmIn ra pa pc aa t w' :=
  ⟨h.1, h.2.1.below k, h.2.2.1.below k, h.2.2.2.below k⟩
/-- n terms at a. -/
def RowT (a : Option Addr) (n : Nat) (T : Nat → Tc) (w : World) : Prop := ∀ i, i < n → ∃ (b off : Nat) (ra : Option Addr) (rc : Nat) (pa : Option Addr) (pc : Nat) (aa : Option Addr) (ac : Nat), a = some ⟨b, off, none⟩ ∧ b < w.heap.size ∧
  w.cell? ⟨b, off + i * 5, none⟩ = some (.slice ra (T i).nr rc) ∧ w.cell? ⟨b, off + i * 5 + 1, none⟩ = some (.slice pa (T i).np pc) ∧ w.cell? ⟨b, off + i * 5 + 2, none⟩ = some (.int .i64 (T i).cm) ∧
  w.cell? ⟨b, off + i * 5 + 3, none⟩ = some (.slice aa (T i).na ac) ∧ w.cell? ⟨b, off + i * 5 + 4, none⟩ = some (.int .i64 (T i).vd) ∧ TmIn ra pa pc aa (T i) w
theorem RowT.below {a : Option Addr} {n : Nat} {T : Nat → Tc} {w w' : World} (h : RowT a n T w) (k : Below w.heap.size w w') : RowT a n T w' := by
  intro i hi
  obtain ⟨b, off, ra, rc, pa, pc, aa, ac, ha, hb, h0, h1, h2, h3, h4, ht⟩ := h i hi
  obtain ⟨hc, _⟩ := bcell k
  exact ⟨b, off, ra, rc, pa, pc, aa, ac, ha, Nat.lt_of_lt_of_le hb k.size, (hc _ _ hb).trans h0, (hc _ _ hb).trans h1, (hc _ _ hb).trans h2, (hc _ _ hb).trans h3, (hc _ _ hb).trans h4, ht.below k⟩
/-- All lists of the terms are short. -/
def LowT (n : Nat) (T : Nat → Tc) : Prop := ∀ i, i < n → (T i).nr ≤ 1048576 ∧ (T i).np ≤ 1048576 ∧ (T i).na ≤ 1048576
end Go.Proofs.YtocgghhlfmgndaaGreat
