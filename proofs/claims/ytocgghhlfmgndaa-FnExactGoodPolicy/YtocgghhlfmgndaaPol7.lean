/- Policies in memory: terms, each with its ranges, its pattern and its acts. -/
import Derived.Test.YtocgghhlfmgndaaPlain7
import Derived.Test.YtocgghhlfmgndaaFlatRange
import Derived.Test.YtocgghhlfmgndaaFlatAct
import Derived.Test.YtocgghhlfmgndaaFlatReCell
import Derived.Test.YtocgghhlfmgndaaMemQ
import Derived.Test.YtocgghhlfmgndaaMut4
namespace Go.Proofs.Ytocgghhlfmgndaa
open Go.RowKit

/-- What a term says. -/
structure Tc where
  nr : Nat
  np : Nat
  na : Nat
  f0 : Nat → Int
  f1 : Nat → Int
  f2 : Nat → Int
  f3 : Nat → Int
  q0 : Nat → Int
  q1 : Nat → Int
  g0 : Nat → Int
  g1 : Nat → Int
  cm : Int
  vd : Int
def Tc.tot (t : Tc) : Nat := t.nr + t.np + t.na
def tmT (t : Tc) : Bool := tmB t.nr t.f0 t.f1 t.f2 t.f3 (listQ t.np t.q0 t.q1) t.cm t.na t.g0 t.g1 t.vd
def plB (n : Nat) (T : Nat → Tc) : Bool := (List.range n).all (fun i => tmT (T i)) && decide (n ≤ 8)
/-- The lists of a term lie there. -/
def TmIn (ra : Option Addr) (pa : Option Addr) (pc : Nat) (aa : Option Addr) (t : Tc) (w : World) : Prop :=
  t.np ≤ pc ∧ RowRange ra t.nr t.f0 t.f1 t.f2 t.f3 w ∧ RowReCell pa t.np t.q0 t.q1 w ∧ RowAct aa t.na t.g0 t.g1 w
theorem TmIn.below {ra pa aa : Option Addr} {pc : Nat} {t : Tc} {w w' : World} (h : TmIn ra pa pc aa t w) (k : Below w.heap.size w w') : TmIn ra pa pc aa t w' :=
  ⟨h.1, h.2.1.below k, h.2.2.1.below k, h.2.2.2.below k⟩
/-- n terms at a. -/
def RowT (a : Option Addr) (n : Nat) (T : Nat → Tc) (w : World) : Prop := ∀ i, i < n → ∃ (b off : Nat) (ra : Option Addr) (rc : Nat) (pa : Option Addr) (pc : Nat) (aa : Option Addr) (ac : Nat), a = some ⟨b, off, none⟩ ∧ b < w.heap.size ∧
  w.cell? ⟨b, off + i * 5, none⟩ = some (.slice ra (T i).nr rc) ∧ w.cell? ⟨b, off + i * 5 + 1, none⟩ = some (.slice pa (T i).np pc) ∧ w.cell? ⟨b, off + i * 5 + 2, none⟩ = some (.int .i64 (T i).cm) ∧
  w.cell? ⟨b, off + i * 5 + 3, none⟩ = some (.slice aa (T i).na ac) ∧ w.cell? ⟨b, off + i * 5 + 4, none⟩ = some (.int .i64 (T i).vd) ∧ TmIn ra pa pc aa (T i) w
theorem RowT.below {a : Option Addr} {n : Nat} {T : Nat → Tc} {w w' : World} (h : RowT a n T w) (k : Below w.heap.size w w') : RowT a n T w' := by
  intro i hi
  obtain ⟨b, off, ra, rc, pa, pc, aa, ac, ha, hb, h0, h1, h2, h3, h4, ht⟩ := h i hi
  obtain ⟨hc, _⟩ := bcell k
  exact ⟨b, off, ra, rc, pa, pc, aa, ac, ha, Nat.lt_of_lt_of_le hb k.size, (hc _ _ hb).trans h0, (hc _ _ hb).trans h1, (hc _ _ hb).trans h2, (hc _ _ hb).trans h3, (hc _ _ hb).trans h4, ht.below k⟩
/-- All lists of the terms are short. -/
def LowT (n : Nat) (T : Nat → Tc) : Prop := ∀ i, i < n → (T i).nr ≤ 1048576 ∧ (T i).np ≤ 1048576 ∧ (T i).na ≤ 1048576
end Go.Proofs.Ytocgghhlfmgndaa
