/- WeightOf of the program. -/
import Derived.Test.YtcnlabedlcmilaaLnk9c
import Derived.Test.YtcnlabedlcmilaaI9d
namespace Go.Proofs.Ytcnlabedlcmilaa
open Go.RowKit

theorem keepG {w0 w' : World} {p q o1 o2 : Nat} {a b c : Value} (h : Below w0.heap.size w0 w') (hp : p < w0.heap.size) (hq : q < w0.heap.size) (k0 : w0.cell? ⟨p, 0, none⟩ = some a) (k1 : w0.cell? ⟨q, o1, none⟩ = some b) (k2 : w0.cell? ⟨q, o2, none⟩ = some c) :
    w'.cell? ⟨p, 0, none⟩ = some a ∧ w'.cell? ⟨q, o1, none⟩ = some b ∧ w'.cell? ⟨q, o2, none⟩ = some c :=
  ⟨((bcell h).1 _ _ hp).trans k0, ((bcell h).1 _ _ hq).trans k1, ((bcell h).1 _ _ hq).trans k2⟩
theorem keepGs {w0 w' : World} {p q o1 o2 : Nat} {a b c : Value} (h : Below w0.heap.size w0 w') (hp : p < w0.heap.size) (hq : q < w0.heap.size) (k0 : w0.cell? ⟨p, 0, none⟩ = some a) (k1 : w0.cell? ⟨q, o1, none⟩ = some b) (k2 : w0.cell? ⟨q, o2, none⟩ = some c) (z : Nat) (hz : w0.heap.size ≤ z) (v0 v1 v2 : Value) :
    (((w'.setCell ⟨z, 0, none⟩ v0).setCell ⟨z, 1, none⟩ v1).setCell ⟨z, 2, none⟩ v2).cell? ⟨p, 0, none⟩ = some a ∧ (((w'.setCell ⟨z, 0, none⟩ v0).setCell ⟨z, 1, none⟩ v1).setCell ⟨z, 2, none⟩ v2).cell? ⟨q, o1, none⟩ = some b ∧ (((w'.setCell ⟨z, 0, none⟩ v0).setCell ⟨z, 1, none⟩ v1).setCell ⟨z, 2, none⟩ v2).cell? ⟨q, o2, none⟩ = some c :=
  keepG (((h.setCell (p := ⟨z, 0, none⟩) hz v0).setCell (p := ⟨z, 1, none⟩) hz v1).setCell (p := ⟨z, 2, none⟩) hz v2) hp hq k0 k1 k2
end Go.Proofs.Ytcnlabedlcmilaa
