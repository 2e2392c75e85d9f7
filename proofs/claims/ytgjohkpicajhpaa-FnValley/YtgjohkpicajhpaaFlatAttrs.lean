/- Attrs in memory, and what the laws do with them: handed over, compared, marked. -/
import Derived.Test.YtgjohkpicajhpaaFlatInt
import Derived.Test.YtgjohkpicajhpaaMut4
namespace Go.Proofs.Ytgjohkpicajhpaa
open Go.RowKit

theorem OutInt.other {c n k : Nat} {f : Nat → Int} {w : World} (h : OutInt c n k f w) {d : Nat} (hn : c ≠ d) (o : Nat) (v : Value) : OutInt c n k f (w.setCell ⟨d, o, none⟩ v) :=
  h.only ((Only.refl d w).setCell o v) hn

end Go.Proofs.Ytgjohkpicajhpaa
