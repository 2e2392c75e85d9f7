/- An offer with the places of its lists. -/
import Derived.Test.YtjjdfniemlcnnaaOff8
namespace Go.Proofs.Ytjjdfniemlcnnaa
open Go.RowKit

/-- An offer, and where its lists lie. -/
structure Oe where
  t : Oc
  a0 : Option Addr
  c0 : Nat
  a1 : Option Addr
  c1 : Nat
def oe0 : Oe := ⟨oc0, none, 0, none, 0⟩
end Go.Proofs.Ytjjdfniemlcnnaa
