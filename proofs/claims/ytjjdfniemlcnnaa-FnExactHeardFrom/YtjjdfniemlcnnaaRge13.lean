/- A route and where its lists lie. -/
import Derived.Test.YtjjdfniemlcnnaaRou13
namespace Go.Proofs.Ytjjdfniemlcnnaa
open Go.RowKit

structure Rge where
  t : Ro
  a0 : Option Addr
  c0 : Nat
  a1 : Option Addr
  c1 : Nat
def rge0 : Rge := ⟨ro0, none, 0, none, 0⟩
end Go.Proofs.Ytjjdfniemlcnnaa
