/- The law on GoodTable: the program answers as the specification. -/
import Derived.Test.YtjmflkheaioboabW2
import Derived.Test.YtjmflkheaioboabI2
namespace Go.Proofs.Ytjmflkheaioboab
open Go.RowKit

theorem w_goodTable (a0 : Option Addr) (len cap : Nat) (f0 f1 f2 : Nat → Int) (w : World) (hl : len ≤ maxLen) (hR : RowEntry a0 len f0 f1 f2 w) :
    Calls Try.prog 3 #[.slice a0 len cap] w fun e w' => e = .returned (.bool true) ∧ Below w.heap.size w w' :=
  w_goodTable_of (hide fun a0 len cap f0 f1 f2 w hl hE => i_goodTable a0 len cap f0 f1 f2 w hl hE) a0 len cap f0 f1 f2 w hl hR
end Go.Proofs.Ytjmflkheaioboab
