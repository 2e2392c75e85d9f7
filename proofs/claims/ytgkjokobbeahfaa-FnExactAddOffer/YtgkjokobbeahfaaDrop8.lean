/- DropOffer, plain. -/
import Derived.Test.YtgkjokobbeahfaaLst8
namespace Go.Proofs.Ytgkjokobbeahfaa
open Go.RowKit

/-- What is left without a peer's, whether it is told, and what is told. -/
def dfO (D : List Oc) (x : Int) : List Oc := D.filter (fun t => t.pe != x)
def dkO (D : List Oc) (x : Int) : Bool := osB D.length (TL D) && decide ((dfO D x).length < D.length)
def dlO (D : List Oc) (x : Int) : List Oc := if dkO D x = true then dfO D x else []
theorem dkO_no {D : List Oc} {x : Int} (h : osB D.length (TL D) = false) : dkO D x = false := by simp [dkO, h]
theorem dkO_good {D : List Oc} {x : Int} (h : osB D.length (TL D) = true) : dkO D x = decide ((dfO D x).length < D.length) := by simp [dkO, h]
theorem dlO_no {D : List Oc} {x : Int} (h : dkO D x = false) : dlO D x = [] := by simp [dlO, h]
theorem dlO_yes {D : List Oc} {x : Int} (h : dkO D x = true) : dlO D x = dfO D x := by simp [dlO, h]
theorem dfO_le (D : List Oc) (x : Int) : (dfO D x).length ≤ D.length := List.length_filter_le _ _
theorem low_src {L : List Oe} {w : World} (hS : ∀ e, e ∈ L → SrcO w e) : LowO L.length (TL (L.map (·.t))) := by
  intro i hi
  rw [TL_eq (by simpa using hi)]
  have := (hS _ (List.getElem_mem hi)).2.2.2
  simpa using this
theorem rowO_src {a : Option Addr} {L : List Oe} {w : World} (hU : RowU a L w) (hS : ∀ e, e ∈ L → SrcO w e) : RowO a L.length (TL (L.map (·.t))) w := hU.offers (fun e he => (hS e he).2.2.1)
end Go.Proofs.Ytgkjokobbeahfaa
