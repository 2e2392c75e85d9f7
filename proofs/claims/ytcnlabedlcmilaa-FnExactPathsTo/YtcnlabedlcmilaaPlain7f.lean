/- Terms that fit, plain. -/
import Derived.Test.YtcnlabedlcmilaaPlain7
namespace Go.Proofs.Ytcnlabedlcmilaa

def cvB (a l b m : Int) : Bool := decide (l ≤ m) && hasB a l b
def rnH (p l lo hi pa pl : Int) : Bool := cvB p l pa pl && inB pl lo hi
def anR (n : Nat) (f0 f1 f2 f3 : Nat → Int) (pa pl : Int) : Bool := (List.range n).any fun i => rnH (f0 i) (f1 i) (f2 i) (f3 i) pa pl
def coB (n : Nat) (g : Nat → Int) (c : Int) : Bool := (List.range n).any fun i => g i == c
/-- Whether a term fits a route: by its ranges, by its pattern (r), by its community. -/
def fiB (nr : Nat) (an : Bool) (np : Nat) (r : Bool) (cm : Int) (co : Bool) : Bool := (decide (nr = 0) || an) && (decide (np = 0) || r) && (decide (cm = -1) || co)
theorem any_yes7 {n k : Nat} {p : Nat → Bool} (hk : k < n) (e : p k = true) : (List.range n).any p = true := List.any_eq_true.2 ⟨k, List.mem_range.2 hk, e⟩
theorem any_next7 {k : Nat} {p : Nat → Bool} (h : (List.range k).any p = false) (e : p k = false) : (List.range (k + 1)).any p = false := by
  rw [List.range_succ, List.any_append, h]
  simp [e]
theorem any_or7 {k : Nat} {p : Nat → Bool} : (List.range (k + 1)).any p = ((List.range k).any p || p k) := by
  rw [List.range_succ, List.any_append]
  simp
end Go.Proofs.Ytcnlabedlcmilaa
