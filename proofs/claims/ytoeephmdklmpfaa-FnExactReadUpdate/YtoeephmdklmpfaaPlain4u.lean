/- Good updates, in plain words. -/
import Derived.Test.YtoeephmdklmpfaaPlain4
import Derived.Test.YtoeephmdklmpfaaPlain1b
namespace Go.Proofs.Ytoeephmdklmpfaa
open Go.RowKit

def nlriOk (f0 f1 : Nat → Int) (i : Nat) : Bool := goodB (f0 i) (f1 i) && (i == 0 || decide (cmpP (f0 (i - 1)) (f1 (i - 1)) (f0 i) (f1 i) < 0))
/-- A list of prefixes is good: at most ten, rising. -/
def nlriB (n : Nat) (f0 f1 : Nat → Int) : Bool := decide (n ≤ 10) && (List.range n).all (nlriOk f0 f1)
theorem nlriB_no {f0 f1 : Nat → Int} {n k : Nat} (hk : k < n) (h : nlriOk f0 f1 k = false) : nlriB n f0 f1 = false := by
  unfold nlriB
  rw [rall_no hk h, Bool.and_false]
theorem nlri_good {f0 f1 : Nat → Int} {n k : Nat} (h : (List.range n).all (nlriOk f0 f1) = true) (hk : k < n) : goodB (f0 k) (f1 k) = true := by
  have := (List.all_eq_true.1 h) k (List.mem_range.2 hk)
  unfold nlriOk at this
  simp only [Bool.and_eq_true] at this
  exact this.1
/-- A prefix is in a list. -/
def inL (n : Nat) (f0 f1 : Nat → Int) (a l : Int) : Bool := (List.range n).any fun i => f0 i == a && f1 i == l
theorem any_none {p : Nat → Bool} {k : Nat} (h : (List.range k).any p = false) (h1 : p k = false) : (List.range (k + 1)).any p = false := by
  rw [List.range_succ, List.any_append, h]
  simp [h1]
theorem any_some {p : Nat → Bool} {n k : Nat} (hk : k < n) (h : p k = true) : (List.range n).any p = true := List.any_eq_true.2 ⟨k, List.mem_range.2 hk, h⟩
/-- Attrs are all zero. -/
def zeroB (o nx md pf : Int) (n0 n1 : Nat) : Bool := o == 0 && nx == 0 && md == 0 && pf == 0 && n0 == 0 && n1 == 0
def apart (n : Nat) (f0 f1 : Nat → Int) (m : Nat) (h0 h1 : Nat → Int) : Bool := (List.range m).all fun j => !inL n f0 f1 (h0 j) (h1 j)
/-- An update is good. -/
def updB (n : Nat) (f0 f1 : Nat → Int) (o nx md pf : Int) (n0 : Nat) (f : Nat → Int) (n1 : Nat) (g : Nat → Int) (m : Nat) (h0 h1 : Nat → Int) : Bool :=
  apart n f0 f1 m h0 h1 && nlriB n f0 f1 && nlriB m h0 h1 && attrB o nx md pf n0 f n1 g && (decide (0 < m) || zeroB o nx md pf n0 n1)
end Go.Proofs.Ytoeephmdklmpfaa
