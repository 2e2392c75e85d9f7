/- Ranges, communities and paths of a route, plain. -/
import Derived.Test.YtocgghhlfmgndaaGreatJE
import Derived.Test.YtocgghhlfmgndaaGreatS6m
import Derived.Test.YtocgghhlfmgndaaGreatFlatInt
import Derived.Test.YtocgghhlfmgndaaGreatJC
namespace Go.Proofs.YtocgghhlfmgndaaGreat
open Go.RowKit

def lsI (n : Nat) (g : Nat → Int) : List Int := (List.range n).map g
theorem lsI_len (n : Nat) (g : Nat → Int) : (lsI n g).length = n := by simp [lsI]
theorem RowN.ofI7 {a : Option Addr} {n : Nat} {g : Nat → Int} {w : World} (h : RowInt a n g w) : RowN .i64 a (lsI n g) w := by
  intro i hi
  rw [lsI_len] at hi
  obtain ⟨b, off, e, hb, h0⟩ := h i hi
  refine ⟨b, off, e, hb, ?_⟩
  rw [h0, show (lsI n g).getD i 0 = g i by simp [lsI, List.getD_eq_getElem?_getD, hi]]
theorem hasN_lsI (n : Nat) (g : Nat → Int) (x : Int) : hasN (lsI n g) x = coB n g x := by
  unfold hasN lsI coB
  rw [List.any_map]
  rfl
theorem rgs_good {n : Nat} {f0 f1 f2 f3 : Nat → Int} (h : rgsB n f0 f1 f2 f3 = true) : ∀ i, i < n → goodB (f0 i) (f1 i) = true := by
  intro i hi
  unfold rgsB at h
  rw [List.all_eq_true] at h
  have := h i (List.mem_range.2 hi)
  simp only [rgOk, Bool.and_eq_true] at this
  exact this.1.1
theorem good_pre {a l : Int} (h : goodB a l = true) : 0 ≤ l ∧ l ≤ 32 ∧ 0 ≤ a ∧ a ≤ 4294967295 := by
  simp only [goodB, inB, Bool.and_eq_true, decide_eq_true_eq] at h
  omega
theorem fi_of {nr : Nat} {an : Bool} {np : Nat} {r : Bool} {cm : Int} {co d1 d2 d3 : Bool} (h1 : decide (nr = 0) = d1) (h2 : decide (np = 0) = d2) (h3 : decide (cm = -1) = d3) : fiB nr an np r cm co = ((d1 || an) && (d2 || r) && (d3 || co)) := by
  subst h1 h2 h3
  rfl
theorem fi_ran {nr : Nat} {np : Nat} {r : Bool} {cm : Int} {co : Bool} (h1 : decide (nr = 0) = false) : fiB nr false np r cm co = false := by
  rw [fi_of h1 rfl rfl]
  rfl
theorem fi_com {nr : Nat} {an : Bool} {np : Nat} {r : Bool} {cm : Int} (h3 : decide (cm = -1) = false) : fiB nr an np r cm false = false := by
  rw [fi_of rfl rfl h3]
  simp
theorem fi_pat {nr : Nat} {an : Bool} {np : Nat} {cm : Int} {co : Bool} (h2 : decide (np = 0) = false) : fiB nr an np false cm co = false := by
  rw [fi_of rfl h2 rfl]
  simp
end Go.Proofs.YtocgghhlfmgndaaGreat
