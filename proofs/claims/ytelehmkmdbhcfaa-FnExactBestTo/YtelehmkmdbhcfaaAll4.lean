/- WeightOf of the specification. -/
import Derived.Test.YtelehmkmdbhcfaaPlain7
import Derived.Test.YtelehmkmdbhcfaaS9b
import Derived.Test.YtelehmkmdbhcfaaS6r
/- Terms that fit, plain. -/
namespace Go.Proofs.Ytelehmkmdbhcfaa

def cvB (a l b m : Int) : Bool := decide (l ≤ m) && hasB a l b
def rnH (p l lo hi pa pl : Int) : Bool := cvB p l pa pl && inB pl lo hi
def anR (n : Nat) (f0 f1 f2 f3 : Nat → Int) (pa pl : Int) : Bool := (List.range n).any fun i => rnH (f0 i) (f1 i) (f2 i) (f3 i) pa pl
def coB (n : Nat) (g : Nat → Int) (c : Int) : Bool := (List.range n).any fun i => g i == c
/-- Whether a term fits a route: by its ranges, by its pattern (r), by its community. -/
def fiB (nr : Nat) (an : Bool) (np : Nat) (r : Bool) (cm : Int) (co : Bool) : Bool := (decide (nr = 0) || an) && (decide (np = 0) || r) && (decide (cm = -1) || co)
theorem any_yes7 {n k : Nat} {p : Nat → Bool} (hk : k < n) (e : p k = true) : (List.range n).any p = true := List.any_eq_true.2 ⟨k, List.mem_range.2 hk, e⟩
theorem any_next7 {k : Nat} {p : Nat → Bool} (h : (List.range k).any p = false) (e : p k = false) : (List.range (k + 1)).any p = false := by
  rw [List.range_succ, List.any_append, h]
  simp [e]
theorem any_or7 {k : Nat} {p : Nat → Bool} : (List.range (k + 1)).any p = ((List.range k).any p || p k) := by
  rw [List.range_succ, List.any_append]
  simp
end Go.Proofs.Ytelehmkmdbhcfaa

namespace Go.Proofs.Ytelehmkmdbhcfaa
open Go.RowKit

theorem coB_iff {n : Nat} {g : Nat → Int} {x : Int} : coB n g x = true ↔ ∃ j, j < n ∧ g j = x := by
  unfold coB
  rw [List.any_eq_true]
  constructor
  · rintro ⟨j, hj, h⟩; exact ⟨j, List.mem_range.1 hj, eq_of_beq h⟩
  · rintro ⟨j, hj, h⟩; exact ⟨j, List.mem_range.2 hj, beq_iff_eq.2 h⟩
theorem coB_no {n : Nat} {g : Nat → Int} {x : Int} (h : coB n g x = false) : ∀ j, j < n → g j ≠ x := fun j hj e => by
  have := coB_iff.2 ⟨j, hj, e⟩
  rw [h] at this
  cases this
theorem RowInt.rowN9 {a : Option Addr} {n : Nat} {f : Nat → Int} {w : World} (h : RowInt a n f w) : RowN .i64 a ((List.range n).map f) w := by
  intro i hi
  rw [List.length_map, List.length_range] at hi
  obtain ⟨b, off, ha, hb, h0⟩ := h i hi
  refine ⟨b, off, ha, hb, ?_⟩
  rw [h0]
  congr 2
  rw [List.getD_eq_getElem?_getD, List.getElem?_map, List.getElem?_range hi]
  rfl
theorem RowInt.take9 {a : Option Addr} {n : Nat} {f : Nat → Int} {w : World} (h : RowInt a n f w) {k : Nat} (hk : k ≤ n) : RowInt a k f w := fun i hi => h i (by omega)
/-- What WeightOf answers. -/
noncomputable def wgR (g : Int) (m : Nat) (T : Nat → Lc) (n : Nat) (f0 f1 f2 : Nat → Int) (pn : Nat) (pf : Nat → Int) : Option Int := if pB (NA g m T n f0 f1 f2 ∧ PathOk pn pf) then wt9 (fun x y => lab9 f0 f1 f2 x y n) T pn pf (pn - 1) else none
theorem lab9_lt {m n : Nat} {f0 f1 f2 : Nat → Int} (h : ∀ i, i < n → ArOk m (f0 i) (f1 i) (f2 i)) (hm : 1 ≤ m) (x y : Int) : lab9 f0 f1 f2 x y n < (m : Int) := by
  unfold lab9
  cases hx : fst9 f0 f1 x y n with
  | none => simp; omega
  | some i => exact (h i (fst9_some.1 hx).1).2.2.2.2.2.2
end Go.Proofs.Ytelehmkmdbhcfaa
