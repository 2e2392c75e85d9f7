/- WeightOf of the specification. -/
import Derived.Test.YtcnlabedlcmilaaS9b
import Derived.Test.YtcnlabedlcmilaaS6r
import Derived.Test.YtcnlabedlcmilaaPlain7f
namespace Go.Proofs.Ytcnlabedlcmilaa
open Go.RowKit

theorem coB_iff {n : Nat} {g : Nat → Int} {x : Int} : coB n g x = true ↔ ∃ j, j < n ∧ g j = x := by
  unfold coB
  rw [List.any_eq_true]
  constructor
  · rintro ⟨j, hj, h⟩; exact ⟨j, List.mem_range.1 hj, eq_of_beq h⟩
  · rintro ⟨j, hj, h⟩; exact ⟨j, List.mem_range.2 hj, beq_iff_eq.2 h⟩
theorem coB_no {n : Nat} {g : Nat → Int} {x : Int} (h : coB n g x = false) : ∀ j, j < n → g j ≠ x := fun j hj e => by
  have := coB_iff.2 ⟨j, hj, e⟩
  rw [h] at this
  cases this
theorem RowInt.rowN9 {a : Option Addr} {n : Nat} {f : Nat → Int} {w : World} (h : RowInt a n f w) : RowN .i64 a ((List.range n).map f) w := by
  intro i hi
  rw [List.length_map, List.length_range] at hi
  obtain ⟨b, off, ha, hb, h0⟩ := h i hi
  refine ⟨b, off, ha, hb, ?_⟩
  rw [h0]
  congr 2
  rw [List.getD_eq_getElem?_getD, List.getElem?_map, List.getElem?_range hi]
  rfl
theorem RowInt.take9 {a : Option Addr} {n : Nat} {f : Nat → Int} {w : World} (h : RowInt a n f w) {k : Nat} (hk : k ≤ n) : RowInt a k f w := fun i hi => h i (by omega)
/-- What WeightOf answers. -/
noncomputable def wgR (g : Int) (m : Nat) (T : Nat → Lc) (n : Nat) (f0 f1 f2 : Nat → Int) (pn : Nat) (pf : Nat → Int) : Option Int := if pB (NA g m T n f0 f1 f2 ∧ PathOk pn pf) then wt9 (fun x y => lab9 f0 f1 f2 x y n) T pn pf (pn - 1) else none
theorem lab9_lt {m n : Nat} {f0 f1 f2 : Nat → Int} (h : ∀ i, i < n → ArOk m (f0 i) (f1 i) (f2 i)) (hm : 1 ≤ m) (x y : Int) : lab9 f0 f1 f2 x y n < (m : Int) := by
  unfold lab9
  cases hx : fst9 f0 f1 x y n with
  | none => simp; omega
  | some i => exact (h i (fst9_some.1 hx).1).2.2.2.2.2.2
theorem s_has9 (a : Option Addr) (n c : Nat) (g : Nat → Int) (x : Int) (w : World) (hl : n ≤ 1048576) (hR : RowInt a n g w) :
    Calls Try.prog 124 #[.slice a n c, .int .i64 x] w fun e w' => e = .returned (.bool (coB n g x)) ∧ w' = w := by
  have h := s_l1Has a ((List.range n).map g) c x w (by simpa using hl) hR.rowN9
  have e : hasN ((List.range n).map g) x = coB n g x := by
    simp only [hasN, coB, List.any_map]
    rfl
  rw [e] at h
  simpa using h
end Go.Proofs.Ytcnlabedlcmilaa
