/- PathsTo of the specification. -/
import Derived.Test.YtelehmkmdbhcfaaPlain9
import Derived.Test.YtelehmkmdbhcfaaPlain10b
import Derived.Test.YtelehmkmdbhcfaaS9e
/- What PathsTo answers, in plain words. -/
namespace Go.Proofs.Ytelehmkmdbhcfaa
open Go.RowKit

def PtOk (g : Int) (m : Nat) (T : Nat → Lc) (n : Nat) (f0 f1 f2 : Nat → Int) (t : Int) : Prop := NA g m T n f0 f1 f2 ∧ 0 ≤ t ∧ t ≤ 5
noncomputable def ptB (g : Int) (m : Nat) (T : Nat → Lc) (n : Nat) (f0 f1 f2 : Nat → Int) (t : Int) : Bool := pB (PtOk g m T n f0 f1 f2 t)
/-- r holds the least weights. -/
def PtL (g : Int) (T : Nat → Lc) (n : Nat) (f0 f1 f2 : Nat → Int) (t : Int) (r : Nat → Int) : Prop := Least (Rch (fun x y => lab9 f0 f1 f2 x y n) T t.toNat 0 (fun i => if i = t.toNat then true else false)) (fun _ => g - 1) r
open Classical in
noncomputable def ptF (g : Int) (T : Nat → Lc) (n : Nat) (f0 f1 f2 : Nat → Int) (t : Int) : Nat → Int := if h : ∃ r, PtL g T n f0 f1 f2 t r then h.choose else fun _ => 0
noncomputable def ptR (g : Int) (m : Nat) (T : Nat → Lc) (n : Nat) (f0 f1 f2 : Nat → Int) (t : Int) : List Int := if ptB g m T n f0 f1 f2 t = true then lsI 6 (ptF g T n f0 f1 f2 t) else []
theorem ptR_len (g : Int) (m : Nat) (T : Nat → Lc) (n : Nat) (f0 f1 f2 : Nat → Int) (t : Int) : (ptR g m T n f0 f1 f2 t).length ≤ 6 := by
  unfold ptR; split
  · rw [lsI_len]; exact Nat.le_refl _
  · simp
theorem lsI_same9 {n : Nat} {f g : Nat → Int} (h : ∀ i, i < n → f i = g i) : lsI n f = lsI n g := by
  apply List.ext_getElem
  · rw [lsI_len, lsI_len]
  · intro i h1 h2
    have hi : i < n := by rw [lsI_len] at h1; exact h1
    have e1 := lsI_at (f := f) hi
    have e2 := lsI_at (f := g) hi
    rw [List.getD_eq_getElem?_getD, List.getElem?_eq_getElem h1] at e1
    rw [List.getD_eq_getElem?_getD, List.getElem?_eq_getElem h2] at e2
    simp only [Option.getD_some] at e1 e2
    rw [e1, e2]
    exact h i hi
theorem pt_no {g : Int} {m : Nat} {T : Nat → Lc} {n : Nat} {f0 f1 f2 : Nat → Int} {t : Int} (h : ¬ PtOk g m T n f0 f1 f2 t) : ptR g m T n f0 f1 f2 t = [] ∧ ptB g m T n f0 f1 f2 t = false := by
  have e : ptB g m T n f0 f1 f2 t = false := pB_f h
  exact ⟨by unfold ptR; rw [e]; rfl, e⟩
theorem pt_yes {g : Int} {m : Nat} {T : Nat → Lc} {n : Nat} {f0 f1 f2 : Nat → Int} {t : Int} {r : Nat → Int} (h : PtOk g m T n f0 f1 f2 t) (hr : PtL g T n f0 f1 f2 t r) : ptR g m T n f0 f1 f2 t = lsI 6 r ∧ ptB g m T n f0 f1 f2 t = true := by
  have e : ptB g m T n f0 f1 f2 t = true := pB_t h
  have hx : ∃ r, PtL g T n f0 f1 f2 t r := ⟨r, hr⟩
  refine ⟨?_, e⟩
  unfold ptR
  rw [e, if_pos rfl]
  apply lsI_same9
  unfold ptF
  rw [dif_pos hx]
  exact Least.unique hx.choose_spec hr
theorem left9_one (t : Nat) (ht : t < 6) : 1 + left9 (fun i => if i = t then true else false) ≤ 6 := by
  have h := left9_lt (s := fun _ => false) ht rfl
  have e : left9 (fun _ => false) = 6 := by decide
  omega
end Go.Proofs.Ytelehmkmdbhcfaa

namespace Go.Proofs.Ytelehmkmdbhcfaa
open Go.RowKit
end Go.Proofs.Ytelehmkmdbhcfaa
