/- Plain: reading attrs and updates out of a list of bytes, step by step. -/
import Derived.Test.YtoeephmdklmpfaaS4o
namespace Go.Proofs.Ytoeephmdklmpfaa
open Go.RowKit

/-- Bytes. -/
def Bl (L : List Int) : Prop := ∀ x ∈ L, 0 ≤ x ∧ x < 256
theorem Bl.sub {L M : List Int} (h : Bl L) (hs : ∀ x ∈ M, x ∈ L) : Bl M := fun x hx => h x (hs x hx)
theorem Bl.drop {L : List Int} (h : Bl L) (n : Nat) : Bl (L.drop n) := h.sub fun _ hx => List.mem_of_mem_drop hx
theorem Bl.take {L : List Int} (h : Bl L) (n : Nat) : Bl (L.take n) := h.sub fun _ hx => List.mem_of_mem_take hx
theorem vN1_bd {L : List Int} {c : Int} (h : Bl L) : 0 ≤ vN 1 L c ∧ vN 1 L c < 256 := by
  unfold vN
  split
  · have := val_bd (L.take 1) (h.take 1)
    rename_i q
    rw [List.length_take, Nat.min_eq_left q.2] at this
    exact ⟨this.1, by have := this.2; omega⟩
  · omega
/-- What is left, and the code. -/
abbrev Lc := List Int × Int
def sN (m : Nat) (s : Lc) : Lc := (stL m s.1 s.2, stC m s.1 s.2)
def sMn (s : Lc) : Nat := (vN 1 s.1 s.2).toNat
def sM (m : Nat) (s : Lc) : Lc := ((sN 1 s).1.drop (m * sMn s), nsC m (sMn s) (sN 1 s).1 (sN 1 s).2)
def sMv (m : Nat) (s : Lc) : List Int := (List.range (sMn s)).map (nsV m (sN 1 s).1)
def sP (s : Lc) : Lc := (prR (sN 1 s).1 (sMn s), prC (sMn s) (sN 1 s).1 (sN 1 s).2)
def sPv (s : Lc) : List Pf := prL (sN 1 s).1 (sMn s)
theorem sN_bl {m : Nat} {s : Lc} (h : Bl s.1) : Bl (sN m s).1 := by
  unfold sN stL
  dsimp only
  split
  · exact h.drop _
  · exact h
theorem sM_bl {m : Nat} {s : Lc} (h : Bl s.1) : Bl (sM m s).1 := (sN_bl h).drop _
theorem prR_bl {D : List Int} (h : Bl D) (k : Nat) : Bl (prR D k) := by
  induction k with
  | zero => exact h
  | succ k ih => exact ih.drop _
theorem sP_bl {s : Lc} (h : Bl s.1) : Bl (sP s).1 := prR_bl (sN_bl h) _
theorem sN_bad {m : Nat} {s : Lc} (h : s.2 ≠ 0) : (sN m s).2 = s.2 := if_pos h
theorem sM_bad {m : Nat} {s : Lc} (h : s.2 ≠ 0) : (sM m s).2 = s.2 := (nsC_bad (by rw [sN_bad h]; exact h)).trans (sN_bad h)
theorem sP_bad {s : Lc} (h : s.2 ≠ 0) : (sP s).2 = s.2 := (prC_bad (by rw [sN_bad h]; exact h)).trans (sN_bad h)
def sA0 (s : Lc) : Lc := sN 1 s
def sA1 (s : Lc) : Lc := sM 2 (sA0 s)
def sA2 (s : Lc) : Lc := sN 4 (sA1 s)
def sA3 (s : Lc) : Lc := sN 3 (sA2 s)
def sA4 (s : Lc) : Lc := sN 3 (sA3 s)
def sA5 (s : Lc) : Lc := sM 3 (sA4 s)
theorem sA0_bl {s : Lc} (h : Bl s.1) : Bl (sA0 s).1 := sN_bl h
theorem sA1_bl {s : Lc} (h : Bl s.1) : Bl (sA1 s).1 := sM_bl (sA0_bl h)
theorem sA2_bl {s : Lc} (h : Bl s.1) : Bl (sA2 s).1 := sN_bl (sA1_bl h)
theorem sA3_bl {s : Lc} (h : Bl s.1) : Bl (sA3 s).1 := sN_bl (sA2_bl h)
theorem sA4_bl {s : Lc} (h : Bl s.1) : Bl (sA4 s).1 := sN_bl (sA3_bl h)
theorem sA5_bl {s : Lc} (h : Bl s.1) : Bl (sA5 s).1 := sM_bl (sA4_bl h)
theorem sA5_bad1 {s : Lc} (h : (sA1 s).2 ≠ 0) : (sA5 s).2 = (sA1 s).2 := by
  have e2 : (sA2 s).2 = (sA1 s).2 := sN_bad h
  have e3 : (sA3 s).2 = (sA2 s).2 := sN_bad (by rw [e2]; exact h)
  have e4 : (sA4 s).2 = (sA3 s).2 := sN_bad (by rw [e3, e2]; exact h)
  have e5 : (sA5 s).2 = (sA4 s).2 := sM_bad (by rw [e4, e3, e2]; exact h)
  rw [e5, e4, e3, e2]
theorem sA1_bad {s : Lc} (h : s.2 ≠ 0) : (sA1 s).2 = s.2 := by
  have e0 : (sA0 s).2 = s.2 := sN_bad h
  have e1 : (sA1 s).2 = (sA0 s).2 := sM_bad (by rw [e0]; exact h)
  rw [e1, e0]
theorem sA5_bad {s : Lc} (h : s.2 ≠ 0) : (sA5 s).2 = s.2 := (sA5_bad1 (by rw [sA1_bad h]; exact h)).trans (sA1_bad h)
/-- The codes of attrs and prefixes behind them. -/
theorem sU_keep {s : Lc} (h : s.2 ≠ 0) : (sP (sA5 s)).2 = s.2 := (sP_bad (by rw [sA5_bad h]; exact h)).trans (sA5_bad h)
theorem sU_zero {s : Lc} (h : (sP (sA5 s)).2 = 0) : (sA5 s).2 = 0 ∧ (sA1 s).2 = 0 := by
  have h5 : (sA5 s).2 = 0 := Classical.byContradiction fun q => q ((sP_bad q).symm.trans h)
  exact ⟨h5, Classical.byContradiction fun q => q ((sA5_bad1 q).symm.trans h5)⟩
end Go.Proofs.Ytoeephmdklmpfaa
