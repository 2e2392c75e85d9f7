/- Stores, in plain words. -/
import Derived.Test.YtddbgmknbjdbcaaLeaf15
namespace Go.Proofs.Ytddbgmknbjdbcaa
open Go.RowKit

/-- A configuration: how many leaves, and which. -/
structure Cf where
  n : Nat
  T : Nat → Lf
def cf0 : Cf := ⟨0, fun _ => lf0⟩
/-- A store: its candidate, what runs, the history, the ticks left. -/
structure Sto where
  C : Cf
  R : Cf
  h : Nat
  H : Nat → Cf
  l : Int
/-- One leaf is another one. -/
def SameF (s t : Lf) : Prop := s.v = t.v ∧ s.n = t.n ∧ Bg s.n s.p t.n t.p
/-- One configuration is another one. -/
def SameC (a b : Cf) : Prop := a.n = b.n ∧ ∀ i, i < a.n → SameF (a.T i) (b.T i)
/-- A good store. -/
def GS (s : Sto) : Prop := GC s.C.n s.C.T ∧ GC s.R.n s.R.T ∧ 1 ≤ s.h ∧ s.h ≤ 10 ∧ (∀ i, i < s.h → GC (s.H i).n (s.H i).T) ∧ ((SameC s.R (s.H 0) ∧ s.l = 0) ∨ (¬ SameC s.R (s.H 0) ∧ 1 ≤ s.l ∧ s.l ≤ 100))
/-- How much a configuration holds. -/
def szc (c : Cf) : Nat := c.n + totF c.T c.n
def totX (H : Nat → Cf) : Nat → Nat
  | 0 => 0
  | k + 1 => totX H k + szc (H k)
theorem totX_mono (H : Nat → Cf) {k n : Nat} (h : k ≤ n) : totX H k ≤ totX H n := by
  induction n with
  | zero => have : k = 0 := by omega
            subst this; exact Nat.le_refl _
  | succ n ih =>
    by_cases e : k = n + 1
    · subst e; exact Nat.le_refl _
    · exact Nat.le_trans (ih (by omega)) (Nat.le_add_right _ _)
def MaxCf (c : Cf) : Prop := c.n ≤ maxLen ∧ MaxF c.n c.T
/-- All is short. -/
def LowCf (c : Cf) : Prop := szc c ≤ 1048576 ∧ LowF c.n c.T
theorem LowCf.n {c : Cf} (h : LowCf c) : c.n ≤ 1048576 := Nat.le_trans (Nat.le_add_right _ _) h.1
def LowSt (s : Sto) : Prop := LowCf s.C ∧ LowCf s.R ∧ s.h ≤ 1048576 ∧ (∀ i, i < s.h → LowCf (s.H i)) ∧ totX s.H s.h ≤ 1048576
def MaxSt (s : Sto) : Prop := MaxCf s.C ∧ MaxCf s.R ∧ s.h ≤ maxLen ∧ ∀ i, i < s.h → MaxCf (s.H i)
/-- h lists of leaves at a. -/
def RowX (K : Bool) (a : Option Addr) (h : Nat) (H : Nat → Cf) (w : World) : Prop := ∀ i, i < h → ∃ (b off : Nat) (a0 : Option Addr) (c0 : Nat), a = some ⟨b, off, none⟩ ∧ b < w.heap.size ∧ w.cell? ⟨b, off + i, none⟩ = some (.slice a0 (H i).n c0) ∧ RowF K a0 (H i).n (H i).T w
theorem RowX.below {K : Bool} {a : Option Addr} {h : Nat} {H : Nat → Cf} {w w' : World} (R : RowX K a h H w) (k : Below w.heap.size w w') : RowX K a h H w' := by
  intro i hi
  obtain ⟨b, off, a0, c0, ha, hb, h0, hr⟩ := R i hi
  exact ⟨b, off, a0, c0, ha, Nat.lt_of_lt_of_le hb k.size, ((bcell k).1 _ _ hb).trans h0, hr.below k⟩
theorem RowX.any {K : Bool} {a : Option Addr} {h : Nat} {H : Nat → Cf} {w : World} (R : RowX K a h H w) : RowX false a h H w := by
  intro i hi
  obtain ⟨b, off, a0, c0, ha, hb, h0, hr⟩ := R i hi
  exact ⟨b, off, a0, c0, ha, hb, h0, hr.any⟩
theorem RowX.less {K : Bool} {a : Option Addr} {h h' : Nat} {H : Nat → Cf} {w : World} (R : RowX K a h H w) (k : h' ≤ h) : RowX K a h' H w := fun i hi => R i (by omega)
/-- A store as a value. -/
def stV (s : Sto) (ca : Option Addr) (kc : Nat) (ra : Option Addr) (kr : Nat) (ha : Option Addr) (kh : Nat) : Value := .agg #[.slice ca s.C.n kc, .slice ra s.R.n kr, .slice ha s.h kh, .int .i64 s.l]
/-- A value that is the store. -/
def RowSt (K : Bool) (v : Value) (s : Sto) (w : World) : Prop := ∃ ca kc ra kr ha kh, v = stV s ca kc ra kr ha kh ∧ RowF K ca s.C.n s.C.T w ∧ RowF K ra s.R.n s.R.T w ∧ RowX K ha s.h s.H w ∧ s.h ≤ kh
theorem RowSt.below {K : Bool} {v : Value} {s : Sto} {w w' : World} (h : RowSt K v s w) (k : Below w.heap.size w w') : RowSt K v s w' := by
  obtain ⟨ca, kc, ra, kr, ha, kh, e, h1, h2, h3, h4⟩ := h
  exact ⟨ca, kc, ra, kr, ha, kh, e, h1.below k, h2.below k, h3.below k, h4⟩
theorem RowSt.any {K : Bool} {v : Value} {s : Sto} {w : World} (h : RowSt K v s w) : RowSt false v s w := by
  obtain ⟨ca, kc, ra, kr, ha, kh, e, h1, h2, h3, h4⟩ := h
  exact ⟨ca, kc, ra, kr, ha, kh, e, h1.any, h2.any, h3.any, h4⟩
end Go.Proofs.Ytddbgmknbjdbcaa
