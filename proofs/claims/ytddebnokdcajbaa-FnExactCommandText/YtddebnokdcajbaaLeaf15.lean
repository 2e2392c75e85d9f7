/- Leaves in memory: a list of strings and a string each; their size, a copy, a comparison. -/
import Derived.Test.YtddebnokdcajbaaLaw15s
import Derived.Test.YtddebnokdcajbaaMut4
import Derived.Lib.QuietBelow
namespace Go.Proofs.Ytddebnokdcajbaa
open Go.RowKit

/-- N leaves at a; where K is true their paths have at least as much room as they are long. -/
def RowF (K : Bool) (a : Option Addr) (N : Nat) (T : Nat → Lf) (w : World) : Prop := ∀ i, i < N → ∃ (b off : Nat) (a0 : Option Addr) (c0 : Nat), a = some ⟨b, off, none⟩ ∧ b < w.heap.size ∧
  w.cell? ⟨b, off + i * 2, none⟩ = some (.slice a0 (T i).n c0) ∧ w.cell? ⟨b, off + i * 2 + 1, none⟩ = some (.string (T i).v) ∧ (K = true → (T i).n ≤ c0) ∧ RowStr a0 (T i).n (T i).p w
theorem RowF.below {K : Bool} {a : Option Addr} {N : Nat} {T : Nat → Lf} {w w' : World} (h : RowF K a N T w) (k : Below w.heap.size w w') : RowF K a N T w' := by
  intro i hi
  obtain ⟨b, off, a0, c0, ha, hb, h0, h1, hK, ht⟩ := h i hi
  obtain ⟨hc, _⟩ := bcell k
  exact ⟨b, off, a0, c0, ha, Nat.lt_of_lt_of_le hb k.size, (hc _ _ hb).trans h0, (hc _ _ hb).trans h1, hK, ht.below k⟩
theorem RowF.any {K : Bool} {a : Option Addr} {N : Nat} {T : Nat → Lf} {w : World} (h : RowF K a N T w) : RowF false a N T w := by
  intro i hi
  obtain ⟨b, off, a0, c0, ha, hb, h0, h1, _, ht⟩ := h i hi
  exact ⟨b, off, a0, c0, ha, hb, h0, h1, fun e => (by cases e), ht⟩
/-- All is short. -/
def OkF (t : Lf) (m : Nat) : Prop := t.n ≤ m ∧ (∀ i, i < t.n → (t.p i).size ≤ m) ∧ t.v.size ≤ m
def LowF (N : Nat) (T : Nat → Lf) : Prop := ∀ i, i < N → OkF (T i) 1048576
def MaxF (N : Nat) (T : Nat → Lf) : Prop := ∀ i, i < N → OkF (T i) maxLen
/-- How many words the first k leaves have. -/
def totF (T : Nat → Lf) : Nat → Nat
  | 0 => 0
  | k + 1 => totF T k + (T k).n
theorem totF_mono (T : Nat → Lf) {k n : Nat} (h : k ≤ n) : totF T k ≤ totF T n := by
  induction n with
  | zero => have : k = 0 := by omega
            subst this; exact Nat.le_refl _
  | succ n ih =>
    by_cases e : k = n + 1
    · subst e; exact Nat.le_refl _
    · exact Nat.le_trans (ih (by omega)) (Nat.le_add_right _ _)
/-- A block of n cells that may be written. -/
def FreeC (c n : Nat) (w : World) : Prop := c < w.heap.size ∧ ∀ q, q < n → (∃ v, w.cell? ⟨c, q, none⟩ = some v) ∧ w.frozen? ⟨c, q, none⟩ = false
theorem FreeC.below {c n : Nat} {w w' : World} (h : FreeC c n w) (k : Below w.heap.size w w') : FreeC c n w' := by
  obtain ⟨hc, hf⟩ := bcell k
  refine ⟨Nat.lt_of_lt_of_le h.1 k.size, fun q hq => ?_⟩
  obtain ⟨⟨v, hv⟩, hz⟩ := h.2 q hq
  exact ⟨⟨v, (hc _ _ h.1).trans hv⟩, (hf _ _ h.1).trans hz⟩
theorem FreeC.set {c n : Nat} {w : World} (h : FreeC c n w) (j : Nat) (x : Value) : FreeC c n (w.setCell ⟨c, j, none⟩ x) := by
  refine ⟨by simpa using h.1, fun q hq => ?_⟩
  obtain ⟨⟨v, hv⟩, hz⟩ := h.2 q hq
  refine ⟨?_, by simpa [go_sem] using hz⟩
  by_cases e : j = q
  · subst e
    exact ⟨x, by simp [go_sem, hv]⟩
  · exact ⟨v, by rw [World.cell?_setCell_other _ _ _ _ (by simp <;> omega)]; exact hv⟩
theorem FreeC.new (w : World) (cs : Array Value) (t : TypeId) : FreeC w.heap.size cs.size (w.alloc (.cells cs t)) :=
  ⟨by simp, fun q hq => ⟨⟨cs[q], by simp [go_sem, hq]⟩, by simp [go_sem]⟩⟩

theorem FreeC.other {c n : Nat} {w : World} (h : FreeC c n w) {d : Nat} (hd : c ≠ d) (j : Nat) (x : Value) : FreeC c n (w.setCell ⟨d, j, none⟩ x) := by
  refine ⟨by simpa using h.1, fun q hq => ?_⟩
  obtain ⟨⟨v, hv⟩, hz⟩ := h.2 q hq
  exact ⟨⟨v, by rw [World.cell?_setCell_other _ _ _ _ (by simp <;> omega)]; exact hv⟩, by simpa [go_sem] using hz⟩

/-- The first k leaves of a copy in block c; each path in a block of its own behind it, all ahead of hi. -/
def RowFO (c k : Nat) (X : Nat → Nat) (hi : Nat) (T : Nat → Lf) (w : World) : Prop := hi ≤ w.heap.size ∧ ∀ i, i < k → c < X i ∧ X i < hi ∧ (∀ j, j < i → X j < X i) ∧ c < w.heap.size ∧
  w.cell? ⟨c, i * 2, none⟩ = some (.slice (some ⟨X i, 0, none⟩) (T i).n (T i).n) ∧ w.cell? ⟨c, i * 2 + 1, none⟩ = some (.string (T i).v) ∧ OutStr (X i) (T i).n (T i).n (T i).p w
theorem RowFO.below {c k : Nat} {X : Nat → Nat} {hi : Nat} {T : Nat → Lf} {w w' : World} (h : RowFO c k X hi T w) (b : Below w.heap.size w w') : RowFO c k X hi T w' := by
  refine ⟨Nat.le_trans h.1 b.size, fun i hi => ?_⟩
  obtain ⟨hc, _⟩ := bcell b
  obtain ⟨h1, h3, hj, h4, c0, c1, o1⟩ := h.2 i hi
  exact ⟨h1, h3, hj, Nat.lt_of_lt_of_le h4 b.size, (hc _ _ h4).trans c0, (hc _ _ h4).trans c1, o1.below b⟩
theorem RowFO.row {c n : Nat} {X : Nat → Nat} {hi : Nat} {T : Nat → Lf} {w : World} (h : RowFO c n X hi T w) : RowF true (some ⟨c, 0, none⟩) n T w := by
  intro i hi
  obtain ⟨h1, h3, hj, h4, c0, c1, o1⟩ := h.2 i hi
  exact ⟨c, 0, _, _, rfl, h4, by rw [Nat.zero_add]; exact c0, by rw [Nat.zero_add]; exact c1, fun _ => Nat.le_refl _, o1.row⟩
theorem OutStr.other {c n k d : Nat} {f : Nat → ByteArray} {w : World} (h : OutStr c n k f w) (hd : c ≠ d) (o : Nat) (v : Value) : OutStr c n k f (w.setCell ⟨d, o, none⟩ v) := by
  refine ⟨by have := h.1; simpa using this, fun i hi => ?_⟩
  obtain ⟨⟨x, h0, hx⟩, g0⟩ := h.2 i hi
  refine ⟨⟨x, ?_, hx⟩, by simpa [go_sem] using g0⟩
  rw [World.cell?_setCell_other _ _ _ _ (by simp <;> omega)]; exact h0
theorem RowFO.set {c k : Nat} {X : Nat → Nat} {hi : Nat} {T : Nat → Lf} {w : World} (h : RowFO c k X hi T w) {q : Nat} (hq : k * 2 ≤ q) (v : Value) : RowFO c k X hi T (w.setCell ⟨c, q, none⟩ v) := by
  refine ⟨by simpa using h.1, fun i hi => ?_⟩
  obtain ⟨h1, h3, hj, h4, c0, c1, o1⟩ := h.2 i hi
  refine ⟨h1, h3, hj, by simpa using h4, ?_, ?_, o1.other (by omega) _ _⟩
  · rw [World.cell?_setCell_other _ _ _ _ (by simp <;> omega)]; exact c0
  · rw [World.cell?_setCell_other _ _ _ _ (by simp <;> omega)]; exact c1
theorem RowFO.next {c n k : Nat} {X : Nat → Nat} {hi hi' : Nat} {T : Nat → Lf} {w : World} (h : RowFO c k X hi T w) (F : FreeC c (n * 2) w) (hk : k < n) {x : Nat} (h1 : c < x) (h3 : hi ≤ x) (h4 : x < hi') (h5 : hi' ≤ w.heap.size)
    (o1 : OutStr x (T k).n (T k).n (T k).p w) :
    RowFO c (k + 1) (fun i => if i = k then x else X i) hi' T ((w.setCell ⟨c, k * 2, none⟩ (.slice (some ⟨x, 0, none⟩) (T k).n (T k).n)).setCell ⟨c, k * 2 + 1, none⟩ (.string (T k).v)) := by
  refine ⟨by simpa using h5, fun i hi0 => ?_⟩
  by_cases e : i = k
  · subst e
    obtain ⟨⟨v0, e0⟩, _⟩ := F.2 (i * 2) (by omega)
    obtain ⟨⟨v1, e1⟩, _⟩ := F.2 (i * 2 + 1) (by omega)
    have hF := F.1
    clear F
    have hjj : ∀ j, j < i → (if j = i then x else X j) < x := by
      intro j hj
      rw [if_neg (by omega)]
      have := (h.2 j hj).2.1
      omega
    simp only [if_true]
    refine ⟨h1, h4, hjj, by simpa using hF, ?_, ?_, (o1.other (by omega) _ _).other (by omega) _ _⟩
    · simp [go_sem, e0]
    · simp [go_sem, e1]
  · have hq := ((h.set (q := k * 2) (Nat.le_refl _) (.slice (some ⟨x, 0, none⟩) (T k).n (T k).n)).set (q := k * 2 + 1) (by omega) (.string (T k).v)).2 i (by omega)
    obtain ⟨g1, g3, gj, g4, rest⟩ := hq
    simp only [if_neg e]
    refine ⟨g1, by omega, fun j hj => ?_, g4, rest⟩
    rw [if_neg (by omega)]
    exact gj j hj
theorem RowFO.other {c k : Nat} {X : Nat → Nat} {hi : Nat} {T : Nat → Lf} {w : World} (h : RowFO c k X hi T w) {d : Nat} (hd : d < c) (o : Nat) (v : Value) : RowFO c k X hi T (w.setCell ⟨d, o, none⟩ v) := by
  refine ⟨by simpa using h.1, fun i hi => ?_⟩
  obtain ⟨h1, h3, hj, h4, c0, c1, o1⟩ := h.2 i hi
  refine ⟨h1, h3, hj, by simpa using h4, ?_, ?_, o1.other (by omega) _ _⟩
  · rw [World.cell?_setCell_other _ _ _ _ (by simp <;> omega)]; exact c0
  · rw [World.cell?_setCell_other _ _ _ _ (by simp <;> omega)]; exact c1
end Go.Proofs.Ytddebnokdcajbaa
