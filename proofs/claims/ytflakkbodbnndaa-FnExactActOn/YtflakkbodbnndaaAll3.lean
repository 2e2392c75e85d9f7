/- Lists of offers as the laws hand them over: their size, a copy, a comparison. -/
import Derived.Test.YtflakkbodbnndaaFlatAttrs
import Derived.Test.YtflakkbodbnndaaAll2
import Derived.Lib.QuietBelow
/- Offers in memory: a peer, and attrs with two lists of numbers. -/
namespace Go.Proofs.Ytflakkbodbnndaa
open Go.RowKit

/-- What an offer says. -/
structure Oc where
  pe : Int
  o : Int
  nx : Int
  md : Int
  pf : Int
  n0 : Nat
  f : Nat → Int
  n1 : Nat
  g : Nat → Int
def Oc.tot (t : Oc) : Nat := t.n0 + t.n1
def oc0 : Oc := ⟨0, 0, 0, 0, 0, 0, fun _ => 0, 0, fun _ => 0⟩
/-- The lists of an offer lie there. -/
def OfIn (a0 a1 : Option Addr) (t : Oc) (w : World) : Prop := RowInt a0 t.n0 t.f w ∧ RowInt a1 t.n1 t.g w
theorem OfIn.below {a0 a1 : Option Addr} {t : Oc} {w w' : World} (h : OfIn a0 a1 t w) (k : Below w.heap.size w w') : OfIn a0 a1 t w' := ⟨h.1.below k, h.2.below k⟩
/-- n offers at a. -/
def RowO (a : Option Addr) (n : Nat) (T : Nat → Oc) (w : World) : Prop := ∀ i, i < n → ∃ (b off : Nat) (a0 : Option Addr) (c0 : Nat) (a1 : Option Addr) (c1 : Nat), a = some ⟨b, off, none⟩ ∧ b < w.heap.size ∧
  w.cell? ⟨b, off + i * 7, none⟩ = some (.int .i64 (T i).pe) ∧ w.cell? ⟨b, off + i * 7 + 1, none⟩ = some (.int .i64 (T i).o) ∧ w.cell? ⟨b, off + i * 7 + 2, none⟩ = some (.slice a0 (T i).n0 c0) ∧ w.cell? ⟨b, off + i * 7 + 3, none⟩ = some (.int .i64 (T i).nx) ∧ w.cell? ⟨b, off + i * 7 + 4, none⟩ = some (.int .i64 (T i).md) ∧ w.cell? ⟨b, off + i * 7 + 5, none⟩ = some (.int .i64 (T i).pf) ∧ w.cell? ⟨b, off + i * 7 + 6, none⟩ = some (.slice a1 (T i).n1 c1) ∧ OfIn a0 a1 (T i) w
theorem RowO.below {a : Option Addr} {n : Nat} {T : Nat → Oc} {w w' : World} (h : RowO a n T w) (k : Below w.heap.size w w') : RowO a n T w' := by
  intro i hi
  obtain ⟨b, off, a0, c0, a1, c1, ha, hb, h0, h1, h2, h3, h4, h5, h6, ht⟩ := h i hi
  obtain ⟨hc, _⟩ := bcell k
  exact ⟨b, off, a0, c0, a1, c1, ha, Nat.lt_of_lt_of_le hb k.size, (hc _ _ hb).trans h0, (hc _ _ hb).trans h1, (hc _ _ hb).trans h2, (hc _ _ hb).trans h3, (hc _ _ hb).trans h4, (hc _ _ hb).trans h5, (hc _ _ hb).trans h6, ht.below k⟩
/-- All lists of the offers are short. -/
def LowO (n : Nat) (T : Nat → Oc) : Prop := ∀ i, i < n → (T i).n0 ≤ 1048576 ∧ (T i).n1 ≤ 1048576
def MaxO (n : Nat) (T : Nat → Oc) : Prop := ∀ i, i < n → (T i).n0 ≤ maxLen ∧ (T i).n1 ≤ maxLen
/-- How much is in the first k offers. -/
def totO (T : Nat → Oc) : Nat → Nat
  | 0 => 0
  | k + 1 => totO T k + (T k).tot
theorem totO_mono (T : Nat → Oc) {k n : Nat} (h : k ≤ n) : totO T k ≤ totO T n := by
  induction n with
  | zero => have : k = 0 := by omega
            subst this; exact Nat.le_refl _
  | succ n ih =>
    by_cases e : k = n + 1
    · subst e; exact Nat.le_refl _
    · exact Nat.le_trans (ih (by omega)) (Nat.le_add_right _ _)
theorem lowO_of {T : Nat → Oc} {n : Nat} (h : totO T n ≤ 1048576) : LowO n T := by
  intro i hi
  have h1 := totO_mono T (show i + 1 ≤ n by omega)
  have h2 : totO T (i + 1) = totO T i + (T i).tot := rfl
  have h3 : (T i).tot = (T i).n0 + (T i).n1 := rfl
  omega
/-- A block of n cells that may be written. -/
def FreeB (c n : Nat) (w : World) : Prop := c < w.heap.size ∧ ∀ q, q < n → (∃ v, w.cell? ⟨c, q, none⟩ = some v) ∧ w.frozen? ⟨c, q, none⟩ = false
theorem FreeB.below {c n : Nat} {w w' : World} (h : FreeB c n w) (k : Below w.heap.size w w') : FreeB c n w' := by
  obtain ⟨hc, hf⟩ := bcell k
  refine ⟨Nat.lt_of_lt_of_le h.1 k.size, fun q hq => ?_⟩
  obtain ⟨⟨v, hv⟩, hz⟩ := h.2 q hq
  exact ⟨⟨v, (hc _ _ h.1).trans hv⟩, (hf _ _ h.1).trans hz⟩
theorem FreeB.set {c n : Nat} {w : World} (h : FreeB c n w) (j : Nat) (x : Value) : FreeB c n (w.setCell ⟨c, j, none⟩ x) := by
  refine ⟨by simpa using h.1, fun q hq => ?_⟩
  obtain ⟨⟨v, hv⟩, hz⟩ := h.2 q hq
  refine ⟨?_, by simpa [go_sem] using hz⟩
  by_cases e : j = q
  · subst e
    exact ⟨x, by simp [go_sem, hv]⟩
  · exact ⟨v, by rw [World.cell?_setCell_other _ _ _ _ (by simp <;> omega)]; exact hv⟩
theorem FreeB.new (w : World) (cs : Array Value) (t : TypeId) : FreeB w.heap.size cs.size (w.alloc (.cells cs t)) :=
  ⟨by simp, fun q hq => ⟨⟨cs[q], by simp [go_sem, hq]⟩, by simp [go_sem]⟩⟩
/-- The first k offers of a copy in block c; their lists lie behind it, each in a block of its own, one behind the other, all ahead of hi. -/
def RowOO (c k : Nat) (X Y : Nat → Nat) (hi : Nat) (T : Nat → Oc) (w : World) : Prop := hi ≤ w.heap.size ∧ ∀ i, i < k → c < X i ∧ X i < Y i ∧ Y i < hi ∧ (∀ j, j < i → Y j < X i) ∧ c < w.heap.size ∧
  w.cell? ⟨c, i * 7, none⟩ = some (.int .i64 (T i).pe) ∧ w.cell? ⟨c, i * 7 + 1, none⟩ = some (.int .i64 (T i).o) ∧ w.cell? ⟨c, i * 7 + 2, none⟩ = some (.slice (some ⟨X i, 0, none⟩) (T i).n0 (T i).n0) ∧ w.cell? ⟨c, i * 7 + 3, none⟩ = some (.int .i64 (T i).nx) ∧ w.cell? ⟨c, i * 7 + 4, none⟩ = some (.int .i64 (T i).md) ∧ w.cell? ⟨c, i * 7 + 5, none⟩ = some (.int .i64 (T i).pf) ∧ w.cell? ⟨c, i * 7 + 6, none⟩ = some (.slice (some ⟨Y i, 0, none⟩) (T i).n1 (T i).n1) ∧
  OutInt (X i) (T i).n0 (T i).n0 (T i).f w ∧ OutInt (Y i) (T i).n1 (T i).n1 (T i).g w
theorem RowOO.below {c k : Nat} {X Y : Nat → Nat} {hi : Nat} {T : Nat → Oc} {w w' : World} (h : RowOO c k X Y hi T w) (b : Below w.heap.size w w') : RowOO c k X Y hi T w' := by
  refine ⟨Nat.le_trans h.1 b.size, fun i hi => ?_⟩
  obtain ⟨hc, _⟩ := bcell b
  obtain ⟨h1, h2, h3, hj, h4, c0, c1, c2, c3, c4, c5, c6, o1, o2⟩ := h.2 i hi
  exact ⟨h1, h2, h3, hj, Nat.lt_of_lt_of_le h4 b.size, (hc _ _ h4).trans c0, (hc _ _ h4).trans c1, (hc _ _ h4).trans c2, (hc _ _ h4).trans c3, (hc _ _ h4).trans c4, (hc _ _ h4).trans c5, (hc _ _ h4).trans c6, o1.below b, o2.below b⟩
theorem RowOO.row {c n : Nat} {X Y : Nat → Nat} {hi : Nat} {T : Nat → Oc} {w : World} (h : RowOO c n X Y hi T w) : RowO (some ⟨c, 0, none⟩) n T w := by
  intro i hi
  obtain ⟨h1, h2, h3, hj, h4, c0, c1, c2, c3, c4, c5, c6, o1, o2⟩ := h.2 i hi
  exact ⟨c, 0, _, _, _, _, rfl, h4, by rw [Nat.zero_add]; exact c0, by rw [Nat.zero_add]; exact c1, by rw [Nat.zero_add]; exact c2, by rw [Nat.zero_add]; exact c3, by rw [Nat.zero_add]; exact c4, by rw [Nat.zero_add]; exact c5, by rw [Nat.zero_add]; exact c6, o1.row, o2.row⟩
theorem RowOO.set {c k : Nat} {X Y : Nat → Nat} {hi : Nat} {T : Nat → Oc} {w : World} (h : RowOO c k X Y hi T w) {q : Nat} (hq : k * 7 ≤ q) (v : Value) : RowOO c k X Y hi T (w.setCell ⟨c, q, none⟩ v) := by
  refine ⟨by simpa using h.1, fun i hi => ?_⟩
  obtain ⟨h1, h2, h3, hj, h4, c0, c1, c2, c3, c4, c5, c6, o1, o2⟩ := h.2 i hi
  refine ⟨h1, h2, h3, hj, by simpa using h4, ?_, ?_, ?_, ?_, ?_, ?_, ?_, o1.other (by omega) _ _, o2.other (by omega) _ _⟩
  · rw [World.cell?_setCell_other _ _ _ _ (by simp <;> omega)]; exact c0
  · rw [World.cell?_setCell_other _ _ _ _ (by simp <;> omega)]; exact c1
  · rw [World.cell?_setCell_other _ _ _ _ (by simp <;> omega)]; exact c2
  · rw [World.cell?_setCell_other _ _ _ _ (by simp <;> omega)]; exact c3
  · rw [World.cell?_setCell_other _ _ _ _ (by simp <;> omega)]; exact c4
  · rw [World.cell?_setCell_other _ _ _ _ (by simp <;> omega)]; exact c5
  · rw [World.cell?_setCell_other _ _ _ _ (by simp <;> omega)]; exact c6
theorem RowOO.next {c n k : Nat} {X Y : Nat → Nat} {hi hi' : Nat} {T : Nat → Oc} {w : World} (h : RowOO c k X Y hi T w) (F : FreeB c (n * 7) w) (hk : k < n) {x y : Nat} (h1 : c < x) (h2 : x < y) (h3 : hi ≤ x) (h4 : y < hi') (h5 : hi' ≤ w.heap.size)
    (o1 : OutInt x (T k).n0 (T k).n0 (T k).f w) (o2 : OutInt y (T k).n1 (T k).n1 (T k).g w) :
    RowOO c (k + 1) (fun i => if i = k then x else X i) (fun i => if i = k then y else Y i) hi' T (((((((w.setCell ⟨c, k * 7, none⟩ (.int .i64 (T k).pe)).setCell ⟨c, k * 7 + 1, none⟩ (.int .i64 (T k).o)).setCell ⟨c, k * 7 + 2, none⟩ (.slice (some ⟨x, 0, none⟩) (T k).n0 (T k).n0)).setCell ⟨c, k * 7 + 3, none⟩ (.int .i64 (T k).nx)).setCell ⟨c, k * 7 + 4, none⟩ (.int .i64 (T k).md)).setCell ⟨c, k * 7 + 5, none⟩ (.int .i64 (T k).pf)).setCell ⟨c, k * 7 + 6, none⟩ (.slice (some ⟨y, 0, none⟩) (T k).n1 (T k).n1)) := by
  refine ⟨by simpa using h5, fun i hi0 => ?_⟩
  by_cases e : i = k
  · subst e
    obtain ⟨⟨v0, e0⟩, _⟩ := F.2 (i * 7) (by omega)
    obtain ⟨⟨v1, e1⟩, _⟩ := F.2 (i * 7 + 1) (by omega)
    obtain ⟨⟨v2, e2⟩, _⟩ := F.2 (i * 7 + 2) (by omega)
    obtain ⟨⟨v3, e3⟩, _⟩ := F.2 (i * 7 + 3) (by omega)
    obtain ⟨⟨v4, e4⟩, _⟩ := F.2 (i * 7 + 4) (by omega)
    obtain ⟨⟨v5, e5⟩, _⟩ := F.2 (i * 7 + 5) (by omega)
    obtain ⟨⟨v6, e6⟩, _⟩ := F.2 (i * 7 + 6) (by omega)
    have hF := F.1
    clear F
    have hjj : ∀ j, j < i → (if j = i then y else Y j) < x := by
      intro j hj
      rw [if_neg (by omega)]
      have := (h.2 j hj).2.2.1
      omega
    simp only [if_true]
    refine ⟨h1, h2, h4, hjj, by simpa using hF, ?_, ?_, ?_, ?_, ?_, ?_, ?_, ?_, ?_⟩
    · simp [go_sem, e0]
    · simp [go_sem, e1]
    · simp [go_sem, e2]
    · simp [go_sem, e3]
    · simp [go_sem, e4]
    · simp [go_sem, e5]
    · simp [go_sem, e6]
    · refine OutInt.other (OutInt.other (OutInt.other (OutInt.other (OutInt.other (OutInt.other (OutInt.other o1 ?_ _ _) ?_ _ _) ?_ _ _) ?_ _ _) ?_ _ _) ?_ _ _) ?_ _ _ <;> omega
    · refine OutInt.other (OutInt.other (OutInt.other (OutInt.other (OutInt.other (OutInt.other (OutInt.other o2 ?_ _ _) ?_ _ _) ?_ _ _) ?_ _ _) ?_ _ _) ?_ _ _) ?_ _ _ <;> omega
  · have hq := ((((((((h.set (q := k * 7) (by omega) (.int .i64 (T k).pe)).set (q := k * 7 + 1) (by omega) (.int .i64 (T k).o)).set (q := k * 7 + 2) (by omega) (.slice (some ⟨x, 0, none⟩) (T k).n0 (T k).n0)).set (q := k * 7 + 3) (by omega) (.int .i64 (T k).nx)).set (q := k * 7 + 4) (by omega) (.int .i64 (T k).md)).set (q := k * 7 + 5) (by omega) (.int .i64 (T k).pf)).set (q := k * 7 + 6) (by omega) (.slice (some ⟨y, 0, none⟩) (T k).n1 (T k).n1))).2 i (by omega)
    obtain ⟨g1, g2, g3, gj, g4, rest⟩ := hq
    simp only [if_neg e]
    refine ⟨g1, g2, by omega, fun j hj => ?_, g4, rest⟩
    rw [if_neg (by omega)]
    exact gj j hj
end Go.Proofs.Ytflakkbodbnndaa

/- Offers as the laws hand them over: their size, a copy, a comparison. -/
namespace Go.Proofs.Ytflakkbodbnndaa
open Go.RowKit

end Go.Proofs.Ytflakkbodbnndaa

namespace Go.Proofs.Ytflakkbodbnndaa
open Go.RowKit

end Go.Proofs.Ytflakkbodbnndaa
