/- A copy of routes that grows in memory; how much is in lists of routes. -/
import Derived.Test.YtlhdeeihpaogkaaRou13
import Derived.Test.YtlhdeeihpaogkaaOff8
namespace Go.Proofs.Ytlhdeeihpaogkaa
open Go.RowKit

def MaxG (n : Nat) (T : Nat → Ro) : Prop := ∀ i, i < n → (T i).n0 ≤ maxLen ∧ (T i).n1 ≤ maxLen
/-- The first k routes of a copy in block c; their lists lie behind it, each in a block of its own, one behind the other, all ahead of hi. -/
def RowGO (c k : Nat) (X Y : Nat → Nat) (hi : Nat) (T : Nat → Ro) (w : World) : Prop := hi ≤ w.heap.size ∧ ∀ i, i < k → c < X i ∧ X i < Y i ∧ Y i < hi ∧ (∀ j, j < i → Y j < X i) ∧ c < w.heap.size ∧
  CellsO w c (i * 8) (rvG (T i) (some ⟨X i, 0, none⟩) (T i).n0 (some ⟨Y i, 0, none⟩) (T i).n1) ∧
  OutInt (X i) (T i).n0 (T i).n0 (T i).f w ∧ OutInt (Y i) (T i).n1 (T i).n1 (T i).g w
theorem RowGO.below {c k : Nat} {X Y : Nat → Nat} {hi : Nat} {T : Nat → Ro} {w w' : World} (h : RowGO c k X Y hi T w) (b : Below w.heap.size w w') : RowGO c k X Y hi T w' := by
  refine ⟨Nat.le_trans h.1 b.size, fun i hi => ?_⟩
  obtain ⟨h1, h2, h3, hj, h4, hC, o1, o2⟩ := h.2 i hi
  exact ⟨h1, h2, h3, hj, Nat.lt_of_lt_of_le h4 b.size, hC.below b, o1.below b, o2.below b⟩
theorem RowGO.row {c n : Nat} {X Y : Nat → Nat} {hi : Nat} {T : Nat → Ro} {w : World} (h : RowGO c n X Y hi T w) : RowG (some ⟨c, 0, none⟩) n T w := by
  intro i hi
  obtain ⟨h1, h2, h3, hj, h4, hC, o1, o2⟩ := h.2 i hi
  exact ⟨c, 0, _, _, _, _, rfl, by rw [Nat.zero_add]; exact hC, o1.row, o2.row⟩
theorem CellsO.far {w : World} {b off : Nat} {vs : List Value} (h : CellsO w b off vs) {q : Nat} (hq : q < off ∨ off + vs.length ≤ q) (v : Value) : CellsO (w.setCell ⟨b, q, none⟩ v) b off vs := by
  refine ⟨by simpa using h.1, fun i x hx => ?_⟩
  have hi : i < vs.length := (List.getElem?_eq_some_iff.1 hx).1
  rw [World.cell?_setCell_other _ _ _ _ (by simp <;> omega)]
  exact h.2 i x hx
theorem RowGO.set {c k : Nat} {X Y : Nat → Nat} {hi : Nat} {T : Nat → Ro} {w : World} (h : RowGO c k X Y hi T w) {q : Nat} (hq : k * 8 ≤ q) (v : Value) : RowGO c k X Y hi T (w.setCell ⟨c, q, none⟩ v) := by
  refine ⟨by simpa using h.1, fun i hi => ?_⟩
  obtain ⟨h1, h2, h3, hj, h4, hC, o1, o2⟩ := h.2 i hi
  exact ⟨h1, h2, h3, hj, by simpa using h4, hC.far (Or.inr (by simp [rvG]; omega)) v, o1.other (by omega) _ _, o2.other (by omega) _ _⟩
theorem cellsO_of8r {w : World} {b off : Nat} {t : Ro} {a0 : Option Addr} {c0 : Nat} {a1 : Option Addr} {c1 : Nat} (hb : b < w.heap.size) (h0 : w.cell? ⟨b, off, none⟩ = some (.int .i64 t.pa)) (h1 : w.cell? ⟨b, off + 1, none⟩ = some (.int .i64 t.pl)) (h2 : w.cell? ⟨b, off + 2, none⟩ = some (.int .i64 t.o)) (h3 : w.cell? ⟨b, off + 3, none⟩ = some (.slice a0 t.n0 c0)) (h4 : w.cell? ⟨b, off + 4, none⟩ = some (.int .i64 t.nx)) (h5 : w.cell? ⟨b, off + 5, none⟩ = some (.int .i64 t.md)) (h6 : w.cell? ⟨b, off + 6, none⟩ = some (.int .i64 t.pf)) (h7 : w.cell? ⟨b, off + 7, none⟩ = some (.slice a1 t.n1 c1)) : CellsO w b off (rvG t a0 c0 a1 c1) := by
  refine ⟨hb, fun i v hv => ?_⟩
  unfold rvG at hv
  match i, hv with
  | 0, hv => simp at hv; rw [← hv]; simpa using h0
  | 1, hv => simp at hv; rw [← hv]; exact h1
  | 2, hv => simp at hv; rw [← hv]; exact h2
  | 3, hv => simp at hv; rw [← hv]; exact h3
  | 4, hv => simp at hv; rw [← hv]; exact h4
  | 5, hv => simp at hv; rw [← hv]; exact h5
  | 6, hv => simp at hv; rw [← hv]; exact h6
  | 7, hv => simp at hv; rw [← hv]; exact h7
  | i + 8, hv => simp at hv
theorem RowGO.next {c n k : Nat} {X Y : Nat → Nat} {hi hi' : Nat} {T : Nat → Ro} {w : World} (h : RowGO c k X Y hi T w) (F : FreeB c (n * 8) w) (hk : k < n) {x y : Nat} (h1 : c < x) (h2 : x < y) (h3 : hi ≤ x) (h4 : y < hi') (h5 : hi' ≤ w.heap.size)
    (o1 : OutInt x (T k).n0 (T k).n0 (T k).f w) (o2 : OutInt y (T k).n1 (T k).n1 (T k).g w) :
    RowGO c (k + 1) (fun i => if i = k then x else X i) (fun i => if i = k then y else Y i) hi' T ((((((((w.setCell ⟨c, k * 8, none⟩ (.int .i64 (T k).pa)).setCell ⟨c, k * 8 + 1, none⟩ (.int .i64 (T k).pl)).setCell ⟨c, k * 8 + 2, none⟩ (.int .i64 (T k).o)).setCell ⟨c, k * 8 + 3, none⟩ (.slice (some ⟨x, 0, none⟩) (T k).n0 (T k).n0)).setCell ⟨c, k * 8 + 4, none⟩ (.int .i64 (T k).nx)).setCell ⟨c, k * 8 + 5, none⟩ (.int .i64 (T k).md)).setCell ⟨c, k * 8 + 6, none⟩ (.int .i64 (T k).pf)).setCell ⟨c, k * 8 + 7, none⟩ (.slice (some ⟨y, 0, none⟩) (T k).n1 (T k).n1)) := by
  refine ⟨by simpa using h5, fun i hi0 => ?_⟩
  by_cases e : i = k
  · subst e
    obtain ⟨⟨v0, e0⟩, _⟩ := F.2 (i * 8) (by omega)
    obtain ⟨⟨v1, e1⟩, _⟩ := F.2 (i * 8 + 1) (by omega)
    obtain ⟨⟨v2, e2⟩, _⟩ := F.2 (i * 8 + 2) (by omega)
    obtain ⟨⟨v3, e3⟩, _⟩ := F.2 (i * 8 + 3) (by omega)
    obtain ⟨⟨v4, e4⟩, _⟩ := F.2 (i * 8 + 4) (by omega)
    obtain ⟨⟨v5, e5⟩, _⟩ := F.2 (i * 8 + 5) (by omega)
    obtain ⟨⟨v6, e6⟩, _⟩ := F.2 (i * 8 + 6) (by omega)
    obtain ⟨⟨v7, e7⟩, _⟩ := F.2 (i * 8 + 7) (by omega)
    have hF := F.1
    clear F
    have hjj : ∀ j, j < i → (if j = i then y else Y j) < x := by
      intro j hj
      rw [if_neg (by omega)]
      have := (h.2 j hj).2.2.1
      omega
    simp only [if_true]
    refine ⟨h1, h2, h4, hjj, by simpa using hF, cellsO_of8r (by simpa using hF) ?_ ?_ ?_ ?_ ?_ ?_ ?_ ?_, ?_, ?_⟩
    · simp [go_sem, e0]
    · simp [go_sem, e1]
    · simp [go_sem, e2]
    · simp [go_sem, e3]
    · simp [go_sem, e4]
    · simp [go_sem, e5]
    · simp [go_sem, e6]
    · simp [go_sem, e7]
    · refine OutInt.other (OutInt.other (OutInt.other (OutInt.other (OutInt.other (OutInt.other (OutInt.other (OutInt.other o1 ?_ _ _) ?_ _ _) ?_ _ _) ?_ _ _) ?_ _ _) ?_ _ _) ?_ _ _) ?_ _ _ <;> omega
    · refine OutInt.other (OutInt.other (OutInt.other (OutInt.other (OutInt.other (OutInt.other (OutInt.other (OutInt.other o2 ?_ _ _) ?_ _ _) ?_ _ _) ?_ _ _) ?_ _ _) ?_ _ _) ?_ _ _) ?_ _ _ <;> omega
  · have hq := (((((((((h.set (q := k * 8) (by omega) (.int .i64 (T k).pa)).set (q := k * 8 + 1) (by omega) (.int .i64 (T k).pl)).set (q := k * 8 + 2) (by omega) (.int .i64 (T k).o)).set (q := k * 8 + 3) (by omega) (.slice (some ⟨x, 0, none⟩) (T k).n0 (T k).n0)).set (q := k * 8 + 4) (by omega) (.int .i64 (T k).nx)).set (q := k * 8 + 5) (by omega) (.int .i64 (T k).md)).set (q := k * 8 + 6) (by omega) (.int .i64 (T k).pf)).set (q := k * 8 + 7) (by omega) (.slice (some ⟨y, 0, none⟩) (T k).n1 (T k).n1))).2 i (by omega)
    obtain ⟨g1, g2, g3, gj, g4, rest⟩ := hq
    simp only [if_neg e]
    refine ⟨g1, g2, by omega, fun j hj => ?_, g4, rest⟩
    rw [if_neg (by omega)]
    exact gj j hj
theorem CellsO.mutO {w : World} {b off : Nat} {vs : List Value} (h : CellsO w b off vs) (hf : ∀ q, q < vs.length → w.frozen? ⟨b, off + q, none⟩ = false) : MutO w b off vs := ⟨h.1, h.2, hf⟩
theorem RowGO.own {c n : Nat} {X Y : Nat → Nat} {hi : Nat} {T : Nat → Ro} {w : World} (h : RowGO c n X Y hi T w) (F : FreeB c (n * 8) w) : RowGA c n X Y (fun i => (T i).n0) (fun i => (T i).n1) T w ∧ SepO c n X Y ∧ ∀ k, BlkO c n X Y k → k = c ∨ (c < k ∧ k < hi) := by
  refine ⟨fun i hi => ?_, fun i hi => ?_, fun k hk => ?_⟩
  · obtain ⟨h1, h2, h3, hj, h4, hC, o1, o2⟩ := h.2 i hi
    exact ⟨hC.mutO (fun q hq => (F.2 _ (by simp [rvG] at hq; omega)).2), o1, o2⟩
  · obtain ⟨h1, h2, h3, hj, _⟩ := h.2 i hi
    refine ⟨by omega, by omega, by omega, fun j hjn hji => ?_⟩
    obtain ⟨g1, g2, g3, gj, _⟩ := h.2 j hjn
    rcases Nat.lt_or_gt_of_ne hji with hlt | hlt
    · have := hj j hlt
      exact ⟨by omega, by omega, by omega, by omega⟩
    · have := gj i hlt
      exact ⟨by omega, by omega, by omega, by omega⟩
  · rcases hk with rfl | ⟨i, hi, rfl | rfl⟩
    · exact Or.inl rfl
    · obtain ⟨h1, h2, h3, _⟩ := h.2 i hi
      exact Or.inr ⟨by omega, by omega⟩
    · obtain ⟨h1, h2, h3, _⟩ := h.2 i hi
      exact Or.inr ⟨by omega, by omega⟩
end Go.Proofs.Ytlhdeeihpaogkaa
