/- Rows of offers in memory: a prefix, and a list of offers. -/
import Derived.Test.YtjjdfniemlcnnaaMark8
namespace Go.Proofs.Ytjjdfniemlcnnaa
open Go.RowKit

/-- A row as it lies: its prefix, and where its offers are. -/
abbrev Kr := Int × Int × Option Addr × Nat × Nat
/-- What a row says. -/
structure Rc where
  ad : Int
  ln : Int
  n : Nat
  T : Nat → Oc
def rc0 : Rc := ⟨0, 0, 0, fun _ => oc0⟩
def Rc.tot (p : Rc) : Nat := p.n + totO p.T p.n
/-- m rows at a. -/
def RowR (a : Option Addr) (m : Nat) (U : Nat → Rc) (w : World) : Prop := ∀ i, i < m → ∃ (b off : Nat) (a0 : Option Addr) (c0 : Nat), a = some ⟨b, off, none⟩ ∧ b < w.heap.size ∧ w.cell? ⟨b, off + i * 3, none⟩ = some (.int .i64 (U i).ad) ∧ w.cell? ⟨b, off + i * 3 + 1, none⟩ = some (.int .i64 (U i).ln) ∧ w.cell? ⟨b, off + i * 3 + 2, none⟩ = some (.slice a0 (U i).n c0) ∧ RowO a0 (U i).n (U i).T w
theorem RowR.below {a : Option Addr} {m : Nat} {U : Nat → Rc} {w w' : World} (h : RowR a m U w) (k : Below w.heap.size w w') : RowR a m U w' := by
  intro i hi
  obtain ⟨b, off, a0, c0, ha, hb, h0, h1, h2, ht⟩ := h i hi
  obtain ⟨hc, _⟩ := bcell k
  exact ⟨b, off, a0, c0, ha, Nat.lt_of_lt_of_le hb k.size, (hc _ _ hb).trans h0, (hc _ _ hb).trans h1, (hc _ _ hb).trans h2, ht.below k⟩
def LowR (m : Nat) (U : Nat → Rc) : Prop := ∀ i, i < m → (U i).n ≤ 1048576 ∧ totO (U i).T (U i).n ≤ 1048576
def MaxR (m : Nat) (U : Nat → Rc) : Prop := ∀ i, i < m → (U i).n ≤ maxLen ∧ MaxO (U i).n (U i).T
/-- How much is in the first k rows. -/
def totR (U : Nat → Rc) : Nat → Nat
  | 0 => 0
  | k + 1 => totR U k + (U k).tot
theorem totR_mono (U : Nat → Rc) {k n : Nat} (h : k ≤ n) : totR U k ≤ totR U n := by
  induction n with
  | zero => have : k = 0 := by omega
            subst this; exact Nat.le_refl _
  | succ n ih =>
    by_cases e : k = n + 1
    · subst e; exact Nat.le_refl _
    · exact Nat.le_trans (ih (by omega)) (Nat.le_add_right _ _)
theorem lowR_of {U : Nat → Rc} {n : Nat} (h : totR U n ≤ 1048576) : LowR n U := by
  intro i hi
  have h1 := totR_mono U (show i + 1 ≤ n by omega)
  have h2 : totR U (i + 1) = totR U i + (U i).tot := rfl
  have h3 : (U i).tot = (U i).n + totO (U i).T (U i).n := rfl
  exact ⟨by omega, by omega⟩
theorem RowOO.onlyS {P : Nat → Prop} {c k : Nat} {X Y : Nat → Nat} {hi : Nat} {T : Nat → Oc} {w w' : World} (h : RowOO c k X Y hi T w) (b : OnlyS P w w') (hn : ∀ q, c ≤ q → q < hi → ¬ P q) : RowOO c k X Y hi T w' := by
  refine ⟨Nat.le_trans h.1 b.2.2.2.1, fun i hi => ?_⟩
  obtain ⟨h1, h2, h3, hj, h4, c0, c1, c2, c3, c4, c5, c6, o1, o2⟩ := h.2 i hi
  have hc := hn c (Nat.le_refl _) (by omega)
  exact ⟨h1, h2, h3, hj, Nat.lt_of_lt_of_le h4 b.2.2.2.1, (b.cell h4 hc).trans c0, (b.cell h4 hc).trans c1, (b.cell h4 hc).trans c2, (b.cell h4 hc).trans c3, (b.cell h4 hc).trans c4, (b.cell h4 hc).trans c5, (b.cell h4 hc).trans c6, o1.onlyS b (hn _ (by omega) (by omega)), o2.onlyS b (hn _ (by omega) h3)⟩
theorem RowOO.out {c k : Nat} {X Y : Nat → Nat} {hi : Nat} {T : Nat → Oc} {w : World} (h : RowOO c k X Y hi T w) {d : Nat} (hd : d < c) (o : Nat) (v : Value) : RowOO c k X Y hi T (w.setCell ⟨d, o, none⟩ v) := by
  refine ⟨by simpa using h.1, fun i hi => ?_⟩
  obtain ⟨h1, h2, h3, hj, h4, c0, c1, c2, c3, c4, c5, c6, o1, o2⟩ := h.2 i hi
  refine ⟨h1, h2, h3, hj, by simpa using h4, ?_, ?_, ?_, ?_, ?_, ?_, ?_, o1.other (by omega) _ _, o2.other (by omega) _ _⟩ <;> (rw [World.cell?_setCell_other _ _ _ _ (by simp <;> omega)]; assumption)
theorem RowOO.hi {c k : Nat} {X Y : Nat → Nat} {hi hi' : Nat} {T : Nat → Oc} {w : World} (h : RowOO c k X Y hi T w) (e : hi' = hi) : RowOO c k X Y hi' T w := e ▸ h
theorem FreeB.out {c n : Nat} {w : World} (h : FreeB c n w) {d : Nat} (hd : d ≠ c) (j : Nat) (x : Value) : FreeB c n (w.setCell ⟨d, j, none⟩ x) := by
  refine ⟨by simpa using h.1, fun q hq => ?_⟩
  obtain ⟨⟨v, hv⟩, hz⟩ := h.2 q hq
  refine ⟨⟨v, ?_⟩, by simpa [go_sem] using hz⟩
  rw [World.cell?_setCell_other _ _ _ _ (by simp <;> omega)]; exact hv
theorem FreeB.onlyS {P : Nat → Prop} {c n : Nat} {w w' : World} (h : FreeB c n w) (b : OnlyS P w w') (hn : ¬ P c) : FreeB c n w' := by
  refine ⟨Nat.lt_of_lt_of_le h.1 b.2.2.2.1, fun q hq => ?_⟩
  obtain ⟨⟨v, hv⟩, hz⟩ := h.2 q hq
  exact ⟨⟨v, (b.cell h.1 hn).trans hv⟩, (b.frozen h.1 hn).trans hz⟩
/-- Row i of a copy in block c: its offers in a block of their own, what they hold behind it and ahead of H i. -/
def OneR (c : Nat) (X H : Nat → Nat) (hi : Nat) (U : Nat → Rc) (w : World) (i : Nat) : Prop := c < X i ∧ X i < H i ∧ H i ≤ hi ∧ (∀ j, j < i → H j ≤ X i) ∧ c < w.heap.size ∧
  w.cell? ⟨c, i * 3, none⟩ = some (.int .i64 (U i).ad) ∧ w.cell? ⟨c, i * 3 + 1, none⟩ = some (.int .i64 (U i).ln) ∧ w.cell? ⟨c, i * 3 + 2, none⟩ = some (.slice (some ⟨X i, 0, none⟩) (U i).n (U i).n) ∧ FreeB (X i) ((U i).n * 7) w ∧ ∃ Y Z, RowOO (X i) (U i).n Y Z (H i) (U i).T w
def RowRO (c k : Nat) (X H : Nat → Nat) (hi : Nat) (U : Nat → Rc) (w : World) : Prop := hi ≤ w.heap.size ∧ ∀ i, i < k → OneR c X H hi U w i
theorem OneR.below {c : Nat} {X H : Nat → Nat} {hi : Nat} {U : Nat → Rc} {w w' : World} {i : Nat} (h : OneR c X H hi U w i) (b : Below w.heap.size w w') : OneR c X H hi U w' i := by
  obtain ⟨hc, _⟩ := bcell b
  obtain ⟨h1, h2, h3, hj, h4, c0, c1, c2, F, Y, Z, o1⟩ := h
  exact ⟨h1, h2, h3, hj, Nat.lt_of_lt_of_le h4 b.size, (hc _ _ h4).trans c0, (hc _ _ h4).trans c1, (hc _ _ h4).trans c2, F.below b, Y, Z, o1.below b⟩
theorem RowRO.below {c k : Nat} {X H : Nat → Nat} {hi : Nat} {U : Nat → Rc} {w w' : World} (h : RowRO c k X H hi U w) (b : Below w.heap.size w w') : RowRO c k X H hi U w' :=
  ⟨Nat.le_trans h.1 b.size, fun i hi => (h.2 i hi).below b⟩
theorem OneR.onlyS {P : Nat → Prop} {c : Nat} {X H : Nat → Nat} {hi : Nat} {U : Nat → Rc} {w w' : World} {i : Nat} (h : OneR c X H hi U w i) (b : OnlyS P w w') (hc : ¬ P c) (hn : ∀ q, X i ≤ q → q < H i → ¬ P q) : OneR c X H hi U w' i := by
  obtain ⟨h1, h2, h3, hj, h4, c0, c1, c2, F, Y, Z, o1⟩ := h
  exact ⟨h1, h2, h3, hj, Nat.lt_of_lt_of_le h4 b.2.2.2.1, (b.cell h4 hc).trans c0, (b.cell h4 hc).trans c1, (b.cell h4 hc).trans c2, F.onlyS b (hn _ (Nat.le_refl _) h2), Y, Z, o1.onlyS b hn⟩
theorem RowRO.onlyS {P : Nat → Prop} {c k : Nat} {X H : Nat → Nat} {hi : Nat} {U : Nat → Rc} {w w' : World} (h : RowRO c k X H hi U w) (b : OnlyS P w w') (hn : ∀ q, c ≤ q → q < hi → ¬ P q) (hk : c < hi) : RowRO c k X H hi U w' :=
  ⟨Nat.le_trans h.1 b.2.2.2.1, fun i hi => by
    have g := h.2 i hi
    have g1 := g.1
    have g2 := g.2.1
    have g3 := g.2.2.1
    exact g.onlyS b (hn _ (Nat.le_refl _) hk) (fun q h1 h2 => hn q (by omega) (by omega))⟩
theorem RowRO.row {c n : Nat} {X H : Nat → Nat} {hi : Nat} {U : Nat → Rc} {w : World} (h : RowRO c n X H hi U w) : RowR (some ⟨c, 0, none⟩) n U w := by
  intro i hi
  obtain ⟨h1, h2, h3, hj, h4, c0, c1, c2, F, Y, Z, o1⟩ := h.2 i hi
  exact ⟨c, 0, _, _, rfl, h4, by rw [Nat.zero_add]; exact c0, by rw [Nat.zero_add]; exact c1, by rw [Nat.zero_add]; exact c2, o1.row⟩
theorem OneR.set {c : Nat} {X H : Nat → Nat} {hi : Nat} {U : Nat → Rc} {w : World} {i : Nat} (h : OneR c X H hi U w i) {q : Nat} (hq : q < i * 3 ∨ i * 3 + 3 ≤ q) (v : Value) : OneR c X H hi U (w.setCell ⟨c, q, none⟩ v) i := by
  obtain ⟨h1, h2, h3, hj, h4, c0, c1, c2, F, Y, Z, o1⟩ := h
  refine ⟨h1, h2, h3, hj, by simpa using h4, ?_, ?_, ?_, F.out (by omega) _ _, Y, Z, o1.out (by omega) _ _⟩ <;> (rw [World.cell?_setCell_other _ _ _ _ (by simp <;> omega)]; assumption)
theorem RowRO.set {c k : Nat} {X H : Nat → Nat} {hi : Nat} {U : Nat → Rc} {w : World} (h : RowRO c k X H hi U w) {q : Nat} (hq : k * 3 ≤ q) (v : Value) : RowRO c k X H hi U (w.setCell ⟨c, q, none⟩ v) :=
  ⟨by simpa using h.1, fun i hi => (h.2 i hi).set (by omega) v⟩
theorem RowRO.next {c n k : Nat} {X H : Nat → Nat} {hi hi' : Nat} {U : Nat → Rc} {w : World} (h : RowRO c k X H hi U w) (F : FreeB c (n * 3) w) (hk : k < n) {x : Nat} (h1 : c < x) (h3 : hi ≤ x) (h4 : x < hi') (h5 : hi' ≤ w.heap.size)
    {Y Z : Nat → Nat} (G : FreeB x ((U k).n * 7) w) (o1 : RowOO x (U k).n Y Z hi' (U k).T w) :
    RowRO c (k + 1) (fun i => if i = k then x else X i) (fun i => if i = k then hi' else H i) hi' U (((w.setCell ⟨c, k * 3, none⟩ (.int .i64 (U k).ad)).setCell ⟨c, k * 3 + 1, none⟩ (.int .i64 (U k).ln)).setCell ⟨c, k * 3 + 2, none⟩ (.slice (some ⟨x, 0, none⟩) (U k).n (U k).n)) := by
  refine ⟨by simpa using h5, fun i hi0 => ?_⟩
  by_cases e : i = k
  · subst e
    obtain ⟨⟨v0, e0⟩, _⟩ := F.2 (i * 3) (by omega)
    obtain ⟨⟨v1, e1⟩, _⟩ := F.2 (i * 3 + 1) (by omega)
    obtain ⟨⟨v2, e2⟩, _⟩ := F.2 (i * 3 + 2) (by omega)
    have hF := F.1
    clear F
    have hjj : ∀ j, j < i → (if j = i then hi' else H j) ≤ x := by
      intro j hj
      rw [if_neg (by omega)]
      have := (h.2 j hj).2.2.1
      omega
    unfold OneR
    simp only [if_true]
    refine ⟨h1, h4, Nat.le_refl _, hjj, by simpa using hF, ?_, ?_, ?_, ((G.out (by omega) _ _).out (by omega) _ _).out (by omega) _ _, Y, Z, ((o1.out h1 _ _).out h1 _ _).out h1 _ _⟩
    · simp [go_sem, e0]
    · simp [go_sem, e1]
    · simp [go_sem, e2]
  · have hq := (((h.set (q := k * 3) (by omega) (.int .i64 (U k).ad)).set (q := k * 3 + 1) (by omega) (.int .i64 (U k).ln)).set (q := k * 3 + 2) (by omega) (.slice (some ⟨x, 0, none⟩) (U k).n (U k).n)).2 i (by omega)
    obtain ⟨g1, g2, g3, gj, g4, rest⟩ := hq
    unfold OneR
    simp only [if_neg e]
    refine ⟨g1, g2, by omega, fun j hj => ?_, g4, rest⟩
    rw [if_neg (by omega)]
    exact gj j hj
theorem RowRO.out {c k : Nat} {X H : Nat → Nat} {hi : Nat} {U : Nat → Rc} {w : World} (h : RowRO c k X H hi U w) {d : Nat} (hd : d < c) (o : Nat) (v : Value) : RowRO c k X H hi U (w.setCell ⟨d, o, none⟩ v) := by
  refine ⟨by simpa using h.1, fun i hi => ?_⟩
  obtain ⟨h1, h2, h3, hj, h4, c0, c1, c2, F, Y, Z, o1⟩ := h.2 i hi
  refine ⟨h1, h2, h3, hj, by simpa using h4, ?_, ?_, ?_, F.out (by omega) _ _, Y, Z, o1.out (by omega) _ _⟩ <;> (rw [World.cell?_setCell_other _ _ _ _ (by simp <;> omega)]; assumption)
theorem RowRO.hi {c k : Nat} {X H : Nat → Nat} {hi hi' : Nat} {U : Nat → Rc} {w : World} (h : RowRO c k X H hi U w) (e : hi' = hi) : RowRO c k X H hi' U w := e ▸ h
end Go.Proofs.Ytjjdfniemlcnnaa
