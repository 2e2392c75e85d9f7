/- Lists of routes in memory: read, compared, marked, looked at again. -/
import Derived.Test.YtflakkbodbnndaaMark8
import Derived.Test.YtflakkbodbnndaaFlatRoute
namespace Go.Proofs.Ytflakkbodbnndaa
open Go.RowKit

/-- What a route says. -/
structure Ro where
  pa : Int
  pl : Int
  o : Int
  nx : Int
  md : Int
  pf : Int
  n0 : Nat
  f : Nat → Int
  n1 : Nat
  g : Nat → Int
def Ro.tot (t : Ro) : Nat := t.n0 + t.n1
def ro0 : Ro := ⟨0, 0, 0, 0, 0, 0, 0, fun _ => 0, 0, fun _ => 0⟩
def totG (T : Nat → Ro) : Nat → Nat
  | 0 => 0
  | k + 1 => totG T k + (T k).tot
theorem totG_mono (T : Nat → Ro) {k n : Nat} (h : k ≤ n) : totG T k ≤ totG T n := by
  induction n with
  | zero => have : k = 0 := by omega
            subst this; exact Nat.le_refl _
  | succ n ih =>
    by_cases e : k = n + 1
    · subst e; exact Nat.le_refl _
    · exact Nat.le_trans (ih (by omega)) (Nat.le_add_right _ _)
def LowG (n : Nat) (T : Nat → Ro) : Prop := ∀ i, i < n → (T i).n0 ≤ 1048576 ∧ (T i).n1 ≤ 1048576
theorem lowG_of {T : Nat → Ro} {n : Nat} (h : totG T n ≤ 1048576) : LowG n T := by
  intro i hi
  have h1 := totG_mono T (show i + 1 ≤ n by omega)
  have h2 : totG T (i + 1) = totG T i + (T i).tot := rfl
  have h3 : (T i).tot = (T i).n0 + (T i).n1 := rfl
  omega
/-- Cells of block b from off on. -/
def CellsO (w : World) (b off : Nat) (vs : List Value) : Prop := b < w.heap.size ∧ ∀ i v, vs[i]? = some v → w.cell? ⟨b, off + i, none⟩ = some v
theorem CellsO.below {w w' : World} {b off : Nat} {vs : List Value} (h : CellsO w b off vs) (k : Below w.heap.size w w') : CellsO w' b off vs :=
  ⟨Nat.lt_of_lt_of_le h.1 k.size, fun i v hv => ((bcell k).1 _ _ h.1).trans (h.2 i v hv)⟩
/-- A route's cells. -/
def rvG (t : Ro) (a0 : Option Addr) (c0 : Nat) (a1 : Option Addr) (c1 : Nat) : List Value := [.int .i64 t.pa, .int .i64 t.pl, .int .i64 t.o, .slice a0 t.n0 c0, .int .i64 t.nx, .int .i64 t.md, .int .i64 t.pf, .slice a1 t.n1 c1]
/-- n routes at a. -/
def RowG (a : Option Addr) (n : Nat) (T : Nat → Ro) (w : World) : Prop := ∀ i, i < n → ∃ (b off : Nat) (a0 : Option Addr) (c0 : Nat) (a1 : Option Addr) (c1 : Nat), a = some ⟨b, off, none⟩ ∧ CellsO w b (off + i * 8) (rvG (T i) a0 c0 a1 c1) ∧ RowInt a0 (T i).n0 (T i).f w ∧ RowInt a1 (T i).n1 (T i).g w
theorem RowG.below {a : Option Addr} {n : Nat} {T : Nat → Ro} {w w' : World} (h : RowG a n T w) (k : Below w.heap.size w w') : RowG a n T w' := by
  intro i hi
  obtain ⟨b, off, a0, c0, a1, c1, ha, hC, h0, h1⟩ := h i hi
  exact ⟨b, off, a0, c0, a1, c1, ha, hC.below k, h0.below k, h1.below k⟩
/-- n routes in block c, their lists in blocks X, Y; all may be written. -/
def OneGA (c : Nat) (X Y K L : Nat → Nat) (T : Nat → Ro) (w : World) (i : Nat) : Prop := MutO w c (i * 8) (rvG (T i) (some ⟨X i, 0, none⟩) (K i) (some ⟨Y i, 0, none⟩) (L i)) ∧ OutInt (X i) (T i).n0 (T i).n0 (T i).f w ∧ OutInt (Y i) (T i).n1 (T i).n1 (T i).g w
def RowGA (c n : Nat) (X Y : Nat → Nat) (K L : Nat → Nat) (T : Nat → Ro) (w : World) : Prop := ∀ i, i < n → OneGA c X Y K L T w i
theorem RowGA.below {c n : Nat} {X Y K L : Nat → Nat} {T : Nat → Ro} {w w' : World} (h : RowGA c n X Y K L T w) (b : Below w.heap.size w w') : RowGA c n X Y K L T w' :=
  fun i hi => ⟨(h i hi).1.below b, (h i hi).2.1.below b, (h i hi).2.2.below b⟩
theorem RowGA.onlyS {P : Nat → Prop} {c n : Nat} {X Y K L : Nat → Nat} {T : Nat → Ro} {w w' : World} (h : RowGA c n X Y K L T w) (b : OnlyS P w w') (hn : ∀ k, BlkO c n X Y k → ¬ P k) : RowGA c n X Y K L T w' :=
  fun i hi => ⟨(h i hi).1.onlyS b (hn c (Or.inl rfl)), (h i hi).2.1.onlyS b (hn _ (Or.inr ⟨i, hi, Or.inl rfl⟩)), (h i hi).2.2.onlyS b (hn _ (Or.inr ⟨i, hi, Or.inr rfl⟩))⟩
theorem RowGA.row {c n : Nat} {X Y K L : Nat → Nat} {T : Nat → Ro} {w : World} (h : RowGA c n X Y K L T w) : RowG (some ⟨c, 0, none⟩) n T w := by
  intro i hi
  obtain ⟨M, o1, o2⟩ := h i hi
  exact ⟨c, 0, _, _, _, _, rfl, by rw [Nat.zero_add]; exact ⟨M.1, M.2.1⟩, o1.row, o2.row⟩
/-- All but route k. -/
def OthG (c n : Nat) (X Y K L : Nat → Nat) (T : Nat → Ro) (k : Nat) (w : World) : Prop := ∀ i, i < n → i ≠ k → OneGA c X Y K L T w i
theorem OthG.set {c n : Nat} {X Y K L : Nat → Nat} {T : Nat → Ro} {k : Nat} {w : World} (h : OthG c n X Y K L T k w) (hs : SepO c n X Y) (j : Nat) (hj : j < 8) (v : Value) : OthG c n X Y K L T k (w.setCell ⟨c, k * 8 + j, none⟩ v) := by
  intro i hi hne
  obtain ⟨M, o1, o2⟩ := h i hi hne
  obtain ⟨s1, s2, _⟩ := hs i hi
  refine ⟨M.far ?_ v, o1.other s1 _ _, o2.other s2 _ _⟩
  show k * 8 + j < i * 8 ∨ i * 8 + 8 ≤ k * 8 + j
  omega
theorem OthG.onlyX {c n : Nat} {X Y K L : Nat → Nat} {T : Nat → Ro} {k : Nat} {w w' : World} (h : OthG c n X Y K L T k w) (hs : SepO c n X Y) (hk : k < n) (b : Only (X k) w w') : OthG c n X Y K L T k w' := by
  intro i hi hne
  obtain ⟨M, o1, o2⟩ := h i hi hne
  obtain ⟨s1, s2, s3, s4⟩ := hs k hk
  obtain ⟨t1, t2, t3, t4⟩ := s4 i hi hne
  exact ⟨M.only b (fun e => s1 e.symm), o1.only b t1, o2.only b t3⟩
theorem OthG.onlyY {c n : Nat} {X Y K L : Nat → Nat} {T : Nat → Ro} {k : Nat} {w w' : World} (h : OthG c n X Y K L T k w) (hs : SepO c n X Y) (hk : k < n) (b : Only (Y k) w w') : OthG c n X Y K L T k w' := by
  intro i hi hne
  obtain ⟨M, o1, o2⟩ := h i hi hne
  obtain ⟨s1, s2, s3, s4⟩ := hs k hk
  obtain ⟨t1, t2, t3, t4⟩ := s4 i hi hne
  exact ⟨M.only b (fun e => s2 e.symm), o1.only b t2, o2.only b t4⟩
/-- The first mark of route k. -/
def kmG (T : Nat → Ro) (k : Nat) : Nat := 1 + 6 * k + totG T k
/-- A marked route. -/
def mkG (k : Int) (t : Ro) : Ro := ⟨k, k + 1, k + 1 + 1, k + 1 + 1 + 1 + (t.n0 : Int), k + 1 + 1 + 1 + (t.n0 : Int) + 1, k + 1 + 1 + 1 + (t.n0 : Int) + 1 + 1, t.n0, fun j => k + 1 + 1 + 1 + (j : Int), t.n1, fun j => k + 1 + 1 + 1 + (t.n0 : Int) + 1 + 1 + 1 + (j : Int)⟩
theorem kmG_succ (T : Nat → Ro) (k : Nat) : ((kmG T (k + 1) : Nat) : Int) = (kmG T k : Int) + 1 + 1 + 1 + ((T k).n0 : Int) + 1 + 1 + 1 + ((T k).n1 : Int) := by
  unfold kmG
  have h2 : totG T (k + 1) = totG T k + (T k).tot := rfl
  have h3 : (T k).tot = (T k).n0 + (T k).n1 := rfl
  omega
theorem kmG_le (T : Nat → Ro) {k n : Nat} (h : k ≤ n) (hn : n ≤ 1048576) (ht : totG T n ≤ 1048576) : kmG T k ≤ 10000000 := by
  unfold kmG
  have := totG_mono T h
  omega
/-- The first k routes marked. -/
def halfG (T : Nat → Ro) (k : Nat) (i : Nat) : Ro := if i < k then mkG (kmG T i : Int) (T i) else T i
theorem halfG_lt {T : Nat → Ro} {k i : Nat} (h : i < k) : halfG T k i = mkG (kmG T i : Int) (T i) := if_pos h
theorem halfG_ge {T : Nat → Ro} {k i : Nat} (h : ¬ i < k) : halfG T k i = T i := if_neg h
theorem halfG_zero (T : Nat → Ro) : halfG T 0 = T := by
  funext i
  exact halfG_ge (by omega)
theorem halfG_other {T : Nat → Ro} {k i : Nat} (h : i ≠ k) : halfG T (k + 1) i = halfG T k i := by
  unfold halfG
  by_cases e : i < k
  · rw [if_pos e, if_pos (by omega)]
  · rw [if_neg e, if_neg (by omega)]
theorem RowGA.step {c n : Nat} {X Y K L : Nat → Nat} {T : Nat → Ro} {k : Nat} {w : World} (h : OthG c n X Y K L (halfG T k) k w)
    (M : MutO w c (k * 8) (rvG (mkG (kmG T k : Int) (T k)) (some ⟨X k, 0, none⟩) (K k) (some ⟨Y k, 0, none⟩) (L k))) (o1 : OutInt (X k) (T k).n0 (T k).n0 (fun j => (kmG T k : Int) + 1 + 1 + 1 + (j : Int)) w)
    (o2 : OutInt (Y k) (T k).n1 (T k).n1 (fun j => (kmG T k : Int) + 1 + 1 + 1 + ((T k).n0 : Int) + 1 + 1 + 1 + (j : Int)) w) : RowGA c n X Y K L (halfG T (k + 1)) w := by
  intro i hi
  unfold OneGA
  by_cases e : i = k
  · subst e
    rw [halfG_lt (Nat.lt_succ_self i)]
    exact ⟨M, o1, o2⟩
  · rw [halfG_other e]
    exact h i hi e
end Go.Proofs.Ytflakkbodbnndaa
