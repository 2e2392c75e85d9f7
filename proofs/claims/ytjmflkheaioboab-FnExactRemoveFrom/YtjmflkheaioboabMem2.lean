/- Small memory: whole numbers in a block that may be written, known cells of a block, and rows of nodes told by one function. -/
import Derived.Test.YtjmflkheaioboabFlatTrieNode
import Derived.Test.YtjmflkheaioboabPlain2
import Derived.ChangeKeysEq
namespace Go.Proofs.Ytjmflkheaioboab
open Go.RowKit

/-- n whole numbers lie in block b, and may be written. -/
def Ints (w : World) (b n : Nat) (d : Nat → Int) : Prop := b < w.heap.size ∧ ∀ i, i < n → w.cell? ⟨b, i, none⟩ = some (.int .i64 (d i)) ∧ w.frozen? ⟨b, i, none⟩ = false
theorem Ints.below {w w' : World} {b n : Nat} {d : Nat → Int} (h : Ints w b n d) (k : Below w.heap.size w w') : Ints w' b n d := by
  obtain ⟨hc, hf⟩ := bcell k
  exact ⟨Nat.lt_of_lt_of_le h.1 k.size, fun i hi => ⟨(hc _ _ h.1).trans (h.2 i hi).1, (hf _ _ h.1).trans (h.2 i hi).2⟩⟩
theorem Ints.alloc {w : World} {b n : Nat} {d : Nat → Int} (h : Ints w b n d) (o : Obj) : Ints (w.alloc o) b n d := h.below (below_box (Below.refl _ _))
theorem Ints.congr {w : World} {b n : Nat} {d d' : Nat → Int} (h : Ints w b n d) (hd : ∀ i, d i = d' i) : Ints w b n d' := ⟨h.1, fun i hi => by rw [← hd i]; exact h.2 i hi⟩
theorem Ints.new (w : World) (n : Nat) (t : TypeId) : Ints (w.alloc (.cells (madeCells #[.int .i64 0] n) t)) w.heap.size n (fun _ => 0) := by
  refine ⟨by simp, fun i hi => ⟨?_, ?_⟩⟩
  · have e : (madeCells #[.int .i64 0] n)[i]? = some (.int .i64 0) := by
      simp only [madeCells, Array.getElem?_map, Array.getElem?_range, hi, if_true, Option.map_some]
      simp only [List.size_toArray, List.length_cons, List.length_nil, Nat.zero_add, Nat.mod_one]
      rfl
    simp [go_sem, e]
  · simp [go_sem]
theorem Ints.set {w : World} {b n : Nat} {d : Nat → Int} (h : Ints w b n d) {j : Nat} (hj : j < n) (v : Int) : Ints (w.setCell ⟨b, j, none⟩ (.int .i64 v)) b n (fun i => if i = j then v else d i) := by
  refine ⟨by simpa using h.1, fun i hi => ?_⟩
  obtain ⟨h1, h2⟩ := h.2 i hi
  by_cases e : i = j
  · subst e
    refine ⟨?_, ?_⟩
    · simp [go_sem, h1]
    · simp [go_sem, h2]
  · refine ⟨?_, ?_⟩
    · rw [World.cell?_setCell_other _ _ _ _ (by simp <;> omega)]; dsimp only; rw [if_neg e]; exact h1
    · simpa [go_sem] using h2
theorem Ints.other {w : World} {b n : Nat} {d : Nat → Int} (h : Ints w b n d) {c : Nat} (hn : b ≠ c) (o : Nat) (v : Value) : Ints (w.setCell ⟨c, o, none⟩ v) b n d := by
  refine ⟨by simpa using h.1, fun i hi => ⟨?_, ?_⟩⟩
  · rw [World.cell?_setCell_other _ _ _ _ (by simp <;> omega)]; exact (h.2 i hi).1
  · simpa [go_sem] using (h.2 i hi).2

/-- The first cells of block b. -/
def Lies (w : World) (b : Nat) (vs : List Value) : Prop := b < w.heap.size ∧ ∀ i v, vs[i]? = some v → w.cell? ⟨b, i, none⟩ = some v
theorem Lies.below {w w' : World} {b : Nat} {vs : List Value} (h : Lies w b vs) (k : Below w.heap.size w w') : Lies w' b vs :=
  ⟨Nat.lt_of_lt_of_le h.1 k.size, fun i v hv => ((bcell k).1 _ _ h.1).trans (h.2 i v hv)⟩
theorem Lies.alloc {w : World} {b : Nat} {vs : List Value} (h : Lies w b vs) (o : Obj) : Lies (w.alloc o) b vs := h.below (below_box (Below.refl _ _))
theorem Lies.new (w : World) (vs : Array Value) (t : TypeId) : Lies (w.alloc (.cells vs t)) w.heap.size vs.toList := ⟨by simp, fun i v hv => by simp [go_sem] at hv ⊢; exact hv⟩
theorem Lies.other {w : World} {b : Nat} {vs : List Value} (h : Lies w b vs) {c : Nat} (hn : b ≠ c) (o : Nat) (v : Value) : Lies (w.setCell ⟨c, o, none⟩ v) b vs :=
  ⟨by simpa using h.1, fun i u hu => by rw [World.cell?_setCell_other _ _ _ _ (by simp <;> omega)]; exact h.2 i u hu⟩

/-- n nodes lie at a. -/
def RowT (a : Option Addr) (n : Nat) (T : Nat → Nd) (w : World) : Prop := ∀ i, i < n → ∃ b off, a = some ⟨b, off, none⟩ ∧ b < w.heap.size ∧
  w.cell? ⟨b, off + i * 4, none⟩ = some (.int .i64 (T i).z) ∧ w.cell? ⟨b, off + i * 4 + 1, none⟩ = some (.int .i64 (T i).o) ∧ w.cell? ⟨b, off + i * 4 + 2, none⟩ = some (.bool (T i).h) ∧ w.cell? ⟨b, off + i * 4 + 3, none⟩ = some (.int .i64 (T i).v)
theorem RowT.below {a : Option Addr} {n : Nat} {T : Nat → Nd} {w w' : World} (h : RowT a n T w) (k : Below w.heap.size w w') : RowT a n T w' := by
  intro i hi
  obtain ⟨b, off, ha, hb, h0, h1, h2, h3⟩ := h i hi
  obtain ⟨hc, _⟩ := bcell k
  exact ⟨b, off, ha, Nat.lt_of_lt_of_le hb k.size, (hc _ _ hb).trans h0, (hc _ _ hb).trans h1, (hc _ _ hb).trans h2, (hc _ _ hb).trans h3⟩
theorem RowT.row {a : Option Addr} {n : Nat} {T : Nat → Nd} {w : World} (h : RowT a n T w) : RowTrieNode a n (fun i => (T i).z) (fun i => (T i).o) (fun i => (T i).h) (fun i => (T i).v) w := h
theorem RowT.of {a : Option Addr} {n : Nat} {f0 f1 f3 : Nat → Int} {f2 : Nat → Bool} {w : World} (h : RowTrieNode a n f0 f1 f2 f3 w) : RowT a n (fun i => ⟨f0 i, f1 i, f2 i, f3 i⟩) w := h

set_option maxRecDepth 100000 in
theorem eqHalves_run (a l b m : Int) (w : World) :
    (binOp .eql 90 (.agg #[.int .i64 a, .int .i64 l]) (.agg #[.int .i64 b, .int .i64 m])).run Try.prog w = .ok (.bool (a == b && l == m)) w := by
  obtain ⟨i, hi⟩ : ∃ i, Try.prog.info? 3 = some i := Option.isSome_iff_exists.1 (by kernel_rfl)
  have hc : Try.prog.cellsOf 3 = 1 := by kernel_rfl
  rw [run_eql_struct, run_equalIn_array (P := Try.prog) w 9999 _ _ Try.underlying90 hi, hc]
  have e3 : ∀ (x y : Int) (w : World), (Op.equalIn 9999 3 (.int .i64 x) (.int .i64 y)).run Try.prog w = .ok (x == y) w := fun x y w => run_equalIn_int w 9998 3 .i64 .i64 x y Try.underlying3
  generalize 9999 = d at e3 ⊢
  have hr : List.range 2 = [0, 1] := by decide
  rw [hr]
  by_cases h1 : a = b <;> by_cases h2 : l = m <;> simp [Op.eqItems, go_sem, part, e3, h1, h2]
theorem guardHalves : Try.prog.eqGuardType Try.prog.depth 90 = false := by kernel_rfl
theorem eqHalves_guard (op : BinOp) (x y : Operand) (xs ys : Array Value) (w : World) : (eqGuard op 90 x y (.agg xs) (.agg ys)).run Try.prog w = .ok () w := run_eqGuard_agg w op 90 x y xs ys guardHalves
end Go.Proofs.Ytjmflkheaioboab
