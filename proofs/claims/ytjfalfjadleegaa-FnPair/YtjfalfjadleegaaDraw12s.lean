/- What the specification's cursor draws as sessions. -/
import Derived.Test.YtjfalfjadleegaaDraw12
import Derived.Test.YtjfalfjadleegaaS12p
namespace Go.Proofs.Ytjfalfjadleegaa
open Go.RowKit

theorem Only.newOnly {c d : Nat} {w x y : World} (h : Only c w x) (k : Only d x y) (hd : w.heap.size ≤ d) : Only c w y :=
  ⟨k.1.trans h.1, k.2.1.trans h.2.1, k.2.2.1.trans h.2.2.1, Nat.le_trans h.2.2.2.1 k.2.2.2.1, fun i hi hn => (k.2.2.2.2 i (Nat.lt_of_lt_of_le hi h.2.2.2.1) (by omega)).trans (h.2.2.2.2 i hi hn)⟩
theorem RowEvent.onlyC {a : Option Addr} {n : Nat} {f0 f1 : Nat → Int} {w w' : World} {c : Nat} (h : RowEvent a n f0 f1 w) (k : Only c w w') (hc : ∀ b off, a = some ⟨b, off, none⟩ → b ≠ c) : RowEvent a n f0 f1 w' := by
  intro i hi
  obtain ⟨b, off, ha, hb, c0, c1⟩ := h i hi
  exact ⟨b, off, ha, Nat.lt_of_lt_of_le hb k.2.2.2.1, (k.cell hb (hc b off ha)).trans c0, (k.cell hb (hc b off ha)).trans c1⟩
theorem RowEvent.less {a : Option Addr} {n m : Nat} {f0 f1 : Nat → Int} {w : World} (h : RowEvent a n f0 f1 w) (hm : m ≤ n) : RowEvent a m f0 f1 w := fun i hi => h i (by omega)
theorem bytes_to12 {B : Nat} {w w' : World} {v : Value} {len : Nat} (h : BytesAt w.heap.size w v len) (k : Below w.heap.size w w') (hB : w.heap.size ≤ B) : BytesAt B w' v len := by
  obtain ⟨a, cap, hv, hl, hj⟩ := h
  refine ⟨a, cap, hv, hl, fun j h => ?_⟩
  obtain ⟨b, off, z, ha, hb, hw, hz, h0, h1⟩ := hj j h
  exact ⟨b, off, z, ha, by omega, Nat.lt_of_lt_of_le hw k.size, (k.cell (p := ⟨b, off + j, none⟩) hw).trans hz, h0, h1⟩
theorem cur_new12 (w : World) (v : Value) (t : TypeId) : Cur w.heap.size v 0 (w.alloc (.cells #[v, .int .i64 0, .int .u64 0] t)) :=
  ⟨0, 0, by omega, by omega, by simp, by simp [go_sem], by simp [go_sem], by simp [go_sem], by omega, by simp [go_sem], by simp [go_sem], by simp [go_sem]⟩
theorem below_only12 {b : Nat} {w x y : World} (h : Below w.heap.size w x) (k : Only b x y) (hb : w.heap.size ≤ b) : Below w.heap.size w y :=
  ⟨k.1.trans h.os, k.2.1.trans h.tape, k.2.2.1.trans h.output, Nat.le_trans h.size k.2.2.2.1, fun i hi => (k.2.2.2.2 i (Nat.lt_of_lt_of_le hi h.size) (by omega)).trans (h.block i hi)⟩
end Go.Proofs.Ytjfalfjadleegaa
