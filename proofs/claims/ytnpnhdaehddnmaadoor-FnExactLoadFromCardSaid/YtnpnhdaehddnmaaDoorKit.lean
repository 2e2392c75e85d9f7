/- Small means of the walks: worlds that keep what was, and equations of endings. -/
import Derived.Test.YtnpnhdaehddnmaaDoorRows
import Derived.WalkKit
import Derived.WalkSpells
import Derived.WalkLawsBesides
import Derived.Deep.RegionWith
import Derived.Deep.RegionHeld
import Derived.Deep.QuietTactic
import Derived.BigQuiet
import Derived.Laws.StructEq
import Derived.Lib.QuietBelow
namespace Go.Proofs.YtnpnhdaehddnmaaDoor
open Go.RowKit

theorem hide {p : Prop} (h : p) : Hid p := h
theorem ret_int {k : IntKind} {a b : Int} (h : a = b) : Ending.returned (.int k a) = .returned (.int k b) := by rw [h]
theorem ret_bool {a b : Bool} (h : a = b) : Ending.returned (.bool a) = .returned (.bool b) := by rw [h]
theorem ret_bools {a b c d : Bool} (h : a = b) (k : c = d) : Ending.returned (.tuple #[.bool a, .bool c]) = .returned (.tuple #[.bool b, .bool d]) := by rw [h, k]
theorem bcell {W w1 : World} (hb : Below W.heap.size W w1) : (∀ b o, b < W.heap.size → w1.cell? ⟨b, o, none⟩ = W.cell? ⟨b, o, none⟩) ∧ (∀ b o, b < W.heap.size → w1.frozen? ⟨b, o, none⟩ = W.frozen? ⟨b, o, none⟩) :=
  ⟨fun b o h => hb.cell (p := ⟨b, o, none⟩) h, fun b o h => hb.frozen (p := ⟨b, o, none⟩) h⟩
theorem below_step {W w1 w2 : World} (h1 : Below W.heap.size W w1) (h2 : Below w1.heap.size w1 w2) : Below W.heap.size W w2 := h1.trans (h2.mono h1.size)
theorem below_box {w w1 : World} {o : Obj} (h : Below (w.alloc o).heap.size (w.alloc o) w1) : Below w.heap.size w w1 :=
  ((Below.refl _ _).alloc (Nat.le_refl _) _).trans (h.mono (by simp))
theorem below_box2 {w w1 : World} {o o' : Obj} (h : Below ((w.alloc o).alloc o').heap.size ((w.alloc o).alloc o') w1) : Below w.heap.size w w1 :=
  below_box (below_box h)

theorem below_box3 {w w1 : World} {o o' o'' : Obj} (h : Below (((w.alloc o).alloc o').alloc o'').heap.size (((w.alloc o).alloc o').alloc o'') w1) : Below w.heap.size w w1 :=
  below_box (below_box2 h)
theorem below_box4 {w w1 : World} {o o' o'' o3 : Obj} (h : Below ((((w.alloc o).alloc o').alloc o'').alloc o3).heap.size ((((w.alloc o).alloc o').alloc o'').alloc o3) w1) : Below w.heap.size w w1 :=
  below_box (below_box3 h)
theorem below_drew0 {W w1 : World} (h : Below W.drew.heap.size W.drew w1) : Below W.heap.size W w1 := (Below.refl _ _).drew.trans h

theorem old1 {w2 : World} {b : Nat} (h : b < w2.heap.size) (o : Obj) (k : Nat) : (w2.alloc o).cell? ⟨b, k, none⟩ = w2.cell? ⟨b, k, none⟩ :=
  (bcell (below_box (Below.refl (w2.alloc o).heap.size (w2.alloc o)))).1 b k h
theorem old2 {w2 : World} {b : Nat} (h : b < w2.heap.size) : (∀ (o o' : Obj) (k : Nat), ((w2.alloc o).alloc o').cell? ⟨b, k, none⟩ = w2.cell? ⟨b, k, none⟩) ∧ (∀ (o o' : Obj) (k : Nat), ((w2.alloc o).alloc o').frozen? ⟨b, k, none⟩ = w2.frozen? ⟨b, k, none⟩) := by
  have hb : ∀ o o' : Obj, Below w2.heap.size w2 ((w2.alloc o).alloc o') := fun o o' => below_box2 (Below.refl _ _)
  exact ⟨fun o o' k => (bcell (hb o o')).1 b k h, fun o o' k => (bcell (hb o o')).2 b k h⟩

/-- One prefix lies in the newest box of a world; nothing old has turned. -/
abbrev Box1 (s : TypeId) (w : World) (a l : Int) (w' : World) : Prop :=
  w'.cell? ⟨w.heap.size, 0, none⟩ = some (.int .i64 a) ∧ w'.cell? ⟨w.heap.size, 1, none⟩ = some (.int .i64 l) ∧
  Below (w.alloc (.cells #[.int .i64 a, .int .i64 l] s)).heap.size (w.alloc (.cells #[.int .i64 a, .int .i64 l] s)) w'

theorem box1_of {s : TypeId} {w w' : World} {a l : Int} (h : Below (w.alloc (.cells #[.int .i64 a, .int .i64 l] s)).heap.size (w.alloc (.cells #[.int .i64 a, .int .i64 l] s)) w') : Box1 s w a l w' := by
  obtain ⟨hc, _⟩ := bcell h
  refine ⟨?_, ?_, h⟩
  · rw [hc _ _ (by simp)]; simp [go_sem]
  · rw [hc _ _ (by simp)]; simp [go_sem]

theorem box1_step {s : TypeId} {w w1 w2 : World} {a l : Int} (h2 : Below w1.heap.size w1 w2) (h1 : Box1 s w a l w1) : Box1 s w a l w2 := box1_of (below_step h1.2.2 h2)

/-- Two prefixes lie in the two newest boxes of a world; nothing old has turned. -/
abbrev Box2 (s t : TypeId) (w : World) (a l b m : Int) (w' : World) : Prop :=
  w'.cell? ⟨w.heap.size, 0, none⟩ = some (.int .i64 a) ∧ w'.cell? ⟨w.heap.size, 1, none⟩ = some (.int .i64 l) ∧
  w'.cell? ⟨w.heap.size + 1, 0, none⟩ = some (.int .i64 b) ∧ w'.cell? ⟨w.heap.size + 1, 1, none⟩ = some (.int .i64 m) ∧
  Below ((w.alloc (.cells #[.int .i64 a, .int .i64 l] s)).alloc (.cells #[.int .i64 b, .int .i64 m] t)).heap.size ((w.alloc (.cells #[.int .i64 a, .int .i64 l] s)).alloc (.cells #[.int .i64 b, .int .i64 m] t)) w'

theorem box2_of {s t : TypeId} {w w' : World} {a l b m : Int} (h : Below ((w.alloc (.cells #[.int .i64 a, .int .i64 l] s)).alloc (.cells #[.int .i64 b, .int .i64 m] t)).heap.size ((w.alloc (.cells #[.int .i64 a, .int .i64 l] s)).alloc (.cells #[.int .i64 b, .int .i64 m] t)) w') : Box2 s t w a l b m w' := by
  obtain ⟨hc, _⟩ := bcell h
  refine ⟨?_, ?_, ?_, ?_, h⟩
  · rw [hc _ _ (by simp; omega)]; simp [go_sem]
  · rw [hc _ _ (by simp; omega)]; simp [go_sem]
  · rw [hc _ _ (by simp)]; simp [go_sem]
  · rw [hc _ _ (by simp)]; simp [go_sem]

theorem box2_step {s t : TypeId} {w w1 w2 : World} {a l b m : Int} (h2 : Below w1.heap.size w1 w2) (h1 : Box2 s t w a l b m w1) : Box2 s t w a l b m w2 := box2_of (below_step h1.2.2.2.2 h2)

/-- A prefix lies in block b. -/
def At (w : World) (b : Nat) (a l : Int) : Prop := b < w.heap.size ∧ w.cell? ⟨b, 0, none⟩ = some (.int .i64 a) ∧ w.cell? ⟨b, 1, none⟩ = some (.int .i64 l)
theorem At.below {w w' : World} {b : Nat} {a l : Int} (h : At w b a l) (k : Below w.heap.size w w') : At w' b a l :=
  ⟨Nat.lt_of_lt_of_le h.1 k.size, (k.cell (p := ⟨b, 0, none⟩) h.1).trans h.2.1, (k.cell (p := ⟨b, 1, none⟩) h.1).trans h.2.2⟩
theorem At.alloc {w : World} {b : Nat} {a l : Int} (h : At w b a l) (o : Obj) : At (w.alloc o) b a l := h.below (below_box (Below.refl _ _))
theorem At.drew {w : World} {b : Nat} {a l : Int} (h : At w b a l) : At w.drew b a l := h.below (Below.refl _ _).drew
theorem At.new (w : World) (a l : Int) (t : TypeId) : At (w.alloc (.cells #[.int .i64 a, .int .i64 l] t)) w.heap.size a l := ⟨by simp, by simp [go_sem], by simp [go_sem]⟩
theorem At.new1 (w : World) (o : Obj) (a l : Int) (t : TypeId) : At ((w.alloc o).alloc (.cells #[.int .i64 a, .int .i64 l] t)) (w.heap.size + 1) a l := ⟨by simp, by simp [go_sem], by simp [go_sem]⟩

/-- Nothing that was there has turned but block c. -/
def Only (c : Nat) (w w' : World) : Prop :=
  w'.os = w.os ∧ w'.tape = w.tape ∧ w'.output = w.output ∧ w.heap.size ≤ w'.heap.size ∧ ∀ k, k < w.heap.size → k ≠ c → w'.heap[k]? = w.heap[k]?

theorem Only.refl (c : Nat) (w : World) : Only c w w := ⟨rfl, rfl, rfl, Nat.le_refl _, fun _ _ _ => rfl⟩
theorem Only.trans {c : Nat} {a b d : World} (h : Only c a b) (k : Only c b d) : Only c a d := by
  obtain ⟨h1, h2, h3, h4, h5⟩ := h
  obtain ⟨k1, k2, k3, k4, k5⟩ := k
  exact ⟨k1.trans h1, k2.trans h2, k3.trans h3, Nat.le_trans h4 k4, fun i hi hc => (k5 i (Nat.lt_of_lt_of_le hi h4) hc).trans (h5 i hi hc)⟩
theorem Only.cell {c : Nat} {w w' : World} (h : Only c w w') {b o : Nat} (hb : b < w.heap.size) (hc : b ≠ c) : w'.cell? ⟨b, o, none⟩ = w.cell? ⟨b, o, none⟩ := World.cell?_of_block (w := w) (h.2.2.2.2 b hb hc)
theorem Only.frozen {c : Nat} {w w' : World} (h : Only c w w') {b o : Nat} (hb : b < w.heap.size) (hc : b ≠ c) : w'.frozen? ⟨b, o, none⟩ = w.frozen? ⟨b, o, none⟩ := World.frozen?_of_block (w := w) (h.2.2.2.2 b hb hc)
theorem Only.below {c : Nat} {w w' : World} (h : Only c w w') (hc : c ≤ w.heap.size) : Below c w w' := ⟨h.1, h.2.1, h.2.2.1, h.2.2.2.1, fun k hk => h.2.2.2.2 k (by omega) (by omega)⟩
theorem Only.of_below {c : Nat} {w w' : World} (h : Below w.heap.size w w') : Only c w w' := ⟨h.os, h.tape, h.output, h.size, fun k hk _ => h.block k hk⟩
theorem Only.setCell {c : Nat} {w w' : World} (h : Only c w w') (o : Nat) (v : Value) : Only c w (w'.setCell ⟨c, o, none⟩ v) := by
  obtain ⟨h1, h2, h3, h4, h5⟩ := h
  have hb := (Below.refl (0 : Nat) w').setCell (p := ⟨c, o, none⟩) (Nat.zero_le _) v
  exact ⟨hb.os.trans h1, hb.tape.trans h2, hb.output.trans h3, Nat.le_trans h4 hb.size, fun k hk hc => (Below.heap_setCell w' ⟨c, o, none⟩ v k hc).trans (h5 k hk hc)⟩
theorem Only.drewN {c : Nat} {w w' : World} (h : Only c w w') (n : Nat) : Only c w (w'.drewN n) := h.trans (Only.of_below (below_drewN (Below.refl _ _) n))

theorem Only.setNew {c : Nat} {w w' : World} (h : Only c w w') {b : Nat} (hb : w.heap.size ≤ b) (o : Nat) (v : Value) : Only c w (w'.setCell ⟨b, o, none⟩ v) := by
  obtain ⟨h1, h2, h3, h4, h5⟩ := h
  have hw := (Below.refl (0 : Nat) w').setCell (p := ⟨b, o, none⟩) (Nat.zero_le _) v
  exact ⟨hw.os.trans h1, hw.tape.trans h2, hw.output.trans h3, Nat.le_trans h4 hw.size, fun k hk hc => (Below.heap_setCell w' ⟨b, o, none⟩ v k (by simp; omega)).trans (h5 k hk hc)⟩
theorem Only.alloc {c : Nat} {w w' : World} (h : Only c w w') (o : Obj) : Only c w (w'.alloc o) := h.trans (Only.of_below (below_box (Below.refl _ _)))

end Go.Proofs.YtnpnhdaehddnmaaDoor
