/- Words, paths and configurations, in plain words. -/
import Derived.Test.YtnficndeblkjhaaGreatDoorRows
import Derived.WalkKit
import Derived.WalkSpells
import Derived.WalkLawsBesides
import Derived.Deep.RegionWith
import Derived.Deep.RegionHeld
import Derived.Deep.QuietTactic
import Derived.BigQuiet
import Derived.Laws.StructEq
import Derived.Lib.QuietBelow
import Derived.Laws.RangeAny
/- Small means of the walks: worlds that keep what was, and equations of endings. -/
namespace Go.Proofs.YtnficndeblkjhaaGreatDoor
open Go.RowKit

theorem hide {p : Prop} (h : p) : Hid p := h
theorem ret_int {k : IntKind} {a b : Int} (h : a = b) : Ending.returned (.int k a) = .returned (.int k b) := by rw [h]
theorem ret_bool {a b : Bool} (h : a = b) : Ending.returned (.bool a) = .returned (.bool b) := by rw [h]
theorem ret_bools {a b c d : Bool} (h : a = b) (k : c = d) : Ending.returned (.tuple #[.bool a, .bool c]) = .returned (.tuple #[.bool b, .bool d]) := by rw [h, k]
theorem bcell {W w1 : World} (hb : Below W.heap.size W w1) : (∀ b o, b < W.heap.size → w1.cell? ⟨b, o, none⟩ = W.cell? ⟨b, o, none⟩) ∧ (∀ b o, b < W.heap.size → w1.frozen? ⟨b, o, none⟩ = W.frozen? ⟨b, o, none⟩) :=
  ⟨fun b o h => hb.cell (p := ⟨b, o, none⟩) h, fun b o h => hb.frozen (p := ⟨b, o, none⟩) h⟩
theorem below_step {W w1 w2 : World} (h1 : Below W.heap.size W w1) (h2 : Below w1.heap.size w1 w2) : Below W.heap.size W w2 := h1.trans (h2.mono h1.size)
theorem below_box {w w1 : World} {o : Obj} (h : Below (w.alloc o).heap.size (w.alloc o) w1) : Below w.heap.size w w1 :=
  ((Below.refl _ _).alloc (Nat.le_refl _) _).trans (h.mono (by simp))
theorem below_box2 {w w1 : World} {o o' : Obj} (h : Below ((w.alloc o).alloc o').heap.size ((w.alloc o).alloc o') w1) : Below w.heap.size w w1 :=
  below_box (below_box h)

theorem below_box3 {w w1 : World} {o o' o'' : Obj} (h : Below (((w.alloc o).alloc o').alloc o'').heap.size (((w.alloc o).alloc o').alloc o'') w1) : Below w.heap.size w w1 :=
  below_box (below_box2 h)
theorem below_box4 {w w1 : World} {o o' o'' o3 : Obj} (h : Below ((((w.alloc o).alloc o').alloc o'').alloc o3).heap.size ((((w.alloc o).alloc o').alloc o'').alloc o3) w1) : Below w.heap.size w w1 :=
  below_box (below_box3 h)
theorem below_drew0 {W w1 : World} (h : Below W.drew.heap.size W.drew w1) : Below W.heap.size W w1 := (Below.refl _ _).drew.trans h

theorem old1 {w2 : World} {b : Nat} (h : b < w2.heap.size) (o : Obj) (k : Nat) : (w2.alloc o).cell? ⟨b, k, none⟩ = w2.cell? ⟨b, k, none⟩ :=
  (bcell (below_box (Below.refl (w2.alloc o).heap.size (w2.alloc o)))).1 b k h
theorem old2 {w2 : World} {b : Nat} (h : b < w2.heap.size) : (∀ (o o' : Obj) (k : Nat), ((w2.alloc o).alloc o').cell? ⟨b, k, none⟩ = w2.cell? ⟨b, k, none⟩) ∧ (∀ (o o' : Obj) (k : Nat), ((w2.alloc o).alloc o').frozen? ⟨b, k, none⟩ = w2.frozen? ⟨b, k, none⟩) := by
  have hb : ∀ o o' : Obj, Below w2.heap.size w2 ((w2.alloc o).alloc o') := fun o o' => below_box2 (Below.refl _ _)
  exact ⟨fun o o' k => (bcell (hb o o')).1 b k h, fun o o' k => (bcell (hb o o')).2 b k h⟩

/-- One prefix lies in the newest box of a world; nothing old has turned. -/
abbrev Box1 (s : TypeId) (w : World) (a l : Int) (w' : World) : Prop :=
  w'.cell? ⟨w.heap.size, 0, none⟩ = some (.int .i64 a) ∧ w'.cell? ⟨w.heap.size, 1, none⟩ = some (.int .i64 l) ∧
  Below (w.alloc (.cells #[.int .i64 a, .int .i64 l] s)).heap.size (w.alloc (.cells #[.int .i64 a, .int .i64 l] s)) w'

theorem box1_of {s : TypeId} {w w' : World} {a l : Int} (h : Below (w.alloc (.cells #[.int .i64 a, .int .i64 l] s)).heap.size (w.alloc (.cells #[.int .i64 a, .int .i64 l] s)) w') : Box1 s w a l w' := by
  obtain ⟨hc, _⟩ := bcell h
  refine ⟨?_, ?_, h⟩
  · rw [hc _ _ (by simp)]; simp [go_sem]
  · rw [hc _ _ (by simp)]; simp [go_sem]

theorem box1_step {s : TypeId} {w w1 w2 : World} {a l : Int} (h2 : Below w1.heap.size w1 w2) (h1 : Box1 s w a l w1) : Box1 s w a l w2 := box1_of (below_step h1.2.2 h2)

/-- Two prefixes lie in the two newest boxes of a world; nothing old has turned. -/
abbrev Box2 (s t : TypeId) (w : World) (a l b m : Int) (w' : World) : Prop :=
  w'.cell? ⟨w.heap.size, 0, none⟩ = some (.int .i64 a) ∧ w'.cell? ⟨w.heap.size, 1, none⟩ = some (.int .i64 l) ∧
  w'.cell? ⟨w.heap.size + 1, 0, none⟩ = some (.int .i64 b) ∧ w'.cell? ⟨w.heap.size + 1, 1, none⟩ = some (.int .i64 m) ∧
  Below ((w.alloc (.cells #[.int .i64 a, .int .i64 l] s)).alloc (.cells #[.int .i64 b, .int .i64 m] t)).heap.size ((w.alloc (.cells #[.int .i64 a, .int .i64 l] s)).alloc (.cells #[.int .i64 b, .int .i64 m] t)) w'

theorem box2_of {s t : TypeId} {w w' : World} {a l b m : Int} (h : Below ((w.alloc (.cells #[.int .i64 a, .int .i64 l] s)).alloc (.cells #[.int .i64 b, .int .i64 m] t)).heap.size ((w.alloc (.cells #[.int .i64 a, .int .i64 l] s)).alloc (.cells #[.int .i64 b, .int .i64 m] t)) w') : Box2 s t w a l b m w' := by
  obtain ⟨hc, _⟩ := bcell h
  refine ⟨?_, ?_, ?_, ?_, h⟩
  · rw [hc _ _ (by simp; omega)]; simp [go_sem]
  · rw [hc _ _ (by simp; omega)]; simp [go_sem]
  · rw [hc _ _ (by simp)]; simp [go_sem]
  · rw [hc _ _ (by simp)]; simp [go_sem]

theorem box2_step {s t : TypeId} {w w1 w2 : World} {a l b m : Int} (h2 : Below w1.heap.size w1 w2) (h1 : Box2 s t w a l b m w1) : Box2 s t w a l b m w2 := box2_of (below_step h1.2.2.2.2 h2)

/-- A prefix lies in block b. -/
def At (w : World) (b : Nat) (a l : Int) : Prop := b < w.heap.size ∧ w.cell? ⟨b, 0, none⟩ = some (.int .i64 a) ∧ w.cell? ⟨b, 1, none⟩ = some (.int .i64 l)
theorem At.below {w w' : World} {b : Nat} {a l : Int} (h : At w b a l) (k : Below w.heap.size w w') : At w' b a l :=
  ⟨Nat.lt_of_lt_of_le h.1 k.size, (k.cell (p := ⟨b, 0, none⟩) h.1).trans h.2.1, (k.cell (p := ⟨b, 1, none⟩) h.1).trans h.2.2⟩
theorem At.alloc {w : World} {b : Nat} {a l : Int} (h : At w b a l) (o : Obj) : At (w.alloc o) b a l := h.below (below_box (Below.refl _ _))
theorem At.drew {w : World} {b : Nat} {a l : Int} (h : At w b a l) : At w.drew b a l := h.below (Below.refl _ _).drew
theorem At.new (w : World) (a l : Int) (t : TypeId) : At (w.alloc (.cells #[.int .i64 a, .int .i64 l] t)) w.heap.size a l := ⟨by simp, by simp [go_sem], by simp [go_sem]⟩
theorem At.new1 (w : World) (o : Obj) (a l : Int) (t : TypeId) : At ((w.alloc o).alloc (.cells #[.int .i64 a, .int .i64 l] t)) (w.heap.size + 1) a l := ⟨by simp, by simp [go_sem], by simp [go_sem]⟩

/-- Nothing that was there has turned but block c. -/
def Only (c : Nat) (w w' : World) : Prop :=
  w'.os = w.os ∧ w'.tape = w.tape ∧ w'.output = w.output ∧ w.heap.size ≤ w'.heap.size ∧ ∀ k, k < w.heap.size → k ≠ c → w'.heap[k]? = w.heap[k]?

theorem Only.refl (c : Nat) (w : World) : Only c w w := ⟨rfl, rfl, rfl, Nat.le_refl _, fun _ _ _ => rfl⟩
theorem Only.trans {c : Nat} {a b d : World} (h : Only c a b) (k : Only c b d) : Only c a d := by
  obtain ⟨h1, h2, h3, h4, h5⟩ := h
  obtain ⟨k1, k2, k3, k4, k5⟩ := k
  exact ⟨k1.trans h1, k2.trans h2, k3.trans h3, Nat.le_trans h4 k4, fun i hi hc => (k5 i (Nat.lt_of_lt_of_le hi h4) hc).trans (h5 i hi hc)⟩
theorem Only.cell {c : Nat} {w w' : World} (h : Only c w w') {b o : Nat} (hb : b < w.heap.size) (hc : b ≠ c) : w'.cell? ⟨b, o, none⟩ = w.cell? ⟨b, o, none⟩ := World.cell?_of_block (w := w) (h.2.2.2.2 b hb hc)
theorem Only.frozen {c : Nat} {w w' : World} (h : Only c w w') {b o : Nat} (hb : b < w.heap.size) (hc : b ≠ c) : w'.frozen? ⟨b, o, none⟩ = w.frozen? ⟨b, o, none⟩ := World.frozen?_of_block (w := w) (h.2.2.2.2 b hb hc)
theorem Only.below {c : Nat} {w w' : World} (h : Only c w w') (hc : c ≤ w.heap.size) : Below c w w' := ⟨h.1, h.2.1, h.2.2.1, h.2.2.2.1, fun k hk => h.2.2.2.2 k (by omega) (by omega)⟩
theorem Only.of_below {c : Nat} {w w' : World} (h : Below w.heap.size w w') : Only c w w' := ⟨h.os, h.tape, h.output, h.size, fun k hk _ => h.block k hk⟩
theorem Only.setCell {c : Nat} {w w' : World} (h : Only c w w') (o : Nat) (v : Value) : Only c w (w'.setCell ⟨c, o, none⟩ v) := by
  obtain ⟨h1, h2, h3, h4, h5⟩ := h
  have hb := (Below.refl (0 : Nat) w').setCell (p := ⟨c, o, none⟩) (Nat.zero_le _) v
  exact ⟨hb.os.trans h1, hb.tape.trans h2, hb.output.trans h3, Nat.le_trans h4 hb.size, fun k hk hc => (Below.heap_setCell w' ⟨c, o, none⟩ v k hc).trans (h5 k hk hc)⟩
theorem Only.drewN {c : Nat} {w w' : World} (h : Only c w w') (n : Nat) : Only c w (w'.drewN n) := h.trans (Only.of_below (below_drewN (Below.refl _ _) n))

theorem Only.setNew {c : Nat} {w w' : World} (h : Only c w w') {b : Nat} (hb : w.heap.size ≤ b) (o : Nat) (v : Value) : Only c w (w'.setCell ⟨b, o, none⟩ v) := by
  obtain ⟨h1, h2, h3, h4, h5⟩ := h
  have hw := (Below.refl (0 : Nat) w').setCell (p := ⟨b, o, none⟩) (Nat.zero_le _) v
  exact ⟨hw.os.trans h1, hw.tape.trans h2, hw.output.trans h3, Nat.le_trans h4 hw.size, fun k hk hc => (Below.heap_setCell w' ⟨b, o, none⟩ v k (by simp; omega)).trans (h5 k hk hc)⟩
theorem Only.alloc {c : Nat} {w w' : World} (h : Only c w w') (o : Obj) : Only c w (w'.alloc o) := h.trans (Only.of_below (below_box (Below.refl _ _)))

end Go.Proofs.YtnficndeblkjhaaGreatDoor

/- The plain mathematics of prefixes: sizes, goodness, what has what; no program is named here. -/
namespace Go.Proofs.YtnficndeblkjhaaGreatDoor
open Go.RowKit

def inB (n lo hi : Int) : Bool := decide (lo ≤ n ∧ n ≤ hi)
theorem inB_t {n lo hi : Int} (h1 : lo ≤ n) (h2 : n ≤ hi) : inB n lo hi = true := by simp [inB, h1, h2]
theorem inB_f1 {n lo hi : Int} (h1 : ¬ lo ≤ n) : inB n lo hi = false := by simp [inB]; omega
theorem inB_f2 {n lo hi : Int} (h1 : ¬ n ≤ hi) : inB n lo hi = false := by simp [inB]; omega
theorem inB_n {n lo hi : Int} (h1 : ¬ (lo ≤ n ∧ n ≤ hi)) : inB n lo hi = false := by simp [inB]; omega
theorem inB_iff {n lo hi : Int} : inB n lo hi = true ↔ lo ≤ n ∧ n ≤ hi := by simp [inB]

theorem wrapk_in (n : Int) (h : -9223372036854775808 ≤ n ∧ n ≤ 9223372036854775807) : IntKind.i64.wrap n = n := by
  rw [IntWalk.i64_left]; exact IntWalk.wrap64_in n h

/-- The size of a prefix of length l. -/
def pw (l : Int) : Int := 2 ^ (32 - l).toNat

theorem pw_pos (l : Int) : 1 ≤ pw l := by
  unfold pw
  have := Int.pow_pos (n := 2) (m := (32 - l).toNat) (by omega)
  omega

theorem two_pow_le (m : Nat) (h : m ≤ 32) : (2 : Int) ^ m ≤ 4294967296 := by
  have h1 : (2 : Nat) ^ m ≤ 2 ^ 32 := Nat.pow_le_pow_right (by omega) h
  have h2 : ((2 ^ m : Nat) : Int) ≤ ((2 ^ 32 : Nat) : Int) := by exact_mod_cast h1
  have h3 : ((2 ^ m : Nat) : Int) = (2 : Int) ^ m := by norm_cast
  omega

theorem pw_le (l : Int) (h0 : 0 ≤ l) : pw l ≤ 4294967296 := by
  unfold pw
  exact two_pow_le _ (by omega)

theorem pw_wrap (l : Int) (h0 : 0 ≤ l) : wrap64 (2 ^ (32 - l).toNat) = pw l := by
  have h1 := pw_pos l
  have h2 := pw_le l h0
  show wrap64 (pw l) = pw l
  exact IntWalk.wrap64_in _ (by omega)

/-- One shorter is twice as great. -/
theorem pw_pred (l : Int) (h0 : 1 ≤ l) (h1 : l ≤ 32) : pw (l - 1) = 2 * pw l := by
  unfold pw
  have e : (32 - (l - 1)).toNat = (32 - l).toNat + 1 := by omega
  rw [e, Int.pow_succ]
  omega

theorem pw_succ (l : Int) (h1 : l < 32) : pw l = 2 * pw (l + 1) := by
  unfold pw
  have e : (32 - l).toNat = (32 - (l + 1)).toNat + 1 := by omega
  rw [e, Int.pow_succ]
  omega

theorem pw_32 : pw 32 = 1 := by simp [pw]

def goodB (a l : Int) : Bool := inB l 0 32 && inB a 0 4294967295 && (a % pw l == 0)

theorem goodB_in {a l : Int} (hl0 : 0 ≤ l) (hl1 : l ≤ 32) (ha0 : 0 ≤ a) (ha1 : a ≤ 4294967295) : goodB a l = (a % pw l == 0) := by
  simp [goodB, inB_t hl0 hl1, inB_t ha0 ha1]
theorem goodB_a {a l : Int} (ha : ¬ (0 ≤ a ∧ a ≤ 4294967295)) : goodB a l = false := by
  simp [goodB, inB_n ha]
theorem goodB_l {a l : Int} (hl : ¬ (0 ≤ l ∧ l ≤ 32)) : goodB a l = false := by
  simp [goodB, inB_n hl]
theorem goodB_iff {a l : Int} : goodB a l = true ↔ (0 ≤ l ∧ l ≤ 32) ∧ (0 ≤ a ∧ a ≤ 4294967295) ∧ a % pw l = 0 := by
  simp only [goodB, Bool.and_eq_true, inB_iff, beq_iff_eq, and_assoc]

/-- Whether the prefix of length l around x begins at a. -/
def hasB (a l x : Int) : Bool := x - x % pw l == a

theorem sub_is (a m : Int) : (a == a - m) = (m == 0) := by
  by_cases h : m = 0
  · simp [h]
  · have h1 : (m == 0) = false := by simp [h]
    have h2 : (a == a - m) = false := by simp; omega
    rw [h1, h2]

theorem beq_swap (a b : Int) : (a == b) = (b == a) := by
  by_cases h : a = b
  · simp [h]
  · have h1 : (a == b) = false := by simp [h]
    have h2 : (b == a) = false := by simp; omega
    rw [h1, h2]

/-- How two numbers stand. -/
def cmpI (x y : Int) : Int := if x < y then -1 else if y < x then 1 else 0

/-- How two prefixes stand: by their addresses, then by their lengths. -/
def cmpP (a l b m : Int) : Int := if a ≠ b then cmpI a b else cmpI l m

/-- The address of the other half of the parent. -/
def sibA (a l : Int) : Int := if a - a % pw (l - 1) = a then a - a % pw (l - 1) + pw l else a - a % pw (l - 1)

end Go.Proofs.YtnficndeblkjhaaGreatDoor

/- The laws' own small functions: a prefix handed over, two prefixes compared. -/
namespace Go.Proofs.YtnficndeblkjhaaGreatDoor
open Go.RowKit

end Go.Proofs.YtnficndeblkjhaaGreatDoor

/- Rows of strings in memory, and what the laws do with them: handed over, compared. -/
namespace Go.Proofs.YtnficndeblkjhaaGreatDoor
open Go.RowKit

/-- n strings at a, told by f. -/
def RowStr (a : Option Addr) (n : Nat) (f : Nat → ByteArray) (w : World) : Prop := ∀ i, i < n → ∃ b off, a = some ⟨b, off, none⟩ ∧ b < w.heap.size ∧ w.cell? ⟨b, off + i, none⟩ = some (.string (f i))
theorem RowStr.below {a : Option Addr} {n : Nat} {f : Nat → ByteArray} {w w' : World} (h : RowStr a n f w) (k : Below w.heap.size w w') : RowStr a n f w' := by
  intro i hi
  obtain ⟨b, off, ha, hb, h0⟩ := h i hi
  obtain ⟨hc, _⟩ := bcell k
  exact ⟨b, off, ha, Nat.lt_of_lt_of_le hb k.size, (hc _ _ hb).trans h0⟩
theorem RowStr.congr {a : Option Addr} {n : Nat} {f g : Nat → ByteArray} {w : World} (h : RowStr a n f w) (e : ∀ i, i < n → f i = g i) : RowStr a n g w := by
  intro i hi
  rw [← e i hi]
  exact h i hi

/-- A row of n strings in block c, the first k told; it may be written. -/
def OutStr (c n k : Nat) (f : Nat → ByteArray) (w : World) : Prop := c < w.heap.size ∧ ∀ i, i < n → (∃ x : ByteArray, w.cell? ⟨c, i, none⟩ = some (.string x) ∧ (i < k → x = f i)) ∧ w.frozen? ⟨c, i, none⟩ = false
theorem OutStr.below {c n k : Nat} {f : Nat → ByteArray} {w w' : World} (h : OutStr c n k f w) (hb : Below w.heap.size w w') : OutStr c n k f w' := by
  obtain ⟨hc, hf⟩ := bcell hb
  refine ⟨Nat.lt_of_lt_of_le h.1 hb.size, fun i hi => ?_⟩
  obtain ⟨⟨x, h0, hk⟩, g0⟩ := h.2 i hi
  exact ⟨⟨x, (hc _ _ h.1).trans h0, hk⟩, (hf _ _ h.1).trans g0⟩
theorem OutStr.only {c n k d : Nat} {f : Nat → ByteArray} {w w' : World} (h : OutStr c n k f w) (hb : Only d w w') (hn : c ≠ d) : OutStr c n k f w' := by
  refine ⟨Nat.lt_of_lt_of_le h.1 hb.2.2.2.1, fun i hi => ?_⟩
  obtain ⟨⟨x, h0, hk⟩, g0⟩ := h.2 i hi
  exact ⟨⟨x, (hb.cell h.1 hn).trans h0, hk⟩, (hb.frozen h.1 hn).trans g0⟩
theorem OutStr.row {c n : Nat} {f : Nat → ByteArray} {w : World} (h : OutStr c n n f w) : RowStr (some ⟨c, 0, none⟩) n f w := by
  intro i hi
  obtain ⟨⟨x, h0, hk⟩, g0⟩ := h.2 i hi
  obtain rfl := hk hi
  exact ⟨c, 0, rfl, h.1, by rw [Nat.zero_add]; exact h0⟩
theorem OutStr.set {c n k : Nat} {f : Nat → ByteArray} {w : World} (h : OutStr c n k f w) (hk : k < n) : OutStr c n (k + 1) f (w.setCell ⟨c, k, none⟩ (.string (f k))) := by
  refine ⟨by have := h.1; simpa using this, fun i hi => ?_⟩
  obtain ⟨⟨x, h0, hx⟩, g0⟩ := h.2 i hi
  by_cases e : i = k
  · subst e
    refine ⟨⟨f i, ?_, fun _ => rfl⟩, ?_⟩ <;> simp [go_sem, h0, g0]
  · refine ⟨⟨x, ?_, fun hlt => hx (by omega)⟩, ?_⟩
    · rw [World.cell?_setCell_other _ _ _ _ (by simp <;> omega)]; exact h0
    · simpa [go_sem] using g0
theorem OutStr.forget {c n k : Nat} {f : Nat → ByteArray} {w : World} (h : OutStr c n k f w) (g : Nat → ByteArray) : OutStr c n 0 g w := by
  refine ⟨h.1, fun i hi => ?_⟩
  obtain ⟨⟨x, h0, hk⟩, z0⟩ := h.2 i hi
  exact ⟨⟨x, h0, fun h => absurd h (Nat.not_lt_zero _)⟩, z0⟩
theorem OutStr.start (w : World) (n : Nat) (f : Nat → ByteArray) (t : TypeId) : OutStr w.heap.size n 0 f (w.alloc (.cells (madeCells #[.string ByteArray.empty] n) t)) := by
  refine ⟨by simp, fun i hi => ?_⟩
  have e : (madeCells #[.string ByteArray.empty] n)[i]? = some (.string ByteArray.empty) := by
    simp only [madeCells, Array.getElem?_map, Array.getElem?_range, hi, if_true, Option.map_some]
    simp only [List.size_toArray, List.length_cons, List.length_nil, Nat.zero_add, Nat.mod_one]
    rfl
  refine ⟨⟨ByteArray.empty, ?_, fun h => absurd h (Nat.not_lt_zero _)⟩, ?_⟩ <;> simp [go_sem, e]

set_option maxRecDepth 100000 in
set_option maxHeartbeats 800000 in
theorem w_toStringS (a : Option Addr) (len cap : Nat) (f : Nat → ByteArray) (w : World) (hl : len ≤ 1048576) (hR : RowStr a len f w) :
    Calls Tryz.prog 33 #[.slice a len cap] w fun e w' => e = .returned (.slice (some ⟨w.heap.size, 0, none⟩) len len) ∧ Below w.heap.size w w' ∧ OutStr w.heap.size len len f w' := by
  have hinfo : (Tryz.prog.info? 9).map (fun i => (i.zero, i.size, i.bytes)) = some (some (.string ByteArray.empty), 1, 16) := by kernel_rfl
  obtain ⟨i, hi, hzz⟩ := Option.map_eq_some_iff.1 hinfo
  simp only [Prod.mk.injEq] at hzz
  obtain ⟨hz, hsz, hby⟩ := hzz
  have hmk := fun w : World => run_make (P := Tryz.prog) w 26 9 i _ Tryz.underlying26 hi hz .i64 .i64 (len : Int) (len : Int) (by omega) (by omega) (by rw [hby]; omega) (by omega)
  rw [hsz] at hmk
  clear hi hz hsz hby hinfo
  simp only [Int.toNat_natCast, Nat.mul_one, Value.cells] at hmk
  go_enter Tryz.func33, Tryz.ntmps33
  go_wp2_with fail
  go_loopw [4] (fun i wr => ∃ k : Nat, k ≤ len ∧ i = .int .i64 k ∧ Below w.heap.size w wr ∧ OutStr w.heap.size len k f wr) (fun i _ => len - (intOf i).toNat)
  case atStart => exact ⟨0, Nat.zero_le _, rfl, below_box (Below.refl _ _), OutStr.start w len f _⟩
  case round =>
    obtain ⟨k, hk, rfl, hb, ho⟩ := hrel
    by_cases hlt : k < len
    · obtain ⟨b, off, rfl, hbw, h0⟩ := hR k hlt
      have h0 := (hb.cell (p := ⟨b, off + k, none⟩) hbw).trans h0
      have hlt' : (k : Int) < (len : Int) := by omega
      clear hR hmk
      obtain ⟨⟨y0, i0, _⟩, g0⟩ := ho.2 k hlt
      go_wp2_with fail
      exact ⟨⟨k + 1, by omega, by go_num, (hb.setCell (Nat.le_refl _) _), ho.set hlt⟩, by simp [intOf]; omega⟩
    · have hk' : k = len := by omega
      subst hk'
      go_wp2_with fail
      go_ret
      exact ⟨rfl, hb, ho⟩

set_option maxRecDepth 100000 in
set_option maxHeartbeats 800000 in
theorem w_eqStringS (a a' : Option Addr) (len cap cap' : Nat) (f : Nat → ByteArray) (w : World) (hl : len ≤ 4294967296) (hR : RowStr a len f w) (hR' : RowStr a' len f w) :
    Calls Tryz.prog 40 #[.slice a len cap, .slice a' len cap'] w fun e w' => e = .returned (.bool true) ∧ Below w.heap.size w w' := by
  have hne : ((len : Int) != (len : Int)) = false := by simp
  go_enter Tryz.func40, Tryz.ntmps40
  go_wp2_with fail
  go_loopw [5] (fun i wr => ∃ k : Nat, k ≤ len ∧ i = .int .i64 k ∧ Below w.heap.size w wr) (fun i _ => len - (intOf i).toNat)
  case atStart => exact ⟨0, Nat.zero_le _, rfl, Below.refl _ _⟩
  case round =>
    obtain ⟨k, hk, rfl, hb⟩ := hrel
    by_cases hlt : k < len
    · obtain ⟨b, off, rfl, hbw, h0⟩ := hR k hlt
      obtain ⟨b', off', rfl, hbw', i0⟩ := hR' k hlt
      have h0 := (hb.cell (p := ⟨b, off + k, none⟩) hbw).trans h0
      have i0 := (hb.cell (p := ⟨b', off' + k, none⟩) hbw').trans i0
      have hlt' : (k : Int) < (len : Int) := by omega
      clear hR hR'
      go_wp2_with fail
      go_quiet (fail)
      go_wp2_with fail
      exact ⟨⟨k + 1, by omega, by go_num, below_drewN hb _⟩, by simp [intOf]; omega⟩
    · go_wp2_with fail
      go_ret
      exact ⟨rfl, hb⟩

/-- The strings that f tells. -/
def listS (n : Nat) (f : Nat → ByteArray) : List ByteArray := (List.range n).map f
theorem listS_len (n : Nat) (f : Nat → ByteArray) : (listS n f).length = n := by simp [listS]
end Go.Proofs.YtnficndeblkjhaaGreatDoor

namespace Go.Proofs.YtnficndeblkjhaaGreatDoor
open Go.RowKit

noncomputable def tB (p : Prop) : Bool := @decide p (Classical.propDecidable p)
theorem tB_t {p : Prop} (h : p) : tB p = true := @decide_eq_true p (Classical.propDecidable p) h
theorem tB_f {p : Prop} (h : ¬ p) : tB p = false := @decide_eq_false p (Classical.propDecidable p) h
theorem tB_congr {p q : Prop} (h : p ↔ q) : tB p = tB q := by
  have e : p = q := propext h
  rw [e]
theorem tB_of {p : Prop} {b : Bool} (h1 : p → b = true) (h2 : ¬ p → b = false) : b = tB p := by
  by_cases h : p
  · rw [tB_t h, h1 h]
  · rw [tB_f h, h2 h]

/-- A byte of a word. -/
def WBy (x : Nat) : Prop := (97 ≤ x ∧ x ≤ 122) ∨ (48 ≤ x ∧ x ≤ 57) ∨ x = 45
instance (x : Nat) : Decidable (WBy x) := by unfold WBy; infer_instance
/-- The byte at i, 0 where there is none. -/
def byAt (s : ByteArray) (i : Nat) : Nat := if h : i < s.size then (s[i]'h).toNat else 0
theorem byAt_eq {s : ByteArray} {i : Nat} (h : i < s.size) : byAt s i = (s[i]'h).toNat := dif_pos h
/-- A word. -/
def Wd (s : ByteArray) : Prop := 1 ≤ s.size ∧ s.size ≤ 8 ∧ ∀ i, i < s.size → WBy (byAt s i)
/-- A path of n words. -/
def Pw (n : Nat) (p : Nat → ByteArray) : Prop := 1 ≤ n ∧ n ≤ 5 ∧ ∀ i, i < n → Wd (p i)
/-- One text is less than another one. -/
def sLt (a b : ByteArray) : Bool := Op.bytesLess a.toList b.toList
theorem bytesLess_irrefl : ∀ l : List UInt8, Op.bytesLess l l = false
  | [] => rfl
  | a :: l => by
    have h1 : ¬ a < a := UInt8.lt_irrefl a
    simp [Op.bytesLess, bytesLess_irrefl l, h1]
theorem bytesLess_asymm : ∀ {l m : List UInt8}, Op.bytesLess l m = true → Op.bytesLess m l = false
  | _, [], h => by simp [Op.bytesLess] at h
  | [], _ :: _, _ => rfl
  | a :: l, b :: m, h => by
    simp only [Op.bytesLess, Bool.or_eq_true, decide_eq_true_eq, Bool.and_eq_true, beq_iff_eq] at h
    rcases h with h | ⟨rfl, h⟩
    · have h1 : ¬ b < a := UInt8.lt_asymm h
      have h2 : b ≠ a := fun e => by subst e; exact UInt8.lt_irrefl _ h
      simp [Op.bytesLess, h1, h2]
    · have h1 : ¬ a < a := UInt8.lt_irrefl a
      simp [Op.bytesLess, bytesLess_asymm h, h1]
theorem bytesLess_total : ∀ {l m : List UInt8}, Op.bytesLess l m = false → l ≠ m → Op.bytesLess m l = true
  | [], [], _, h => absurd rfl h
  | _ :: _, [], _, _ => rfl
  | [], _ :: _, h, _ => by simp [Op.bytesLess] at h
  | a :: l, b :: m, h, hne => by
    simp only [Op.bytesLess, Bool.or_eq_false_iff, decide_eq_false_iff_not] at h
    obtain ⟨h1, h2⟩ := h
    by_cases e : a = b
    · subst e
      simp only [beq_self_eq_true, Bool.true_and] at h2
      have := bytesLess_total h2 (fun e => hne (by rw [e]))
      simp [Op.bytesLess, this]
    · have : b < a := by
        have h3 : b.toNat ≤ a.toNat := by
          have := UInt8.not_lt.1 h1
          exact UInt8.le_iff_toNat_le.1 this
        have h4 : a.toNat ≠ b.toNat := fun h => e (UInt8.toNat_inj.1 h)
        exact UInt8.lt_iff_toNat_lt.2 (by omega)
      simp [Op.bytesLess, this]
theorem bytesLess_trans : ∀ {l m k : List UInt8}, Op.bytesLess l m = true → Op.bytesLess m k = true → Op.bytesLess l k = true
  | _, [], _, h, _ => by simp [Op.bytesLess] at h
  | _, _ :: _, [], _, h => by simp [Op.bytesLess] at h
  | [], _ :: _, _ :: _, _, _ => rfl
  | a :: l, b :: m, c :: k, h, g => by
    simp only [Op.bytesLess, Bool.or_eq_true, decide_eq_true_eq, Bool.and_eq_true, beq_iff_eq] at h g ⊢
    rcases h with h | ⟨rfl, h⟩
    · rcases g with g | ⟨rfl, _⟩
      · exact Or.inl (UInt8.lt_trans h g)
      · exact Or.inl h
    · rcases g with g | ⟨rfl, g⟩
      · exact Or.inl g
      · exact Or.inr ⟨rfl, bytesLess_trans h g⟩
theorem toList_inj {a b : ByteArray} (h : a.toList = b.toList) : a = b := by
  rw [ByteArray.toList_eq, ByteArray.toList_eq] at h
  obtain ⟨⟨x⟩⟩ := a
  obtain ⟨⟨y⟩⟩ := b
  simp at h
  rw [h]
theorem sEq_iff {a b : ByteArray} : (a.toList == b.toList) = true ↔ a = b := by
  rw [beq_iff_eq]
  exact ⟨toList_inj, fun h => by rw [h]⟩
theorem sEq_t (a : ByteArray) : (a.toList == a.toList) = true := by simp
theorem sEq_f {a b : ByteArray} (h : a ≠ b) : (a.toList == b.toList) = false := by
  cases e : (a.toList == b.toList)
  · rfl
  · exact absurd (sEq_iff.1 e) h
theorem sLt_irrefl (a : ByteArray) : sLt a a = false := bytesLess_irrefl _
theorem sLt_asymm {a b : ByteArray} (h : sLt a b = true) : sLt b a = false := bytesLess_asymm h
theorem sLt_total {a b : ByteArray} (h : sLt a b = false) (hne : a ≠ b) : sLt b a = true := bytesLess_total h (fun e => hne (toList_inj e))
theorem sLt_trans {a b c : ByteArray} (h : sLt a b = true) (g : sLt b c = true) : sLt a c = true := bytesLess_trans h g

/-- Path p of n words is less than q of m words. -/
def LtP (n : Nat) (p : Nat → ByteArray) (m : Nat) (q : Nat → ByteArray) : Prop := ∃ k, k ≤ n ∧ k < m ∧ (∀ i, i < k → p i = q i) ∧ (k = n ∨ (k < n ∧ sLt (p k) (q k) = true))
/-- Path p is the beginning of q, or q. -/
def Bg (n : Nat) (p : Nat → ByteArray) (m : Nat) (q : Nat → ByteArray) : Prop := n ≤ m ∧ ∀ i, i < n → p i = q i
theorem ltP_at {n m k : Nat} {p q : Nat → ByteArray} (h : ∀ i, i < k → p i = q i) (hn : k < n) (hm : k < m) (hne : p k ≠ q k) : LtP n p m q ↔ sLt (p k) (q k) = true := by
  constructor
  · rintro ⟨j, j1, j2, j3, j4⟩
    rcases Nat.lt_trichotomy j k with g | g | g
    · rcases j4 with j4 | ⟨_, j4⟩
      · omega
      · rw [h j g, sLt_irrefl] at j4
        cases j4
    · subst g
      rcases j4 with j4 | ⟨_, j4⟩
      · omega
      · exact j4
    · exact absurd (j3 k g) hne
  · intro h1
    exact ⟨k, by omega, hm, h, Or.inr ⟨hn, h1⟩⟩
theorem ltP_end {n m : Nat} {p q : Nat → ByteArray} (h : ∀ i, i < n → p i = q i) : LtP n p m q ↔ n < m := by
  constructor
  · rintro ⟨j, j1, j2, j3, j4⟩
    rcases j4 with j4 | ⟨j5, j4⟩
    · omega
    · rw [h j j5, sLt_irrefl] at j4
      cases j4
  · intro h1
    exact ⟨n, Nat.le_refl _, h1, h, Or.inl rfl⟩
theorem ltP_over {n m : Nat} {p q : Nat → ByteArray} (hnm : m ≤ n) (h : ∀ i, i < m → p i = q i) : ¬ LtP n p m q := by
  rintro ⟨j, j1, j2, j3, j4⟩
  rcases j4 with j4 | ⟨j5, j4⟩
  · omega
  · rw [h j j2, sLt_irrefl] at j4
    cases j4
/-- How two paths compare. -/
noncomputable def cmpW (n : Nat) (p : Nat → ByteArray) (m : Nat) (q : Nat → ByteArray) : Int := if tB (LtP n p m q) then -1 else if tB (LtP m q n p) then 1 else 0
theorem cmpW_lt {n m : Nat} {p q : Nat → ByteArray} (h : LtP n p m q) : cmpW n p m q = -1 := by
  unfold cmpW
  rw [if_pos (tB_t h)]
theorem cmpW_gt {n m : Nat} {p q : Nat → ByteArray} (h : ¬ LtP n p m q) (g : LtP m q n p) : cmpW n p m q = 1 := by
  unfold cmpW
  rw [if_neg (by simp [tB_f h]), if_pos (tB_t g)]
theorem cmpW_eq {n m : Nat} {p q : Nat → ByteArray} (h : ¬ LtP n p m q) (g : ¬ LtP m q n p) : cmpW n p m q = 0 := by
  unfold cmpW
  rw [if_neg (by simp [tB_f h]), if_neg (by simp [tB_f g])]
theorem cmpW_at {n m k : Nat} {p q : Nat → ByteArray} (h : ∀ i, i < k → p i = q i) (hn : k < n) (hm : k < m) (hne : p k ≠ q k) : cmpW n p m q = if sLt (p k) (q k) then -1 else 1 := by
  have h1 := ltP_at h hn hm hne
  have h2 := ltP_at (fun i hi => (h i hi).symm) hm hn (fun e => hne e.symm)
  by_cases e : sLt (p k) (q k) = true
  · rw [cmpW_lt (h1.2 e), if_pos e]
  · rw [cmpW_gt (fun g => e (h1.1 g)) (h2.2 (sLt_total (by simpa using e) hne)), if_neg e]
theorem cmpW_end {n m : Nat} {p q : Nat → ByteArray} (hnm : n ≤ m) (h : ∀ i, i < n → p i = q i) : cmpW n p m q = if n < m then -1 else 0 := by
  by_cases e : n < m
  · rw [cmpW_lt ((ltP_end h).2 e), if_pos e]
  · rw [if_neg e]
    exact cmpW_eq (fun g => e ((ltP_end h).1 g)) (ltP_over hnm (fun i hi => (h i hi).symm))
theorem cmpW_over {n m : Nat} {p q : Nat → ByteArray} (hnm : m < n) (h : ∀ i, i < m → p i = q i) : cmpW n p m q = 1 :=
  cmpW_gt (ltP_over (Nat.le_of_lt hnm) h) ((ltP_end (fun i hi => (h i hi).symm)).2 hnm)
theorem cmpW_neg {n m : Nat} {p q : Nat → ByteArray} : cmpW n p m q < 0 ↔ LtP n p m q := by
  by_cases h : LtP n p m q
  · rw [cmpW_lt h]; exact ⟨fun _ => h, fun _ => by omega⟩
  · by_cases g : LtP m q n p
    · rw [cmpW_gt h g]; exact ⟨fun k => by omega, fun k => absurd k h⟩
    · rw [cmpW_eq h g]; exact ⟨fun k => by omega, fun k => absurd k h⟩

/-- A leaf: its words, and its value. -/
structure Lf where
  n : Nat
  p : Nat → ByteArray
  v : ByteArray
def lf0 : Lf := ⟨0, fun _ => ByteArray.empty, ByteArray.empty⟩
/-- Leaf k of a good configuration. -/
def OkL (T : Nat → Lf) (k : Nat) : Prop := Pw (T k).n (T k).p ∧ Wd (T k).v ∧ (0 < k → LtP (T (k - 1)).n (T (k - 1)).p (T k).n (T k).p ∧ ¬ Bg (T (k - 1)).n (T (k - 1)).p (T k).n (T k).p)
/-- A good configuration. -/
def GC (N : Nat) (T : Nat → Lf) : Prop := (∀ k, k < N → OkL T k) ∧ N ≤ 30
end Go.Proofs.YtnficndeblkjhaaGreatDoor
