/- What the program's functions of chapter 2 answer: values, order, tables. -/
import Derived.Test.YtflakkbodbnndaaS4p
import Derived.Test.YtflakkbodbnndaaAll1
import Derived.Test.YtflakkbodbnndaaAll4
/- What the specification's PrependPath answers. -/
namespace Go.Proofs.Ytflakkbodbnndaa
open Go.RowKit

theorem src1 (w : World) (asn : Int) (t : TypeId) : SrcN .i64 (some ⟨w.heap.size, 0, none⟩) [asn] 1 (w.alloc (.cells #[.int .i64 asn] t)) := by
  refine ⟨fun i hi => ?_, .inr ⟨_, _, rfl⟩⟩
  have : i = 0 := by simpa using hi
  subst this
  exact ⟨w.heap.size, 0, rfl, by simp, by simp [go_sem]⟩
theorem map_get {n : Nat} (g : Nat → Int) : ∀ i, i < n → ((List.range n).map g).getD i 0 = g i := by
  intro i hi
  simp [List.getD_eq_getElem?_getD, hi]
theorem only_of_grown {w w' : World} {v : Value} {c : Nat} (h : w.grownBy w' v.ownBlock) (hv : v.ownBlock = some c) : Only c w w' :=
  ⟨h.os, h.tape, h.output, h.size, fun k hk hne => h.block k hk (by rw [hv]; simpa using hne)⟩
end Go.Proofs.Ytflakkbodbnndaa

/- Rows of Entry in memory, and what the laws do with them: handed over, compared. -/
namespace Go.Proofs.Ytflakkbodbnndaa
open Go.RowKit

/-- n of them at a, told by f0 f1 f2. -/
def RowEntry (a : Option Addr) (n : Nat) (f0 : Nat → Int) (f1 : Nat → Int) (f2 : Nat → Int) (w : World) : Prop := ∀ i, i < n → ∃ b off, a = some ⟨b, off, none⟩ ∧ b < w.heap.size ∧
  w.cell? ⟨b, off + i * 3, none⟩ = some (.int .i64 (f0 i)) ∧ w.cell? ⟨b, off + i * 3 + 1, none⟩ = some (.int .i64 (f1 i)) ∧ w.cell? ⟨b, off + i * 3 + 2, none⟩ = some (.int .i64 (f2 i))
theorem RowEntry.below {a : Option Addr} {n : Nat} {f0 : Nat → Int} {f1 : Nat → Int} {f2 : Nat → Int} {w w' : World} (h : RowEntry a n f0 f1 f2 w) (k : Below w.heap.size w w') : RowEntry a n f0 f1 f2 w' := by
  intro i hi
  obtain ⟨b, off, ha, hb, h0, h1, h2⟩ := h i hi
  obtain ⟨hc, _⟩ := bcell k
  exact ⟨b, off, ha, Nat.lt_of_lt_of_le hb k.size, (hc _ _ hb).trans h0, (hc _ _ hb).trans h1, (hc _ _ hb).trans h2⟩

/-- A row of n of them in block c, the first k told; it may be written. -/
def OutEntry (c n k : Nat) (f0 : Nat → Int) (f1 : Nat → Int) (f2 : Nat → Int) (w : World) : Prop := c < w.heap.size ∧ ∀ i, i < n →
  (∃ (x0 : Int) (x1 : Int) (x2 : Int), w.cell? ⟨c, i * 3, none⟩ = some (.int .i64 x0) ∧ w.cell? ⟨c, i * 3 + 1, none⟩ = some (.int .i64 x1) ∧ w.cell? ⟨c, i * 3 + 2, none⟩ = some (.int .i64 x2) ∧ (i < k → x0 = f0 i ∧ x1 = f1 i ∧ x2 = f2 i)) ∧
  w.frozen? ⟨c, i * 3, none⟩ = false ∧ w.frozen? ⟨c, i * 3 + 1, none⟩ = false ∧ w.frozen? ⟨c, i * 3 + 2, none⟩ = false
theorem OutEntry.below {c n k : Nat} {f0 : Nat → Int} {f1 : Nat → Int} {f2 : Nat → Int} {w w' : World} (h : OutEntry c n k f0 f1 f2 w) (hb : Below w.heap.size w w') : OutEntry c n k f0 f1 f2 w' := by
  obtain ⟨hc, hf⟩ := bcell hb
  refine ⟨Nat.lt_of_lt_of_le h.1 hb.size, fun i hi => ?_⟩
  obtain ⟨⟨x0, x1, x2, h0, h1, h2, hk⟩, g0, g1, g2⟩ := h.2 i hi
  exact ⟨⟨x0, x1, x2, (hc _ _ h.1).trans h0, (hc _ _ h.1).trans h1, (hc _ _ h.1).trans h2, hk⟩, (hf _ _ h.1).trans g0, (hf _ _ h.1).trans g1, (hf _ _ h.1).trans g2⟩
theorem OutEntry.row {c n : Nat} {f0 : Nat → Int} {f1 : Nat → Int} {f2 : Nat → Int} {w : World} (h : OutEntry c n n f0 f1 f2 w) : RowEntry (some ⟨c, 0, none⟩) n f0 f1 f2 w := by
  intro i hi
  obtain ⟨⟨x0, x1, x2, h0, h1, h2, hk⟩, g0, g1, g2⟩ := h.2 i hi
  obtain ⟨rfl, rfl, rfl⟩ := hk hi
  exact ⟨c, 0, rfl, h.1, by rw [Nat.zero_add]; exact h0, by rw [Nat.zero_add]; exact h1, by rw [Nat.zero_add]; exact h2⟩
theorem OutEntry.set {c n k : Nat} {f0 : Nat → Int} {f1 : Nat → Int} {f2 : Nat → Int} {w : World} (h : OutEntry c n k f0 f1 f2 w) (hk : k < n) : OutEntry c n (k + 1) f0 f1 f2 (((w.setCell ⟨c, k * 3, none⟩ (.int .i64 (f0 k))).setCell ⟨c, k * 3 + 1, none⟩ (.int .i64 (f1 k))).setCell ⟨c, k * 3 + 2, none⟩ (.int .i64 (f2 k))) := by
  refine ⟨by have := h.1; simpa using this, fun i hi => ?_⟩
  obtain ⟨⟨x0, x1, x2, h0, h1, h2, hx⟩, g0, g1, g2⟩ := h.2 i hi
  by_cases e : i = k
  · subst e
    refine ⟨⟨f0 i, f1 i, f2 i, ?_, ?_, ?_, fun _ => ⟨rfl, rfl, rfl⟩⟩, ?_, ?_, ?_⟩ <;> simp [go_sem, h0, h1, h2, g0, g1, g2]
  · refine ⟨⟨x0, x1, x2, ?_, ?_, ?_, fun hlt => hx (by omega)⟩, ?_, ?_, ?_⟩
    · rw [World.cell?_setCell_other _ _ _ _ (by simp <;> omega), World.cell?_setCell_other _ _ _ _ (by simp <;> omega), World.cell?_setCell_other _ _ _ _ (by simp <;> omega)]; exact h0
    · rw [World.cell?_setCell_other _ _ _ _ (by simp <;> omega), World.cell?_setCell_other _ _ _ _ (by simp <;> omega), World.cell?_setCell_other _ _ _ _ (by simp <;> omega)]; exact h1
    · rw [World.cell?_setCell_other _ _ _ _ (by simp <;> omega), World.cell?_setCell_other _ _ _ _ (by simp <;> omega), World.cell?_setCell_other _ _ _ _ (by simp <;> omega)]; exact h2
    · simpa [go_sem] using g0
    · simpa [go_sem] using g1
    · simpa [go_sem] using g2

end Go.Proofs.Ytflakkbodbnndaa

/- What the specification's functions of chapter 1 answer: order, parents, halves, siblings. -/
namespace Go.Proofs.Ytflakkbodbnndaa
open Go.RowKit

end Go.Proofs.Ytflakkbodbnndaa

/- What the specification's functions of chapter 2 answer: tables. -/
namespace Go.Proofs.Ytflakkbodbnndaa
open Go.RowKit

def entOk (f0 f1 f2 : Nat → Int) (k : Nat) : Bool :=
  goodB (f0 k) (f1 k) && inB (f2 k) 0 1000000 && (k == 0 || decide (cmpP (f0 (k - 1)) (f1 (k - 1)) (f0 k) (f1 k) < 0))
def tabB (f0 f1 f2 : Nat → Int) (n : Nat) : Bool := (List.range n).all (entOk f0 f1 f2) && decide (n ≤ 30)

theorem all_next {f0 f1 f2 : Nat → Int} {k : Nat} (h : (List.range k).all (entOk f0 f1 f2) = true) (h1 : entOk f0 f1 f2 k = true) : (List.range (k + 1)).all (entOk f0 f1 f2) = true := by
  rw [List.range_succ, List.all_append, h, Bool.true_and]
  simp [h1]
theorem tabB_no {f0 f1 f2 : Nat → Int} {n k : Nat} (hk : k < n) (h : entOk f0 f1 f2 k = false) : tabB f0 f1 f2 n = false := by
  unfold tabB
  have h2 : (List.range n).all (entOk f0 f1 f2) = false := by
    rw [List.all_eq_false]
    exact ⟨k, List.mem_range.2 hk, by simp [h]⟩
  rw [h2]; rfl

end Go.Proofs.Ytflakkbodbnndaa

/- What the program's functions of chapter 1 answer: sizes, goodness. -/
namespace Go.Proofs.Ytflakkbodbnndaa
open Go.RowKit

set_option maxHeartbeats 400000 in
theorem i_sizeOf (l : Int) (w : World) (h0 : 0 ≤ l) (h1 : l ≤ 32) :
    Calls Try.prog 108 #[.int .i64 l] w fun e w' => e = .returned (.int .i64 (pw l)) ∧ w' = w := by
  go_enter Try.func108, Try.ntmps108
  go_wp2
  go_ret
  exact ⟨ret_int (pw_wrap l h0), rfl⟩

set_option maxHeartbeats 400000 in
theorem i_isAddr (n : Int) (w : World) :
    Calls Try.prog 86 #[.int .i64 n] w fun e w' => e = .returned (.bool (inB n 0 4294967295)) ∧ w' = w := by
  by_cases h1 : 0 ≤ n
  · by_cases h2 : n ≤ 4294967295
    · rw [inB_t h1 h2]
      go_enter Try.func86, Try.ntmps86
      go_wp2
      go_ret
      exact ⟨rfl, rfl⟩
    · rw [inB_f2 h2]
      go_enter Try.func86, Try.ntmps86
      go_wp2
      go_ret
      exact ⟨rfl, rfl⟩
  · rw [inB_f1 h1]
    go_enter Try.func86, Try.ntmps86
    go_wp2
    go_ret
    exact ⟨rfl, rfl⟩

set_option maxHeartbeats 400000 in
theorem i_around (a l : Int) (w : World) (h0 : 0 ≤ l) (h1 : l ≤ 32) (h2 : 0 ≤ a) (h3 : a ≤ 4294967295) :
    Calls Try.prog 87 #[.int .i64 a, .int .i64 l] w fun e w' => e = .returned (.agg #[.int .i64 (a - a % pw l), .int .i64 l]) ∧ Below w.heap.size w w' := by
  have p1 := pw_pos l
  have p2 := pw_le l h0
  have p3 : 0 ≤ a % pw l := Int.emod_nonneg _ (by omega)
  have p4 : a % pw l < pw l := Int.emod_lt_of_pos _ (by omega)
  go_enter Try.func87, Try.ntmps87
  go_wp2_with (go_at_call 108; refine (i_sizeOf _ _ (by omega) (by omega)).mono ?_; rintro e w' ⟨rfl, rfl⟩)
  exact bodyPost_ret (v := .agg #[.int .i64 (a - a % pw l), .int .i64 l]) (by simp [results, Try.results87, go_sem]) rfl ⟨rfl, (Below.refl _ _).alloc (Nat.le_refl _) _⟩

set_option maxRecDepth 100000 in
set_option maxHeartbeats 800000 in
theorem i_good_in (a l : Int) (w : World) (hl0 : 0 ≤ l) (hl1 : l ≤ 32) (ha0 : 0 ≤ a) (ha1 : a ≤ 4294967295) :
    Calls Try.prog 59 #[.agg #[.int .i64 a, .int .i64 l]] w fun e w' => e = .returned (.bool (a % pw l == 0)) ∧ Below w.heap.size w w' := by
  have i2 := inB_t ha0 ha1
  have t1 : decide (l < 0) = false := by simp; omega
  have t2 : decide (32 < l) = false := by simp; omega
  have he := eqPrefix_run
  have hg := eqPrefix_guard
  go_enter Try.func59, Try.ntmps59
  go_wp2_with (go_at_call 86; refine (i_isAddr _ _).mono ?_; rintro e w' ⟨rfl, rfl⟩)
  go_region_with (go_at_call 87; refine (i_around _ _ _ hl0 hl1 ha0 ha1).mono ?_; rintro e w' ⟨rfl, hb⟩; obtain ⟨hc, hf⟩ := bcell hb)
  all_goals
    go_wp2
    go_ret
    exact ⟨ret_bool (sub_is a (a % pw l)), ((Below.refl _ _).alloc (Nat.le_refl _) _).drew.trans (hb.mono (by simp))⟩

set_option maxRecDepth 100000 in
set_option maxHeartbeats 800000 in
theorem i_good_a (a l : Int) (w : World) (hl0 : 0 ≤ l) (hl1 : l ≤ 32) (ha : ¬ (0 ≤ a ∧ a ≤ 4294967295)) :
    Calls Try.prog 59 #[.agg #[.int .i64 a, .int .i64 l]] w fun e w' => e = .returned (.bool false) ∧ Below w.heap.size w w' := by
  have i2 : inB a 0 4294967295 = false := inB_n ha
  have t1 : decide (l < 0) = false := by simp; omega
  have t2 : decide (32 < l) = false := by simp; omega
  clear ha
  go_enter Try.func59, Try.ntmps59
  go_wp2_with (go_at_call 86; refine (i_isAddr _ _).mono ?_; rintro e w' ⟨rfl, rfl⟩)
  go_ret
  exact ⟨rfl, (Below.refl _ _).alloc (Nat.le_refl _) _⟩

set_option maxRecDepth 100000 in
set_option maxHeartbeats 800000 in
theorem i_good_l (a l : Int) (w : World) (hl : ¬ (0 ≤ l ∧ l ≤ 32)) :
    Calls Try.prog 59 #[.agg #[.int .i64 a, .int .i64 l]] w fun e w' => e = .returned (.bool false) ∧ Below w.heap.size w w' := by
  by_cases t0 : l < 0
  · go_enter Try.func59, Try.ntmps59
    go_wp2_with fail
    go_ret
    exact ⟨rfl, (Below.refl _ _).alloc (Nat.le_refl _) _⟩
  · have t3 : 32 < l := by omega
    clear hl
    go_enter Try.func59, Try.ntmps59
    go_wp2_with fail
    go_ret
    exact ⟨rfl, (Below.refl _ _).alloc (Nat.le_refl _) _⟩

theorem i_good (a l : Int) (w : World) :
    Calls Try.prog 59 #[.agg #[.int .i64 a, .int .i64 l]] w fun e w' => e = .returned (.bool (goodB a l)) ∧ Below w.heap.size w w' := by
  by_cases hl : 0 ≤ l ∧ l ≤ 32
  · by_cases ha : 0 ≤ a ∧ a ≤ 4294967295
    · rw [goodB_in hl.1 hl.2 ha.1 ha.2]
      exact i_good_in a l w hl.1 hl.2 ha.1 ha.2
    · rw [goodB_a ha]
      exact i_good_a a l w hl.1 hl.2 ha
  · rw [goodB_l hl]
    exact i_good_l a l w hl

end Go.Proofs.Ytflakkbodbnndaa

/- What the program's functions of chapter 1 answer: order, parents, halves, siblings. -/
namespace Go.Proofs.Ytflakkbodbnndaa
open Go.RowKit

end Go.Proofs.Ytflakkbodbnndaa

namespace Go.Proofs.Ytflakkbodbnndaa
open Go.RowKit

set_option maxHeartbeats 400000 in
theorem i_value (n : Int) (w : World) :
    Calls Try.prog 52 #[.int .i64 n] w fun e w' => e = .returned (.bool (inB n 0 1000000)) ∧ w' = w := by
  by_cases h1 : 0 ≤ n
  · by_cases h2 : n ≤ 1000000
    · rw [inB_t h1 h2]
      go_enter Try.func52, Try.ntmps52
      go_wp2
      go_ret
      exact ⟨rfl, rfl⟩
    · rw [inB_f2 h2]
      go_enter Try.func52, Try.ntmps52
      go_wp2
      go_ret
      exact ⟨rfl, rfl⟩
  · rw [inB_f1 h1]
    go_enter Try.func52, Try.ntmps52
    go_wp2
    go_ret
    exact ⟨rfl, rfl⟩

end Go.Proofs.Ytflakkbodbnndaa
