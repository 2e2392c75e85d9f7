/- What the program's functions of chapter 2 answer: values, order, tables. -/
import Derived.Test.YtoeephmdklmpfaaW0
import Derived.Test.YtoeephmdklmpfaaS1c
import Derived.Test.YtoeephmdklmpfaaI1
/- Rows of Entry in memory, and what the laws do with them: handed over, compared. -/
namespace Go.Proofs.Ytoeephmdklmpfaa
open Go.RowKit

/-- n of them at a, told by f0 f1 f2. -/
def RowEntry (a : Option Addr) (n : Nat) (f0 : Nat → Int) (f1 : Nat → Int) (f2 : Nat → Int) (w : World) : Prop := ∀ i, i < n → ∃ b off, a = some ⟨b, off, none⟩ ∧ b < w.heap.size ∧
  w.cell? ⟨b, off + i * 3, none⟩ = some (.int .i64 (f0 i)) ∧ w.cell? ⟨b, off + i * 3 + 1, none⟩ = some (.int .i64 (f1 i)) ∧ w.cell? ⟨b, off + i * 3 + 2, none⟩ = some (.int .i64 (f2 i))
theorem RowEntry.below {a : Option Addr} {n : Nat} {f0 : Nat → Int} {f1 : Nat → Int} {f2 : Nat → Int} {w w' : World} (h : RowEntry a n f0 f1 f2 w) (k : Below w.heap.size w w') : RowEntry a n f0 f1 f2 w' := by
  intro i hi
  obtain ⟨b, off, ha, hb, h0, h1, h2⟩ := h i hi
  obtain ⟨hc, _⟩ := bcell k
  exact ⟨b, off, ha, Nat.lt_of_lt_of_le hb k.size, (hc _ _ hb).trans h0, (hc _ _ hb).trans h1, (hc _ _ hb).trans h2⟩

/-- A row of n of them in block c, the first k told; it may be written. -/
def OutEntry (c n k : Nat) (f0 : Nat → Int) (f1 : Nat → Int) (f2 : Nat → Int) (w : World) : Prop := c < w.heap.size ∧ ∀ i, i < n →
  (∃ (x0 : Int) (x1 : Int) (x2 : Int), w.cell? ⟨c, i * 3, none⟩ = some (.int .i64 x0) ∧ w.cell? ⟨c, i * 3 + 1, none⟩ = some (.int .i64 x1) ∧ w.cell? ⟨c, i * 3 + 2, none⟩ = some (.int .i64 x2) ∧ (i < k → x0 = f0 i ∧ x1 = f1 i ∧ x2 = f2 i)) ∧
  w.frozen? ⟨c, i * 3, none⟩ = false ∧ w.frozen? ⟨c, i * 3 + 1, none⟩ = false ∧ w.frozen? ⟨c, i * 3 + 2, none⟩ = false
theorem OutEntry.below {c n k : Nat} {f0 : Nat → Int} {f1 : Nat → Int} {f2 : Nat → Int} {w w' : World} (h : OutEntry c n k f0 f1 f2 w) (hb : Below w.heap.size w w') : OutEntry c n k f0 f1 f2 w' := by
  obtain ⟨hc, hf⟩ := bcell hb
  refine ⟨Nat.lt_of_lt_of_le h.1 hb.size, fun i hi => ?_⟩
  obtain ⟨⟨x0, x1, x2, h0, h1, h2, hk⟩, g0, g1, g2⟩ := h.2 i hi
  exact ⟨⟨x0, x1, x2, (hc _ _ h.1).trans h0, (hc _ _ h.1).trans h1, (hc _ _ h.1).trans h2, hk⟩, (hf _ _ h.1).trans g0, (hf _ _ h.1).trans g1, (hf _ _ h.1).trans g2⟩
theorem OutEntry.row {c n : Nat} {f0 : Nat → Int} {f1 : Nat → Int} {f2 : Nat → Int} {w : World} (h : OutEntry c n n f0 f1 f2 w) : RowEntry (some ⟨c, 0, none⟩) n f0 f1 f2 w := by
  intro i hi
  obtain ⟨⟨x0, x1, x2, h0, h1, h2, hk⟩, g0, g1, g2⟩ := h.2 i hi
  obtain ⟨rfl, rfl, rfl⟩ := hk hi
  exact ⟨c, 0, rfl, h.1, by rw [Nat.zero_add]; exact h0, by rw [Nat.zero_add]; exact h1, by rw [Nat.zero_add]; exact h2⟩
theorem OutEntry.set {c n k : Nat} {f0 : Nat → Int} {f1 : Nat → Int} {f2 : Nat → Int} {w : World} (h : OutEntry c n k f0 f1 f2 w) (hk : k < n) : OutEntry c n (k + 1) f0 f1 f2 (((w.setCell ⟨c, k * 3, none⟩ (.int .i64 (f0 k))).setCell ⟨c, k * 3 + 1, none⟩ (.int .i64 (f1 k))).setCell ⟨c, k * 3 + 2, none⟩ (.int .i64 (f2 k))) := by
  refine ⟨by have := h.1; simpa using this, fun i hi => ?_⟩
  obtain ⟨⟨x0, x1, x2, h0, h1, h2, hx⟩, g0, g1, g2⟩ := h.2 i hi
  by_cases e : i = k
  · subst e
    refine ⟨⟨f0 i, f1 i, f2 i, ?_, ?_, ?_, fun _ => ⟨rfl, rfl, rfl⟩⟩, ?_, ?_, ?_⟩ <;> simp [go_sem, h0, h1, h2, g0, g1, g2]
  · refine ⟨⟨x0, x1, x2, ?_, ?_, ?_, fun hlt => hx (by omega)⟩, ?_, ?_, ?_⟩
    · rw [World.cell?_setCell_other _ _ _ _ (by simp <;> omega), World.cell?_setCell_other _ _ _ _ (by simp <;> omega), World.cell?_setCell_other _ _ _ _ (by simp <;> omega)]; exact h0
    · rw [World.cell?_setCell_other _ _ _ _ (by simp <;> omega), World.cell?_setCell_other _ _ _ _ (by simp <;> omega), World.cell?_setCell_other _ _ _ _ (by simp <;> omega)]; exact h1
    · rw [World.cell?_setCell_other _ _ _ _ (by simp <;> omega), World.cell?_setCell_other _ _ _ _ (by simp <;> omega), World.cell?_setCell_other _ _ _ _ (by simp <;> omega)]; exact h2
    · simpa [go_sem] using g0
    · simpa [go_sem] using g1
    · simpa [go_sem] using g2

end Go.Proofs.Ytoeephmdklmpfaa

/- What the specification's functions of chapter 2 answer: tables. -/
namespace Go.Proofs.Ytoeephmdklmpfaa
open Go.RowKit

def entOk (f0 f1 f2 : Nat → Int) (k : Nat) : Bool :=
  goodB (f0 k) (f1 k) && inB (f2 k) 0 1000000 && (k == 0 || decide (cmpP (f0 (k - 1)) (f1 (k - 1)) (f0 k) (f1 k) < 0))
def tabB (f0 f1 f2 : Nat → Int) (n : Nat) : Bool := (List.range n).all (entOk f0 f1 f2) && decide (n ≤ 30)

theorem all_next {f0 f1 f2 : Nat → Int} {k : Nat} (h : (List.range k).all (entOk f0 f1 f2) = true) (h1 : entOk f0 f1 f2 k = true) : (List.range (k + 1)).all (entOk f0 f1 f2) = true := by
  rw [List.range_succ, List.all_append, h, Bool.true_and]
  simp [h1]
theorem tabB_no {f0 f1 f2 : Nat → Int} {n k : Nat} (hk : k < n) (h : entOk f0 f1 f2 k = false) : tabB f0 f1 f2 n = false := by
  unfold tabB
  have h2 : (List.range n).all (entOk f0 f1 f2) = false := by
    rw [List.all_eq_false]
    exact ⟨k, List.mem_range.2 hk, by simp [h]⟩
  rw [h2]; rfl

end Go.Proofs.Ytoeephmdklmpfaa

/- What the program's functions of chapter 1 answer: order, parents, halves, siblings. -/
namespace Go.Proofs.Ytoeephmdklmpfaa
open Go.RowKit

theorem c_isNaN (x : Int) (w : World) :
    Calls Try.prog 161 #[.int .i64 x] w fun e w' => e = .returned (.bool false) ∧ w' = w := by
  go_enter Try.func161, Try.ntmps161
  go_wp2
  go_ret
  exact ⟨ret_bool (by simp), rfl⟩

set_option maxHeartbeats 800000 in
theorem c_compare (x y : Int) (w : World) :
    Calls Try.prog 160 #[.int .i64 x, .int .i64 y] w fun e w' => e = .returned (.int .i64 (cmpI x y)) ∧ w' = w := by
  by_cases h1 : x < y
  · have e1 : cmpI x y = -1 := by unfold cmpI; rw [if_pos h1]
    rw [e1]
    clear e1
    go_enter Try.func160, Try.ntmps160
    go_wp2_with (go_at_call 161; refine (c_isNaN _ _).mono ?_; rintro e w' ⟨rfl, rfl⟩)
    go_ret
    exact ⟨rfl, rfl⟩
  · by_cases h2 : y < x
    · have e1 : cmpI x y = 1 := by unfold cmpI; rw [if_neg h1, if_pos h2]
      rw [e1]
      clear e1
      go_enter Try.func160, Try.ntmps160
      go_wp2_with (go_at_call 161; refine (c_isNaN _ _).mono ?_; rintro e w' ⟨rfl, rfl⟩)
      go_ret
      exact ⟨rfl, rfl⟩
    · have e1 : cmpI x y = 0 := by unfold cmpI; rw [if_neg h1, if_neg h2]
      rw [e1]
      clear e1
      go_enter Try.func160, Try.ntmps160
      go_wp2_with (go_at_call 161; refine (c_isNaN _ _).mono ?_; rintro e w' ⟨rfl, rfl⟩)
      go_ret
      exact ⟨rfl, rfl⟩

set_option maxHeartbeats 800000 in
theorem i_compare (a l b m : Int) (w : World) :
    Calls Try.prog 154 #[.agg #[.int .i64 a, .int .i64 l], .agg #[.int .i64 b, .int .i64 m]] w fun e w' =>
      e = .returned (.tuple #[.int .i64 (if goodB a l && goodB b m then cmpP a l b m else 0), .bool (goodB a l && goodB b m)]) ∧ Below w.heap.size w w' := by
  have s1 := hide (fun w => i_good a l w)
  have s2 := hide (fun w => i_good b m w)
  generalize goodB a l = g1 at s1 ⊢
  generalize goodB b m = g2 at s2 ⊢
  cases g1
  · go_enter Try.func154, Try.ntmps154
    go_wp2_with fail
    refine (s1.out _).mono ?_
    rintro e w1 ⟨rfl, hb1⟩
    go_wp2_with fail
    go_ret2
    exact ⟨rfl, below_box2 hb1⟩
  · cases g2
    · go_enter Try.func154, Try.ntmps154
      go_wp2_with fail
      refine (s1.out _).mono ?_
      rintro e w1 ⟨rfl, hb1⟩
      obtain ⟨hc, hf⟩ := bcell hb1
      go_wp2_with fail
      clear hc hf
      refine (s2.out _).mono ?_
      rintro e w2 ⟨rfl, hb2⟩
      go_wp2_with fail
      go_ret2
      exact ⟨rfl, below_box2 (below_step hb1 hb2)⟩
    · by_cases h : a = b
      · have e1 : (if (true && true) = true then cmpP a l b m else 0) = cmpI l m := by simp [cmpP, h]
        rw [e1]
        have z0 : (a != b) = false := by simp [h]
        clear e1 h
        have s3 := hide (fun w => c_compare l m w)
        generalize cmpI l m = r at s3 ⊢
        go_enter Try.func154, Try.ntmps154
        go_wp2_with fail
        refine (s1.out _).mono ?_
        rintro e w1 ⟨rfl, hb1⟩
        obtain ⟨hc, hf⟩ := bcell hb1
        go_wp2_with fail
        clear hc hf
        refine (s2.out _).mono ?_
        rintro e w2 ⟨rfl, hb2⟩
        have hb := below_step hb1 hb2
        clear hb1 hb2
        obtain ⟨hc, hf⟩ := bcell hb
        go_wp2_with fail
        refine (s3.out _).mono ?_
        rintro e w3 ⟨rfl, rfl⟩
        go_wp2_with fail
        go_ret2
        exact ⟨rfl, below_box2 hb⟩
      · have e1 : (if (true && true) = true then cmpP a l b m else 0) = cmpI a b := by simp [cmpP, h]
        rw [e1]
        have z0 : (a != b) = true := by simp [h]
        clear e1 h
        have s3 := hide (fun w => c_compare a b w)
        generalize cmpI a b = r at s3 ⊢
        go_enter Try.func154, Try.ntmps154
        go_wp2_with fail
        refine (s1.out _).mono ?_
        rintro e w1 ⟨rfl, hb1⟩
        obtain ⟨hc, hf⟩ := bcell hb1
        go_wp2_with fail
        clear hc hf
        refine (s2.out _).mono ?_
        rintro e w2 ⟨rfl, hb2⟩
        have hb := below_step hb1 hb2
        clear hb1 hb2
        obtain ⟨hc, hf⟩ := bcell hb
        go_wp2_with fail
        refine (s3.out _).mono ?_
        rintro e w3 ⟨rfl, rfl⟩
        go_wp2_with fail
        go_ret2
        exact ⟨rfl, below_box2 hb⟩

end Go.Proofs.Ytoeephmdklmpfaa

namespace Go.Proofs.Ytoeephmdklmpfaa
open Go.RowKit

set_option maxHeartbeats 400000 in
theorem i_value (n : Int) (w : World) :
    Calls Try.prog 131 #[.int .i64 n] w fun e w' => e = .returned (.bool (inB n 0 1000000)) ∧ w' = w := by
  by_cases h1 : 0 ≤ n
  · by_cases h2 : n ≤ 1000000
    · rw [inB_t h1 h2]
      go_enter Try.func131, Try.ntmps131
      go_wp2
      go_ret
      exact ⟨rfl, rfl⟩
    · rw [inB_f2 h2]
      go_enter Try.func131, Try.ntmps131
      go_wp2
      go_ret
      exact ⟨rfl, rfl⟩
  · rw [inB_f1 h1]
    go_enter Try.func131, Try.ntmps131
    go_wp2
    go_ret
    exact ⟨rfl, rfl⟩

set_option maxHeartbeats 800000 in
theorem i_before (a l b m : Int) (w : World) (hg1 : goodB a l = true) (hg2 : goodB b m = true) :
    Calls Try.prog 129 #[.agg #[.int .i64 a, .int .i64 l], .agg #[.int .i64 b, .int .i64 m]] w fun e w' =>
      e = .returned (.bool (decide (cmpP a l b m < 0))) ∧ Below w.heap.size w w' := by
  have s1 := hide (fun w => i_compare a l b m w)
  rw [hg1, hg2] at s1
  simp only [Bool.and_self, if_true] at s1
  clear hg1 hg2
  generalize cmpP a l b m = r at s1 ⊢
  go_enter Try.func129, Try.ntmps129
  go_wp2_with fail
  refine (s1.out _).mono ?_
  rintro e w1 ⟨rfl, hb1⟩
  go_wp2_with fail
  go_ret
  exact ⟨rfl, below_box2 hb1⟩

theorem all_good {f0 f1 f2 : Nat → Int} {m : Nat} (h : (List.range (m + 1)).all (entOk f0 f1 f2) = true) : goodB (f0 m) (f1 m) = true := by
  rw [List.all_eq_true] at h
  have h1 := h m (List.mem_range.2 (by omega))
  unfold entOk at h1
  rw [Bool.and_eq_true, Bool.and_eq_true] at h1
  exact h1.1.1
theorem tabB_over {f0 f1 f2 : Nat → Int} {n : Nat} (h : ¬ n ≤ 30) : tabB f0 f1 f2 n = false := by
  unfold tabB
  rw [show decide (n ≤ 30) = false by simpa using h, Bool.and_false]
theorem tabB_all {f0 f1 f2 : Nat → Int} {n : Nat} (h : n ≤ 30) (ha : (List.range n).all (entOk f0 f1 f2) = true) : tabB f0 f1 f2 n = true := by
  unfold tabB
  rw [show decide (n ≤ 30) = true by simpa using h, ha]; rfl
end Go.Proofs.Ytoeephmdklmpfaa
