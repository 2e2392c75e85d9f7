/- What the program's functions of chapter 1 answer: sizes, goodness. -/
import Derived.Test.YtjjdfniemlcnnaaRib13
import Derived.Test.YtjjdfniemlcnnaaPlain8
import Derived.Test.YtjjdfniemlcnnaaAll1
import Derived.Test.YtjjdfniemlcnnaaAll4
/- The plain meaning of ribs: which are good. -/
namespace Go.Proofs.Ytjjdfniemlcnnaa
open Go.RowKit

/-- Whether row i is good, and stands behind the one ahead of it. -/
def ltR (U : Nat → Rc) (i : Nat) : Bool := decide (i = 0) || decide (cmpP (U (i - 1)).ad (U (i - 1)).ln (U i).ad (U i).ln < 0)
def rwB (U : Nat → Rc) (i : Nat) : Bool := goodB (U i).ad (U i).ln && (decide (0 < (U i).n) && (osB (U i).n (U i).T && ltR U i))
def rsB (m : Nat) (U : Nat → Rc) : Bool := (List.range m).all (rwB U)
/-- Whether a rib is good. -/
def rbB (ow : Int) (m : Nat) (U : Nat → Rc) : Bool := inB ow 1 65535 && (decide (m ≤ 20) && rsB m U)
theorem rsB_iff {m : Nat} {U : Nat → Rc} : rsB m U = true ↔ ∀ i, i < m → rwB U i = true := by simp [rsB]
theorem rs_no {m k : Nat} {U : Nat → Rc} (hk : k < m) (h : rwB U k = false) : rsB m U = false := by
  cases e : rsB m U with
  | false => rfl
  | true => rw [rsB_iff.1 e k hk] at h; exact h
theorem rs_all {m : Nat} {U : Nat → Rc} (h : ∀ i, i < m → rwB U i = true) : rsB m U = true := rsB_iff.2 h
theorem rs_next {k : Nat} {U : Nat → Rc} (h : ∀ i, i < k → rwB U i = true) (e : rwB U k = true) : ∀ i, i < k + 1 → rwB U i = true := by
  intro i hi
  by_cases c : i = k
  · rw [c]; exact e
  · exact h i (by omega)
theorem rb_no {ow : Int} {m : Nat} {U : Nat → Rc} (h : rsB m U = false) : rbB ow m U = false := by simp [rbB, h]
theorem rb_all {ow : Int} {m : Nat} {U : Nat → Rc} (h : ∀ i, i < m → rwB U i = true) : rbB ow m U = (inB ow 1 65535 && decide (m ≤ 20)) := by simp [rbB, rs_all h]
theorem ltR_zero (U : Nat → Rc) : ltR U 0 = true := by simp [ltR]
theorem ltR_succ (U : Nat → Rc) (k : Nat) : ltR U (k + 1) = decide (cmpP (U k).ad (U k).ln (U (k + 1)).ad (U (k + 1)).ln < 0) := by simp [ltR]
theorem rw_good {U : Nat → Rc} {i : Nat} (h : rwB U i = true) : goodB (U i).ad (U i).ln = true := by
  simp only [rwB, Bool.and_eq_true] at h; exact h.1
/-- What a good rib is. -/
structure GRib (ow : Int) (m : Nat) (U : Nat → Rc) : Prop where
  own : 1 ≤ ow ∧ ow ≤ 65535
  few : m ≤ 20
  pre : ∀ i, i < m → goodB (U i).ad (U i).ln = true
  some_ : ∀ i, i < m → 0 < (U i).n
  off : ∀ i, i < m → osB (U i).n (U i).T = true
  rise : ∀ i, i + 1 < m → cmpP (U i).ad (U i).ln (U (i + 1)).ad (U (i + 1)).ln < 0
theorem rb_good {ow : Int} {m : Nat} {U : Nat → Rc} (h : rbB ow m U = true) : GRib ow m U := by
  simp only [rbB, Bool.and_eq_true, decide_eq_true_eq] at h
  obtain ⟨h0, h1, h2⟩ := h
  rw [rsB_iff] at h2
  refine ⟨inB_iff.1 h0, h1, fun i hi => rw_good (h2 i hi), fun i hi => ?_, fun i hi => ?_, fun i hi => ?_⟩
  · have := h2 i hi
    simp only [rwB, Bool.and_eq_true, decide_eq_true_eq] at this
    exact this.2.1
  · have := h2 i hi
    simp only [rwB, Bool.and_eq_true, decide_eq_true_eq] at this
    exact this.2.2.1
  · have := h2 (i + 1) hi
    simp only [rwB, Bool.and_eq_true, decide_eq_true_eq, ltR_succ] at this
    exact this.2.2.2
end Go.Proofs.Ytjjdfniemlcnnaa

/- Rows of Entry in memory, and what the laws do with them: handed over, compared. -/
namespace Go.Proofs.Ytjjdfniemlcnnaa
open Go.RowKit

/-- n of them at a, told by f0 f1 f2. -/
def RowEntry (a : Option Addr) (n : Nat) (f0 : Nat → Int) (f1 : Nat → Int) (f2 : Nat → Int) (w : World) : Prop := ∀ i, i < n → ∃ b off, a = some ⟨b, off, none⟩ ∧ b < w.heap.size ∧
  w.cell? ⟨b, off + i * 3, none⟩ = some (.int .i64 (f0 i)) ∧ w.cell? ⟨b, off + i * 3 + 1, none⟩ = some (.int .i64 (f1 i)) ∧ w.cell? ⟨b, off + i * 3 + 2, none⟩ = some (.int .i64 (f2 i))
theorem RowEntry.below {a : Option Addr} {n : Nat} {f0 : Nat → Int} {f1 : Nat → Int} {f2 : Nat → Int} {w w' : World} (h : RowEntry a n f0 f1 f2 w) (k : Below w.heap.size w w') : RowEntry a n f0 f1 f2 w' := by
  intro i hi
  obtain ⟨b, off, ha, hb, h0, h1, h2⟩ := h i hi
  obtain ⟨hc, _⟩ := bcell k
  exact ⟨b, off, ha, Nat.lt_of_lt_of_le hb k.size, (hc _ _ hb).trans h0, (hc _ _ hb).trans h1, (hc _ _ hb).trans h2⟩

/-- A row of n of them in block c, the first k told; it may be written. -/
def OutEntry (c n k : Nat) (f0 : Nat → Int) (f1 : Nat → Int) (f2 : Nat → Int) (w : World) : Prop := c < w.heap.size ∧ ∀ i, i < n →
  (∃ (x0 : Int) (x1 : Int) (x2 : Int), w.cell? ⟨c, i * 3, none⟩ = some (.int .i64 x0) ∧ w.cell? ⟨c, i * 3 + 1, none⟩ = some (.int .i64 x1) ∧ w.cell? ⟨c, i * 3 + 2, none⟩ = some (.int .i64 x2) ∧ (i < k → x0 = f0 i ∧ x1 = f1 i ∧ x2 = f2 i)) ∧
  w.frozen? ⟨c, i * 3, none⟩ = false ∧ w.frozen? ⟨c, i * 3 + 1, none⟩ = false ∧ w.frozen? ⟨c, i * 3 + 2, none⟩ = false
theorem OutEntry.below {c n k : Nat} {f0 : Nat → Int} {f1 : Nat → Int} {f2 : Nat → Int} {w w' : World} (h : OutEntry c n k f0 f1 f2 w) (hb : Below w.heap.size w w') : OutEntry c n k f0 f1 f2 w' := by
  obtain ⟨hc, hf⟩ := bcell hb
  refine ⟨Nat.lt_of_lt_of_le h.1 hb.size, fun i hi => ?_⟩
  obtain ⟨⟨x0, x1, x2, h0, h1, h2, hk⟩, g0, g1, g2⟩ := h.2 i hi
  exact ⟨⟨x0, x1, x2, (hc _ _ h.1).trans h0, (hc _ _ h.1).trans h1, (hc _ _ h.1).trans h2, hk⟩, (hf _ _ h.1).trans g0, (hf _ _ h.1).trans g1, (hf _ _ h.1).trans g2⟩
theorem OutEntry.row {c n : Nat} {f0 : Nat → Int} {f1 : Nat → Int} {f2 : Nat → Int} {w : World} (h : OutEntry c n n f0 f1 f2 w) : RowEntry (some ⟨c, 0, none⟩) n f0 f1 f2 w := by
  intro i hi
  obtain ⟨⟨x0, x1, x2, h0, h1, h2, hk⟩, g0, g1, g2⟩ := h.2 i hi
  obtain ⟨rfl, rfl, rfl⟩ := hk hi
  exact ⟨c, 0, rfl, h.1, by rw [Nat.zero_add]; exact h0, by rw [Nat.zero_add]; exact h1, by rw [Nat.zero_add]; exact h2⟩
theorem OutEntry.set {c n k : Nat} {f0 : Nat → Int} {f1 : Nat → Int} {f2 : Nat → Int} {w : World} (h : OutEntry c n k f0 f1 f2 w) (hk : k < n) : OutEntry c n (k + 1) f0 f1 f2 (((w.setCell ⟨c, k * 3, none⟩ (.int .i64 (f0 k))).setCell ⟨c, k * 3 + 1, none⟩ (.int .i64 (f1 k))).setCell ⟨c, k * 3 + 2, none⟩ (.int .i64 (f2 k))) := by
  refine ⟨by have := h.1; simpa using this, fun i hi => ?_⟩
  obtain ⟨⟨x0, x1, x2, h0, h1, h2, hx⟩, g0, g1, g2⟩ := h.2 i hi
  by_cases e : i = k
  · subst e
    refine ⟨⟨f0 i, f1 i, f2 i, ?_, ?_, ?_, fun _ => ⟨rfl, rfl, rfl⟩⟩, ?_, ?_, ?_⟩ <;> simp [go_sem, h0, h1, h2, g0, g1, g2]
  · refine ⟨⟨x0, x1, x2, ?_, ?_, ?_, fun hlt => hx (by omega)⟩, ?_, ?_, ?_⟩
    · rw [World.cell?_setCell_other _ _ _ _ (by simp <;> omega), World.cell?_setCell_other _ _ _ _ (by simp <;> omega), World.cell?_setCell_other _ _ _ _ (by simp <;> omega)]; exact h0
    · rw [World.cell?_setCell_other _ _ _ _ (by simp <;> omega), World.cell?_setCell_other _ _ _ _ (by simp <;> omega), World.cell?_setCell_other _ _ _ _ (by simp <;> omega)]; exact h1
    · rw [World.cell?_setCell_other _ _ _ _ (by simp <;> omega), World.cell?_setCell_other _ _ _ _ (by simp <;> omega), World.cell?_setCell_other _ _ _ _ (by simp <;> omega)]; exact h2
    · simpa [go_sem] using g0
    · simpa [go_sem] using g1
    · simpa [go_sem] using g2

end Go.Proofs.Ytjjdfniemlcnnaa

/- What the specification's functions of chapter 1 answer: order, parents, halves, siblings. -/
namespace Go.Proofs.Ytjjdfniemlcnnaa
open Go.RowKit

set_option maxRecDepth 100000 in
set_option maxHeartbeats 800000 in
theorem s_compare1 (a l b m : Int) (w : World) :
    Calls Try.prog 35 #[.agg #[.int .i64 a, .int .i64 l], .agg #[.int .i64 b, .int .i64 m]] w fun e w' =>
      e = .returned (.int .i64 (cmpP a l b m)) ∧ Below w.heap.size w w' := by
  have he := eqPrefix_run
  have hgu := eqPrefix_guard
  have hend := fun (o o' : Obj) => below_box2 (Below.refl ((w.alloc o).alloc o').heap.size ((w.alloc o).alloc o'))
  by_cases h1 : a < b
  · have e1 : cmpP a l b m = -1 := by unfold cmpP cmpI; rw [if_pos (by omega), if_pos h1]
    rw [e1]
    have d1 : decide (a < b) = true := by simpa using h1
    clear e1
    go_enter Try.func35, Try.ntmps35
    go_wp2_with fail
    go_ret
    exact ⟨rfl, hend _ _⟩
  · by_cases h2 : a = b
    · subst h2
      have d1 : decide (a < a) = false := by simp
      have d2 : (a == a) = true := by simp
      by_cases h3 : l < m
      · have e1 : cmpP a l a m = -1 := by unfold cmpP cmpI; rw [if_neg (by omega), if_pos h3]
        rw [e1]
        have d3 : decide (l < m) = true := by simpa using h3
        clear e1 h1
        go_enter Try.func35, Try.ntmps35
        go_wp2_with fail
        go_ret
        exact ⟨rfl, hend _ _⟩
      · have d3 : decide (l < m) = false := by simpa using h3
        by_cases h4 : l = m
        · subst h4
          have e1 : cmpP a l a l = 0 := by unfold cmpP cmpI; rw [if_neg (by omega), if_neg h3, if_neg h3]
          rw [e1]
          clear e1 h1
          go_enter Try.func35, Try.ntmps35
          go_wp2_with fail
          go_ret
          exact ⟨rfl, hend _ _⟩
        · have e1 : cmpP a l a m = 1 := by unfold cmpP cmpI; rw [if_neg (by omega), if_neg h3, if_pos (by omega)]
          rw [e1]
          have d4 : (l == m) = false := by simpa using h4
          clear e1 h1
          go_enter Try.func35, Try.ntmps35
          go_wp2_with fail
          go_ret
          exact ⟨rfl, hend _ _⟩
    · have e1 : cmpP a l b m = 1 := by unfold cmpP cmpI; rw [if_pos h2, if_neg h1, if_pos (by omega)]
      rw [e1]
      have d1 : decide (a < b) = false := by simpa using h1
      have d2 : (a == b) = false := by simpa using h2
      clear e1
      go_enter Try.func35, Try.ntmps35
      go_wp2_with fail
      go_ret
      exact ⟨rfl, hend _ _⟩

end Go.Proofs.Ytjjdfniemlcnnaa

/- What the specification's functions of chapter 2 answer: tables. -/
namespace Go.Proofs.Ytjjdfniemlcnnaa
open Go.RowKit

def entOk (f0 f1 f2 : Nat → Int) (k : Nat) : Bool :=
  goodB (f0 k) (f1 k) && inB (f2 k) 0 1000000 && (k == 0 || decide (cmpP (f0 (k - 1)) (f1 (k - 1)) (f0 k) (f1 k) < 0))
def tabB (f0 f1 f2 : Nat → Int) (n : Nat) : Bool := (List.range n).all (entOk f0 f1 f2) && decide (n ≤ 30)

theorem all_next {f0 f1 f2 : Nat → Int} {k : Nat} (h : (List.range k).all (entOk f0 f1 f2) = true) (h1 : entOk f0 f1 f2 k = true) : (List.range (k + 1)).all (entOk f0 f1 f2) = true := by
  rw [List.range_succ, List.all_append, h, Bool.true_and]
  simp [h1]
theorem tabB_no {f0 f1 f2 : Nat → Int} {n k : Nat} (hk : k < n) (h : entOk f0 f1 f2 k = false) : tabB f0 f1 f2 n = false := by
  unfold tabB
  have h2 : (List.range n).all (entOk f0 f1 f2) = false := by
    rw [List.all_eq_false]
    exact ⟨k, List.mem_range.2 hk, by simp [h]⟩
  rw [h2]; rfl

end Go.Proofs.Ytjjdfniemlcnnaa

namespace Go.Proofs.Ytjjdfniemlcnnaa
open Go.RowKit

set_option maxHeartbeats 400000 in
theorem i_sizeOf (l : Int) (w : World) (h0 : 0 ≤ l) (h1 : l ≤ 32) :
    Calls Try.prog 83 #[.int .i64 l] w fun e w' => e = .returned (.int .i64 (pw l)) ∧ w' = w := by
  go_enter Try.func83, Try.ntmps83
  go_wp2
  go_ret
  exact ⟨ret_int (pw_wrap l h0), rfl⟩

set_option maxHeartbeats 400000 in
theorem i_isAddr (n : Int) (w : World) :
    Calls Try.prog 70 #[.int .i64 n] w fun e w' => e = .returned (.bool (inB n 0 4294967295)) ∧ w' = w := by
  by_cases h1 : 0 ≤ n
  · by_cases h2 : n ≤ 4294967295
    · rw [inB_t h1 h2]
      go_enter Try.func70, Try.ntmps70
      go_wp2
      go_ret
      exact ⟨rfl, rfl⟩
    · rw [inB_f2 h2]
      go_enter Try.func70, Try.ntmps70
      go_wp2
      go_ret
      exact ⟨rfl, rfl⟩
  · rw [inB_f1 h1]
    go_enter Try.func70, Try.ntmps70
    go_wp2
    go_ret
    exact ⟨rfl, rfl⟩

set_option maxHeartbeats 400000 in
theorem i_around (a l : Int) (w : World) (h0 : 0 ≤ l) (h1 : l ≤ 32) (h2 : 0 ≤ a) (h3 : a ≤ 4294967295) :
    Calls Try.prog 71 #[.int .i64 a, .int .i64 l] w fun e w' => e = .returned (.agg #[.int .i64 (a - a % pw l), .int .i64 l]) ∧ Below w.heap.size w w' := by
  have p1 := pw_pos l
  have p2 := pw_le l h0
  have p3 : 0 ≤ a % pw l := Int.emod_nonneg _ (by omega)
  have p4 : a % pw l < pw l := Int.emod_lt_of_pos _ (by omega)
  go_enter Try.func71, Try.ntmps71
  go_wp2_with (go_at_call 83; refine (i_sizeOf _ _ (by omega) (by omega)).mono ?_; rintro e w' ⟨rfl, rfl⟩)
  exact bodyPost_ret (v := .agg #[.int .i64 (a - a % pw l), .int .i64 l]) (by simp [results, Try.results71, go_sem]) rfl ⟨rfl, (Below.refl _ _).alloc (Nat.le_refl _) _⟩

set_option maxRecDepth 100000 in
set_option maxHeartbeats 800000 in
theorem i_good_in (a l : Int) (w : World) (hl0 : 0 ≤ l) (hl1 : l ≤ 32) (ha0 : 0 ≤ a) (ha1 : a ≤ 4294967295) :
    Calls Try.prog 50 #[.agg #[.int .i64 a, .int .i64 l]] w fun e w' => e = .returned (.bool (a % pw l == 0)) ∧ Below w.heap.size w w' := by
  have i2 := inB_t ha0 ha1
  have t1 : decide (l < 0) = false := by simp; omega
  have t2 : decide (32 < l) = false := by simp; omega
  have he := eqPrefix_run
  have hg := eqPrefix_guard
  go_enter Try.func50, Try.ntmps50
  go_wp2_with (go_at_call 70; refine (i_isAddr _ _).mono ?_; rintro e w' ⟨rfl, rfl⟩)
  go_region_with (go_at_call 71; refine (i_around _ _ _ hl0 hl1 ha0 ha1).mono ?_; rintro e w' ⟨rfl, hb⟩; obtain ⟨hc, hf⟩ := bcell hb)
  all_goals
    go_wp2
    go_ret
    exact ⟨ret_bool (sub_is a (a % pw l)), ((Below.refl _ _).alloc (Nat.le_refl _) _).drew.trans (hb.mono (by simp))⟩

set_option maxRecDepth 100000 in
set_option maxHeartbeats 800000 in
theorem i_good_a (a l : Int) (w : World) (hl0 : 0 ≤ l) (hl1 : l ≤ 32) (ha : ¬ (0 ≤ a ∧ a ≤ 4294967295)) :
    Calls Try.prog 50 #[.agg #[.int .i64 a, .int .i64 l]] w fun e w' => e = .returned (.bool false) ∧ Below w.heap.size w w' := by
  have i2 : inB a 0 4294967295 = false := inB_n ha
  have t1 : decide (l < 0) = false := by simp; omega
  have t2 : decide (32 < l) = false := by simp; omega
  clear ha
  go_enter Try.func50, Try.ntmps50
  go_wp2_with (go_at_call 70; refine (i_isAddr _ _).mono ?_; rintro e w' ⟨rfl, rfl⟩)
  go_ret
  exact ⟨rfl, (Below.refl _ _).alloc (Nat.le_refl _) _⟩

set_option maxRecDepth 100000 in
set_option maxHeartbeats 800000 in
theorem i_good_l (a l : Int) (w : World) (hl : ¬ (0 ≤ l ∧ l ≤ 32)) :
    Calls Try.prog 50 #[.agg #[.int .i64 a, .int .i64 l]] w fun e w' => e = .returned (.bool false) ∧ Below w.heap.size w w' := by
  by_cases t0 : l < 0
  · go_enter Try.func50, Try.ntmps50
    go_wp2_with fail
    go_ret
    exact ⟨rfl, (Below.refl _ _).alloc (Nat.le_refl _) _⟩
  · have t3 : 32 < l := by omega
    clear hl
    go_enter Try.func50, Try.ntmps50
    go_wp2_with fail
    go_ret
    exact ⟨rfl, (Below.refl _ _).alloc (Nat.le_refl _) _⟩

theorem i_good (a l : Int) (w : World) :
    Calls Try.prog 50 #[.agg #[.int .i64 a, .int .i64 l]] w fun e w' => e = .returned (.bool (goodB a l)) ∧ Below w.heap.size w w' := by
  by_cases hl : 0 ≤ l ∧ l ≤ 32
  · by_cases ha : 0 ≤ a ∧ a ≤ 4294967295
    · rw [goodB_in hl.1 hl.2 ha.1 ha.2]
      exact i_good_in a l w hl.1 hl.2 ha.1 ha.2
    · rw [goodB_a ha]
      exact i_good_a a l w hl.1 hl.2 ha
  · rw [goodB_l hl]
    exact i_good_l a l w hl

end Go.Proofs.Ytjjdfniemlcnnaa
