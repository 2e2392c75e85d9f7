/- Lists of texts and of writes of one's own; slices.Clone of both. -/
import Derived.Test.YtnpnhdaehddnmaaDoorLaw17b
import Derived.Test.YtnpnhdaehddnmaaDoorStoreM
import Derived.Lib.SliceRun
namespace Go.Proofs.YtnpnhdaehddnmaaDoor
open Go.RowKit

def scells (n : Nat) (f : Nat → ByteArray) : List Value := (List.range n).map fun i => .string (f i)
def wcells (m : Nat) (A : Nat → Int) (D : Nat → ByteArray) : List Value := (List.range m).flatMap fun i => [.int .i64 (A i), .string (D i)]
theorem scells_len (n : Nat) (f : Nat → ByteArray) : (scells n f).length = n * 1 := by simp [scells]
theorem scells_at {n : Nat} (f : Nat → ByteArray) {i : Nat} (h : i < n) : (scells n f)[i]? = some (.string (f i)) := by simp [scells, h]
theorem scells_one (n : Nat) (f : Nat → ByteArray) : ∀ u ∈ scells n f, u.oneCell' = true := by
  intro u hu
  simp only [scells, List.mem_map] at hu
  obtain ⟨i, _, rfl⟩ := hu
  rfl
theorem wcells_succ (m : Nat) (A : Nat → Int) (D : Nat → ByteArray) : wcells (m + 1) A D = wcells m A D ++ [.int .i64 (A m), .string (D m)] := by
  simp [wcells, List.range_succ, List.flatMap_append]
theorem wcells_zero (A : Nat → Int) (D : Nat → ByteArray) : wcells 0 A D = [] := rfl
theorem wcells_len (m : Nat) (A : Nat → Int) (D : Nat → ByteArray) : (wcells m A D).length = m * 2 := by
  induction m with
  | zero => rfl
  | succ k ih => rw [wcells_succ, List.length_append, ih]; simp; omega
theorem wcells_at (m : Nat) (A : Nat → Int) (D : Nat → ByteArray) {i : Nat} (h : i < m) : (wcells m A D)[i * 2]? = some (.int .i64 (A i)) ∧ (wcells m A D)[i * 2 + 1]? = some (.string (D i)) := by
  induction m with
  | zero => omega
  | succ k ih =>
    rw [wcells_succ]
    by_cases e : i < k
    · obtain ⟨h1, h2⟩ := ih e
      have hl := wcells_len k A D
      rw [List.getElem?_append_left (by omega), List.getElem?_append_left (by omega)]
      exact ⟨h1, h2⟩
    · obtain rfl : i = k := by omega
      have hl := wcells_len i A D
      rw [List.getElem?_append_right (by omega), List.getElem?_append_right (by omega), hl]
      have e1 : i * 2 - i * 2 = 0 := by omega
      have e2 : i * 2 + 1 - i * 2 = 1 := by omega
      rw [e1, e2]
      exact ⟨rfl, rfl⟩
theorem wcells_one (m : Nat) (A : Nat → Int) (D : Nat → ByteArray) : ∀ u ∈ wcells m A D, u.oneCell' = true := by
  intro u hu
  simp only [wcells, List.mem_flatMap, List.mem_range, List.mem_cons, List.not_mem_nil, or_false] at hu
  obtain ⟨i, _, rfl | rfl⟩ := hu <;> rfl
theorem wcells_congr {m : Nat} {A A' : Nat → Int} {D D' : Nat → ByteArray} (h : ∀ i, i < m → A i = A' i ∧ D i = D' i) : wcells m A D = wcells m A' D' := by
  induction m with
  | zero => rfl
  | succ k ih => rw [wcells_succ, wcells_succ, ih (fun i hi => h i (by omega)), (h k (by omega)).1, (h k (by omega)).2]
theorem rowW_str {a : Option Addr} {n : Nat} {f : Nat → ByteArray} {w : World} (h : RowStr a n f w) : RowW a (scells n f) w := by
  intro j u hu
  have hj : j < n := by have := (List.getElem?_eq_some_iff.1 hu).1; rw [scells_len] at this; omega
  rw [scells_at f hj] at hu
  obtain rfl := Option.some.inj hu
  exact h j hj
theorem rowW_wr {a : Option Addr} {m : Nat} {A : Nat → Int} {D : Nat → ByteArray} {w : World} (h : RowWrite a m A D w) : RowW a (wcells m A D) w := by
  intro j u hu
  have hj : j < m * 2 := by have := (List.getElem?_eq_some_iff.1 hu).1; rw [wcells_len] at this; omega
  obtain ⟨i, hi, hji⟩ : ∃ i, i < m ∧ (j = i * 2 ∨ j = i * 2 + 1) := ⟨j / 2, by omega, by omega⟩
  obtain ⟨b, off, ha, hb, c0, c1⟩ := h i hi
  obtain ⟨e0, e1⟩ := wcells_at m A D hi
  rcases hji with rfl | rfl
  · rw [e0] at hu
    obtain rfl := Option.some.inj hu
    exact ⟨b, off, ha, hb, c0⟩
  · rw [e1] at hu
    obtain rfl := Option.some.inj hu
    exact ⟨b, off, ha, hb, by rw [← Nat.add_assoc]; exact c1⟩
theorem row_of_wr {a : Option Addr} {m : Nat} {A : Nat → Int} {D : Nat → ByteArray} {w : World} (h : RowW a (wcells m A D) w) : RowWrite a m A D w := by
  intro i hi
  obtain ⟨e0, e1⟩ := wcells_at m A D hi
  obtain ⟨b, off, ha, hb, c0⟩ := h _ _ e0
  obtain ⟨b', off', ha', _, c1⟩ := h _ _ e1
  rw [ha] at ha'
  simp only [Option.some.injEq, Addr.mk.injEq, and_true] at ha'
  obtain ⟨rfl, rfl⟩ := ha'
  exact ⟨b, off, ha, hb, c0, by rw [← Nat.add_assoc] at c1; exact c1⟩
theorem row_of_str {a : Option Addr} {n : Nat} {f : Nat → ByteArray} {w : World} (h : RowW a (scells n f) w) : RowStr a n f w := fun i hi => h i _ (scells_at f hi)
theorem aggS17 : AggT Tryd.prog 22 9 (.string ByteArray.empty) 1 16 := ⟨Tryd.underlying22, by kernel_rfl, rfl, by decide⟩
theorem aggW17 : AggT Tryd.prog 29 63 (.agg #[.int .i64 0, .string ByteArray.empty]) 2 24 := ⟨Tryd.underlying29, by kernel_rfl, rfl, by decide⟩
/-- Texts, writes of one's own. -/
def OwnS (base : Nat) (v : Value) (n : Nat) (f : Nat → ByteArray) (w : World) : Prop := OwnW 9 1 base v n (scells n f) w
def OwnWr (base : Nat) (v : Value) (m : Nat) (A : Nat → Int) (D : Nat → ByteArray) (w : World) : Prop := OwnW 63 2 base v m (wcells m A D) w
theorem OwnS.out {base n : Nat} {v : Value} {f : Nat → ByteArray} {w : World} (h : OwnS base v n f w) : ∃ a cap, v = .slice a n cap ∧ RowStr a n f w ∧ (0 < n → ∃ g, a = some ⟨g, 0, none⟩ ∧ base ≤ g ∧ g < w.heap.size ∧ OutStr g n n f w) := by
  obtain ⟨a, cap, hv, hR, hd⟩ := ownW_row h
  refine ⟨a, cap, hv, row_of_str hR, fun hn => ?_⟩
  rcases hd with ⟨_, _, e⟩ | ⟨g, rfl, h1, h2, _, h4⟩
  · omega
  · refine ⟨g, rfl, h1, h2, h2, fun i hi => ?_⟩
    obtain ⟨b, off, ha, _, c⟩ := row_of_str hR i hi
    simp only [Option.some.injEq, Addr.mk.injEq, and_true] at ha
    obtain ⟨rfl, rfl⟩ := ha
    exact ⟨⟨f i, by rw [Nat.zero_add] at c; exact c, fun _ => rfl⟩, h4 i⟩
theorem OwnWr.out {base m : Nat} {v : Value} {A : Nat → Int} {D : Nat → ByteArray} {w : World} (h : OwnWr base v m A D w) : ∃ a cap, v = .slice a m cap ∧ RowWrite a m A D w ∧ (0 < m → ∃ g, a = some ⟨g, 0, none⟩ ∧ base ≤ g ∧ g < w.heap.size ∧ OutWrite g m m A D w) := by
  obtain ⟨a, cap, hv, hR, hd⟩ := ownW_row h
  refine ⟨a, cap, hv, row_of_wr hR, fun hn => ?_⟩
  rcases hd with ⟨_, _, e⟩ | ⟨g, rfl, h1, h2, _, h4⟩
  · omega
  · refine ⟨g, rfl, h1, h2, h2, fun i hi => ?_⟩
    obtain ⟨b, off, ha, _, c0, c1⟩ := row_of_wr hR i hi
    simp only [Option.some.injEq, Addr.mk.injEq, and_true] at ha
    obtain ⟨rfl, rfl⟩ := ha
    rw [Nat.zero_add] at c0 c1
    exact ⟨⟨A i, D i, c0, c1, fun _ => ⟨rfl, rfl⟩⟩, h4 _, h4 _⟩
set_option maxRecDepth 100000 in
set_option maxHeartbeats 1600000 in
theorem i_cloneS17 (a : Option Addr) (c n : Nat) (f : Nat → ByteArray) (w : World) (h0 : 0 < n) (hl : n ≤ 8589934592) (hR : RowStr a n f w) :
    Calls Tryd.prog 49 #[.slice a n c] w fun e w' => ∃ v, e = .returned v ∧ OwnS w.heap.size v n f w' ∧ Below w.heap.size w w' := by
  have q22 : ∀ (w : World) (a : Option Addr) (n c n' c' : Nat), (binOp .eql 22 (.slice a n c) (.slice none n' c')).run Tryd.prog w = .ok (.bool a.isNone) w := fun w a n c n' c' => Lib.run_eql_slice_nil w _ _ a n c n' c' Tryd.underlying22
  obtain ⟨b, off, rfl, _, _⟩ := hR 0 h0
  have hO : OwnW 9 1 w.heap.size (.slice (some ⟨w.heap.size, 0, none⟩) 0 0) 0 [] (w.alloc (.cells #[] 9)) := World.ownsRow_made w #[] 0 (Nat.le_refl _) (by decide) rfl
  have hR1 := rowW_str (hR.below (below_box (o := .cells #[] 9) (Below.refl _ _)))
  go_enter Tryd.func49, Tryd.ntmps49
  go_wp2_with (first | (at_builtin; refine wpList_appW aggS17 rfl _ _ rfl w.heap.size _ 0 [] rfl hO b off n c (scells n f) rfl (scells_len n f) hR1 (scells_one n f) (by omega) (by decide) (by simp) ?_))
  intro v' w5 hown' hbe _ _
  have ho : OwnS w.heap.size v' n f w5 := hown'
  have hb : Below w.heap.size w w5 := (below_box (Below.refl _ _)).trans hbe
  go_wp2_with fail
  go_ret
  exact ⟨_, rfl, ho, hb⟩
set_option maxRecDepth 100000 in
set_option maxHeartbeats 1600000 in
theorem i_cloneW17 (a : Option Addr) (c m : Nat) (A : Nat → Int) (D : Nat → ByteArray) (w : World) (hl : m ≤ 8589934592) (hR : RowWrite a m A D w) (hc : (a = none ∧ m = 0) ∨ ∃ b off, a = some ⟨b, off, none⟩) :
    Calls Tryd.prog 50 #[.slice a m c] w fun e w' => ∃ v, e = .returned v ∧ OwnWr w.heap.size v m A D w' ∧ Below w.heap.size w w' := by
  have q22 : ∀ (w : World) (a : Option Addr) (n c n' c' : Nat), (binOp .eql 29 (.slice a n c) (.slice none n' c')).run Tryd.prog w = .ok (.bool a.isNone) w := fun w a n c n' c' => Lib.run_eql_slice_nil w _ _ a n c n' c' Tryd.underlying29
  rcases hc with ⟨rfl, rfl⟩ | ⟨b, off, rfl⟩
  · clear hR hl
    go_enter Tryd.func50, Tryd.ntmps50
    go_wp2_with fail
    go_ret
    exact ⟨_, rfl, ownW_nil _ _ _ _, Below.refl _ _⟩
  · have hO : OwnW 63 2 w.heap.size (.slice (some ⟨w.heap.size, 0, none⟩) 0 0) 0 [] (w.alloc (.cells #[] 63)) := World.ownsRow_made w #[] 0 (Nat.le_refl _) (by decide) rfl
    have hR1 := rowW_wr (hR.below (below_box (o := .cells #[] 63) (Below.refl _ _)))
    go_enter Tryd.func50, Tryd.ntmps50
    go_wp2_with (first | (at_builtin; refine wpList_appW aggW17 rfl _ _ rfl w.heap.size _ 0 [] rfl hO b off m c (wcells m A D) rfl (wcells_len m A D) hR1 (wcells_one m A D) (by omega) (by decide) (by simp) ?_))
    intro v' w5 hown' hbe _ _
    have ho : OwnWr w.heap.size v' m A D w5 := by have h := hown'; simpa [OwnWr] using h
    have hb : Below w.heap.size w w5 := (below_box (Below.refl _ _)).trans hbe
    go_wp2_with fail
    go_ret
    exact ⟨_, rfl, ho, hb⟩
end Go.Proofs.YtnpnhdaehddnmaaDoor
