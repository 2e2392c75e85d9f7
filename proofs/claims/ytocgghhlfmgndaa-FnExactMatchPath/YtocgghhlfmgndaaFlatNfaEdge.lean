/- Rows of NfaEdge in memory, and what the laws do with them: handed over, compared. -/
import Derived.Test.YtocgghhlfmgndaaW0
namespace Go.Proofs.Ytocgghhlfmgndaa
open Go.RowKit

/-- n of them at a, told by f0 f1 f2 f3 f4. -/
def RowNfaEdge (a : Option Addr) (n : Nat) (f0 : Nat → Int) (f1 : Nat → Int) (f2 : Nat → Bool) (f3 : Nat → Bool) (f4 : Nat → Int) (w : World) : Prop := ∀ i, i < n → ∃ b off, a = some ⟨b, off, none⟩ ∧ b < w.heap.size ∧
  w.cell? ⟨b, off + i * 5, none⟩ = some (.int .i64 (f0 i)) ∧ w.cell? ⟨b, off + i * 5 + 1, none⟩ = some (.int .i64 (f1 i)) ∧ w.cell? ⟨b, off + i * 5 + 2, none⟩ = some (.bool (f2 i)) ∧ w.cell? ⟨b, off + i * 5 + 3, none⟩ = some (.bool (f3 i)) ∧ w.cell? ⟨b, off + i * 5 + 4, none⟩ = some (.int .i64 (f4 i))
theorem RowNfaEdge.below {a : Option Addr} {n : Nat} {f0 : Nat → Int} {f1 : Nat → Int} {f2 : Nat → Bool} {f3 : Nat → Bool} {f4 : Nat → Int} {w w' : World} (h : RowNfaEdge a n f0 f1 f2 f3 f4 w) (k : Below w.heap.size w w') : RowNfaEdge a n f0 f1 f2 f3 f4 w' := by
  intro i hi
  obtain ⟨b, off, ha, hb, h0, h1, h2, h3, h4⟩ := h i hi
  obtain ⟨hc, _⟩ := bcell k
  exact ⟨b, off, ha, Nat.lt_of_lt_of_le hb k.size, (hc _ _ hb).trans h0, (hc _ _ hb).trans h1, (hc _ _ hb).trans h2, (hc _ _ hb).trans h3, (hc _ _ hb).trans h4⟩

/-- A row of n of them in block c, the first k told; it may be written. -/
def OutNfaEdge (c n k : Nat) (f0 : Nat → Int) (f1 : Nat → Int) (f2 : Nat → Bool) (f3 : Nat → Bool) (f4 : Nat → Int) (w : World) : Prop := c < w.heap.size ∧ ∀ i, i < n →
  (∃ (x0 : Int) (x1 : Int) (x2 : Bool) (x3 : Bool) (x4 : Int), w.cell? ⟨c, i * 5, none⟩ = some (.int .i64 x0) ∧ w.cell? ⟨c, i * 5 + 1, none⟩ = some (.int .i64 x1) ∧ w.cell? ⟨c, i * 5 + 2, none⟩ = some (.bool x2) ∧ w.cell? ⟨c, i * 5 + 3, none⟩ = some (.bool x3) ∧ w.cell? ⟨c, i * 5 + 4, none⟩ = some (.int .i64 x4) ∧ (i < k → x0 = f0 i ∧ x1 = f1 i ∧ x2 = f2 i ∧ x3 = f3 i ∧ x4 = f4 i)) ∧
  w.frozen? ⟨c, i * 5, none⟩ = false ∧ w.frozen? ⟨c, i * 5 + 1, none⟩ = false ∧ w.frozen? ⟨c, i * 5 + 2, none⟩ = false ∧ w.frozen? ⟨c, i * 5 + 3, none⟩ = false ∧ w.frozen? ⟨c, i * 5 + 4, none⟩ = false
theorem OutNfaEdge.below {c n k : Nat} {f0 : Nat → Int} {f1 : Nat → Int} {f2 : Nat → Bool} {f3 : Nat → Bool} {f4 : Nat → Int} {w w' : World} (h : OutNfaEdge c n k f0 f1 f2 f3 f4 w) (hb : Below w.heap.size w w') : OutNfaEdge c n k f0 f1 f2 f3 f4 w' := by
  obtain ⟨hc, hf⟩ := bcell hb
  refine ⟨Nat.lt_of_lt_of_le h.1 hb.size, fun i hi => ?_⟩
  obtain ⟨⟨x0, x1, x2, x3, x4, h0, h1, h2, h3, h4, hk⟩, g0, g1, g2, g3, g4⟩ := h.2 i hi
  exact ⟨⟨x0, x1, x2, x3, x4, (hc _ _ h.1).trans h0, (hc _ _ h.1).trans h1, (hc _ _ h.1).trans h2, (hc _ _ h.1).trans h3, (hc _ _ h.1).trans h4, hk⟩, (hf _ _ h.1).trans g0, (hf _ _ h.1).trans g1, (hf _ _ h.1).trans g2, (hf _ _ h.1).trans g3, (hf _ _ h.1).trans g4⟩
theorem OutNfaEdge.row {c n : Nat} {f0 : Nat → Int} {f1 : Nat → Int} {f2 : Nat → Bool} {f3 : Nat → Bool} {f4 : Nat → Int} {w : World} (h : OutNfaEdge c n n f0 f1 f2 f3 f4 w) : RowNfaEdge (some ⟨c, 0, none⟩) n f0 f1 f2 f3 f4 w := by
  intro i hi
  obtain ⟨⟨x0, x1, x2, x3, x4, h0, h1, h2, h3, h4, hk⟩, g0, g1, g2, g3, g4⟩ := h.2 i hi
  obtain ⟨rfl, rfl, rfl, rfl, rfl⟩ := hk hi
  exact ⟨c, 0, rfl, h.1, by rw [Nat.zero_add]; exact h0, by rw [Nat.zero_add]; exact h1, by rw [Nat.zero_add]; exact h2, by rw [Nat.zero_add]; exact h3, by rw [Nat.zero_add]; exact h4⟩
theorem OutNfaEdge.set {c n k : Nat} {f0 : Nat → Int} {f1 : Nat → Int} {f2 : Nat → Bool} {f3 : Nat → Bool} {f4 : Nat → Int} {w : World} (h : OutNfaEdge c n k f0 f1 f2 f3 f4 w) (hk : k < n) : OutNfaEdge c n (k + 1) f0 f1 f2 f3 f4 (((((w.setCell ⟨c, k * 5, none⟩ (.int .i64 (f0 k))).setCell ⟨c, k * 5 + 1, none⟩ (.int .i64 (f1 k))).setCell ⟨c, k * 5 + 2, none⟩ (.bool (f2 k))).setCell ⟨c, k * 5 + 3, none⟩ (.bool (f3 k))).setCell ⟨c, k * 5 + 4, none⟩ (.int .i64 (f4 k))) := by
  refine ⟨by have := h.1; simpa using this, fun i hi => ?_⟩
  obtain ⟨⟨x0, x1, x2, x3, x4, h0, h1, h2, h3, h4, hx⟩, g0, g1, g2, g3, g4⟩ := h.2 i hi
  by_cases e : i = k
  · subst e
    refine ⟨⟨f0 i, f1 i, f2 i, f3 i, f4 i, ?_, ?_, ?_, ?_, ?_, fun _ => ⟨rfl, rfl, rfl, rfl, rfl⟩⟩, ?_, ?_, ?_, ?_, ?_⟩ <;> simp [go_sem, h0, h1, h2, h3, h4, g0, g1, g2, g3, g4]
  · refine ⟨⟨x0, x1, x2, x3, x4, ?_, ?_, ?_, ?_, ?_, fun hlt => hx (by omega)⟩, ?_, ?_, ?_, ?_, ?_⟩
    · rw [World.cell?_setCell_other _ _ _ _ (by simp <;> omega), World.cell?_setCell_other _ _ _ _ (by simp <;> omega), World.cell?_setCell_other _ _ _ _ (by simp <;> omega), World.cell?_setCell_other _ _ _ _ (by simp <;> omega), World.cell?_setCell_other _ _ _ _ (by simp <;> omega)]; exact h0
    · rw [World.cell?_setCell_other _ _ _ _ (by simp <;> omega), World.cell?_setCell_other _ _ _ _ (by simp <;> omega), World.cell?_setCell_other _ _ _ _ (by simp <;> omega), World.cell?_setCell_other _ _ _ _ (by simp <;> omega), World.cell?_setCell_other _ _ _ _ (by simp <;> omega)]; exact h1
    · rw [World.cell?_setCell_other _ _ _ _ (by simp <;> omega), World.cell?_setCell_other _ _ _ _ (by simp <;> omega), World.cell?_setCell_other _ _ _ _ (by simp <;> omega), World.cell?_setCell_other _ _ _ _ (by simp <;> omega), World.cell?_setCell_other _ _ _ _ (by simp <;> omega)]; exact h2
    · rw [World.cell?_setCell_other _ _ _ _ (by simp <;> omega), World.cell?_setCell_other _ _ _ _ (by simp <;> omega), World.cell?_setCell_other _ _ _ _ (by simp <;> omega), World.cell?_setCell_other _ _ _ _ (by simp <;> omega), World.cell?_setCell_other _ _ _ _ (by simp <;> omega)]; exact h3
    · rw [World.cell?_setCell_other _ _ _ _ (by simp <;> omega), World.cell?_setCell_other _ _ _ _ (by simp <;> omega), World.cell?_setCell_other _ _ _ _ (by simp <;> omega), World.cell?_setCell_other _ _ _ _ (by simp <;> omega), World.cell?_setCell_other _ _ _ _ (by simp <;> omega)]; exact h4
    · simpa [go_sem] using g0
    · simpa [go_sem] using g1
    · simpa [go_sem] using g2
    · simpa [go_sem] using g3
    · simpa [go_sem] using g4

set_option maxRecDepth 100000 in
set_option maxHeartbeats 800000 in
theorem w_toNfaEdge (x0 : Int) (x1 : Int) (x2 : Bool) (x3 : Bool) (x4 : Int) (w : World) :
    Calls Try.prog 151 #[.agg #[.int .i64 x0, .int .i64 x1, .bool x2, .bool x3, .int .i64 x4]] w fun e w' => e = .returned (.agg #[.int .i64 x0, .int .i64 x1, .bool x2, .bool x3, .int .i64 x4]) ∧ Below w.heap.size w w' := by
  go_enter Try.func151, Try.ntmps151
  go_wp2_with fail
  exact bodyPost_ret (v := .agg #[.int .i64 x0, .int .i64 x1, .bool x2, .bool x3, .int .i64 x4]) (by simp [results, Try.results151, go_sem]) rfl ⟨rfl, below_box3 (Below.refl _ _)⟩

theorem madeNfaEdge (n i : Nat) (h : i < n) : (madeCells #[.int .i64 0, .int .i64 0, .bool false, .bool false, .int .i64 0] (n * 5))[i * 5]? = some (.int .i64 0) ∧ (madeCells #[.int .i64 0, .int .i64 0, .bool false, .bool false, .int .i64 0] (n * 5))[i * 5 + 1]? = some (.int .i64 0) ∧ (madeCells #[.int .i64 0, .int .i64 0, .bool false, .bool false, .int .i64 0] (n * 5))[i * 5 + 2]? = some (.bool false) ∧ (madeCells #[.int .i64 0, .int .i64 0, .bool false, .bool false, .int .i64 0] (n * 5))[i * 5 + 3]? = some (.bool false) ∧ (madeCells #[.int .i64 0, .int .i64 0, .bool false, .bool false, .int .i64 0] (n * 5))[i * 5 + 4]? = some (.int .i64 0) := by
  refine ⟨?_, ?_, ?_, ?_, ?_⟩
  · have h1 : i * 5 < n * 5 := by omega
    have h2 : (i * 5) % 5 = 0 := by omega
    simp only [madeCells, Array.getElem?_map, Array.getElem?_range, h1, if_true, Option.map_some]
    simp only [List.size_toArray, List.length_cons, List.length_nil, Nat.zero_add, Nat.reduceAdd, h2]
    rfl
  · have h1 : i * 5 + 1 < n * 5 := by omega
    have h2 : (i * 5 + 1) % 5 = 1 := by omega
    simp only [madeCells, Array.getElem?_map, Array.getElem?_range, h1, if_true, Option.map_some]
    simp only [List.size_toArray, List.length_cons, List.length_nil, Nat.zero_add, Nat.reduceAdd, h2]
    rfl
  · have h1 : i * 5 + 2 < n * 5 := by omega
    have h2 : (i * 5 + 2) % 5 = 2 := by omega
    simp only [madeCells, Array.getElem?_map, Array.getElem?_range, h1, if_true, Option.map_some]
    simp only [List.size_toArray, List.length_cons, List.length_nil, Nat.zero_add, Nat.reduceAdd, h2]
    rfl
  · have h1 : i * 5 + 3 < n * 5 := by omega
    have h2 : (i * 5 + 3) % 5 = 3 := by omega
    simp only [madeCells, Array.getElem?_map, Array.getElem?_range, h1, if_true, Option.map_some]
    simp only [List.size_toArray, List.length_cons, List.length_nil, Nat.zero_add, Nat.reduceAdd, h2]
    rfl
  · have h1 : i * 5 + 4 < n * 5 := by omega
    have h2 : (i * 5 + 4) % 5 = 4 := by omega
    simp only [madeCells, Array.getElem?_map, Array.getElem?_range, h1, if_true, Option.map_some]
    simp only [List.size_toArray, List.length_cons, List.length_nil, Nat.zero_add, Nat.reduceAdd, h2]
    rfl
theorem OutNfaEdge.start (w : World) (n : Nat) (f0 : Nat → Int) (f1 : Nat → Int) (f2 : Nat → Bool) (f3 : Nat → Bool) (f4 : Nat → Int) (t : TypeId) : OutNfaEdge w.heap.size n 0 f0 f1 f2 f3 f4 (w.alloc (.cells (madeCells #[.int .i64 0, .int .i64 0, .bool false, .bool false, .int .i64 0] (n * 5)) t)) := by
  refine ⟨by simp, fun i hi => ?_⟩
  obtain ⟨e0, e1, e2, e3, e4⟩ := madeNfaEdge n i hi
  refine ⟨⟨0, 0, false, false, 0, ?_, ?_, ?_, ?_, ?_, fun h => absurd h (Nat.not_lt_zero _)⟩, ?_, ?_, ?_, ?_, ?_⟩ <;> simp [go_sem, e0, e1, e2, e3, e4]
set_option maxRecDepth 100000 in
set_option maxHeartbeats 800000 in
theorem w_toNfaEdgeS (a : Option Addr) (len cap : Nat) (f0 : Nat → Int) (f1 : Nat → Int) (f2 : Nat → Bool) (f3 : Nat → Bool) (f4 : Nat → Int) (w : World) (hl : len ≤ 1048576) (hR : RowNfaEdge a len f0 f1 f2 f3 f4 w) :
    Calls Try.prog 90 #[.slice a len cap] w fun e w' => e = .returned (.slice (some ⟨w.heap.size, 0, none⟩) len len) ∧ Below w.heap.size w w' ∧ OutNfaEdge w.heap.size len len f0 f1 f2 f3 f4 w' := by
  have hinfo : (Try.prog.info? 149).map (fun i => (i.zero, i.size, i.bytes)) = some (some (.agg #[.int .i64 0, .int .i64 0, .bool false, .bool false, .int .i64 0]), 5, 32) := by kernel_rfl
  obtain ⟨i, hi, hzz⟩ := Option.map_eq_some_iff.1 hinfo
  simp only [Prod.mk.injEq] at hzz
  obtain ⟨hz, hsz, hby⟩ := hzz
  have hmk := fun w : World => run_make (P := Try.prog) w 77 149 i _ Try.underlying77 hi hz .i64 .i64 (len : Int) (len : Int) (by omega) (by omega) (by rw [hby]; omega) (by omega)
  rw [hsz] at hmk
  clear hi hz hsz hby hinfo
  go_enter Try.func90, Try.ntmps90
  go_wp2_with fail
  go_loopw [4] (fun i wr => ∃ k : Nat, k ≤ len ∧ i = .int .i64 k ∧ Below w.heap.size w wr ∧ OutNfaEdge w.heap.size len k f0 f1 f2 f3 f4 wr) (fun i _ => len - (intOf i).toNat)
  case atStart => exact ⟨0, Nat.zero_le _, rfl, below_box (Below.refl _ _), OutNfaEdge.start w len f0 f1 f2 f3 f4 _⟩
  case round =>
    obtain ⟨k, hk, rfl, hb, ho⟩ := hrel
    by_cases hlt : k < len
    · obtain ⟨b, off, rfl, hbw, h0, h1, h2, h3, h4⟩ := hR k hlt
      have h0 := (hb.cell (p := ⟨b, off + k * 5, none⟩) hbw).trans h0
      have h1 := (hb.cell (p := ⟨b, off + k * 5 + 1, none⟩) hbw).trans h1
      have h2 := (hb.cell (p := ⟨b, off + k * 5 + 2, none⟩) hbw).trans h2
      have h3 := (hb.cell (p := ⟨b, off + k * 5 + 3, none⟩) hbw).trans h3
      have h4 := (hb.cell (p := ⟨b, off + k * 5 + 4, none⟩) hbw).trans h4
      have hlt' : (k : Int) < (len : Int) := by omega
      clear hR hmk
      go_wp2_with fail
      refine (w_toNfaEdge _ _ _ _ _ _).mono ?_
      rintro e w1 ⟨rfl, hb1⟩
      have ho := ho.below hb1
      have hb := hb.trans (hb1.mono hb.size)
      obtain ⟨⟨y0, y1, y2, y3, y4, i0, i1, i2, i3, i4, _⟩, g0, g1, g2, g3, g4⟩ := ho.2 k hlt
      go_wp2_with fail
      exact ⟨⟨k + 1, by omega, by go_num, (((((hb.setCell (Nat.le_refl _) _).setCell (Nat.le_refl _) _).setCell (Nat.le_refl _) _).setCell (Nat.le_refl _) _).setCell (Nat.le_refl _) _), ho.set hlt⟩, by simp [intOf]; omega⟩
    · have hk' : k = len := by omega
      subst hk'
      go_wp2_with fail
      go_ret
      exact ⟨rfl, hb, ho⟩

set_option maxHeartbeats 400000 in
theorem w_szNfaEdgeS (a : Option Addr) (len cap : Nat) (w : World) (hl : len ≤ maxLen) :
    Calls Try.prog 87 #[.slice a len cap, .int .i64 1048576] w fun e w' => e = .returned (.int .i64 (if len ≤ 1048576 then 1048576 - (len : Int) else -1)) ∧ w' = w := by
  unfold maxLen at hl
  by_cases h : len ≤ 1048576
  · rw [if_pos h]
    have h1 : ¬ (1048576 - (len : Int) < 0) := by omega
    go_enter Try.func87, Try.ntmps87
    go_wp2_with fail
    go_ret
    exact ⟨rfl, rfl⟩
  · rw [if_neg h]
    have h1 : 1048576 - (len : Int) < 0 := by omega
    go_enter Try.func87, Try.ntmps87
    go_wp2_with fail
    go_ret
    exact ⟨rfl, rfl⟩

set_option maxRecDepth 100000 in
set_option maxHeartbeats 800000 in
theorem w_eqNfaEdge (x0 : Int) (x1 : Int) (x2 : Bool) (x3 : Bool) (x4 : Int) (w : World) :
    Calls Try.prog 152 #[.agg #[.int .i64 x0, .int .i64 x1, .bool x2, .bool x3, .int .i64 x4], .agg #[.int .i64 x0, .int .i64 x1, .bool x2, .bool x3, .int .i64 x4]] w fun e w' => e = .returned (.bool true) ∧ Below w.heap.size w w' := by
  go_enter Try.func152, Try.ntmps152
  go_wp2_with fail
  go_ret
  exact ⟨rfl, below_box2 (Below.refl _ _)⟩

set_option maxRecDepth 100000 in
set_option maxHeartbeats 800000 in
theorem w_eqNfaEdgeS (a a' : Option Addr) (len cap cap' : Nat) (f0 : Nat → Int) (f1 : Nat → Int) (f2 : Nat → Bool) (f3 : Nat → Bool) (f4 : Nat → Int) (w : World) (hl : len ≤ 1048576) (hR : RowNfaEdge a len f0 f1 f2 f3 f4 w) (hR' : RowNfaEdge a' len f0 f1 f2 f3 f4 w) :
    Calls Try.prog 94 #[.slice a len cap, .slice a' len cap'] w fun e w' => e = .returned (.bool true) ∧ Below w.heap.size w w' := by
  have hne : ((len : Int) != (len : Int)) = false := by simp
  go_enter Try.func94, Try.ntmps94
  go_wp2_with fail
  go_loopw [5] (fun i wr => ∃ k : Nat, k ≤ len ∧ i = .int .i64 k ∧ Below w.heap.size w wr) (fun i _ => len - (intOf i).toNat)
  case atStart => exact ⟨0, Nat.zero_le _, rfl, Below.refl _ _⟩
  case round =>
    obtain ⟨k, hk, rfl, hb⟩ := hrel
    by_cases hlt : k < len
    · obtain ⟨b, off, rfl, hbw, h0, h1, h2, h3, h4⟩ := hR k hlt
      obtain ⟨b', off', rfl, hbw', i0, i1, i2, i3, i4⟩ := hR' k hlt
      have h0 := cell_regrown ((hb.cell (p := ⟨b, off + k * 5, none⟩) hbw).trans h0)
      have i0 := cell_regrown ((hb.cell (p := ⟨b', off' + k * 5, none⟩) hbw').trans i0)
      have h1 := cell_regrown ((hb.cell (p := ⟨b, off + k * 5 + 1, none⟩) hbw).trans h1)
      have i1 := cell_regrown ((hb.cell (p := ⟨b', off' + k * 5 + 1, none⟩) hbw').trans i1)
      have h2 := cell_regrown ((hb.cell (p := ⟨b, off + k * 5 + 2, none⟩) hbw).trans h2)
      have i2 := cell_regrown ((hb.cell (p := ⟨b', off' + k * 5 + 2, none⟩) hbw').trans i2)
      have h3 := cell_regrown ((hb.cell (p := ⟨b, off + k * 5 + 3, none⟩) hbw).trans h3)
      have i3 := cell_regrown ((hb.cell (p := ⟨b', off' + k * 5 + 3, none⟩) hbw').trans i3)
      have h4 := cell_regrown ((hb.cell (p := ⟨b, off + k * 5 + 4, none⟩) hbw).trans h4)
      have i4 := cell_regrown ((hb.cell (p := ⟨b', off' + k * 5 + 4, none⟩) hbw').trans i4)
      have hlt' : (k : Int) < (len : Int) := by omega
      have s1 := hide (fun w => w_eqNfaEdge (f0 k) (f1 k) (f2 k) (f3 k) (f4 k) w)
      clear hR hR'
      go_wp2_with fail
      refine wp_region_quiet_below (by kernel_rfl) (by kernel_rfl) ?_
      repeat (first | go_big_quiet_step (((go_at_call 152; exact Calls.regrown_of (s1.out _)))) | quiet_step (((go_at_call 152; exact Calls.regrown_of (s1.out _)))))
      refine wpQuiet_nil ?_
      intro _ hw'
      obtain ⟨⟨dq, osq⟩, hw''⟩ := hw'
      subst hw''
      have hq := below_regrown wr dq osq
      generalize Go.Sort.grow (redrawn wr dq) osq = wq at hq ⊢
      have hbq := hb.trans (hq.mono hb.size)
      clear hq h0 i0 h1 i1 h2 i2 h3 i3 h4 i4
      go_wp2_with fail
      exact ⟨⟨k + 1, by omega, by go_num, hbq⟩, by simp [intOf]; omega⟩
    · go_wp2_with fail
      go_ret
      exact ⟨rfl, hb⟩

theorem OutNfaEdge.forget {c n k : Nat} {f0 : Nat → Int} {f1 : Nat → Int} {f2 : Nat → Bool} {f3 : Nat → Bool} {f4 : Nat → Int} {w : World} (h : OutNfaEdge c n k f0 f1 f2 f3 f4 w) (g0 : Nat → Int) (g1 : Nat → Int) (g2 : Nat → Bool) (g3 : Nat → Bool) (g4 : Nat → Int) : OutNfaEdge c n 0 g0 g1 g2 g3 g4 w := by
  refine ⟨h.1, fun i hi => ?_⟩
  obtain ⟨⟨x0, x1, x2, x3, x4, h0, h1, h2, h3, h4, hk⟩, z0, z1, z2, z3, z4⟩ := h.2 i hi
  exact ⟨⟨x0, x1, x2, x3, x4, h0, h1, h2, h3, h4, fun h => absurd h (Nat.not_lt_zero _)⟩, z0, z1, z2, z3, z4⟩
end Go.Proofs.Ytocgghhlfmgndaa
