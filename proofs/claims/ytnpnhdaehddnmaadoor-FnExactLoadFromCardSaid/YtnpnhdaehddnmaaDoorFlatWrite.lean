/- Rows of Write in memory, and what the laws do with them: handed over, compared. -/
import Derived.Test.YtnpnhdaehddnmaaDoorW0
namespace Go.Proofs.YtnpnhdaehddnmaaDoor
open Go.RowKit

/-- n of them at a, told by f0 f1. -/
def RowWrite (a : Option Addr) (n : Nat) (f0 : Nat → Int) (f1 : Nat → ByteArray) (w : World) : Prop := ∀ i, i < n → ∃ b off, a = some ⟨b, off, none⟩ ∧ b < w.heap.size ∧
  w.cell? ⟨b, off + i * 2, none⟩ = some (.int .i64 (f0 i)) ∧ w.cell? ⟨b, off + i * 2 + 1, none⟩ = some (.string (f1 i))
theorem RowWrite.below {a : Option Addr} {n : Nat} {f0 : Nat → Int} {f1 : Nat → ByteArray} {w w' : World} (h : RowWrite a n f0 f1 w) (k : Below w.heap.size w w') : RowWrite a n f0 f1 w' := by
  intro i hi
  obtain ⟨b, off, ha, hb, h0, h1⟩ := h i hi
  obtain ⟨hc, _⟩ := bcell k
  exact ⟨b, off, ha, Nat.lt_of_lt_of_le hb k.size, (hc _ _ hb).trans h0, (hc _ _ hb).trans h1⟩

/-- A row of n of them in block c, the first k told; it may be written. -/
def OutWrite (c n k : Nat) (f0 : Nat → Int) (f1 : Nat → ByteArray) (w : World) : Prop := c < w.heap.size ∧ ∀ i, i < n →
  (∃ (x0 : Int) (x1 : ByteArray), w.cell? ⟨c, i * 2, none⟩ = some (.int .i64 x0) ∧ w.cell? ⟨c, i * 2 + 1, none⟩ = some (.string x1) ∧ (i < k → x0 = f0 i ∧ x1 = f1 i)) ∧
  w.frozen? ⟨c, i * 2, none⟩ = false ∧ w.frozen? ⟨c, i * 2 + 1, none⟩ = false
theorem OutWrite.below {c n k : Nat} {f0 : Nat → Int} {f1 : Nat → ByteArray} {w w' : World} (h : OutWrite c n k f0 f1 w) (hb : Below w.heap.size w w') : OutWrite c n k f0 f1 w' := by
  obtain ⟨hc, hf⟩ := bcell hb
  refine ⟨Nat.lt_of_lt_of_le h.1 hb.size, fun i hi => ?_⟩
  obtain ⟨⟨x0, x1, h0, h1, hk⟩, g0, g1⟩ := h.2 i hi
  exact ⟨⟨x0, x1, (hc _ _ h.1).trans h0, (hc _ _ h.1).trans h1, hk⟩, (hf _ _ h.1).trans g0, (hf _ _ h.1).trans g1⟩
theorem OutWrite.row {c n : Nat} {f0 : Nat → Int} {f1 : Nat → ByteArray} {w : World} (h : OutWrite c n n f0 f1 w) : RowWrite (some ⟨c, 0, none⟩) n f0 f1 w := by
  intro i hi
  obtain ⟨⟨x0, x1, h0, h1, hk⟩, g0, g1⟩ := h.2 i hi
  obtain ⟨rfl, rfl⟩ := hk hi
  exact ⟨c, 0, rfl, h.1, by rw [Nat.zero_add]; exact h0, by rw [Nat.zero_add]; exact h1⟩
theorem OutWrite.set {c n k : Nat} {f0 : Nat → Int} {f1 : Nat → ByteArray} {w : World} (h : OutWrite c n k f0 f1 w) (hk : k < n) : OutWrite c n (k + 1) f0 f1 ((w.setCell ⟨c, k * 2, none⟩ (.int .i64 (f0 k))).setCell ⟨c, k * 2 + 1, none⟩ (.string (f1 k))) := by
  refine ⟨by have := h.1; simpa using this, fun i hi => ?_⟩
  obtain ⟨⟨x0, x1, h0, h1, hx⟩, g0, g1⟩ := h.2 i hi
  by_cases e : i = k
  · subst e
    refine ⟨⟨f0 i, f1 i, ?_, ?_, fun _ => ⟨rfl, rfl⟩⟩, ?_, ?_⟩ <;> simp [go_sem, h0, h1, g0, g1]
  · refine ⟨⟨x0, x1, ?_, ?_, fun hlt => hx (by omega)⟩, ?_, ?_⟩
    · rw [World.cell?_setCell_other _ _ _ _ (by simp <;> omega), World.cell?_setCell_other _ _ _ _ (by simp <;> omega)]; exact h0
    · rw [World.cell?_setCell_other _ _ _ _ (by simp <;> omega), World.cell?_setCell_other _ _ _ _ (by simp <;> omega)]; exact h1
    · simpa [go_sem] using g0
    · simpa [go_sem] using g1

set_option maxRecDepth 100000 in
set_option maxHeartbeats 800000 in
theorem w_toWrite (x0 : Int) (x1 : ByteArray) (w : World) :
    Calls Tryd.prog 45 #[.agg #[.int .i64 x0, .string x1]] w fun e w' => e = .returned (.agg #[.int .i64 x0, .string x1]) ∧ Below w.heap.size w w' := by
  go_enter Tryd.func45, Tryd.ntmps45
  go_wp2_with fail
  exact bodyPost_ret (v := .agg #[.int .i64 x0, .string x1]) (by simp [results, Tryd.results45, go_sem]) rfl ⟨rfl, below_box3 (Below.refl _ _)⟩

theorem madeWrite (n i : Nat) (h : i < n) : (madeCells #[.int .i64 0, .string ByteArray.empty] (n * 2))[i * 2]? = some (.int .i64 0) ∧ (madeCells #[.int .i64 0, .string ByteArray.empty] (n * 2))[i * 2 + 1]? = some (.string ByteArray.empty) := by
  refine ⟨?_, ?_⟩
  · have h1 : i * 2 < n * 2 := by omega
    have h2 : (i * 2) % 2 = 0 := by omega
    simp only [madeCells, Array.getElem?_map, Array.getElem?_range, h1, if_true, Option.map_some]
    simp only [List.size_toArray, List.length_cons, List.length_nil, Nat.zero_add, Nat.reduceAdd, h2]
    rfl
  · have h1 : i * 2 + 1 < n * 2 := by omega
    have h2 : (i * 2 + 1) % 2 = 1 := by omega
    simp only [madeCells, Array.getElem?_map, Array.getElem?_range, h1, if_true, Option.map_some]
    simp only [List.size_toArray, List.length_cons, List.length_nil, Nat.zero_add, Nat.reduceAdd, h2]
    rfl
theorem OutWrite.start (w : World) (n : Nat) (f0 : Nat → Int) (f1 : Nat → ByteArray) (t : TypeId) : OutWrite w.heap.size n 0 f0 f1 (w.alloc (.cells (madeCells #[.int .i64 0, .string ByteArray.empty] (n * 2)) t)) := by
  refine ⟨by simp, fun i hi => ?_⟩
  obtain ⟨e0, e1⟩ := madeWrite n i hi
  refine ⟨⟨0, ByteArray.empty, ?_, ?_, fun h => absurd h (Nat.not_lt_zero _)⟩, ?_, ?_⟩ <;> simp [go_sem, e0, e1]
set_option maxRecDepth 100000 in
set_option maxHeartbeats 800000 in
theorem w_toWriteS (a : Option Addr) (len cap : Nat) (f0 : Nat → Int) (f1 : Nat → ByteArray) (w : World) (hl : len ≤ 1048576) (hR : RowWrite a len f0 f1 w) :
    Calls Tryd.prog 24 #[.slice a len cap] w fun e w' => e = .returned (.slice (some ⟨w.heap.size, 0, none⟩) len len) ∧ Below w.heap.size w w' ∧ OutWrite w.heap.size len len f0 f1 w' := by
  have hinfo : (Tryd.prog.info? 63).map (fun i => (i.zero, i.size, i.bytes)) = some (some (.agg #[.int .i64 0, .string ByteArray.empty]), 2, 24) := by kernel_rfl
  obtain ⟨i, hi, hzz⟩ := Option.map_eq_some_iff.1 hinfo
  simp only [Prod.mk.injEq] at hzz
  obtain ⟨hz, hsz, hby⟩ := hzz
  have hmk := fun w : World => run_make (P := Tryd.prog) w 29 63 i _ Tryd.underlying29 hi hz .i64 .i64 (len : Int) (len : Int) (by omega) (by omega) (by rw [hby]; omega) (by omega)
  rw [hsz] at hmk
  clear hi hz hsz hby hinfo
  go_enter Tryd.func24, Tryd.ntmps24
  go_wp2_with fail
  go_loopw [4] (fun i wr => ∃ k : Nat, k ≤ len ∧ i = .int .i64 k ∧ Below w.heap.size w wr ∧ OutWrite w.heap.size len k f0 f1 wr) (fun i _ => len - (intOf i).toNat)
  case atStart => exact ⟨0, Nat.zero_le _, rfl, below_box (Below.refl _ _), OutWrite.start w len f0 f1 _⟩
  case round =>
    obtain ⟨k, hk, rfl, hb, ho⟩ := hrel
    by_cases hlt : k < len
    · obtain ⟨b, off, rfl, hbw, h0, h1⟩ := hR k hlt
      have h0 := (hb.cell (p := ⟨b, off + k * 2, none⟩) hbw).trans h0
      have h1 := (hb.cell (p := ⟨b, off + k * 2 + 1, none⟩) hbw).trans h1
      have hlt' : (k : Int) < (len : Int) := by omega
      clear hR hmk
      go_wp2_with fail
      refine (w_toWrite _ _ _).mono ?_
      rintro e w1 ⟨rfl, hb1⟩
      have ho := ho.below hb1
      have hb := hb.trans (hb1.mono hb.size)
      obtain ⟨⟨y0, y1, i0, i1, _⟩, g0, g1⟩ := ho.2 k hlt
      go_wp2_with fail
      exact ⟨⟨k + 1, by omega, by go_num, ((hb.setCell (Nat.le_refl _) _).setCell (Nat.le_refl _) _), ho.set hlt⟩, by simp [intOf]; omega⟩
    · have hk' : k = len := by omega
      subst hk'
      go_wp2_with fail
      go_ret
      exact ⟨rfl, hb, ho⟩

set_option maxRecDepth 100000 in
set_option maxHeartbeats 800000 in
theorem w_eqWrite (x0 : Int) (x1 : ByteArray) (w : World) :
    Calls Tryd.prog 34 #[.agg #[.int .i64 x0, .string x1], .agg #[.int .i64 x0, .string x1]] w fun e w' => e = .returned (.bool true) ∧ Below w.heap.size w w' := by
  go_enter Tryd.func34, Tryd.ntmps34
  go_wp2_with fail
  go_ret
  exact ⟨rfl, below_box2 (Below.refl _ _)⟩

set_option maxRecDepth 100000 in
set_option maxHeartbeats 800000 in
theorem w_eqWriteS (a a' : Option Addr) (len cap cap' : Nat) (f0 : Nat → Int) (f1 : Nat → ByteArray) (w : World) (hl : len ≤ 1048576) (hR : RowWrite a len f0 f1 w) (hR' : RowWrite a' len f0 f1 w) :
    Calls Tryd.prog 13 #[.slice a len cap, .slice a' len cap'] w fun e w' => e = .returned (.bool true) ∧ Below w.heap.size w w' := by
  have hne : ((len : Int) != (len : Int)) = false := by simp
  go_enter Tryd.func13, Tryd.ntmps13
  go_wp2_with fail
  go_loopw [5] (fun i wr => ∃ k : Nat, k ≤ len ∧ i = .int .i64 k ∧ Below w.heap.size w wr) (fun i _ => len - (intOf i).toNat)
  case atStart => exact ⟨0, Nat.zero_le _, rfl, Below.refl _ _⟩
  case round =>
    obtain ⟨k, hk, rfl, hb⟩ := hrel
    by_cases hlt : k < len
    · obtain ⟨b, off, rfl, hbw, h0, h1⟩ := hR k hlt
      obtain ⟨b', off', rfl, hbw', i0, i1⟩ := hR' k hlt
      have h0 := cell_regrown ((hb.cell (p := ⟨b, off + k * 2, none⟩) hbw).trans h0)
      have i0 := cell_regrown ((hb.cell (p := ⟨b', off' + k * 2, none⟩) hbw').trans i0)
      have h1 := cell_regrown ((hb.cell (p := ⟨b, off + k * 2 + 1, none⟩) hbw).trans h1)
      have i1 := cell_regrown ((hb.cell (p := ⟨b', off' + k * 2 + 1, none⟩) hbw').trans i1)
      have hlt' : (k : Int) < (len : Int) := by omega
      have s1 := hide (fun w => w_eqWrite (f0 k) (f1 k) w)
      clear hR hR'
      go_wp2_with fail
      refine wp_region_quiet_below (by kernel_rfl) (by kernel_rfl) ?_
      repeat (first | go_big_quiet_step (((go_at_call 34; exact Calls.regrown_of (s1.out _)))) | quiet_step (((go_at_call 34; exact Calls.regrown_of (s1.out _)))))
      refine wpQuiet_nil ?_
      intro _ hw'
      obtain ⟨⟨dq, osq⟩, hw''⟩ := hw'
      subst hw''
      have hq := below_regrown wr dq osq
      generalize Go.Sort.grow (redrawn wr dq) osq = wq at hq ⊢
      have hbq := hb.trans (hq.mono hb.size)
      clear hq h0 i0 h1 i1
      go_wp2_with fail
      exact ⟨⟨k + 1, by omega, by go_num, hbq⟩, by simp [intOf]; omega⟩
    · go_wp2_with fail
      go_ret
      exact ⟨rfl, hb⟩

theorem OutWrite.forget {c n k : Nat} {f0 : Nat → Int} {f1 : Nat → ByteArray} {w : World} (h : OutWrite c n k f0 f1 w) (g0 : Nat → Int) (g1 : Nat → ByteArray) : OutWrite c n 0 g0 g1 w := by
  refine ⟨h.1, fun i hi => ?_⟩
  obtain ⟨⟨x0, x1, h0, h1, hk⟩, z0, z1⟩ := h.2 i hi
  exact ⟨⟨x0, x1, h0, h1, fun h => absurd h (Nat.not_lt_zero _)⟩, z0, z1⟩
end Go.Proofs.YtnpnhdaehddnmaaDoor
