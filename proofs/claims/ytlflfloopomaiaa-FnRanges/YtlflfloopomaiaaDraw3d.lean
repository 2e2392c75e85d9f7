/- What the specification draws for RangeOf and CutPrefix. -/
import Derived.Test.YtlflfloopomaiaaDraw3c
namespace Go.Proofs.Ytlflfloopomaiaa
open Go.RowKit

theorem bytes_to3 {B : Nat} {w w' : World} {v : Value} {len : Nat} (h : BytesAt w.heap.size w v len) (k : Below w.heap.size w w') (hB : w.heap.size ≤ B) : BytesAt B w' v len := by
  obtain ⟨a, cap, hv, hl, hj⟩ := h
  refine ⟨a, cap, hv, hl, fun j h => ?_⟩
  obtain ⟨b, off, z, ha, hb, hw, hz, h0, h1⟩ := hj j h
  exact ⟨b, off, z, ha, by omega, Nat.lt_of_lt_of_le hw k.size, (k.cell (p := ⟨b, off + j, none⟩) hw).trans hz, h0, h1⟩
theorem nums6 (w : World) (t : TypeId) : NumsAt w.heap.size 0 6 (fun z => -1 ≤ z ∧ z ≤ 65536) (w.alloc (.cells #[.int .i64 (-1), .int .i64 0, .int .i64 1, .int .i64 5, .int .i64 255, .int .i64 65536] t)) := by
  refine ⟨by simp, fun j hj => ?_⟩
  obtain rfl | rfl | rfl | rfl | rfl | rfl : j = 0 ∨ j = 1 ∨ j = 2 ∨ j = 3 ∨ j = 4 ∨ j = 5 := by omega
  all_goals exact ⟨_, by simp [go_sem]; rfl, by omega, by omega⟩
set_option maxRecDepth 100000 in
theorem d_range (v : Value) (len : Nat) (w : World) (hby : BytesAt w.heap.size w v len) :
    Calls Try.prog 27 #[v] w fun e w' => ∃ x y : Int, (-1 ≤ x ∧ x ≤ 4294967296) ∧ (x - 1 ≤ y ∧ y ≤ x + 65536) ∧ e = .returned (.tuple #[.int .i64 x, .int .i64 y]) ∧ Below w.heap.size w w' := by
  obtain ⟨p, cap, rfl, hl, hj⟩ := hby
  go_enter Try.func27, Try.ntmps27
  go_wp2_with fail
  refine (d_addr w.heap.size (.slice p len cap) len 0 _ (by omega) ⟨0, 0, by omega, by omega, by simp, by simp [go_sem], by simp [go_sem], by simp [go_sem], by omega, by simp [go_sem], by simp [go_sem], by simp [go_sem]⟩ (bytes_to3 ⟨p, cap, rfl, hl, hj⟩ (below_box (Below.refl _ _)) (by omega))).mono ?_
  rintro e w1 ⟨x, hx, rfl, hc1, ho1⟩
  have hby1 : BytesAt w.heap.size w1 (.slice p len cap) len := (bytes_to3 ⟨p, cap, rfl, hl, hj⟩ (below_box (Below.refl _ _)) (Nat.le_refl _)).only ho1 (Nat.le_refl _)
  have hb1 : Below w.heap.size w w1 := (below_box (Below.refl _ _)).trans (ho1.below (by simp))
  have hz1 := ho1.2.2.2.1
  simp at hz1
  have o0 : ∀ o : Obj, Only w.heap.size w1 (w1.alloc o) := fun o => (Only.refl _ w1).alloc o
  clear ho1 hj
  go_wp2_with fail
  refine (d_among w.heap.size (.slice p len cap) len (0 + 2) w1.heap.size 0 6 6 (fun z => -1 ≤ z ∧ z ≤ 65536) _ (by omega) (by omega) (by omega) (cur_below hc1 (below_box (Below.refl _ _))) (hby1.only (o0 _) (Nat.le_refl _)) (nums6 w1 _) (by omega)).mono ?_
  rintro e w2 ⟨r, hr, rfl, hc2, ho2⟩
  have hO := (o0 _).trans ho2
  have hb2 : Below w.heap.size w w2 := hb1.trans (hO.below hb1.size)
  clear ho2 hO hc2 hc1
  go_wp2_with fail
  refine bodyPost_ret (v := .tuple #[.int .i64 x, .int .i64 (x + r)]) (by simp [results, Try.results27, go_sem]) rfl ⟨x, x + r, hx, by omega, rfl, hb2⟩
set_option maxRecDepth 100000 in
theorem d_cut (v : Value) (len : Nat) (w : World) (hby : BytesAt w.heap.size w v len) :
    Calls Try.prog 30 #[v] w fun e w' => ∃ a cap pa pl, ∃ L : List Pf, e = .returned (.tuple #[.slice a L.length cap, .agg #[.int .i64 pa, .int .i64 pl]]) ∧ L.length ≤ 130 ∧ SrcP a L cap w' ∧ Below w.heap.size w w' := by
  obtain ⟨p, cap, rfl, hl, hj⟩ := hby
  go_enter Try.func30, Try.ntmps30
  go_wp2_with fail
  refine (d_prefixes (w.heap.size + 1) (.slice p len cap) len 0 _ (by omega) ⟨0, 0, by omega, by omega, by simp, by simp [go_sem], by simp [go_sem], by simp [go_sem], by omega, by simp [go_sem], by simp [go_sem], by simp [go_sem]⟩ (bytes_to3 ⟨p, cap, rfl, hl, hj⟩ (below_box2 (Below.refl _ _)) (by omega))).mono ?_
  rintro e w1 ⟨a, ca, L, rfl, hLl, hL1, hc1, ho1⟩
  have hby1 : BytesAt (w.heap.size + 1) w1 (.slice p len cap) len := (bytes_to3 ⟨p, cap, rfl, hl, hj⟩ (below_box2 (Below.refl _ _)) (by omega)).only ho1 (Nat.le_refl _)
  have hb1 : Below w.heap.size w w1 := (below_box2 (Below.refl _ _)).trans ((ho1.below (by simp)).mono (by omega))
  have hz1 := ho1.2.2.2.1
  simp at hz1
  have s0 : w1.cell? ⟨w.heap.size, 0, none⟩ = some (.int .i64 0) := by rw [ho1.cell (by simp; omega) (by omega)]; simp [go_sem]
  have s1 : w1.cell? ⟨w.heap.size, 1, none⟩ = some (.int .i64 0) := by rw [ho1.cell (by simp; omega) (by omega)]; simp [go_sem]
  have t0 : w1.frozen? ⟨w.heap.size, 0, none⟩ = false := by rw [ho1.frozen (by simp; omega) (by omega)]; simp [go_sem]
  have t1 : w1.frozen? ⟨w.heap.size, 1, none⟩ = false := by rw [ho1.frozen (by simp; omega) (by omega)]; simp [go_sem]
  have hL1 : LooseP (w.heap.size + 2) a L ca w1 := by simpa using hL1
  clear ho1 hj
  go_wp2_with fail
  refine (d_prefix (w.heap.size + 1) (.slice p len cap) len (0 + 700) _ (by omega) hc1 hby1).mono ?_
  rintro e w2 ⟨pa, pl, rfl, hc2, ho2⟩
  have s0 := (ho2.cell (o := 0) (show w.heap.size < w1.heap.size by omega) (by omega)).trans s0
  have s1 := (ho2.cell (o := 1) (show w.heap.size < w1.heap.size by omega) (by omega)).trans s1
  have t0 := (ho2.frozen (o := 0) (show w.heap.size < w1.heap.size by omega) (by omega)).trans t0
  have t1 := (ho2.frozen (o := 1) (show w.heap.size < w1.heap.size by omega) (by omega)).trans t1
  have hL2 := hL1.only ho2 (by omega)
  have hL3 := (hL2.only ((Only.refl w.heap.size w2).setCell 0 (.int .i64 pa)) (by omega)).only ((Only.refl w.heap.size _).setCell 1 (.int .i64 pl)) (by omega)
  have hb2 : Below w.heap.size w w2 := hb1.trans ((ho2.below (by omega)).mono (by omega))
  clear ho2 hc2 hc1 hL1 hL2
  go_wp2_with fail
  refine bodyPost_ret (v := .tuple #[.slice a L.length ca, .agg #[.int .i64 pa, .int .i64 pl]]) (by simp [results, Try.results30, go_sem, s0, s1]) rfl ⟨_, _, _, _, L, rfl, hLl, hL3.src, (hb2.setCell (Nat.le_refl _) _).setCell (Nat.le_refl _) _⟩
end Go.Proofs.Ytlflfloopomaiaa
