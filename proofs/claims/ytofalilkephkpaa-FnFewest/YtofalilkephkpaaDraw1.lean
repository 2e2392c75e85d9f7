/- The specification's drawn prefixes: each draw answers some prefix, and turns nothing that was there. -/
import Derived.Test.YtofalilkephkpaaCur
import Derived.Test.YtofalilkephkpaaS1
namespace Go.Proofs.Ytofalilkephkpaa
open Go.RowKit

theorem nums11 (w : World) (t : TypeId) : NumsAt w.heap.size 0 11 (fun z => 0 ≤ z ∧ z ≤ 32) (w.alloc (.cells #[.int .i64 0, .int .i64 1, .int .i64 2, .int .i64 3, .int .i64 4, .int .i64 8, .int .i64 8, .int .i64 16, .int .i64 24, .int .i64 31, .int .i64 32] t)) := by
  refine ⟨by simp, fun j hj => ?_⟩
  obtain rfl | rfl | rfl | rfl | rfl | rfl | rfl | rfl | rfl | rfl | rfl : j = 0 ∨ j = 1 ∨ j = 2 ∨ j = 3 ∨ j = 4 ∨ j = 5 ∨ j = 6 ∨ j = 7 ∨ j = 8 ∨ j = 9 ∨ j = 10 := by omega
  all_goals exact ⟨_, by simp [go_sem]; rfl, by omega, by omega⟩

theorem nums8 (w : World) (t : TypeId) : NumsAt w.heap.size 0 8 (fun z => 0 ≤ z ∧ z ≤ 4294967295) (w.alloc (.cells #[.int .i64 0, .int .i64 167772160, .int .i64 167837696, .int .i64 3232235520, .int .i64 2147483648, .int .i64 4294967295, .int .i64 3758096384, .int .i64 167772165] t)) := by
  refine ⟨by simp, fun j hj => ?_⟩
  obtain rfl | rfl | rfl | rfl | rfl | rfl | rfl | rfl : j = 0 ∨ j = 1 ∨ j = 2 ∨ j = 3 ∨ j = 4 ∨ j = 5 ∨ j = 6 ∨ j = 7 := by omega
  all_goals exact ⟨_, by simp [go_sem]; rfl, by omega, by omega⟩

theorem nums2 (w : World) (t : TypeId) : NumsAt w.heap.size 0 2 (fun _ => True) (w.alloc (.cells #[.int .i64 (-1), .int .i64 33] t)) := by
  refine ⟨by simp, fun j hj => ?_⟩
  obtain rfl | rfl : j = 0 ∨ j = 1 := by omega
  all_goals exact ⟨_, by simp [go_sem]; rfl, trivial⟩

set_option maxRecDepth 100000 in
set_option maxHeartbeats 1600000 in
theorem d_prefix (c : Nat) (v : Value) (len n : Nat) (w : World) (hn : n ≤ 800000) (hcur : Cur c v n w) (hby : BytesAt c w v len) :
    Calls Try.prog 123 #[.pointer (some ⟨c, 0, none⟩)] w fun e w' =>
      ∃ a l : Int, e = .returned (.agg #[.int .i64 a, .int .i64 l]) ∧ Cur c v (n + 8) w' ∧ Only c w w' := by
  have hcw : c < w.heap.size := by obtain ⟨p, s, h0, h1, hc, _⟩ := hcur; exact hc
  go_enter Try.func123, Try.ntmps123
  go_wp2_with fail
  have o0 : ∀ o o' : Obj, Only c w ((w.alloc o).alloc o') := fun o o' => ((Only.refl c w).alloc o).alloc o'
  refine (d_among c v len n (w.heap.size + 1) 0 11 11 (fun z => 0 ≤ z ∧ z ≤ 32) _ (by omega) (by omega) (by omega) (cur_below hcur (below_box2 (Below.refl _ _))) (hby.only (o0 _ _) (Nat.le_refl _)) (by simpa using nums11 (w.alloc _) _) (by omega)).mono ?_
  rintro e w1 ⟨l, ⟨hl0, hl1⟩, rfl, hc1, ho1⟩
  have hO1 := (o0 _ _).trans ho1
  have hz1 : w.heap.size + 2 ≤ w1.heap.size := by have := ho1.2.2.2.1; simp at this; omega
  have r0 : w1.cell? ⟨w.heap.size, 0, none⟩ = some (.int .i64 0) := by rw [ho1.cell (by simp; omega) (by omega)]; simp [go_sem]
  have r1 : w1.cell? ⟨w.heap.size, 1, none⟩ = some (.int .i64 0) := by rw [ho1.cell (by simp; omega) (by omega)]; simp [go_sem]
  have g0 : w1.frozen? ⟨w.heap.size, 0, none⟩ = false := by rw [ho1.frozen (by simp; omega) (by omega)]; simp [go_sem]
  have g1 : w1.frozen? ⟨w.heap.size, 1, none⟩ = false := by rw [ho1.frozen (by simp; omega) (by omega)]; simp [go_sem]
  have o1 : ∀ o o' : Obj, Only c w1 ((w1.alloc o).alloc o') := fun o o' => ((Only.refl c w1).alloc o).alloc o'
  go_wp2_with fail
  refine (d_among c v len (n + 2) (w1.heap.size + 1) 0 8 8 (fun z => 0 ≤ z ∧ z ≤ 4294967295) _ (by omega) (by omega) (by omega) (cur_below hc1 (below_box2 (Below.refl _ _))) ((hby.only hO1 (Nat.le_refl _)).only (o1 _ _) (Nat.le_refl _)) (by simpa using nums8 (w1.alloc _) _) (by omega)).mono ?_
  rintro e w2 ⟨x, ⟨hx0, hx1⟩, rfl, hc2, ho2⟩
  have h12 := (o1 _ _).trans ho2
  have hz2 : w1.heap.size + 2 ≤ w2.heap.size := by have := ho2.2.2.2.1; simp at this; omega
  have p0 : w2.cell? ⟨w1.heap.size, 0, none⟩ = some (.int .i64 0) := by rw [ho2.cell (by simp; omega) (by omega)]; simp [go_sem]
  have p1 : w2.cell? ⟨w1.heap.size, 1, none⟩ = some (.int .i64 l) := by rw [ho2.cell (by simp; omega) (by omega)]; simp [go_sem]
  have pf0 : w2.frozen? ⟨w1.heap.size, 0, none⟩ = false := by rw [ho2.frozen (by simp; omega) (by omega)]; simp [go_sem]
  have pf1 : w2.frozen? ⟨w1.heap.size, 1, none⟩ = false := by rw [ho2.frozen (by simp; omega) (by omega)]; simp [go_sem]
  have hby2 := (hby.only hO1 (Nat.le_refl _)).only h12 (Nat.le_refl _)
  clear ho2 ho1 hc1 hby hcur
  go_wp2_with fail
  refine (s_size _ _ _ hl0 hl1).mono ?_
  rintro e w3 ⟨rfl, hb3⟩
  obtain ⟨bc, bf⟩ := bcell hb3
  have q0 := (bc w1.heap.size 0 (by omega)).trans p0
  have q1 := (bc w1.heap.size 1 (by omega)).trans p1
  have qf0 := (bf w1.heap.size 0 (by omega)).trans pf0
  have qf1 := (bf w1.heap.size 1 (by omega)).trans pf1
  have h13 := h12.trans (Only.of_below hb3)
  have hby3 := hby2.only (Only.of_below (c := c) hb3) (Nat.le_refl _)
  have hc3 := cur_below hc2 hb3
  have hz3 := hb3.size
  have m1 := pw_pos l
  have m2 := pw_le l hl0
  have m3 : 0 ≤ x % pw l := Int.emod_nonneg _ (by omega)
  have m4 : x % pw l < pw l := Int.emod_lt_of_pos _ (by omega)
  have m5 : x % pw l ≤ x := by
    have := Int.mul_ediv_add_emod x (pw l)
    have h5 : 0 ≤ pw l * (x / pw l) := Int.mul_nonneg (by omega) (Int.ediv_nonneg hx0 (by omega))
    omega
  clear bc bf p0 p1 pf0 pf1 hby2 hc2 hb3
  go_wp2_with fail
  clear m4
  have m6 : 0 ≤ x - x % pw l ∧ x - x % pw l ≤ 4294967295 := by omega
  generalize x - x % pw l = y at m6 ⊢
  clear m3 m5
  refine (d_pick c v len (n + 4) 30 _ (by omega) (by omega) (cur_only hc3 ((Only.refl w1.heap.size w3).setCell 0 _) (by omega)) (hby3.only ((Only.refl w1.heap.size w3).setCell 0 _) (by omega))).mono ?_
  rintro e w4 ⟨r, hr0, hr1, rfl, hc4, ho4⟩
  have z4 : w3.heap.size ≤ w4.heap.size := by have := ho4.2.2.2.1; simp at this; omega
  have p0 : w4.cell? ⟨w1.heap.size, 0, none⟩ = some (.int .i64 y) := by rw [ho4.cell (by simp; omega) (by omega)]; simp [go_sem, q0]
  have p1 : w4.cell? ⟨w1.heap.size, 1, none⟩ = some (.int .i64 l) := by rw [ho4.cell (by simp; omega) (by omega)]; simp [go_sem, q1]
  have pf0 : w4.frozen? ⟨w1.heap.size, 0, none⟩ = false := by rw [ho4.frozen (by simp; omega) (by omega)]; simp [go_sem, qf0]
  have pf1 : w4.frozen? ⟨w1.heap.size, 1, none⟩ = false := by rw [ho4.frozen (by simp; omega) (by omega)]; simp [go_sem, qf1]
  have h14 := (h13.setNew (Nat.le_refl _) 0 (.int .i64 y)).trans ho4
  have hby4 := (hby3.only ((Only.refl w1.heap.size w3).setCell 0 (.int .i64 y)) (by omega)).only ho4 (Nat.le_refl _)
  have s0 := (h14.cell (o := 0) (show w.heap.size < w1.heap.size by omega) (by omega)).trans r0
  have s1 := (h14.cell (o := 1) (show w.heap.size < w1.heap.size by omega) (by omega)).trans r1
  have t0 := (h14.frozen (o := 0) (show w.heap.size < w1.heap.size by omega) (by omega)).trans g0
  have t1 := (h14.frozen (o := 1) (show w.heap.size < w1.heap.size by omega) (by omega)).trans g1
  have nn : ¬ w.heap.size = w1.heap.size := by omega
  have hO4 := hO1.trans h14
  clear ho4 hc3 hby3 h13 h12 q0 q1 qf0 qf1 r0 r1 g0 g1 hO1
  by_cases e0 : r = 0
  · have z0 : (r == 0) = true := by simpa using e0
    clear e0
    go_wp2_with fail
    refine bodyPost_ret (v := .agg #[.int .i64 (y + 1), .int .i64 l]) (by simp [results, Try.results123, go_sem, s0, s1]) rfl ⟨_, _, rfl, ?_, ?_⟩
    · exact cur_only (cur_only (cur_up hc4 (show n + 4 + 2 ≤ n + 8 by omega)) ((Only.refl w1.heap.size w4).setCell 0 _) (by omega)) (((Only.refl w.heap.size _).setCell 0 _).setCell 1 _) (by omega)
    · exact ((hO4.setNew (by omega) 0 _).setNew (Nat.le_refl _) 0 _).setNew (Nat.le_refl _) 1 _
  · have z0 : (r == 0) = false := by simpa using e0
    by_cases e1 : r = 1
    · have z1 : (r == 1) = true := by simpa using e1
      go_wp2_with fail
      refine (d_among c v len (n + 4 + 2) w4.heap.size 0 2 2 (fun _ => True) _ (by omega) (by omega) (by omega) (cur_below hc4 (below_box (Below.refl _ _))) (hby4.only ((Only.refl c w4).alloc _) (Nat.le_refl _)) (nums2 w4 _) (by omega)).mono ?_
      rintro e w5 ⟨l', _, rfl, hc5, ho5⟩
      have h45 := ((Only.refl c w4).alloc _).trans ho5
      have u0 := (h45.cell (o := 0) (show w1.heap.size < w4.heap.size by omega) (by omega)).trans p0
      have u1 := (h45.cell (o := 1) (show w1.heap.size < w4.heap.size by omega) (by omega)).trans p1
      have uf1 := (h45.frozen (o := 1) (show w1.heap.size < w4.heap.size by omega) (by omega)).trans pf1
      have s0 := (h45.cell (o := 0) (show w.heap.size < w4.heap.size by omega) (by omega)).trans s0
      have s1 := (h45.cell (o := 1) (show w.heap.size < w4.heap.size by omega) (by omega)).trans s1
      have t0 := (h45.frozen (o := 0) (show w.heap.size < w4.heap.size by omega) (by omega)).trans t0
      have t1 := (h45.frozen (o := 1) (show w.heap.size < w4.heap.size by omega) (by omega)).trans t1
      have hO5 := hO4.trans h45
      clear h45 ho5 hby4 hc4 p0 p1 pf0 pf1
      go_wp2_with fail
      refine bodyPost_ret (v := .agg #[.int .i64 y, .int .i64 l']) (by simp [results, Try.results123, go_sem, s0, s1]) rfl ⟨_, _, rfl, ?_, ?_⟩
      · exact cur_only (cur_only (cur_up hc5 (show n + 4 + 2 + 2 ≤ n + 8 by omega)) ((Only.refl w1.heap.size w5).setCell 1 _) (by omega)) (((Only.refl w.heap.size _).setCell 0 _).setCell 1 _) (by omega)
      · exact ((hO5.setNew (by omega) 1 _).setNew (Nat.le_refl _) 0 _).setNew (Nat.le_refl _) 1 _
    · have z1 : (r == 1) = false := by simpa using e1
      go_wp2_with fail
      refine bodyPost_ret (v := .agg #[.int .i64 y, .int .i64 l]) (by simp [results, Try.results123, go_sem, s0, s1]) rfl ⟨_, _, rfl, ?_, ?_⟩
      · exact cur_only (cur_up hc4 (show n + 4 + 2 ≤ n + 8 by omega)) (((Only.refl w.heap.size _).setCell 0 _).setCell 1 _) (by omega)
      · exact (hO4.setNew (Nat.le_refl _) 0 _).setNew (Nat.le_refl _) 1 _

/-- The bytes, seen from a world in which they came in. -/
theorem bytes_to {B : Nat} {w w' : World} {v : Value} {len : Nat} (h : BytesAt w.heap.size w v len) (k : Below w.heap.size w w') (hB : w.heap.size ≤ B) : BytesAt B w' v len := by
  obtain ⟨a, cap, hv, hl, hj⟩ := h
  refine ⟨a, cap, hv, hl, fun j h => ?_⟩
  obtain ⟨b, off, z, ha, hb, hw, hz, h0, h1⟩ := hj j h
  exact ⟨b, off, z, ha, by omega, Nat.lt_of_lt_of_le hw k.size, (k.cell (p := ⟨b, off + j, none⟩) hw).trans hz, h0, h1⟩

set_option maxRecDepth 100000 in
set_option maxHeartbeats 800000 in
theorem d_good (v : Value) (len : Nat) (w : World) (hby : BytesAt w.heap.size w v len) :
    Calls Try.prog 167 #[v] w fun e w' => ∃ a l : Int, e = .returned (.agg #[.int .i64 a, .int .i64 l]) ∧ Below w.heap.size w w' := by
  obtain ⟨p, cap, rfl, hl, hj⟩ := hby
  go_enter Try.func167, Try.ntmps167
  go_wp2_with fail
  refine (d_prefix (w.heap.size + 1) (.slice p len cap) len 0 _ (by omega) ⟨0, 0, by omega, by omega, by simp, by simp [go_sem], by simp [go_sem], by simp [go_sem], by omega, by simp [go_sem], by simp [go_sem], by simp [go_sem]⟩ (bytes_to ⟨p, cap, rfl, hl, hj⟩ (below_box2 (Below.refl _ _)) (by omega))).mono ?_
  rintro e w1 ⟨a, l, rfl, _, ho⟩
  have s0 : w1.cell? ⟨w.heap.size, 0, none⟩ = some (.int .i64 0) := by rw [ho.cell (by simp; omega) (by omega)]; simp [go_sem]
  have s1 : w1.cell? ⟨w.heap.size, 1, none⟩ = some (.int .i64 0) := by rw [ho.cell (by simp; omega) (by omega)]; simp [go_sem]
  have t0 : w1.frozen? ⟨w.heap.size, 0, none⟩ = false := by rw [ho.frozen (by simp; omega) (by omega)]; simp [go_sem]
  have t1 : w1.frozen? ⟨w.heap.size, 1, none⟩ = false := by rw [ho.frozen (by simp; omega) (by omega)]; simp [go_sem]
  have hb : Below w.heap.size w w1 := (below_box2 (Below.refl _ _)).trans ((ho.below (by simp)).mono (by omega))
  clear ho hj
  go_wp2_with fail
  exact bodyPost_ret (v := .agg #[.int .i64 a, .int .i64 l]) (by simp [results, Try.results167, go_sem, s0, s1]) rfl ⟨_, _, rfl, (hb.setCell (Nat.le_refl _) _).setCell (Nat.le_refl _) _⟩

end Go.Proofs.Ytofalilkephkpaa
