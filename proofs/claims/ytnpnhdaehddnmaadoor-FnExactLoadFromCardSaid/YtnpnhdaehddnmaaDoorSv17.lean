/- numberOf at two bytes, savedIn of the program. -/
import Derived.Test.YtnpnhdaehddnmaaDoorUs17
import Derived.Test.YtnpnhdaehddnmaaDoorPlain17m
import Derived.Test.YtnpnhdaehddnmaaDoorMut4
import Derived.Test.YtnpnhdaehddnmaaDoorStoreM
import Derived.Test.YtnpnhdaehddnmaaDoorFlatString
import Derived.Deep.RegionHeld3
namespace Go.Proofs.YtnpnhdaehddnmaaDoor
open Go.RowKit

theorem bits_or18 (n x : Int) (h0 : 0 ≤ n) (h1 : n < 16777216) (x0 : 0 ≤ x) (x1 : x < 256) : Go.bits .or .i64 (n * 256) x = n * 256 + x := by
  obtain ⟨a, rfl⟩ := Int.eq_ofNat_of_zero_le h0
  obtain ⟨b, rfl⟩ := Int.eq_ofNat_of_zero_le x0
  have ha : a < 16777216 := by omega
  have hb : b < 256 := by omega
  have e : ((a : Int) * 256) = ((256 * a : Nat) : Int) := by omega
  rw [e]
  have k1 : (BitVec.ofInt 64 ((256 * a : Nat) : Int)).toNat = 256 * a := by
    rw [BitVec.ofInt_natCast, BitVec.toNat_ofNat]; exact Nat.mod_eq_of_lt (by omega)
  have k2 : (BitVec.ofInt 64 (b : Int)).toNat = b := by
    rw [BitVec.ofInt_natCast, BitVec.toNat_ofNat]; exact Nat.mod_eq_of_lt (by omega)
  show IntKind.i64.wrap ((BitVec.ofInt 64 ((256 * a : Nat) : Int) ||| BitVec.ofInt 64 (b : Int)).toNat : Int) = _
  rw [BitVec.toNat_or, k1, k2]
  have k3 : 256 * a ||| b = 256 * a + b := (Nat.two_pow_add_eq_or_of_lt (i := 8) (by omega) a).symm
  rw [k3, wrapk_in _ (by omega)]
  omega
set_option maxRecDepth 100000 in
set_option maxHeartbeats 1600000 in
theorem i_numberOf2 (g C : Nat) (x0 x1 : Int) (w : World) (a0 : 0 ≤ x0) (a1 : x0 < 256) (b0 : 0 ≤ x1) (b1 : x1 < 256) (c0 : w.cell? ⟨g, 0, none⟩ = some (.int .u8 x0)) (c1 : w.cell? ⟨g, 1, none⟩ = some (.int .u8 x1)) :
    Calls Tryd.prog 67 #[.slice (some ⟨g, 0, none⟩) 2 C] w fun e w' => e = .returned (.int .i64 (x0 * 256 + x1)) ∧ w' = w := by
  have h1 := bits_or18 0 x0 (by omega) (by omega) a0 a1
  have h2 := bits_or18 x0 x1 a0 (by omega) b0 b1
  rw [Int.zero_mul, Int.zero_add] at h1
  go_enter Tryd.func67, Tryd.ntmps67
  go_wp2_with fail
  go_loop [3, 5, 8] (fun n _ i => (i = .int .i64 0 ∧ n = .int .i64 0) ∨ (i = .int .i64 1 ∧ n = .int .i64 x0) ∨ (i = .int .i64 2 ∧ n = .int .i64 (x0 * 256 + x1))) (fun _ _ i => 2 - (intOf i).toNat)
  case atStart => exact .inl ⟨rfl, rfl⟩
  case round =>
    rcases hrel with ⟨rfl, rfl⟩ | ⟨rfl, rfl⟩ | ⟨rfl, rfl⟩
    · go_wp2_with fail
      exact ⟨.inr (.inl ⟨rfl, rfl⟩), by simp [intOf]⟩
    · go_wp2_with fail
      exact ⟨.inr (.inr ⟨rfl, rfl⟩), by simp [intOf]⟩
    · go_wp2_with fail
      go_ret
      exact ⟨rfl, rfl⟩
theorem sizeSaved17 : (Tryd.prog.info? 50).map (·.size) = some 3 := by kernel_rfl
set_option maxRecDepth 100000 in
set_option maxHeartbeats 1600000 in
theorem i_savedInN0 (gp : Addr) (k : Nat) (a : Option Addr) (n c : Nat) (f : Nat → ByteArray) (H : Nat) (w : World) (hH : H ≤ 1) (cw : w.cell? ⟨k, 0, none⟩ = some (.slice a n c)) (hR : RowStr a n f w) (hn : 8 + H < n) (hs : (f (8 + H)).size ≤ 20) (hG : GU gp w) (hU : ¬ UsOk (f (8 + H))) :
    Calls Tryd.prog 62 #[.pointer (some ⟨k, 0, none⟩), .int .i64 H] w fun e w' => e = gaveUp gp ∧ Below w.heap.size w w' := by
  have UN := hide (fun w (h : GU gp w) => i_unsealedN gp (f (8 + H)) w (by omega) h hU)
  obtain ⟨ba, off, rfl, hba, c8⟩ := hR (8 + H) hn
  have hi0 : ¬ (8 + (H : Int) < 0) := by omega
  have hH2 : (H : Int) ≤ 1 := by omega
  have hi1 : 8 + (H : Int) < (n : Int) := by omega
  have M := Mut.new w #[.int .i64 0, .int .i64 0, .int .i64 0] 50
  have d0 : Below w.heap.size w (w.alloc (.cells #[.int .i64 0, .int .i64 0, .int .i64 0] 50)) := below_box (Below.refl _ _)
  have hkw := World.block_lt_of_cell? w _ cw
  replace cw := (d0.cell (p := ⟨k, 0, none⟩) hkw).trans cw
  replace c8 := (d0.cell (p := ⟨ba, off + (8 + H), none⟩) hba).trans c8
  have hG0 := hG.below d0
  clear hU hs hR
  generalize f (8 + H) = s at *
  go_enter Tryd.func62, Tryd.ntmps62
  go_wp2_with fail
  generalize w.alloc (.cells #[.int .i64 0, .int .i64 0, .int .i64 0] 50) = w0 at *
  refine (UN.out _ hG0).mono ?_
  rintro e w1 ⟨rfl, b1⟩
  exact ⟨rfl, rfl, below_step d0 b1⟩
set_option maxRecDepth 100000 in
set_option maxHeartbeats 1600000 in
theorem i_savedInN1 (gp : Addr) (k : Nat) (a : Option Addr) (n c : Nat) (f : Nat → ByteArray) (H : Nat) (w : World) (hH : H ≤ 1) (cw : w.cell? ⟨k, 0, none⟩ = some (.slice a n c)) (hR : RowStr a n f w) (hn : 8 + H < n) (hs : (f (8 + H)).size ≤ 20) (hG : GU gp w) (hU : UsOk (f (8 + H))) (h4 : (f (8 + H)).size ≠ 4) :
    Calls Tryd.prog 62 #[.pointer (some ⟨k, 0, none⟩), .int .i64 H] w fun e w' => e = gaveUp gp ∧ Below w.heap.size w w' := by
  have UN := hide (fun w => i_unsealedY (f (8 + H)) w (by omega) hU)
  have MN := hide (fun w (h : GU gp w) => i_mustN gp w h)
  have hz : (preB (f (8 + H))).size ≠ 3 := by
    rw [preB_size]
    have := hU.1
    omega
  obtain ⟨ba, off, rfl, hba, c8⟩ := hR (8 + H) hn
  have hi0 : ¬ (8 + (H : Int) < 0) := by omega
  have hH2 : (H : Int) ≤ 1 := by omega
  have hi1 : 8 + (H : Int) < (n : Int) := by omega
  have M := Mut.new w #[.int .i64 0, .int .i64 0, .int .i64 0] 50
  have d0 : Below w.heap.size w (w.alloc (.cells #[.int .i64 0, .int .i64 0, .int .i64 0] 50)) := below_box (Below.refl _ _)
  have hkw := World.block_lt_of_cell? w _ cw
  replace cw := (d0.cell (p := ⟨k, 0, none⟩) hkw).trans cw
  replace c8 := (d0.cell (p := ⟨ba, off + (8 + H), none⟩) hba).trans c8
  have hG0 := hG.below d0
  clear hU hs hR h4
  generalize preB (f (8 + H)) = t at *
  generalize f (8 + H) = s at *
  have hz2 : ((t.size : Int) == 3) = false := by simp; omega
  have hcv := fun w s => run_bytes_of_string (P := Tryd.prog) w 9 84 5 s Tryd.underlying9 Tryd.underlying84 Tryd.underlying5
  go_enter Tryd.func62, Tryd.ntmps62
  go_wp2_with fail
  generalize w.alloc (.cells #[.int .i64 0, .int .i64 0, .int .i64 0] 50) = w0 at *
  refine (UN.out _).mono ?_
  rintro e w1 ⟨rfl, b1⟩
  have d1 := below_step d0 b1
  have hG1 := hG0.below b1
  go_wp2_with fail
  have bb : Below w1.heap.size w1 (w1.alloc (.cells (bytesRow t (grownCap w1 t.size 0 5)) 5 ((bytesRow t (grownCap w1 t.size 0 5)).size, (bytesRow t (grownCap w1 t.size 0 5)).size + 1))).drew := (below_box (Below.refl _ _)).drew
  refine (MN.out _ (hG1.below bb)).mono ?_
  rintro e w2 ⟨rfl, rfl⟩
  exact ⟨rfl, rfl, below_step d1 bb⟩
set_option maxRecDepth 100000 in
set_option maxHeartbeats 1600000 in
theorem i_savedInY (k : Nat) (a : Option Addr) (n c : Nat) (f : Nat → ByteArray) (H : Nat) (w : World) (hH : H ≤ 1) (cw : w.cell? ⟨k, 0, none⟩ = some (.slice a n c)) (hR : RowStr a n f w) (hn : 8 + H < n) (h : RdOk (f (8 + H))) :
    Calls Tryd.prog 62 #[.pointer (some ⟨k, 0, none⟩), .int .i64 H] w fun e w' => e = .returned (.agg #[.int .i64 H, .int .i64 (rdN (f (8 + H))), .int .i64 (rdL (f (8 + H)))]) ∧ Below w.heap.size w w' := by
  obtain ⟨hU, h4, hN, hL⟩ := h
  have UN := hide (fun w => i_unsealedY (f (8 + H)) w (by omega) hU)
  have MY := hide (fun w => i_mustY w)
  have b0 := by17_bd (preB (f (8 + H))) 0
  have b1 := by17_bd (preB (f (8 + H))) 1
  have b2 := by17_bd (preB (f (8 + H))) 2
  have hz : (preB (f (8 + H))).size = 3 := by rw [preB_size]; omega
  obtain ⟨ba, off, rfl, hba, c8⟩ := hR (8 + H) hn
  have hi0 : ¬ (8 + (H : Int) < 0) := by omega
  have hH2 : (H : Int) ≤ 1 := by omega
  have hi1 : 8 + (H : Int) < (n : Int) := by omega
  have M := Mut.new w #[.int .i64 0, .int .i64 0, .int .i64 0] 50
  have d0 : Below w.heap.size w (w.alloc (.cells #[.int .i64 0, .int .i64 0, .int .i64 0] 50)) := below_box (Below.refl _ _)
  have hkw := World.block_lt_of_cell? w _ cw
  replace cw := (d0.cell (p := ⟨k, 0, none⟩) hkw).trans cw
  replace c8 := (d0.cell (p := ⟨ba, off + (8 + H), none⟩) hba).trans c8
  clear hU hR h4
  unfold rdN rdL at *
  generalize preB (f (8 + H)) = t at *
  generalize f (8 + H) = s at *
  have h0 : 0 < t.size := by omega
  have h1 : 1 < t.size := by omega
  have h2 : 2 < t.size := by omega
  have y0 := hide (by17_at h0)
  have y1 := hide (by17_at h1)
  have y2 := hide (by17_at h2)
  generalize by17 t 0 = x0 at *
  generalize by17 t 1 = x1 at *
  generalize by17 t 2 = x2 at *
  obtain ⟨b0a, b0b⟩ := b0
  obtain ⟨b1a, b1b⟩ := b1
  obtain ⟨b2a, b2b⟩ := b2
  have NO := hide (fun g C w => i_numberOf2 g C x0 x1 w b0a b0b b1a b1b)
  have hcv := fun w s => run_bytes_of_string (P := Tryd.prog) w 9 84 5 s Tryd.underlying9 Tryd.underlying84 Tryd.underlying5
  go_enter Tryd.func62, Tryd.ntmps62
  go_wp2_with fail
  generalize w.alloc (.cells #[.int .i64 0, .int .i64 0, .int .i64 0] 50) = w0 at *
  refine (UN.out _).mono ?_
  rintro e w1 ⟨rfl, bw⟩
  have d1 := below_step d0 bw
  replace M := M.below bw
  clear bw d0 cw c8 UN
  go_wp2_with fail
  have bb : Below w1.heap.size w1 (w1.alloc (.cells (bytesRow t (grownCap w1 3 0 5)) 5 ((bytesRow t (grownCap w1 3 0 5)).size, (bytesRow t (grownCap w1 3 0 5)).size + 1))).drew := (below_box (Below.refl _ _)).drew
  have hB : ∀ j (h : j < t.size), (w1.alloc (.cells (bytesRow t (grownCap w1 3 0 5)) 5 ((bytesRow t (grownCap w1 3 0 5)).size, (bytesRow t (grownCap w1 3 0 5)).size + 1))).drew.cell? ⟨w1.heap.size, j, none⟩ = some (.int .u8 ((t[j]'h).toNat : Int)) := fun j h => by
    have e := World.cell?_alloc_mark w1 (bytesRow t (grownCap w1 3 0 5)) 5 ((bytesRow t (grownCap w1 3 0 5)).size, (bytesRow t (grownCap w1 3 0 5)).size + 1) j
    rw [World.cell?_drew, e]
    exact bytesRow_at t _ j h
  have k0 := hB 0 h0
  have k1 := hB 1 h1
  have k2 := hB 2 h2
  rw [← y0.out] at k0
  rw [← y1.out] at k1
  rw [← y2.out] at k2
  have hC : 2 ≤ grownCap w1 3 0 5 := Nat.le_trans (by decide) (grownCap_ge w1 3 0 5)
  have hsw : w1.heap.size < (w1.alloc (.cells (bytesRow t (grownCap w1 3 0 5)) 5 ((bytesRow t (grownCap w1 3 0 5)).size, (bytesRow t (grownCap w1 3 0 5)).size + 1))).drew.heap.size := by simp
  have d2 := below_step d1 bb
  replace M := M.below bb
  clear hcv hB bb d1 y0 y1 y2
  generalize grownCap w1 3 0 5 = C at *
  generalize (w1.alloc (.cells (bytesRow t C) 5 ((bytesRow t C).size, (bytesRow t C).size + 1))).drew = w2 at *
  generalize w1.heap.size = g at *
  refine (MY.out _).mono ?_
  rintro e w2 ⟨rfl, rfl⟩
  have hC2 : (2 : Int) ≤ (C : Int) := by omega
  have KB : Hid (∀ X : World, Below w2.heap.size w2 X → (X.cell? ⟨g, 0, none⟩ = some (.int .u8 x0) ∧ X.cell? ⟨g, 1, none⟩ = some (.int .u8 x1) ∧ X.cell? ⟨g, 2, none⟩ = some (.int .u8 x2))) := fun X h => ⟨(h.cell (p := ⟨g, 0, none⟩) hsw).trans k0, (h.cell (p := ⟨g, 1, none⟩) hsw).trans k1, (h.cell (p := ⟨g, 2, none⟩) hsw).trans k2⟩
  have dZ : Below w2.heap.size w2 w2 := Below.refl _ _
  go_wp2_with fail
  clear k0 k1 k2
  go_region_held3 (fun X => X.cell? ⟨g, 0, none⟩ = some (.int .u8 x0) ∧ X.cell? ⟨g, 1, none⟩ = some (.int .u8 x1) ∧ X.cell? ⟨g, 2, none⟩ = some (.int .u8 x2)) (first | exact KB.out _ dZ | exact KB.out _ dZ.drew) (first | (go_at_call 67; refine (NO.out _ _ _ (by first | exact (KB.out _ dZ).1 | exact (KB.out _ dZ.drew).1) (by first | exact (KB.out _ dZ).2.1 | exact (KB.out _ dZ.drew).2.1)).mono ?_; rintro e wE ⟨rfl, rfl⟩))
  all_goals
    have dW : Below w2.heap.size w2 w2.drew := dZ.drew
    have M3 := M.below dW
    have d3 := below_step d2 dW
    go_wp2_with fail
    refine (MY.out _).mono ?_
    rintro e w4 ⟨rfl, rfl⟩
    generalize w2.drew = w5 at *
    go_wp2_with (refine wpList_storeM (us := [.int .i64 H, .int .i64 (x0 * 256 + x1), .int .i64 x2]) rfl rfl rfl rfl M3 rfl (by intro v hv; simp only [List.mem_cons, List.not_mem_nil, or_false] at hv; rcases hv with rfl | rfl | rfl <;> rfl) sizeSaved17 ?_; intro w6 M6 o6)
    have on := OnlyP.of_only (P := fun y => y = w.heap.size) o6 rfl
    have d6 := d3.trans (on.below (base := w.heap.size) (fun y _ hy => by have h : y = w.heap.size := hy; omega) d3.size)
    have r0 := M6.2.1 0 _ rfl
    have r1 := M6.2.1 1 _ rfl
    have r2 := M6.2.1 2 _ rfl
    exact bodyPost_ret (v := .agg #[.int .i64 H, .int .i64 (x0 * 256 + x1), .int .i64 x2]) (by simp [results, Tryd.results62, go_sem, r0, r1, r2]) rfl ⟨rfl, d6⟩
set_option maxRecDepth 100000 in
set_option maxHeartbeats 1600000 in
theorem i_savedInN2 (gp : Addr) (k : Nat) (a : Option Addr) (n c : Nat) (f : Nat → ByteArray) (H : Nat) (w : World) (hH : H ≤ 1) (cw : w.cell? ⟨k, 0, none⟩ = some (.slice a n c)) (hR : RowStr a n f w) (hn : 8 + H < n) (hG : GU gp w) (hU : UsOk (f (8 + H))) (h4 : (f (8 + H)).size = 4) (h : ¬ (rdN (f (8 + H)) ≤ 999 ∧ rdL (f (8 + H)) ≤ 72)) :
    Calls Tryd.prog 62 #[.pointer (some ⟨k, 0, none⟩), .int .i64 H] w fun e w' => e = gaveUp gp ∧ Below w.heap.size w w' := by
  have UN := hide (fun w => i_unsealedY (f (8 + H)) w (by omega) hU)
  have MY := hide (fun w => i_mustY w)
  have MN := hide (fun w (h : GU gp w) => i_mustN gp w h)
  have b0 := by17_bd (preB (f (8 + H))) 0
  have b1 := by17_bd (preB (f (8 + H))) 1
  have b2 := by17_bd (preB (f (8 + H))) 2
  have hz : (preB (f (8 + H))).size = 3 := by rw [preB_size]; omega
  obtain ⟨ba, off, rfl, hba, c8⟩ := hR (8 + H) hn
  have hi0 : ¬ (8 + (H : Int) < 0) := by omega
  have hH2 : (H : Int) ≤ 1 := by omega
  have hi1 : 8 + (H : Int) < (n : Int) := by omega
  have M := Mut.new w #[.int .i64 0, .int .i64 0, .int .i64 0] 50
  have d0 : Below w.heap.size w (w.alloc (.cells #[.int .i64 0, .int .i64 0, .int .i64 0] 50)) := below_box (Below.refl _ _)
  have hkw := World.block_lt_of_cell? w _ cw
  replace cw := (d0.cell (p := ⟨k, 0, none⟩) hkw).trans cw
  replace c8 := (d0.cell (p := ⟨ba, off + (8 + H), none⟩) hba).trans c8
  have hG0 := hG.below d0
  clear hU hR h4
  unfold rdN rdL at *
  generalize preB (f (8 + H)) = t at *
  generalize f (8 + H) = s at *
  have h0 : 0 < t.size := by omega
  have h1 : 1 < t.size := by omega
  have h2 : 2 < t.size := by omega
  have y0 := hide (by17_at h0)
  have y1 := hide (by17_at h1)
  have y2 := hide (by17_at h2)
  generalize by17 t 0 = x0 at *
  generalize by17 t 1 = x1 at *
  generalize by17 t 2 = x2 at *
  obtain ⟨b0a, b0b⟩ := b0
  obtain ⟨b1a, b1b⟩ := b1
  obtain ⟨b2a, b2b⟩ := b2
  have NO := hide (fun g C w => i_numberOf2 g C x0 x1 w b0a b0b b1a b1b)
  have hcv := fun w s => run_bytes_of_string (P := Tryd.prog) w 9 84 5 s Tryd.underlying9 Tryd.underlying84 Tryd.underlying5
  go_enter Tryd.func62, Tryd.ntmps62
  go_wp2_with fail
  generalize w.alloc (.cells #[.int .i64 0, .int .i64 0, .int .i64 0] 50) = w0 at *
  refine (UN.out _).mono ?_
  rintro e w1 ⟨rfl, bw⟩
  have d1 := below_step d0 bw
  replace M := M.below bw
  have hG1 := hG0.below bw
  clear bw d0 cw c8 UN
  go_wp2_with fail
  have bb : Below w1.heap.size w1 (w1.alloc (.cells (bytesRow t (grownCap w1 3 0 5)) 5 ((bytesRow t (grownCap w1 3 0 5)).size, (bytesRow t (grownCap w1 3 0 5)).size + 1))).drew := (below_box (Below.refl _ _)).drew
  have hB : ∀ j (h : j < t.size), (w1.alloc (.cells (bytesRow t (grownCap w1 3 0 5)) 5 ((bytesRow t (grownCap w1 3 0 5)).size, (bytesRow t (grownCap w1 3 0 5)).size + 1))).drew.cell? ⟨w1.heap.size, j, none⟩ = some (.int .u8 ((t[j]'h).toNat : Int)) := fun j h => by
    have e := World.cell?_alloc_mark w1 (bytesRow t (grownCap w1 3 0 5)) 5 ((bytesRow t (grownCap w1 3 0 5)).size, (bytesRow t (grownCap w1 3 0 5)).size + 1) j
    rw [World.cell?_drew, e]
    exact bytesRow_at t _ j h
  have k0 := hB 0 h0
  have k1 := hB 1 h1
  have k2 := hB 2 h2
  rw [← y0.out] at k0
  rw [← y1.out] at k1
  rw [← y2.out] at k2
  have hC : 2 ≤ grownCap w1 3 0 5 := Nat.le_trans (by decide) (grownCap_ge w1 3 0 5)
  have hsw : w1.heap.size < (w1.alloc (.cells (bytesRow t (grownCap w1 3 0 5)) 5 ((bytesRow t (grownCap w1 3 0 5)).size, (bytesRow t (grownCap w1 3 0 5)).size + 1))).drew.heap.size := by simp
  have d2 := below_step d1 bb
  replace M := M.below bb
  have hG2 := hG1.below bb
  clear hG1 hG0 hG
  clear hcv hB bb d1 y0 y1 y2
  generalize grownCap w1 3 0 5 = C at *
  generalize (w1.alloc (.cells (bytesRow t C) 5 ((bytesRow t C).size, (bytesRow t C).size + 1))).drew = w2 at *
  generalize w1.heap.size = g at *
  refine (MY.out _).mono ?_
  rintro e w2 ⟨rfl, rfl⟩
  have hC2 : (2 : Int) ≤ (C : Int) := by omega
  have KB : Hid (∀ X : World, Below w2.heap.size w2 X → (X.cell? ⟨g, 0, none⟩ = some (.int .u8 x0) ∧ X.cell? ⟨g, 1, none⟩ = some (.int .u8 x1) ∧ X.cell? ⟨g, 2, none⟩ = some (.int .u8 x2))) := fun X h => ⟨(h.cell (p := ⟨g, 0, none⟩) hsw).trans k0, (h.cell (p := ⟨g, 1, none⟩) hsw).trans k1, (h.cell (p := ⟨g, 2, none⟩) hsw).trans k2⟩
  have dZ : Below w2.heap.size w2 w2 := Below.refl _ _
  go_wp2_with fail
  clear k0 k1 k2
  go_region_held3 (fun X => X.cell? ⟨g, 0, none⟩ = some (.int .u8 x0) ∧ X.cell? ⟨g, 1, none⟩ = some (.int .u8 x1) ∧ X.cell? ⟨g, 2, none⟩ = some (.int .u8 x2)) (first | exact KB.out _ dZ | exact KB.out _ dZ.drew) (first | (go_at_call 67; refine (NO.out _ _ _ (by first | exact (KB.out _ dZ).1 | exact (KB.out _ dZ.drew).1) (by first | exact (KB.out _ dZ).2.1 | exact (KB.out _ dZ.drew).2.1)).mono ?_; rintro e wE ⟨rfl, rfl⟩))
  all_goals
    have dW : Below w2.heap.size w2 w2.drew := dZ.drew
    have M3 := M.below dW
    have d3 := below_step d2 dW
    by_cases hN : x0 * 256 + x1 ≤ 999
    · have hL : decide (x2 ≤ 72) = false := decide_eq_false (fun q => h ⟨hN, q⟩)
      go_wp2_with fail
      refine (MN.out _ (hG2.below dW)).mono ?_
      rintro e w4 ⟨rfl, rfl⟩
      exact ⟨rfl, rfl, d3⟩
    · have hL : decide (x0 * 256 + x1 ≤ 999) = false := decide_eq_false hN
      go_wp2_with fail
      refine (MN.out _ (hG2.below dW)).mono ?_
      rintro e w4 ⟨rfl, rfl⟩
      exact ⟨rfl, rfl, d3⟩
set_option maxRecDepth 100000 in
set_option maxHeartbeats 1600000 in
theorem i_savedInN (gp : Addr) (k : Nat) (a : Option Addr) (n c : Nat) (f : Nat → ByteArray) (H : Nat) (w : World) (hH : H ≤ 1) (cw : w.cell? ⟨k, 0, none⟩ = some (.slice a n c)) (hR : RowStr a n f w) (hn : 8 + H < n) (hs : (f (8 + H)).size ≤ 20) (hG : GU gp w) (h : ¬ RdOk (f (8 + H))) :
    Calls Tryd.prog 62 #[.pointer (some ⟨k, 0, none⟩), .int .i64 H] w fun e w' => e = gaveUp gp ∧ Below w.heap.size w w' := by
  by_cases hU : UsOk (f (8 + H))
  · by_cases h4 : (f (8 + H)).size = 4
    · exact i_savedInN2 gp k a n c f H w hH cw hR hn hG hU h4 (fun q => h ⟨hU, h4, q⟩)
    · exact i_savedInN1 gp k a n c f H w hH cw hR hn hs hG hU h4
  · exact i_savedInN0 gp k a n c f H w hH cw hR hn hs hG hU
end Go.Proofs.YtnpnhdaehddnmaaDoor
