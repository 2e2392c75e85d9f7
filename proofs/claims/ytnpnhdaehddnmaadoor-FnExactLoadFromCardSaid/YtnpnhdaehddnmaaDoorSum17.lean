/- SealOf: of the program and of the specification. -/
import Derived.Test.YtnpnhdaehddnmaaDoorPlain17
import Derived.Test.YtnpnhdaehddnmaaDoorKit
namespace Go.Proofs.YtnpnhdaehddnmaaDoor
open Go.RowKit

theorem u8_wrap17 (n : Int) : IntKind.u8.wrap n = n % 256 := by
  simp [IntKind.wrap, IntKind.bits, IntKind.signed]
set_option maxRecDepth 100000 in
set_option maxHeartbeats 1600000 in
theorem i_sumOf (s : ByteArray) (w : World) (hs : s.size ≤ 2097152) :
    Calls Tryd.prog 57 #[.string s] w fun e w' => e = .returned (.int .u8 (sumN s s.size)) ∧ Below w.heap.size w w' := by
  have hcv := fun w s => run_bytes_of_string (P := Tryd.prog) w 9 84 5 s Tryd.underlying9 Tryd.underlying84 Tryd.underlying5
  go_enter Tryd.func57, Tryd.ntmps57
  go_wp2_with fail
  have hd : Below w.heap.size w (w.alloc (.cells (bytesRow s (grownCap w s.size 0 5)) 5 ((bytesRow s (grownCap w s.size 0 5)).size, (bytesRow s (grownCap w s.size 0 5)).size + 1))).drew := (below_box (Below.refl _ _)).drew
  have hB : ∀ k (h : k < s.size), (w.alloc (.cells (bytesRow s (grownCap w s.size 0 5)) 5 ((bytesRow s (grownCap w s.size 0 5)).size, (bytesRow s (grownCap w s.size 0 5)).size + 1))).drew.cell? ⟨w.heap.size, k, none⟩ = some (.int .u8 ((s[k]'h).toNat : Int)) := fun k h => by
    have e := World.cell?_alloc_mark w (bytesRow s (grownCap w s.size 0 5)) 5 ((bytesRow s (grownCap w s.size 0 5)).size, (bytesRow s (grownCap w s.size 0 5)).size + 1) k
    rw [World.cell?_drew, e]
    exact bytesRow_at s _ k h
  have hsz : w.heap.size < (w.alloc (.cells (bytesRow s (grownCap w s.size 0 5)) 5 ((bytesRow s (grownCap w s.size 0 5)).size, (bytesRow s (grownCap w s.size 0 5)).size + 1))).drew.heap.size := by simp
  clear hcv
  generalize grownCap w s.size 0 5 = C at *
  generalize (w.alloc (.cells (bytesRow s C) 5 ((bytesRow s C).size, (bytesRow s C).size + 1))).drew = w1 at *
  go_loop [3, 9] (fun x y => ∃ k : Nat, k ≤ s.size ∧ x = .int .i64 (sumN s k) ∧ y = .int .i64 k) (fun _ y => s.size - (intOf y).toNat)
  case atStart => exact ⟨0, Nat.zero_le _, rfl, rfl⟩
  case round =>
    obtain ⟨k, hk, rfl, rfl⟩ := hrel
    have hs0 := (sumN_bd s k).1
    have hs1 := (sumN_bd s k).2
    by_cases hlt : k < s.size
    · have hlt' : (k : Int) < (s.size : Int) := by omega
      have hn := hide (sumN_succ s k)
      have e1 := tmod251 (x := 31 * sumN s k + by17 s k) (by have := (by17_bd s k).1; omega)
      have b0 := (by17_bd s k).1
      have b1 := (by17_bd s k).2
      rw [by17_at hlt] at e1 b0 b1
      have hby := hide (by17_at hlt)
      have hc := hB k hlt
      clear hB hd
      generalize sumN s k = q at *
      generalize ((s[k]'hlt).toNat : Int) = y at *
      go_wp2_with fail
      exact ⟨⟨k + 1, by omega, by rw [hn.out, hby.out], by go_num⟩, by simp [intOf]; omega⟩
    · obtain rfl : k = s.size := by omega
      have e3 : IntKind.u8.wrap (sumN s s.size) = sumN s s.size := by rw [u8_wrap17]; omega
      clear hB
      generalize hq : sumN s s.size = q at *
      replace hq := hide hq
      go_wp2_with fail
      go_ret
      exact ⟨by rw [hq.out]; rfl, hd⟩
set_option maxRecDepth 100000 in
set_option maxHeartbeats 1600000 in
theorem s_sealOf (s : ByteArray) (w : World) (hs : s.size ≤ 1048577) :
    Calls Tryd.prog 37 #[.string s] w fun e w' => e = .returned (.string (sealB s)) ∧ Below w.heap.size w w' := by
  go_enter Tryd.func37, Tryd.ntmps37
  go_wp2_with fail
  go_loop [3, 4] (fun x y => ∃ k : Nat, k ≤ s.size ∧ x = .int .i64 (sumN s k) ∧ y = .int .i64 k) (fun _ y => s.size - (intOf y).toNat)
  case atStart => exact ⟨0, Nat.zero_le _, rfl, rfl⟩
  case round =>
    obtain ⟨k, hk, rfl, rfl⟩ := hrel
    have hs0 := (sumN_bd s k).1
    have hs1 := (sumN_bd s k).2
    by_cases hlt : k < s.size
    · have hlt' : (k : Int) < (s.size : Int) := by omega
      have hn := hide (sumN_succ s k)
      have e1 := tmod251 (x := 31 * sumN s k + by17 s k) (by have := (by17_bd s k).1; omega)
      have b0 := (by17_bd s k).1
      have b1 := (by17_bd s k).2
      rw [by17_at hlt] at e1 b0 b1
      have hby := hide (by17_at hlt)
      generalize sumN s k = q at *
      go_wp2_with fail
      exact ⟨⟨k + 1, by omega, by rw [hn.out, hby.out], by go_num⟩, by simp [intOf]; omega⟩
    · obtain rfl : k = s.size := by omega
      have hcat := fun (w : World) => run_string_add_sum (P := Tryd.prog) w s (strOfNums [sumN s s.size]) (by rw [strOfNums_size]; simp; omega)
      have hcv := run_convert_bytes_arg (P := Tryd.prog) (w.alloc (.cells #[.int .u8 (sumN s s.size)] 5)) 84 5 Tryd.underlying84 Tryd.underlying5 w.heap.size 0 1 1 [sumN s s.size] rfl (fun i hi => by
        obtain rfl : i = 0 := by omega
        simp [go_sem]) 9 Tryd.underlying9
      have e3 : IntKind.u8.wrap (sumN s s.size) = sumN s s.size := by rw [u8_wrap17]; omega
      have hfin := hide (show sealB s = s ++ strOfNums [sumN s s.size] from rfl)
      generalize strOfNums [sumN s s.size] = Z at *
      generalize sumN s s.size = q at *
      go_wp2_with fail
      go_ret
      exact ⟨by rw [hfin.out]; rfl, below_box (Below.refl _ _)⟩
set_option maxRecDepth 100000 in
set_option maxHeartbeats 1600000 in
theorem i_sealOf (s : ByteArray) (w : World) (hs : s.size ≤ 1048577) :
    Calls Tryd.prog 65 #[.string s] w fun e w' => e = .returned (.string (sealB s)) ∧ Below w.heap.size w w' := by
  have hs0 := (sumN_bd s s.size).1
  have hs1 := (sumN_bd s s.size).2
  have SM := hide (fun w => i_sumOf s w (by omega))
  have hcat := fun (w : World) => run_string_add_sum (P := Tryd.prog) w s (strOfNums [sumN s s.size]) (by rw [strOfNums_size]; simp; omega)
  have hcv := fun w0 : World => run_convert_bytes_arg (P := Tryd.prog) (w0.alloc (.cells #[.int .u8 (sumN s s.size)] 5)) 84 5 Tryd.underlying84 Tryd.underlying5 w0.heap.size 0 1 1 [sumN s s.size] rfl (fun i hi => by
        obtain rfl : i = 0 := by omega
        simp [go_sem]) 9 Tryd.underlying9
  have hfin := hide (show sealB s = s ++ strOfNums [sumN s s.size] from rfl)
  generalize strOfNums [sumN s s.size] = Z at *
  generalize sumN s s.size = q at *
  go_enter Tryd.func65, Tryd.ntmps65
  go_wp2_with fail
  refine (SM.out _).mono ?_
  rintro e w1 ⟨rfl, b1⟩
  go_wp2_with fail
  go_ret
  exact ⟨by rw [hfin.out]; rfl, below_step b1 (below_box (Below.refl _ _))⟩
end Go.Proofs.YtnpnhdaehddnmaaDoor
