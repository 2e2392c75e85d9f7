/- A prefix's bytes: what the specification's l4Prefix and PrefixBytes answer. -/
import Derived.Test.YtoeephmdklmpfaaByte4
import Derived.Test.YtoeephmdklmpfaaS1
import Derived.Deep.RegionHeld3
import Derived.Laws.Concat
namespace Go.Proofs.Ytoeephmdklmpfaa
open Go.RowKit

/-- How many bytes a length needs. -/
def need (l : Int) : Nat := ((l + 7) / 8).toNat
theorem need_le {l : Int} (h0 : 0 ≤ l) (h1 : l ≤ 32) : need l ≤ 4 := by unfold need; omega
theorem need_eq {l : Int} (h0 : 0 ≤ l) : (l + 7) / 8 = (need l : Int) := by unfold need; omega
/-- A prefix's bytes. -/
def pbs (a l : Int) : List Int := be l 1 ++ be (a / 2 ^ (32 - 8 * need l)) (need l)
theorem pbs_len (a l : Int) : (pbs a l).length = need l + 1 := by unfold pbs; rw [List.length_append, be_len, be_len]; omega

theorem u64_wrap (n : Int) : IntKind.u64.wrap n = n % 18446744073709551616 := by
  simp [IntKind.wrap, IntKind.bits, IntKind.signed]
theorem ret_str {a b : ByteArray} (h : a = b) : Ending.returned (.string a) = .returned (.string b) := by rw [h]
theorem s_bytesI (n m : Int) (w : World) (h0 : 0 ≤ m) (h1 : m ≤ 4) :
    Calls Try.prog 150 #[.int .i64 n, .int .i64 m] w fun e w' => e = .returned (.string (strOfNums (be n m.toNat))) ∧ Below w.heap.size w w' := by
  obtain ⟨k, rfl⟩ := Int.eq_ofNat_of_zero_le h0
  exact s_bytes n k w (by omega)
set_option maxRecDepth 100000 in
set_option maxHeartbeats 3200000 in
theorem s_prefixB (a l : Int) (w : World) (h0 : 0 ≤ l) (h1 : l ≤ 32) :
    Calls Try.prog 151 #[.agg #[.int .i64 a, .int .i64 l]] w fun e w' => e = .returned (.string (strOfNums (pbs a l))) ∧ Below w.heap.size w w' := by
  have hm := need_le h0 h1
  have hq : (l + 7).tdiv 8 = (need l : Int) := by rw [Int.tdiv_eq_ediv_of_nonneg (by omega)]; exact need_eq h0
  have hp : Hid (strOfNums (pbs a l) = strOfNums (be l 1) ++ strOfNums (be (a / 2 ^ (32 - 8 * need l)) (need l))) := str_app _ _
  generalize need l = m at *
  have hs0 : ¬ (32 - 8 * (m : Int) < 0) := by omega
  have hs1 : (32 - 8 * (m : Int)).toNat = 32 - 8 * m := by omega
  have hcat := fun (w : World) (x y : Int) => run_string_add_sum (P := Try.prog) w (strOfNums (be x 1)) (strOfNums (be y m)) (by rw [strOfNums_size, strOfNums_size, be_len, be_len]; omega)
  have d0 : Below w.heap.size w (w.alloc (.cells #[.int .i64 a, .int .i64 l] 122)) := below_box (Below.refl _ _)
  have p0 : (w.alloc (.cells #[.int .i64 a, .int .i64 l] 122)).cell? ⟨w.heap.size, 0, none⟩ = some (.int .i64 a) := by simp [go_sem]
  have p1 : (w.alloc (.cells #[.int .i64 a, .int .i64 l] 122)).cell? ⟨w.heap.size, 1, none⟩ = some (.int .i64 l) := by simp [go_sem]
  have hlt : w.heap.size < (w.alloc (.cells #[.int .i64 a, .int .i64 l] 122)).heap.size := by simp
  generalize pbs a l = r at *
  go_enter Try.func151, Try.ntmps151
  go_wp2_with fail
  generalize w.alloc (.cells #[.int .i64 a, .int .i64 l] 122) = w1 at *
  have dA : Below w1.heap.size w1 w1 := Below.refl _ _
  go_region_held3 (fun w' => w'.cell? ⟨w.heap.size, 0, none⟩ = some (.int .i64 a) ∧ w'.cell? ⟨w.heap.size, 1, none⟩ = some (.int .i64 l))
    (first
      | go_keep
      | exact ⟨(dA.cell (p := ⟨w.heap.size, 0, none⟩) hlt).trans p0, (dA.cell (p := ⟨w.heap.size, 1, none⟩) hlt).trans p1⟩
      | exact ⟨(dA.drew.cell (p := ⟨w.heap.size, 0, none⟩) hlt).trans p0, (dA.drew.cell (p := ⟨w.heap.size, 1, none⟩) hlt).trans p1⟩)
    ((go_at_call 150; refine (s_bytesI _ _ _ (by omega) (by omega)).mono ?_; rintro e wA ⟨rfl, bA⟩; have dA : Below w1.heap.size w1 wA := (by first | exact below_step dA bA | exact below_step dA.drew bA)))
  have hsh : min (IntKind.u64.wrap (IntKind.i64.wrap (32 - IntKind.i64.wrap (8 * (m : Int))))).toNat 64 = 32 - 8 * m := by
    rw [wrapk_in (8 * (m : Int)) (by omega), wrapk_in (32 - 8 * (m : Int)) (by omega), u64_wrap]
    omega
  have dF := d0.trans (dA.mono d0.size)
  go_wp2_with fail
  go_ret
  exact ⟨ret_str (by rw [hp.out, hsh]), dF⟩
end Go.Proofs.Ytoeephmdklmpfaa
