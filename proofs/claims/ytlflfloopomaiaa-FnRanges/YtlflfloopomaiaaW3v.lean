/- What the laws' samePrefixes and numberOf answer. -/
import Derived.Test.YtlflfloopomaiaaMem3
import Derived.Test.YtlflfloopomaiaaCur
import Derived.BigQuiet
namespace Go.Proofs.Ytlflfloopomaiaa
open Go.RowKit

set_option maxRecDepth 100000 in
set_option maxHeartbeats 1600000 in
theorem w_samePrefixes (a b : Option Addr) (ca cb : Nat) (L : List Pf) (w : World) (hl : L.length ≤ 8589934592) (hR : RowP a L w) (hR2 : RowP b L w) :
    Calls Try.prog 20 #[.slice a L.length ca, .slice b L.length cb] w fun e w' => e = .returned (.bool true) ∧ Below w.heap.size w w' := by
  have hne : ((L.length : Int) != (L.length : Int)) = false := by simp
  go_enter Try.func20, Try.ntmps20
  go_wp2_with fail
  go_loopw [13] (fun i wr => ∃ k : Nat, k ≤ L.length ∧ i = .int .i64 k ∧ Below w.heap.size w wr) (fun i _ => L.length - (intOf i).toNat)
  case atStart => exact ⟨0, Nat.zero_le _, rfl, Below.refl _ _⟩
  case round =>
    obtain ⟨k, hk, rfl, hb⟩ := hrel
    by_cases hlt : k < L.length
    · have hlt' : (k : Int) < (L.length : Int) := by omega
      obtain ⟨b1, off1, rfl, hb1, h0, h1⟩ := (hR.below hb) k hlt
      obtain ⟨b2, off2, rfl, hb2, i0, i1⟩ := (hR2.below hb) k hlt
      have q22 := fun w => neqPrefix_run (pAt L k).1 (pAt L k).2 (pAt L k).1 (pAt L k).2 w
      have hq : (!((pAt L k).1 == (pAt L k).1 && (pAt L k).2 == (pAt L k).2)) = false := by simp
      clear hR hR2
      generalize (pAt L k).1 = x at *
      generalize (pAt L k).2 = y at *
      go_wp2_with fail
      go_quiet (fail)
      go_wp2_with fail
      exact ⟨⟨k + 1, by omega, by go_num, by first | exact hb | exact hb.drew | exact below_drewN hb _⟩, by simp [intOf]; omega⟩
    · have hk' : k = L.length := by omega
      subst hk'
      clear hR hR2
      go_wp2_with fail
      go_ret
      exact ⟨rfl, hb⟩
set_option maxRecDepth 100000 in
set_option maxHeartbeats 1600000 in
theorem w_numberOf (v : Value) (len : Nat) (w : World) (hby : BytesAt w.heap.size w v len) :
    Calls Try.prog 36 #[v] w fun e w' => ∃ r : Int, 0 ≤ r ∧ r ≤ 1000002 ∧ e = .returned (.int .i64 r) ∧ w' = w := by
  obtain ⟨p, cap, rfl, hl, hj⟩ := hby
  unfold maxLen at hl
  go_enter Try.func36, Try.ntmps36
  go_wp2_with fail
  go_loopw [3, 8] (fun s i wr => ∃ k : Nat, ∃ r : Int, k ≤ len ∧ i = .int .i64 k ∧ s = .int .i64 r ∧ 0 ≤ r ∧ r ≤ 1000002 ∧ wr = w) (fun _ i _ => len - (intOf i).toNat)
  case atStart => exact ⟨0, 0, Nat.zero_le _, rfl, rfl, by omega, by omega, rfl⟩
  case round =>
    obtain ⟨k, r, hk, rfl, rfl, hr0, hr1, hw⟩ := hrel
    have hw := hw.symm
    subst hw
    by_cases hlt : k < len
    · have hlt' : (k : Int) < (len : Int) := by omega
      obtain ⟨b, off, z, rfl, _, hbw, hz, z0, z1⟩ := hj k hlt
      have m1 : 0 ≤ (31 * r + z) % 1000003 := Int.emod_nonneg _ (by omega)
      have m2 : (31 * r + z) % 1000003 < 1000003 := Int.emod_lt_of_pos _ (by omega)
      have m3 : (31 * r + z).tmod 1000003 = (31 * r + z) % 1000003 := Int.tmod_eq_emod_of_nonneg (by omega)
      clear hj
      go_wp2_with fail
      exact ⟨⟨k + 1, _, by omega, by go_num, rfl, by first | omega | (rw [m3]; omega), by first | omega | (rw [m3]; omega), by trivial⟩, by simp [intOf]; omega⟩
    · have hk' : k = len := by omega
      subst hk'
      clear hj
      go_wp2_with fail
      go_ret
      exact ⟨r, hr0, hr1, rfl, by trivial⟩
end Go.Proofs.Ytlflfloopomaiaa
