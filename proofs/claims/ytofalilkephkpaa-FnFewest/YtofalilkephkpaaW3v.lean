/- What the laws' samePrefixes and numberOf answer. -/
import Derived.Test.YtofalilkephkpaaMem3
import Derived.Test.YtofalilkephkpaaCur
import Derived.BigQuiet
namespace Go.Proofs.Ytofalilkephkpaa
open Go.RowKit

set_option maxRecDepth 100000 in
set_option maxHeartbeats 1600000 in
theorem w_samePrefixes (a b : Option Addr) (ca cb : Nat) (L : List Pf) (w : World) (hl : L.length ≤ 8589934592) (hR : RowP a L w) (hR2 : RowP b L w) :
    Calls Try.prog 22 #[.slice a L.length ca, .slice b L.length cb] w fun e w' => e = .returned (.bool true) ∧ Below w.heap.size w w' := by
  have hne : ((L.length : Int) != (L.length : Int)) = false := by simp
  go_enter Try.func22, Try.ntmps22
  go_wp2_with fail
  go_loopw [13] (fun i wr => ∃ k : Nat, k ≤ L.length ∧ i = .int .i64 k ∧ Below w.heap.size w wr) (fun i _ => L.length - (intOf i).toNat)
  case atStart => exact ⟨0, Nat.zero_le _, rfl, Below.refl _ _⟩
  case round =>
    obtain ⟨k, hk, rfl, hb⟩ := hrel
    by_cases hlt : k < L.length
    · have hlt' : (k : Int) < (L.length : Int) := by omega
      obtain ⟨b1, off1, rfl, hb1, h0, h1⟩ := (hR.below hb) k hlt
      obtain ⟨b2, off2, rfl, hb2, i0, i1⟩ := (hR2.below hb) k hlt
      have q22 := fun w => neqPrefix_run (pAt L k).1 (pAt L k).2 (pAt L k).1 (pAt L k).2 w
      have hq : (!((pAt L k).1 == (pAt L k).1 && (pAt L k).2 == (pAt L k).2)) = false := by simp
      clear hR hR2
      generalize (pAt L k).1 = x at *
      generalize (pAt L k).2 = y at *
      go_wp2_with fail
      go_quiet (fail)
      go_wp2_with fail
      exact ⟨⟨k + 1, by omega, by go_num, by first | exact hb | exact hb.drew | exact below_drewN hb _⟩, by simp [intOf]; omega⟩
    · have hk' : k = L.length := by omega
      subst hk'
      clear hR hR2
      go_wp2_with fail
      go_ret
      exact ⟨rfl, hb⟩
end Go.Proofs.Ytofalilkephkpaa
