/- What the specification's functions of chapter 1 answer, one contract each. -/
import Derived.Test.YtnficndeblkjhaaGreatDoorGrp13
import Derived.Test.YtnficndeblkjhaaGreatDoorGrp3
import Derived.Test.YtnficndeblkjhaaGreatDoorGrp1
/- What is got of a configuration, of the specification. -/
namespace Go.Proofs.YtnficndeblkjhaaGreatDoor
open Go.RowKit

set_option maxRecDepth 100000 in
set_option maxHeartbeats 800000 in
theorem s_same15 (a a' : Option Addr) (n m c c' : Nat) (p q : Nat → ByteArray) (w : World) (hn : n ≤ 1048576) (hR : RowStr a n p w) (hQ : RowStr a' m q w) :
    Calls Tryz.prog 83 #[.slice a n c, .slice a' m c'] w fun e w' => e = .returned (.bool (tB (n = m ∧ Bg n p m q))) ∧ Below w.heap.size w w' := by
  have B := hide (fun w R Q => s_begins a a' n m c c' p q w hn R Q)
  have hT : Hid (Bg n p m q → n = m → tB (n = m ∧ Bg n p m q) = true) := fun h g => tB_t ⟨g, h⟩
  have hF : Hid (¬ (n = m ∧ Bg n p m q) → tB (n = m ∧ Bg n p m q) = false) := tB_f
  generalize tB (n = m ∧ Bg n p m q) = b at *
  go_enter Tryz.func83, Tryz.ntmps83
  go_wp2_with fail
  refine (B.out _ hR hQ).mono ?_
  rintro e w1 ⟨rfl, b1⟩
  clear B
  by_cases hB : Bg n p m q
  · rw [tB_t hB]
    by_cases hnm : n = m
    · have hE := hide (hT.out hB hnm)
      have k0 : ((n : Int) == (m : Int)) = true := by simp [hnm]
      clear hT hF hB hnm
      go_wp2_with fail
      go_ret
      exact ⟨by rw [hE.out]; rfl, b1⟩
    · have hE := hide (hF.out (fun h => hnm h.1))
      have k0 : ((n : Int) == (m : Int)) = false := by simp; omega
      clear hT hF hB hnm
      go_wp2_with fail
      go_ret
      exact ⟨by rw [hE.out]; rfl, b1⟩
  · rw [tB_f hB]
    have hE := hide (hF.out (fun h => hB h.2))
    clear hT hF hB
    go_wp2_with fail
    go_ret
    exact ⟨by rw [hE.out]; rfl, b1⟩
end Go.Proofs.YtnficndeblkjhaaGreatDoor

namespace Go.Proofs.YtnficndeblkjhaaGreatDoor
open Go.RowKit

set_option maxHeartbeats 400000 in
theorem s_in (n lo hi : Int) (w : World) :
    Calls Tryz.prog 51 #[.int .i64 n, .int .i64 lo, .int .i64 hi] w fun e w' => e = .returned (.bool (inB n lo hi)) ∧ w' = w := by
  by_cases h1 : lo ≤ n
  · by_cases h2 : n ≤ hi
    · rw [inB_t h1 h2]
      go_enter Tryz.func51, Tryz.ntmps51
      go_wp2
      go_ret
      exact ⟨rfl, rfl⟩
    · rw [inB_f2 h2]
      go_enter Tryz.func51, Tryz.ntmps51
      go_wp2
      go_ret
      exact ⟨rfl, rfl⟩
  · rw [inB_f1 h1]
    go_enter Tryz.func51, Tryz.ntmps51
    go_wp2
    go_ret
    exact ⟨rfl, rfl⟩

end Go.Proofs.YtnficndeblkjhaaGreatDoor
