/- The law on Unseal: the program answers as the specification. -/
import Derived.Test.YtnpnhdaehddnmaaDoorUs17
import Derived.Test.YtnpnhdaehddnmaaDoorSs17
namespace Go.Proofs.YtnpnhdaehddnmaaDoor
open Go.RowKit

set_option maxRecDepth 100000 in
set_option maxHeartbeats 1600000 in
theorem w_unseal (s : ByteArray) (gp : Addr) (w : World) (hs : s.size ≤ maxLen) (hG : GU gp w) :
    Calls Tryd.prog 5 #[.string s] w fun e w' => e = .returned (.bool true) ∧ Below w.heap.size w w' := by
  unfold maxLen at hs
  by_cases h : s.size ≤ 1048576
  · have h1 : ¬ ((s.size : Int) > 1048576) := by omega
    have SA := hide (fun w => s_unseal s w (by omega))
    have IA := hide (fun w hG => i_unseal gp s w (by omega) hG)
    generalize usA s = Z at *
    obtain ⟨zs, zb⟩ := Z
    dsimp only at SA IA
    have kb0 : (zb != zb) = false := by simp
    go_enter Tryd.func5, Tryd.ntmps5
    go_wp2_with fail
    refine (SA.out _).mono ?_
    rintro e w1 ⟨rfl, b1⟩
    go_wp2_with fail
    refine (IA.out _ (hG.below b1)).mono ?_
    rintro e w2 ⟨rfl, b2⟩
    go_wp2_with fail
    go_ret
    exact ⟨rfl, below_step b1 b2⟩
  · have h1 : (s.size : Int) > 1048576 := by omega
    go_enter Tryd.func5, Tryd.ntmps5
    go_wp2_with fail
    go_ret
    exact ⟨rfl, Below.refl _ _⟩
end Go.Proofs.YtnpnhdaehddnmaaDoor
