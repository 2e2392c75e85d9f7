/- Unseal of the specification. -/
import Derived.Test.YtnpnhdaehddnmaaDoorSum17
import Derived.Test.YtnpnhdaehddnmaaDoorPlain17u
import Derived.Deep.DeepCutAuto
import Derived.Deep.RegionHeld3
namespace Go.Proofs.YtnpnhdaehddnmaaDoor
open Go.RowKit

set_option maxRecDepth 100000 in
set_option maxHeartbeats 1600000 in
theorem s_unseal (s : ByteArray) (w : World) (hs : s.size ≤ 1048577) :
    Calls Tryd.prog 17 #[.string s] w fun e w' => e = .returned (.tuple #[.string (usA s).1, .bool (usA s).2]) ∧ Below w.heap.size w w' := by
  by_cases hp : 0 < s.size
  case neg =>
    have e1 : usA s = (⟨#[]⟩, false) := if_neg (fun h => hp h.1)
    rw [e1]
    have hne : s.toList.isEmpty = true := by rw [empty17]; exact decide_eq_true (by omega)
    go_enter Tryd.func17, Tryd.ntmps17
    go_wp2_with fail
    exact bodyPost_ret (v := .tuple #[.string ⟨#[]⟩, .bool false]) (by simp [results, Tryd.results17, go_sem]) rfl ⟨rfl, Below.refl _ _⟩
  have hne : s.toList.isEmpty = false := by rw [empty17]; exact decide_eq_false (by omega)
  have hpre : s.extract 0 (s.size - 1) = preB s := rfl
  have SL := hide (fun w => s_sealOf (preB s) w (by rw [preB_size]; omega))
  by_cases hU : UsOk s
  · have e1 : usA s = (preB s, true) := if_pos hU
    rw [e1]
    rw [(sealB_pre hp).2 hU] at SL
    generalize preB s = pre at *
    go_enter Tryd.func17, Tryd.ntmps17
    go_wp2_with fail
    refine (SL.out _).mono ?_
    rintro e w1 ⟨rfl, b1⟩
    go_wp2_with fail
    exact bodyPost_ret (v := .tuple #[.string pre, .bool true]) (by simp [results, Tryd.results17, go_sem]) rfl ⟨rfl, b1⟩
  · have e1 : usA s = (⟨#[]⟩, false) := if_neg hU
    rw [e1]
    have hz : ¬ sealB (preB s) = s := fun h => hU ((sealB_pre hp).1 h)
    have hzz : ((sealB (preB s)).toList == s.toList) = false := by
      rw [ByteArray.toList_eq, ByteArray.toList_eq]
      simp only [beq_eq_false_iff_ne, ne_eq]
      exact fun h => hz (ByteArray.ext (Array.toList_inj.1 h))
    generalize sealB (preB s) = z at *
    generalize preB s = pre at *
    go_enter Tryd.func17, Tryd.ntmps17
    go_wp2_with fail
    refine (SL.out _).mono ?_
    rintro e w1 ⟨rfl, b1⟩
    go_wp2_with fail
    exact bodyPost_ret (v := .tuple #[.string ⟨#[]⟩, .bool false]) (by simp [results, Tryd.results17, go_sem]) rfl ⟨rfl, b1⟩
end Go.Proofs.YtnpnhdaehddnmaaDoor
