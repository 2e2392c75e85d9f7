/- Relations of the program in a map: goodRel, back, kindBack, kindsOf, GoodRels, KindTo, mayTell, MayTell. -/
import Derived.Test.YtgjohkpicajhpaaMap11
import Derived.Test.YtgjohkpicajhpaaFlatRel
import Derived.Deep.RegionWith
namespace Go.Proofs.Ytgjohkpicajhpaa
open Go.RowKit Go.Maps

set_option maxRecDepth 100000 in
set_option maxHeartbeats 1600000 in
theorem i_goodRel (u x y z : Int) (w : World) :
    Calls Try.prog 26 #[.int .i64 u, .agg #[.int .i64 x, .int .i64 y, .int .i64 z]] w fun e w' => e = .returned (.bool (pB (RlOk u x y z))) ∧ Below w.heap.size w w' := by
  have dX : Below w.heap.size w (w.alloc (.cells #[.int .i64 x, .int .i64 y, .int .i64 z] 58)) := below_box (Below.refl _ _)
  by_cases h0 : 0 ≤ x
  · by_cases h1 : x < y
    · by_cases h2 : y ≤ u
      · by_cases h3 : 1 ≤ z
        · have hE := hide (show pB (RlOk u x y z) = decide (z ≤ 3) by
            by_cases h4 : z ≤ 3
            · rw [pB_t ⟨h0, h1, h2, h3, h4⟩]; simp [h4]
            · rw [pB_f (fun h => h4 h.2.2.2.2)]; simp [h4])
          go_enter Try.func26, Try.ntmps26
          go_wp2_with fail
          go_ret
          exact ⟨by rw [hE.out]; rfl, dX⟩
        · have hE := hide (pB_f (p := RlOk u x y z) (fun h => h3 h.2.2.2.1))
          go_enter Try.func26, Try.ntmps26
          go_wp2_with fail
          go_ret
          exact ⟨by rw [hE.out]; rfl, dX⟩
      · have hE := hide (pB_f (p := RlOk u x y z) (fun h => h2 h.2.2.1))
        go_enter Try.func26, Try.ntmps26
        go_wp2_with fail
        go_ret
        exact ⟨by rw [hE.out]; rfl, dX⟩
    · have hE := hide (pB_f (p := RlOk u x y z) (fun h => h1 h.2.1))
      go_enter Try.func26, Try.ntmps26
      go_wp2_with fail
      go_ret
      exact ⟨by rw [hE.out]; rfl, dX⟩
  · have hE := hide (pB_f (p := RlOk u x y z) (fun h => h0 h.1))
    go_enter Try.func26, Try.ntmps26
    go_wp2_with fail
    go_ret
    exact ⟨by rw [hE.out]; rfl, dX⟩
set_option maxRecDepth 100000 in
set_option maxHeartbeats 400000 in
theorem i_back (x y : Int) (w : World) :
    Calls Try.prog 28 #[.agg #[.int .i64 x, .int .i64 y]] w fun e w' => e = .returned (.agg #[.int .i64 y, .int .i64 x]) ∧ Below w.heap.size w w' := by
  go_enter Try.func28, Try.ntmps28
  go_wp2_with fail
  exact bodyPost_ret (v := .agg #[.int .i64 y, .int .i64 x]) (by simp [results, Try.results28, go_sem]) rfl ⟨rfl, below_box2 (Below.refl _ _)⟩
set_option maxRecDepth 100000 in
set_option maxHeartbeats 400000 in
theorem i_kindBack (z : Int) (w : World) (h0 : 1 ≤ z) (h1 : z ≤ 3) :
    Calls Try.prog 27 #[.int .i64 z] w fun e w' => e = .returned (.int .i64 (4 - z)) ∧ w' = w := by
  go_enter Try.func27, Try.ntmps27
  go_wp2_with fail
  go_ret
  exact ⟨rfl, rfl⟩
end Go.Proofs.Ytgjohkpicajhpaa
