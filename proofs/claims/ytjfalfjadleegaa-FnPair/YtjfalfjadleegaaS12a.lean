/- NewSession, GoodSession, good events of the specification. -/
import Derived.Test.YtjfalfjadleegaaPlain12
import Derived.Test.YtjfalfjadleegaaMut4
import Derived.Test.YtjfalfjadleegaaS1
namespace Go.Proofs.Ytjfalfjadleegaa
open Go.RowKit

set_option maxRecDepth 100000 in
set_option maxHeartbeats 1600000 in
theorem s_new (h : Int) (w : World) :
    Calls Try.prog 24 #[.int .i64 h] w fun e w' => e = .returned (.tuple #[(newS h).v, .bool (newB h)]) ∧ Below w.heap.size w w' := by
  by_cases c0 : 3 ≤ h ∧ h ≤ 90
  · skip
    have t0_0 : inB h 3 90 = true := inB_t c0.1 c0.2
    rw [(new_t c0).1, (new_t c0).2]
    go_enter Try.func24, Try.ntmps24
    go_wp2_with (go_at_call 14; refine (s_in _ _ _ _).mono ?_; rintro e w' ⟨rfl, rfl⟩)
    exact bodyPost_ret (v := .tuple #[.agg #[.int .i64 0, .int .i64 h, .int .i64 0, .int .i64 0, .int .i64 0], .bool true]) (by simp [results, Try.results24, go_sem]) rfl ⟨rfl, by first | exact below_box (Below.refl _ _) | exact below_box2 (Below.refl _ _) | exact below_box3 (Below.refl _ _)⟩
  · skip
    have t0_0 : inB h 3 90 = false := inB_n c0
    rw [(new_f c0).1, (new_f c0).2]
    go_enter Try.func24, Try.ntmps24
    go_wp2_with (go_at_call 14; refine (s_in _ _ _ _).mono ?_; rintro e w' ⟨rfl, rfl⟩)
    exact bodyPost_ret (v := .tuple #[.agg #[.int .i64 0, .int .i64 0, .int .i64 0, .int .i64 0, .int .i64 0], .bool false]) (by simp [results, Try.results24, go_sem]) rfl ⟨rfl, by first | exact below_box (Below.refl _ _) | exact below_box2 (Below.refl _ _) | exact below_box3 (Below.refl _ _)⟩
end Go.Proofs.Ytjfalfjadleegaa
