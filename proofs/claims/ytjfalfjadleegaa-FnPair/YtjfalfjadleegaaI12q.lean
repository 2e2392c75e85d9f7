/- Events of messages, and the atomic counts, of the program. -/
import Derived.Test.YtjfalfjadleegaaPlain12q
import Derived.Test.YtjfalfjadleegaaI12d
import Derived.Laws.LoneSync
namespace Go.Proofs.Ytjfalfjadleegaa
open Go.RowKit

set_option maxRecDepth 100000 in
set_option maxHeartbeats 1600000 in
theorem i_eventOf (m h : Int) (w : World) :
    Calls Try.prog 23 #[.int .i64 m, .int .i64 h] w fun e w' => e = .returned (.agg #[.int .i64 (evK m), .int .i64 (evN m h)]) ∧ Below w.heap.size w w' := by
  by_cases k1 : m = 1
  · subst k1
    rw [show evK 1 = 5 from rfl, show evN 1 h = h from rfl]
    go_enter Try.func23, Try.ntmps23
    go_wp2_with fail
    exact bodyPost_ret (v := .agg #[.int .i64 5, .int .i64 h]) (by simp [results, Try.results23, go_sem]) rfl ⟨rfl, below_box (Below.refl _ _)⟩
  · have k1' : (m == 1) = false := by simp [k1]
    rw [show evN m h = 0 by simp [evN, k1]]
    by_cases k2 : m = 2
    · subst k2
      rw [show evK 2 = 8 from rfl]
      go_enter Try.func23, Try.ntmps23
      go_wp2_with fail
      exact bodyPost_ret (v := .agg #[.int .i64 8, .int .i64 0]) (by simp [results, Try.results23, go_sem]) rfl ⟨rfl, below_box (Below.refl _ _)⟩
    · have k2' : (m == 2) = false := by simp [k2]
      by_cases k3 : m = 3
      · subst k3
        rw [show evK 3 = 9 from rfl]
        go_enter Try.func23, Try.ntmps23
        go_wp2_with fail
        exact bodyPost_ret (v := .agg #[.int .i64 9, .int .i64 0]) (by simp [results, Try.results23, go_sem]) rfl ⟨rfl, below_box (Below.refl _ _)⟩
      · have k3' : (m == 3) = false := by simp [k3]
        rw [show evK m = 7 by simp [evK, k1, k2, k3]]
        go_enter Try.func23, Try.ntmps23
        go_wp2_with fail
        exact bodyPost_ret (v := .agg #[.int .i64 7, .int .i64 0]) (by simp [results, Try.results23, go_sem]) rfl ⟨rfl, below_box (Below.refl _ _)⟩
set_option maxRecDepth 100000 in
set_option maxHeartbeats 800000 in
theorem i_atLoad (b o : Nat) (x : Int) (w : World) (hc : w.cell? ⟨b, o, none⟩ = some (.int .i64 x)) :
    Calls Try.prog 21 #[.pointer (some ⟨b, o, none⟩)] w fun e w' => e = .returned (.int .i64 x) ∧ w' = w := by
  have hld := run_call_load (P := Try.prog) (fn := Try.f28) Try.func28 (by kernel_rfl) (by kernel_rfl) (by kernel_rfl) .i64 (by kernel_rfl) hc
  go_enter Try.func21, Try.ntmps21
  go_wp2_with fail
  go_ret
  exact ⟨rfl, rfl⟩
set_option maxRecDepth 100000 in
set_option maxHeartbeats 800000 in
theorem i_atAdd (b o : Nat) (x : Int) (w : World) (h0 : 0 ≤ x) (h1 : x ≤ 1000000) (hc : w.cell? ⟨b, o, none⟩ = some (.int .i64 x)) (hz : w.frozen? ⟨b, o, none⟩ = false) :
    Calls Try.prog 22 #[.pointer (some ⟨b, o, none⟩), .int .i64 1] w fun e w' => e = .returned (.int .i64 (x + 1)) ∧ w' = w.setCell ⟨b, o, none⟩ (.int .i64 (x + 1)) := by
  have hs : (Op.intArith .add .i64 x 1).run Try.prog w = .ok (.int .i64 (x + 1)) w := by
    have : IntKind.i64.wrap (x + 1) = x + 1 := by
      have e1 : IntKind.i64.bits = 64 := rfl
      unfold IntKind.wrap
      simp only [e1]
      simp
      omega
    simp [Op.intArith, go_sem, this]
  have hld := run_call_add (P := Try.prog) (fn := Try.f29) Try.func29 (by kernel_rfl) (by kernel_rfl) (by kernel_rfl) .i64 (by kernel_rfl) hc hz hs
  clear hs
  go_enter Try.func22, Try.ntmps22
  go_wp2_with fail
  go_ret
  exact ⟨rfl, rfl⟩
end Go.Proofs.Ytjfalfjadleegaa
