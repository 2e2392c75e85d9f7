/- What is got of a configuration, of the specification. -/
import Derived.Test.YtddbgmknbjdbcaaS15c
import Derived.Test.YtddbgmknbjdbcaaPlain15b
namespace Go.Proofs.Ytddbgmknbjdbcaa
open Go.RowKit

set_option maxRecDepth 100000 in
set_option maxHeartbeats 800000 in
theorem s_same15 (a a' : Option Addr) (n m c c' : Nat) (p q : Nat → ByteArray) (w : World) (hn : n ≤ 1048576) (hR : RowStr a n p w) (hQ : RowStr a' m q w) :
    Calls Try.prog 60 #[.slice a n c, .slice a' m c'] w fun e w' => e = .returned (.bool (tB (n = m ∧ Bg n p m q))) ∧ Below w.heap.size w w' := by
  have B := hide (fun w R Q => s_begins a a' n m c c' p q w hn R Q)
  have hT : Hid (Bg n p m q → n = m → tB (n = m ∧ Bg n p m q) = true) := fun h g => tB_t ⟨g, h⟩
  have hF : Hid (¬ (n = m ∧ Bg n p m q) → tB (n = m ∧ Bg n p m q) = false) := tB_f
  generalize tB (n = m ∧ Bg n p m q) = b at *
  go_enter Try.func60, Try.ntmps60
  go_wp2_with fail
  refine (B.out _ hR hQ).mono ?_
  rintro e w1 ⟨rfl, b1⟩
  clear B
  by_cases hB : Bg n p m q
  · rw [tB_t hB]
    by_cases hnm : n = m
    · have hE := hide (hT.out hB hnm)
      have k0 : ((n : Int) == (m : Int)) = true := by simp [hnm]
      clear hT hF hB hnm
      go_wp2_with fail
      go_ret
      exact ⟨by rw [hE.out]; rfl, b1⟩
    · have hE := hide (hF.out (fun h => hnm h.1))
      have k0 : ((n : Int) == (m : Int)) = false := by simp; omega
      clear hT hF hB hnm
      go_wp2_with fail
      go_ret
      exact ⟨by rw [hE.out]; rfl, b1⟩
  · rw [tB_f hB]
    have hE := hide (hF.out (fun h => hB h.2))
    clear hT hF hB
    go_wp2_with fail
    go_ret
    exact ⟨by rw [hE.out]; rfl, b1⟩
end Go.Proofs.Ytddbgmknbjdbcaa
