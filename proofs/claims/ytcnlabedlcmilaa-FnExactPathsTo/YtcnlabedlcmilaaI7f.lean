/- What the program asks of a term and a route: hasPrefix, rangeHas, someHas, Contains. -/
import Derived.Test.YtcnlabedlcmilaaPlain7f
import Derived.Test.YtcnlabedlcmilaaFlatRange
import Derived.Test.YtcnlabedlcmilaaFlatInt
import Derived.Test.YtcnlabedlcmilaaI1b
import Derived.Test.YtcnlabedlcmilaaMut4
namespace Go.Proofs.Ytcnlabedlcmilaa
open Go.RowKit

set_option maxRecDepth 100000 in
set_option maxHeartbeats 1600000 in
theorem i_indexI (a : Option Addr) (n c : Nat) (g : Nat → Int) (x : Int) (w : World) (hl : n ≤ 1048576) (hR : RowInt a n g w) :
    Calls Try.prog 175 #[.slice a n c, .int .i64 x] w fun e w' => ∃ r : Int, e = .returned (.int .i64 r) ∧ decide (r ≥ 0) = coB n g x ∧ Below w.heap.size w w' := by
  have hA : Hid (coB n g x = (List.range n).any fun i => g i == x) := rfl
  generalize coB n g x = co at *
  go_enter Try.func175, Try.ntmps175
  go_wp2_with fail
  go_loopw [8] (fun y wr => ∃ k : Nat, y = .int .i64 k ∧ k ≤ n ∧ Hid (((List.range k).any fun i => g i == x) = false) ∧ wr = w) (fun y _ => n - (intOf y).toNat)
  case atStart => exact ⟨0, rfl, Nat.zero_le _, rfl, rfl⟩
  case round =>
    obtain ⟨k, rfl, hk, hall, rfl⟩ := hrel
    by_cases hlt : k < n
    · obtain ⟨b, off, rfl, hbw, u0⟩ := hR k hlt
      have hlt' : (k : Int) < (n : Int) := by omega
      have hY := hide (fun e => any_yes7 (n := n) (p := fun i => g i == x) hlt e)
      have hN := hide (fun e => any_next7 (p := fun i => g i == x) hall.out e)
      clear hall hR
      generalize g k = z at *
      cases hg : (z == x) with
      | true =>
        have hE := hide (hY.out hg)
        have hg' : (x == z) = true := by rw [Bool.beq_comm]; exact hg
        clear hg hY hN
        go_wp2_with fail
        go_ret
        exact ⟨_, rfl, by rw [hA.out, hE.out]; simp, Below.refl _ _⟩
      | false =>
        have hE := hide (hN.out hg)
        have hg' : (x == z) = false := by rw [Bool.beq_comm]; exact hg
        clear hg hY hN
        go_wp2_with fail
        exact ⟨⟨k + 1, by go_num, by omega, hE, trivial⟩, by simp [intOf]; omega⟩
    · have hlt' : ¬ (k : Int) < (n : Int) := by omega
      obtain rfl : k = n := by omega
      have hE := hide (hA.out.trans hall.out)
      clear hall hA
      go_wp2_with fail
      go_ret
      exact ⟨-1, rfl, by rw [hE.out]; rfl, Below.refl _ _⟩
set_option maxRecDepth 100000 in
set_option maxHeartbeats 800000 in
theorem i_containsI (a : Option Addr) (n c : Nat) (g : Nat → Int) (x : Int) (w : World) (hl : n ≤ 1048576) (hR : RowInt a n g w) :
    Calls Try.prog 160 #[.slice a n c, .int .i64 x] w fun e w' => e = .returned (.bool (coB n g x)) ∧ Below w.heap.size w w' := by
  have s1 := hide (fun w R => i_indexI a n c g x w hl R)
  clear hl
  generalize coB n g x = co at *
  go_enter Try.func160, Try.ntmps160
  go_wp2_with fail
  refine (s1.out _ hR).mono ?_
  rintro e w1 ⟨r, rfl, hr, b1⟩
  have hr := hide hr
  go_wp2_with fail
  go_ret
  exact ⟨ret_bool (by first | exact hr.out | (rw [← hr.out])), b1⟩
end Go.Proofs.Ytcnlabedlcmilaa
