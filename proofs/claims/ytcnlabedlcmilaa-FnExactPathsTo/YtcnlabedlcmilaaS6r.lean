/- What the specification's l1Has answers at numbers in memory. -/
import Derived.Test.YtcnlabedlcmilaaPlain6n
import Derived.Test.YtcnlabedlcmilaaMemN
namespace Go.Proofs.Ytcnlabedlcmilaa
open Go.RowKit

theorem hasN_next {l : List Int} {x : Int} {k : Nat} (hk : k < l.length) (h : hasN (l.take k) x = false) (e : (l.getD k 0 == x) = false) : hasN (l.take (k + 1)) x = false := by
  rw [List.take_add_one, List.getElem?_eq_getElem hk]
  rw [show l.getD k 0 = l[k] by simp [List.getD_eq_getElem?_getD, List.getElem?_eq_getElem hk]] at e
  simp only [hasN, Option.toList_some, List.any_append, List.any_cons, List.any_nil, Bool.or_false, e]
  exact h
theorem hasN_at {l : List Int} {x : Int} {k : Nat} (hk : k < l.length) (e : (l.getD k 0 == x) = true) : hasN l x = true := by
  rw [show l.getD k 0 = l[k] by simp [List.getD_eq_getElem?_getD, List.getElem?_eq_getElem hk]] at e
  rw [hasN_iff, ← eq_of_beq e]
  exact List.getElem_mem hk
set_option maxRecDepth 100000 in
set_option maxHeartbeats 800000 in
theorem s_l1Has (a : Option Addr) (L : List Int) (c : Nat) (x : Int) (w : World) (hl : L.length ≤ 1048576) (R : RowN .i64 a L w) :
    Calls Try.prog 124 #[.slice a L.length c, .int .i64 x] w fun e w' => e = .returned (.bool (hasN L x)) ∧ w' = w := by
  generalize hn : L.length = n at *
  go_enter Try.func124, Try.ntmps124
  go_wp2_with fail
  go_loop [4, 9] (fun _ i => ∃ k : Nat, k ≤ n ∧ i = .int .i64 k ∧ hasN (L.take k) x = false) (fun _ i => n - (intOf i).toNat)
  case atStart => exact ⟨0, Nat.zero_le _, rfl, rfl⟩
  case round =>
    obtain ⟨k, hk, rfl, hno⟩ := hrel
    by_cases hlt : k < n
    · obtain ⟨b, off, rfl, hbw, e0⟩ := R k (by omega)
      have hlt' : (k : Int) < (n : Int) := by omega
      by_cases he : (L.getD k 0 == x) = true
      · have hS := hide (hasN_at (by omega) he)
        clear hno R
        generalize L.getD k 0 = y at *
        go_wp2_with fail
        go_ret
        exact ⟨congrArg (fun b => Ending.returned (.bool b)) hS.out.symm, rfl⟩
      · have he : (L.getD k 0 == x) = false := by simpa using he
        have hS := hide (hasN_next (by omega) hno he)
        clear hno R
        generalize L.getD k 0 = y at *
        go_wp2_with fail
        exact ⟨⟨k + 1, by omega, by go_num, hS.out⟩, by simp [intOf]; omega⟩
    · have hS : Hid (hasN L x = false) := by
        rw [List.take_of_length_le (by omega)] at hno
        exact hno
      have hlt' : ¬ (k : Int) < (n : Int) := by omega
      clear hno R
      go_wp2_with fail
      go_ret
      exact ⟨congrArg (fun b => Ending.returned (.bool b)) hS.out.symm, rfl⟩
end Go.Proofs.Ytcnlabedlcmilaa
