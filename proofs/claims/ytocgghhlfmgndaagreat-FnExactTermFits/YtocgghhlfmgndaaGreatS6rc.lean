/- What the specification's l6Path answers. -/
import Derived.Test.YtocgghhlfmgndaaGreatS6ra
import Derived.Test.YtocgghhlfmgndaaGreatS1
namespace Go.Proofs.YtocgghhlfmgndaaGreat
open Go.RowKit

def asnB (x : Int) : Bool := inB x 1 65535
def gpB (P : List Int) : Bool := P.all asnB && decide (P.length ≤ 10)
theorem gp_no {P : List Int} {k : Nat} (hk : k < P.length) (h : asnB (P.getD k 0) = false) : gpB P = false := by
  have : P.all asnB = false := by
    rw [Bool.eq_false_iff]
    intro e
    rw [List.all_eq_true] at e
    rw [show P.getD k 0 = P[k] by simp [List.getD_eq_getElem?_getD, List.getElem?_eq_getElem hk], e _ (List.getElem_mem hk)] at h
    exact Bool.noConfusion h
  simp [gpB, this]
theorem gp_next {P : List Int} {k : Nat} (hk : k < P.length) (h : (P.take k).all asnB = true) (e : asnB (P.getD k 0) = true) : (P.take (k + 1)).all asnB = true := by
  rw [List.take_add_one, List.getElem?_eq_getElem hk]
  rw [show P.getD k 0 = P[k] by simp [List.getD_eq_getElem?_getD, List.getElem?_eq_getElem hk]] at e
  simp only [Option.toList_some, List.all_append, List.all_cons, List.all_nil, Bool.and_true, e]
  exact h
set_option maxRecDepth 100000 in
set_option maxHeartbeats 800000 in
theorem s_l6Path (a : Option Addr) (P : List Int) (c : Nat) (w : World) (hl : P.length ≤ 1048576) (R : RowN .i64 a P w) :
    Calls Tryz.prog 157 #[.slice a P.length c] w fun e w' => e = .returned (.bool (gpB P)) ∧ w' = w := by
  generalize hn : P.length = n at *
  have GL := hide (fun n w => s_in n 1 65535 w)
  go_enter Tryz.func157, Tryz.ntmps157
  go_wp2_with fail
  go_loop [2, 7] (fun _ i => ∃ k : Nat, k ≤ n ∧ i = .int .i64 k ∧ Hid ((P.take k).all asnB = true)) (fun _ i => n - (intOf i).toNat)
  case atStart => exact ⟨0, Nat.zero_le _, rfl, rfl⟩
  case round =>
    obtain ⟨k, hk, rfl, hall⟩ := hrel
    by_cases hlt : k < n
    · obtain ⟨b, off, rfl, hbw, e0⟩ := R k (by omega)
      have hlt' : (k : Int) < (n : Int) := by omega
      have X := hide (GL.out (P.getD k 0))
      cases he : asnB (P.getD k 0) with
      | true =>
        have hS := hide (gp_next (by omega) hall.out he)
        rw [show inB (P.getD k 0) 1 65535 = true from he] at X
        clear hall R GL he
        generalize P.getD k 0 = y at *
        go_wp2_with fail
        refine (X.out _).mono ?_
        rintro e w_ ⟨rfl, rfl⟩
        go_wp2_with fail
        exact ⟨⟨k + 1, by omega, by go_num, hS⟩, by simp [intOf]; omega⟩
      | false =>
        have hS := hide (gp_no (by omega) he)
        rw [show inB (P.getD k 0) 1 65535 = false from he] at X
        clear hall R GL he
        generalize P.getD k 0 = y at *
        go_wp2_with fail
        refine (X.out _).mono ?_
        rintro e w_ ⟨rfl, rfl⟩
        go_wp2_with fail
        go_ret
        exact ⟨congrArg (fun b => Ending.returned (.bool b)) hS.out.symm, rfl⟩
    · have hA : Hid (gpB P = decide (n ≤ 10)) := by
        have h := hall.out
        rw [List.take_of_length_le (by omega)] at h
        show gpB P = _
        rw [gpB, h, hn]; rfl
      have hlt' : ¬ (k : Int) < (n : Int) := by omega
      clear hall R GL
      by_cases h10 : n ≤ 10
      · have h10' : (n : Int) ≤ 10 := by omega
        rw [decide_eq_true h10] at hA
        go_wp2_with fail
        go_ret
        exact ⟨congrArg (fun b => Ending.returned (.bool b)) hA.out.symm, rfl⟩
      · have h10' : ¬ (n : Int) ≤ 10 := by omega
        rw [decide_eq_false h10] at hA
        go_wp2_with fail
        go_ret
        exact ⟨congrArg (fun b => Ending.returned (.bool b)) hA.out.symm, rfl⟩
end Go.Proofs.YtocgghhlfmgndaaGreat
