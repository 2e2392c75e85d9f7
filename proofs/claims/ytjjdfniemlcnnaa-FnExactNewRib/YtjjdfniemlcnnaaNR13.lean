/- The law on NewRib: the program answers as the specification, and what it answers is its own. -/
import Derived.Test.YtjjdfniemlcnnaaLawR
import Derived.Test.YtjjdfniemlcnnaaS1
import Derived.Test.YtjjdfniemlcnnaaI4
namespace Go.Proofs.Ytjjdfniemlcnnaa
open Go.RowKit

/-- What NewRib answers. -/
def nrO (x : Int) : Int := if inB x 1 65535 = true then x else 0
set_option maxHeartbeats 800000 in
theorem s_newRib (x : Int) (w : World) :
    Calls Try.prog 7 #[.int .i64 x] w fun e w' => e = .returned (.tuple #[.agg #[.int .i64 (nrO x), .slice none 0 0], .bool (inB x 1 65535)]) ∧ Below w.heap.size w w' := by
  have A := hide (fun w => s_in x 1 65535 w)
  unfold nrO
  cases hg : inB x 1 65535 with
  | false =>
    rw [hg] at A
    simp only [if_false, Bool.false_eq_true]
    clear hg
    go_enter Try.func7, Try.ntmps7
    go_wp2_with fail
    refine (A.out _).mono ?_
    rintro e w1 ⟨rfl, rfl⟩
    go_wp2_with fail
    exact bodyPost_ret (v := .tuple #[.agg #[.int .i64 0, .slice none 0 0], .bool false]) (by simp [results, Try.results7, go_sem]) rfl ⟨rfl, by first | exact below_box (Below.refl _ _) | exact below_box2 (Below.refl _ _) | exact below_box3 (Below.refl _ _)⟩
  | true =>
    rw [hg] at A
    simp only [if_true]
    clear hg
    go_enter Try.func7, Try.ntmps7
    go_wp2_with fail
    refine (A.out _).mono ?_
    rintro e w1 ⟨rfl, rfl⟩
    go_wp2_with fail
    exact bodyPost_ret (v := .tuple #[.agg #[.int .i64 x, .slice none 0 0], .bool true]) (by simp [results, Try.results7, go_sem]) rfl ⟨rfl, by first | exact below_box (Below.refl _ _) | exact below_box2 (Below.refl _ _) | exact below_box3 (Below.refl _ _)⟩
set_option maxHeartbeats 800000 in
theorem i_newRib (x : Int) (w : World) :
    Calls Try.prog 8 #[.int .i64 x] w fun e w' => e = .returned (.tuple #[.agg #[.int .i64 (nrO x), .slice none 0 0], .bool (inB x 1 65535)]) ∧ Below w.heap.size w w' := by
  have A := hide (fun w => i_isAsn x w)
  unfold nrO
  cases hg : inB x 1 65535 with
  | false =>
    rw [hg] at A
    simp only [if_false, Bool.false_eq_true]
    clear hg
    go_enter Try.func8, Try.ntmps8
    go_wp2_with fail
    refine (A.out _).mono ?_
    rintro e w1 ⟨rfl, rfl⟩
    go_wp2_with fail
    exact bodyPost_ret (v := .tuple #[.agg #[.int .i64 0, .slice none 0 0], .bool false]) (by simp [results, Try.results8, go_sem]) rfl ⟨rfl, by first | exact below_box (Below.refl _ _) | exact below_box2 (Below.refl _ _) | exact below_box3 (Below.refl _ _)⟩
  | true =>
    rw [hg] at A
    simp only [if_true]
    clear hg
    go_enter Try.func8, Try.ntmps8
    go_wp2_with fail
    refine (A.out _).mono ?_
    rintro e w1 ⟨rfl, rfl⟩
    go_wp2_with fail
    exact bodyPost_ret (v := .tuple #[.agg #[.int .i64 x, .slice none 0 0], .bool true]) (by simp [results, Try.results8, go_sem]) rfl ⟨rfl, by first | exact below_box (Below.refl _ _) | exact below_box2 (Below.refl _ _) | exact below_box3 (Below.refl _ _)⟩
set_option maxHeartbeats 800000 in
theorem w_markRowS0 (k : Int) (w : World) :
    Calls Try.prog 30 #[.slice none 0 0, .int .i64 k] w fun e w' => e = .returned (.int .i64 k) ∧ w' = w := by
  go_enter Try.func30, Try.ntmps30
  go_wp2_with fail
  go_loopw [1, 5] (fun x y wr => x = .int .i64 k ∧ y = .int .i64 0 ∧ wr = w) (fun _ _ _ => 0)
  case atStart => exact ⟨rfl, rfl, rfl⟩
  case round =>
    obtain ⟨rfl, rfl, rfl⟩ := hrel
    go_wp2_with fail
    go_ret
    exact ⟨rfl, rfl⟩
set_option maxHeartbeats 800000 in
theorem w_markRib0 (ow k : Int) (w : World) :
    Calls Try.prog 10 #[.agg #[.int .i64 ow, .slice none 0 0], .int .i64 k] w fun e w' => e = .returned (.int .i64 k) ∧ Below w.heap.size w w' := by
  have s := hide (fun w => w_markRowS0 k w)
  go_enter Try.func10, Try.ntmps10
  go_wp2_with fail
  refine (s.out _).mono ?_
  rintro e w1 ⟨rfl, rfl⟩
  go_wp2_with fail
  go_ret
  exact ⟨rfl, below_box (Below.refl _ _)⟩
set_option maxHeartbeats 800000 in
theorem w_heldRowS0 (k : Int) (w : World) :
    Calls Try.prog 31 #[.slice none 0 0, .int .i64 k] w fun e w' => e = .returned (.int .i64 k) ∧ w' = w := by
  go_enter Try.func31, Try.ntmps31
  go_wp2_with fail
  go_loopw [1, 5] (fun x y wr => x = .int .i64 k ∧ y = .int .i64 0 ∧ wr = w) (fun _ _ _ => 0)
  case atStart => exact ⟨rfl, rfl, rfl⟩
  case round =>
    obtain ⟨rfl, rfl, rfl⟩ := hrel
    go_wp2_with fail
    go_ret
    exact ⟨rfl, rfl⟩
set_option maxHeartbeats 800000 in
theorem w_heldRib0 (ow : Int) (w : World) :
    Calls Try.prog 11 #[.agg #[.int .i64 ow, .slice none 0 0], .int .i64 1] w fun e w' => e = .returned (.int .i64 1) ∧ Below w.heap.size w w' := by
  have s := hide (fun w => w_heldRowS0 1 w)
  go_enter Try.func11, Try.ntmps11
  go_wp2_with fail
  refine (s.out _).mono ?_
  rintro e w1 ⟨rfl, rfl⟩
  go_wp2_with fail
  go_ret
  exact ⟨rfl, below_box (Below.refl _ _)⟩
set_option maxRecDepth 100000 in
set_option maxHeartbeats 3200000 in
theorem w_newRib (x : Int) (w : World) :
    Calls Try.prog 3 #[.int .i64 x] w fun e w' => e = .returned (.bool true) ∧ Below w.heap.size w w' := by
  have S := hide (fun w => s_newRib x w)
  have I := hide (fun w => i_newRib x w)
  have E := hide (fun w => w_eqRib (nrO x) none none 0 0 0 (fun _ => rc0) w (by omega) (fun i hi => absurd hi (by omega)) (fun i hi => absurd hi (by omega)) (fun i hi => absurd hi (by omega)))
  have M := hide (fun w => w_markRib0 (nrO x) 1 w)
  have H := hide (fun w => w_heldRib0 (nrO x) w)
  generalize nrO x = z at *
  generalize inB x 1 65535 = b at *
  have k0 : (b != b) = false := by simp
  go_enter Try.func3, Try.ntmps3
  go_wp2_with fail
  refine (S.out _).mono ?_
  rintro e w1 ⟨rfl, d1⟩
  have MA := Mut.new w1 #[.int .i64 z, .slice none 0 0] 24
  have dA : Below w.heap.size w (w1.alloc (.cells #[.int .i64 z, .slice none 0 0] 24)) := Below.alloc d1 d1.size _
  clear d1
  go_wp2_with fail
  generalize w1.alloc (.cells #[.int .i64 z, .slice none 0 0] 24) = wA at *
  generalize w1.heap.size = qA at *
  refine (I.out _).mono ?_
  rintro e w2 ⟨rfl, b2⟩
  replace MA := MA.below b2
  replace dA := dA.trans (b2.mono dA.size)
  clear b2
  have MB := Mut.new w2 #[.int .i64 z, .slice none 0 0] 24
  have MA1 := MA.alloc (.cells #[.int .i64 z, .slice none 0 0] 24)
  have c0 := MA1.2.1 0 _ rfl
  have c1 := MA1.2.1 1 _ rfl
  have dB : Below w.heap.size w (w2.alloc (.cells #[.int .i64 z, .slice none 0 0] 24)) := Below.alloc dA dA.size _
  clear dA MA
  go_wp2_with fail
  generalize w2.alloc (.cells #[.int .i64 z, .slice none 0 0] 24) = wB at *
  generalize w2.heap.size = qB at *
  refine (E.out _).mono ?_
  rintro e w3 ⟨rfl, b3⟩
  replace MA1 := MA1.below b3
  replace MB := MB.below b3
  replace dB := dB.trans (b3.mono dB.size)
  clear b3 c0 c1
  have e0 := MB.2.1 0 _ rfl
  have e1 := MB.2.1 1 _ rfl
  go_wp2_with fail
  refine (M.out _).mono ?_
  rintro e w4 ⟨rfl, b4⟩
  replace MA1 := MA1.below b4
  replace MB := MB.below b4
  replace dB := dB.trans (b4.mono dB.size)
  clear b4 e0 e1
  have e0 := MB.2.1 0 _ rfl
  have e1 := MB.2.1 1 _ rfl
  go_wp2_with fail
  refine (H.out _).mono ?_
  rintro e w5 ⟨rfl, b5⟩
  replace MA1 := MA1.below b5
  replace MB := MB.below b5
  replace dB := dB.trans (b5.mono dB.size)
  clear b5 e0 e1
  go_wp2_with fail
  refine (I.out _).mono ?_
  rintro e w6 ⟨rfl, b6⟩
  replace MA1 := (MA1.below b6).alloc (.cells #[.int .i64 z, .slice none 0 0] 24)
  replace MB := (MB.below b6).alloc (.cells #[.int .i64 z, .slice none 0 0] 24)
  have dC := dB.trans (b6.mono dB.size)
  replace dC : Below w.heap.size w (w6.alloc (.cells #[.int .i64 z, .slice none 0 0] 24)) := Below.alloc dC dC.size _
  clear b6 dB
  have c0 := MA1.2.1 0 _ rfl
  have c1 := MA1.2.1 1 _ rfl
  go_wp2_with fail
  generalize w6.alloc (.cells #[.int .i64 z, .slice none 0 0] 24) = wC at *
  refine (E.out _).mono ?_
  rintro e w7 ⟨rfl, b7⟩
  replace MB := MB.below b7
  replace dC := dC.trans (b7.mono dC.size)
  clear b7 c0 c1 MA1
  have e0 := MB.2.1 0 _ rfl
  have e1 := MB.2.1 1 _ rfl
  go_wp2_with fail
  refine (H.out _).mono ?_
  rintro e w8 ⟨rfl, b8⟩
  replace dC := dC.trans (b8.mono dC.size)
  go_wp2_with fail
  go_ret
  exact ⟨rfl, dC⟩
end Go.Proofs.Ytjjdfniemlcnnaa
