/- Acts: deedOf and goodAct of the program, l7Act of the specification. -/
import Derived.Test.YtflakkbodbnndaaAll8
import Derived.Test.YtflakkbodbnndaaAll12
import Derived.Test.YtflakkbodbnndaaAll4
namespace Go.Proofs.Ytflakkbodbnndaa
open Go.RowKit

theorem sizeDeed : (Try.prog.info? 66).map (·.size) = some 2 := by kernel_rfl
set_option maxRecDepth 100000 in
set_option maxHeartbeats 800000 in
theorem i_deed1 (w : World) : Calls Try.prog 26 #[.int .i64 1] w fun e w' => e = .returned (.tuple #[.agg #[.func (.func 52) #[] #[], .func (.func 53) #[] #[]], .bool true]) ∧ Below w.heap.size w w' := by
  go_enter Try.func26, Try.ntmps26
  go_wp2_with (first | (refine wpList_storeM rfl rfl rfl rfl (Mut.new _ _ _) rfl (by intro v hv; simp only [List.mem_cons, List.not_mem_nil, or_false] at hv; rcases hv with rfl | rfl <;> rfl) sizeDeed ?_; intro w2 hM hO))
  have c0 := hM.2.1 0 _ rfl
  have c1 := hM.2.1 1 _ rfl
  have hb : Below w.heap.size w w2 := (below_box (Below.refl _ _)).trans (hO.below (by simp))
  exact bodyPost_ret (v := .tuple #[.agg #[.func (.func 52) #[] #[], .func (.func 53) #[] #[]], .bool true]) (by simp [results, Try.results26, go_sem, c0, c1]) rfl ⟨rfl, hb⟩
set_option maxRecDepth 100000 in
set_option maxHeartbeats 800000 in
theorem i_deed2 (w : World) : Calls Try.prog 26 #[.int .i64 2] w fun e w' => e = .returned (.tuple #[.agg #[.func (.func 52) #[] #[], .func (.func 54) #[] #[]], .bool true]) ∧ Below w.heap.size w w' := by
  go_enter Try.func26, Try.ntmps26
  go_wp2_with (first | (refine wpList_storeM rfl rfl rfl rfl (Mut.new _ _ _) rfl (by intro v hv; simp only [List.mem_cons, List.not_mem_nil, or_false] at hv; rcases hv with rfl | rfl <;> rfl) sizeDeed ?_; intro w2 hM hO))
  have c0 := hM.2.1 0 _ rfl
  have c1 := hM.2.1 1 _ rfl
  have hb : Below w.heap.size w w2 := (below_box (Below.refl _ _)).trans (hO.below (by simp))
  exact bodyPost_ret (v := .tuple #[.agg #[.func (.func 52) #[] #[], .func (.func 54) #[] #[]], .bool true]) (by simp [results, Try.results26, go_sem, c0, c1]) rfl ⟨rfl, hb⟩
set_option maxRecDepth 100000 in
set_option maxHeartbeats 800000 in
theorem i_deed3 (w : World) : Calls Try.prog 26 #[.int .i64 3] w fun e w' => e = .returned (.tuple #[.agg #[.func (.func 52) #[] #[], .func (.func 55) #[] #[]], .bool true]) ∧ Below w.heap.size w w' := by
  go_enter Try.func26, Try.ntmps26
  go_wp2_with (first | (refine wpList_storeM rfl rfl rfl rfl (Mut.new _ _ _) rfl (by intro v hv; simp only [List.mem_cons, List.not_mem_nil, or_false] at hv; rcases hv with rfl | rfl <;> rfl) sizeDeed ?_; intro w2 hM hO))
  have c0 := hM.2.1 0 _ rfl
  have c1 := hM.2.1 1 _ rfl
  have hb : Below w.heap.size w w2 := (below_box (Below.refl _ _)).trans (hO.below (by simp))
  exact bodyPost_ret (v := .tuple #[.agg #[.func (.func 52) #[] #[], .func (.func 55) #[] #[]], .bool true]) (by simp [results, Try.results26, go_sem, c0, c1]) rfl ⟨rfl, hb⟩
set_option maxRecDepth 100000 in
set_option maxHeartbeats 800000 in
theorem i_deed4 (w : World) : Calls Try.prog 26 #[.int .i64 4] w fun e w' => e = .returned (.tuple #[.agg #[.func (.func 52) #[] #[], .func (.func 56) #[] #[]], .bool true]) ∧ Below w.heap.size w w' := by
  go_enter Try.func26, Try.ntmps26
  go_wp2_with (first | (refine wpList_storeM rfl rfl rfl rfl (Mut.new _ _ _) rfl (by intro v hv; simp only [List.mem_cons, List.not_mem_nil, or_false] at hv; rcases hv with rfl | rfl <;> rfl) sizeDeed ?_; intro w2 hM hO))
  have c0 := hM.2.1 0 _ rfl
  have c1 := hM.2.1 1 _ rfl
  have hb : Below w.heap.size w w2 := (below_box (Below.refl _ _)).trans (hO.below (by simp))
  exact bodyPost_ret (v := .tuple #[.agg #[.func (.func 52) #[] #[], .func (.func 56) #[] #[]], .bool true]) (by simp [results, Try.results26, go_sem, c0, c1]) rfl ⟨rfl, hb⟩
set_option maxRecDepth 100000 in
set_option maxHeartbeats 800000 in
theorem i_deed5 (w : World) : Calls Try.prog 26 #[.int .i64 5] w fun e w' => e = .returned (.tuple #[.agg #[.func (.func 57) #[] #[], .func (.func 58) #[] #[]], .bool true]) ∧ Below w.heap.size w w' := by
  go_enter Try.func26, Try.ntmps26
  go_wp2_with (first | (refine wpList_storeM rfl rfl rfl rfl (Mut.new _ _ _) rfl (by intro v hv; simp only [List.mem_cons, List.not_mem_nil, or_false] at hv; rcases hv with rfl | rfl <;> rfl) sizeDeed ?_; intro w2 hM hO))
  have c0 := hM.2.1 0 _ rfl
  have c1 := hM.2.1 1 _ rfl
  have hb : Below w.heap.size w w2 := (below_box (Below.refl _ _)).trans (hO.below (by simp))
  exact bodyPost_ret (v := .tuple #[.agg #[.func (.func 57) #[] #[], .func (.func 58) #[] #[]], .bool true]) (by simp [results, Try.results26, go_sem, c0, c1]) rfl ⟨rfl, hb⟩
set_option maxRecDepth 100000 in
set_option maxHeartbeats 800000 in
theorem i_deedNo (k : Int) (h : ¬ (1 ≤ k ∧ k ≤ 5)) (w : World) : Calls Try.prog 26 #[.int .i64 k] w fun e w' => e = .returned (.tuple #[.agg #[.nilFunc, .nilFunc], .bool false]) ∧ Below w.heap.size w w' := by
  have h1 : (k == 1) = false := by simp; omega
  have h2 : (k == 2) = false := by simp; omega
  have h3 : (k == 3) = false := by simp; omega
  have h4 : (k == 4) = false := by simp; omega
  have h5 : (k == 5) = false := by simp; omega
  clear h
  go_enter Try.func26, Try.ntmps26
  go_wp2_with (first | (refine wpList_storeM rfl rfl rfl rfl (Mut.new _ _ _) rfl (by intro v hv; simp only [List.mem_cons, List.not_mem_nil, or_false] at hv; rcases hv with rfl | rfl <;> rfl) sizeDeed ?_; intro w2 hM hO))
  have c0 := hM.2.1 0 _ rfl
  have c1 := hM.2.1 1 _ rfl
  have hb : Below w.heap.size w w2 := (below_box (Below.refl _ _)).trans (hO.below (by simp))
  exact bodyPost_ret (v := .tuple #[.agg #[.nilFunc, .nilFunc], .bool false]) (by simp [results, Try.results26, go_sem, c0, c1]) rfl ⟨rfl, hb⟩
set_option maxRecDepth 100000 in
set_option maxHeartbeats 800000 in
theorem i_isValue7 (n : Int) (w : World) : Calls Try.prog 52 #[.int .i64 n] w fun e w' => e = .returned (.bool (inB n 0 1000000)) ∧ Below w.heap.size w w' := by
  by_cases h1 : 0 ≤ n
  · by_cases h2 : n ≤ 1000000
    · rw [inB_t h1 h2]
      go_enter Try.func52, Try.ntmps52
      go_wp2_with fail
      go_ret
      exact ⟨rfl, Below.refl _ _⟩
    · rw [inB_f2 h2]
      go_enter Try.func52, Try.ntmps52
      go_wp2_with fail
      go_ret
      exact ⟨rfl, Below.refl _ _⟩
  · rw [inB_f1 h1]
    go_enter Try.func52, Try.ntmps52
    go_wp2_with fail
    go_ret
    exact ⟨rfl, Below.refl _ _⟩
set_option maxRecDepth 100000 in
set_option maxHeartbeats 800000 in
theorem i_isAsn7 (n : Int) (w : World) : Calls Try.prog 57 #[.int .i64 n] w fun e w' => e = .returned (.bool (inB n 1 65535)) ∧ Below w.heap.size w w' := by
  by_cases h1 : 1 ≤ n
  · by_cases h2 : n ≤ 65535
    · rw [inB_t h1 h2]
      go_enter Try.func57, Try.ntmps57
      go_wp2_with fail
      go_ret
      exact ⟨rfl, Below.refl _ _⟩
    · rw [inB_f2 h2]
      go_enter Try.func57, Try.ntmps57
      go_wp2_with fail
      go_ret
      exact ⟨rfl, Below.refl _ _⟩
  · rw [inB_f1 h1]
    go_enter Try.func57, Try.ntmps57
    go_wp2_with fail
    go_ret
    exact ⟨rfl, Below.refl _ _⟩
set_option maxRecDepth 100000 in
set_option maxHeartbeats 800000 in
theorem i_goodAct1 (n : Int) ( w : World) : Calls Try.prog 113 #[.agg #[.int .i64 1, .int .i64 n]] w fun e w' => e = .returned (.bool (acOk 1 n)) ∧ Below w.heap.size w w' := by
  have D := hide (fun w => i_deed1 w)
  have T := hide (fun w => i_isValue7 n w)
  rw [show acOk 1 n = inB n 0 1000000 from by simp [acOk, inB]]
  have MA := Mut.new w #[.int .i64 1, .int .i64 n] 38
  have dA0 : Below w.heap.size w (w.alloc (.cells #[.int .i64 1, .int .i64 n] 38)) := below_box (Below.refl _ _)
  have hw : w.heap.size < (w.alloc (.cells #[.int .i64 1, .int .i64 n] 38)).heap.size := by simp
  go_enter Try.func113, Try.ntmps113
  go_wp2_with fail
  refine (D.out _).mono ?_
  rintro e w1 ⟨rfl, b1⟩
  have MA1 := hide (MA.below b1)
  have dA := hide (dA0.trans (b1.mono dA0.size))
  have hw1 : w.heap.size < w1.heap.size := Nat.lt_of_lt_of_le hw b1.size
  clear MA dA0 b1 hw
  go_wp2_with (first | (refine wpList_storeM rfl rfl rfl rfl (Mut.new _ _ _) rfl (by intro v hv; simp only [List.mem_cons, List.not_mem_nil, or_false] at hv; rcases hv with rfl | rfl <;> rfl) sizeDeed ?_; intro w2 hM hO; have c0 := hM.2.1 0 _ rfl; have c1 := hM.2.1 1 _ rfl; have MA2 := (MA1.out.alloc _).only hO (by omega); have n0 := MA2.2.1 0 _ rfl; have n1 := MA2.2.1 1 _ rfl; have d2 : Below w.heap.size w w2 := (dA.out.alloc dA.out.size _).trans ((hO.below (by simp)).mono dA.out.size)))
  refine (T.out _).mono ?_
  rintro e w3 ⟨rfl, b3⟩
  go_wp2_with fail
  go_ret
  exact ⟨rfl, d2.trans (b3.mono d2.size)⟩
set_option maxRecDepth 100000 in
set_option maxHeartbeats 800000 in
theorem i_goodAct2 (n : Int) ( w : World) : Calls Try.prog 113 #[.agg #[.int .i64 2, .int .i64 n]] w fun e w' => e = .returned (.bool (acOk 2 n)) ∧ Below w.heap.size w w' := by
  have D := hide (fun w => i_deed2 w)
  have T := hide (fun w => i_isValue7 n w)
  rw [show acOk 2 n = inB n 0 1000000 from by simp [acOk, inB]]
  have MA := Mut.new w #[.int .i64 2, .int .i64 n] 38
  have dA0 : Below w.heap.size w (w.alloc (.cells #[.int .i64 2, .int .i64 n] 38)) := below_box (Below.refl _ _)
  have hw : w.heap.size < (w.alloc (.cells #[.int .i64 2, .int .i64 n] 38)).heap.size := by simp
  go_enter Try.func113, Try.ntmps113
  go_wp2_with fail
  refine (D.out _).mono ?_
  rintro e w1 ⟨rfl, b1⟩
  have MA1 := hide (MA.below b1)
  have dA := hide (dA0.trans (b1.mono dA0.size))
  have hw1 : w.heap.size < w1.heap.size := Nat.lt_of_lt_of_le hw b1.size
  clear MA dA0 b1 hw
  go_wp2_with (first | (refine wpList_storeM rfl rfl rfl rfl (Mut.new _ _ _) rfl (by intro v hv; simp only [List.mem_cons, List.not_mem_nil, or_false] at hv; rcases hv with rfl | rfl <;> rfl) sizeDeed ?_; intro w2 hM hO; have c0 := hM.2.1 0 _ rfl; have c1 := hM.2.1 1 _ rfl; have MA2 := (MA1.out.alloc _).only hO (by omega); have n0 := MA2.2.1 0 _ rfl; have n1 := MA2.2.1 1 _ rfl; have d2 : Below w.heap.size w w2 := (dA.out.alloc dA.out.size _).trans ((hO.below (by simp)).mono dA.out.size)))
  refine (T.out _).mono ?_
  rintro e w3 ⟨rfl, b3⟩
  go_wp2_with fail
  go_ret
  exact ⟨rfl, d2.trans (b3.mono d2.size)⟩
set_option maxRecDepth 100000 in
set_option maxHeartbeats 800000 in
theorem i_goodAct3 (n : Int) ( w : World) : Calls Try.prog 113 #[.agg #[.int .i64 3, .int .i64 n]] w fun e w' => e = .returned (.bool (acOk 3 n)) ∧ Below w.heap.size w w' := by
  have D := hide (fun w => i_deed3 w)
  have T := hide (fun w => i_isValue7 n w)
  rw [show acOk 3 n = inB n 0 1000000 from by simp [acOk, inB]]
  have MA := Mut.new w #[.int .i64 3, .int .i64 n] 38
  have dA0 : Below w.heap.size w (w.alloc (.cells #[.int .i64 3, .int .i64 n] 38)) := below_box (Below.refl _ _)
  have hw : w.heap.size < (w.alloc (.cells #[.int .i64 3, .int .i64 n] 38)).heap.size := by simp
  go_enter Try.func113, Try.ntmps113
  go_wp2_with fail
  refine (D.out _).mono ?_
  rintro e w1 ⟨rfl, b1⟩
  have MA1 := hide (MA.below b1)
  have dA := hide (dA0.trans (b1.mono dA0.size))
  have hw1 : w.heap.size < w1.heap.size := Nat.lt_of_lt_of_le hw b1.size
  clear MA dA0 b1 hw
  go_wp2_with (first | (refine wpList_storeM rfl rfl rfl rfl (Mut.new _ _ _) rfl (by intro v hv; simp only [List.mem_cons, List.not_mem_nil, or_false] at hv; rcases hv with rfl | rfl <;> rfl) sizeDeed ?_; intro w2 hM hO; have c0 := hM.2.1 0 _ rfl; have c1 := hM.2.1 1 _ rfl; have MA2 := (MA1.out.alloc _).only hO (by omega); have n0 := MA2.2.1 0 _ rfl; have n1 := MA2.2.1 1 _ rfl; have d2 : Below w.heap.size w w2 := (dA.out.alloc dA.out.size _).trans ((hO.below (by simp)).mono dA.out.size)))
  refine (T.out _).mono ?_
  rintro e w3 ⟨rfl, b3⟩
  go_wp2_with fail
  go_ret
  exact ⟨rfl, d2.trans (b3.mono d2.size)⟩
set_option maxRecDepth 100000 in
set_option maxHeartbeats 800000 in
theorem i_goodAct4 (n : Int) ( w : World) : Calls Try.prog 113 #[.agg #[.int .i64 4, .int .i64 n]] w fun e w' => e = .returned (.bool (acOk 4 n)) ∧ Below w.heap.size w w' := by
  have D := hide (fun w => i_deed4 w)
  have T := hide (fun w => i_isValue7 n w)
  rw [show acOk 4 n = inB n 0 1000000 from by simp [acOk, inB]]
  have MA := Mut.new w #[.int .i64 4, .int .i64 n] 38
  have dA0 : Below w.heap.size w (w.alloc (.cells #[.int .i64 4, .int .i64 n] 38)) := below_box (Below.refl _ _)
  have hw : w.heap.size < (w.alloc (.cells #[.int .i64 4, .int .i64 n] 38)).heap.size := by simp
  go_enter Try.func113, Try.ntmps113
  go_wp2_with fail
  refine (D.out _).mono ?_
  rintro e w1 ⟨rfl, b1⟩
  have MA1 := hide (MA.below b1)
  have dA := hide (dA0.trans (b1.mono dA0.size))
  have hw1 : w.heap.size < w1.heap.size := Nat.lt_of_lt_of_le hw b1.size
  clear MA dA0 b1 hw
  go_wp2_with (first | (refine wpList_storeM rfl rfl rfl rfl (Mut.new _ _ _) rfl (by intro v hv; simp only [List.mem_cons, List.not_mem_nil, or_false] at hv; rcases hv with rfl | rfl <;> rfl) sizeDeed ?_; intro w2 hM hO; have c0 := hM.2.1 0 _ rfl; have c1 := hM.2.1 1 _ rfl; have MA2 := (MA1.out.alloc _).only hO (by omega); have n0 := MA2.2.1 0 _ rfl; have n1 := MA2.2.1 1 _ rfl; have d2 : Below w.heap.size w w2 := (dA.out.alloc dA.out.size _).trans ((hO.below (by simp)).mono dA.out.size)))
  refine (T.out _).mono ?_
  rintro e w3 ⟨rfl, b3⟩
  go_wp2_with fail
  go_ret
  exact ⟨rfl, d2.trans (b3.mono d2.size)⟩
set_option maxRecDepth 100000 in
set_option maxHeartbeats 800000 in
theorem i_goodAct5 (n : Int) ( w : World) : Calls Try.prog 113 #[.agg #[.int .i64 5, .int .i64 n]] w fun e w' => e = .returned (.bool (acOk 5 n)) ∧ Below w.heap.size w w' := by
  have D := hide (fun w => i_deed5 w)
  have T := hide (fun w => i_isAsn7 n w)
  rw [show acOk 5 n = inB n 1 65535 from by simp [acOk, inB]]
  have MA := Mut.new w #[.int .i64 5, .int .i64 n] 38
  have dA0 : Below w.heap.size w (w.alloc (.cells #[.int .i64 5, .int .i64 n] 38)) := below_box (Below.refl _ _)
  have hw : w.heap.size < (w.alloc (.cells #[.int .i64 5, .int .i64 n] 38)).heap.size := by simp
  go_enter Try.func113, Try.ntmps113
  go_wp2_with fail
  refine (D.out _).mono ?_
  rintro e w1 ⟨rfl, b1⟩
  have MA1 := hide (MA.below b1)
  have dA := hide (dA0.trans (b1.mono dA0.size))
  have hw1 : w.heap.size < w1.heap.size := Nat.lt_of_lt_of_le hw b1.size
  clear MA dA0 b1 hw
  go_wp2_with (first | (refine wpList_storeM rfl rfl rfl rfl (Mut.new _ _ _) rfl (by intro v hv; simp only [List.mem_cons, List.not_mem_nil, or_false] at hv; rcases hv with rfl | rfl <;> rfl) sizeDeed ?_; intro w2 hM hO; have c0 := hM.2.1 0 _ rfl; have c1 := hM.2.1 1 _ rfl; have MA2 := (MA1.out.alloc _).only hO (by omega); have n0 := MA2.2.1 0 _ rfl; have n1 := MA2.2.1 1 _ rfl; have d2 : Below w.heap.size w w2 := (dA.out.alloc dA.out.size _).trans ((hO.below (by simp)).mono dA.out.size)))
  refine (T.out _).mono ?_
  rintro e w3 ⟨rfl, b3⟩
  go_wp2_with fail
  go_ret
  exact ⟨rfl, d2.trans (b3.mono d2.size)⟩
set_option maxRecDepth 100000 in
set_option maxHeartbeats 800000 in
theorem i_goodActNo (k n : Int) (h : ¬ (1 ≤ k ∧ k ≤ 5)) ( w : World) : Calls Try.prog 113 #[.agg #[.int .i64 k, .int .i64 n]] w fun e w' => e = .returned (.bool (acOk k n)) ∧ Below w.heap.size w w' := by
  have D := hide (fun w => i_deedNo k h w)
  rw [show acOk k n = false from acOk_no h]
  have MA := Mut.new w #[.int .i64 k, .int .i64 n] 38
  have dA0 : Below w.heap.size w (w.alloc (.cells #[.int .i64 k, .int .i64 n] 38)) := below_box (Below.refl _ _)
  have hw : w.heap.size < (w.alloc (.cells #[.int .i64 k, .int .i64 n] 38)).heap.size := by simp
  go_enter Try.func113, Try.ntmps113
  go_wp2_with fail
  refine (D.out _).mono ?_
  rintro e w1 ⟨rfl, b1⟩
  have MA1 := hide (MA.below b1)
  have dA := hide (dA0.trans (b1.mono dA0.size))
  have hw1 : w.heap.size < w1.heap.size := Nat.lt_of_lt_of_le hw b1.size
  clear MA dA0 b1 hw
  go_wp2_with (first | (refine wpList_storeM rfl rfl rfl rfl (Mut.new _ _ _) rfl (by intro v hv; simp only [List.mem_cons, List.not_mem_nil, or_false] at hv; rcases hv with rfl | rfl <;> rfl) sizeDeed ?_; intro w2 hM hO; have c0 := hM.2.1 0 _ rfl; have c1 := hM.2.1 1 _ rfl; have MA2 := (MA1.out.alloc _).only hO (by omega); have n0 := MA2.2.1 0 _ rfl; have n1 := MA2.2.1 1 _ rfl; have d2 : Below w.heap.size w w2 := (dA.out.alloc dA.out.size _).trans ((hO.below (by simp)).mono dA.out.size)))
  go_ret
  exact ⟨rfl, d2⟩
theorem i_goodAct (k n : Int) (w : World) : Calls Try.prog 113 #[.agg #[.int .i64 k, .int .i64 n]] w fun e w' => e = .returned (.bool (acOk k n)) ∧ Below w.heap.size w w' := by
  by_cases h : 1 ≤ k ∧ k ≤ 5
  · rcases (show k = 1 ∨ k = 2 ∨ k = 3 ∨ k = 4 ∨ k = 5 by omega) with rfl | rfl | rfl | rfl | rfl
    · exact i_goodAct1 n w
    · exact i_goodAct2 n w
    · exact i_goodAct3 n w
    · exact i_goodAct4 n w
    · exact i_goodAct5 n w
  · exact i_goodActNo k n h w
end Go.Proofs.Ytflakkbodbnndaa
