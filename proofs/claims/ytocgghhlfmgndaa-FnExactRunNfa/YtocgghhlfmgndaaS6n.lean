/- What the specification's GoodNfa answers. -/
import Derived.Test.YtocgghhlfmgndaaNfa6
import Derived.Test.YtocgghhlfmgndaaS1
namespace Go.Proofs.Ytocgghhlfmgndaa
open Go.RowKit

set_option maxRecDepth 100000 in
set_option maxHeartbeats 6400000 in
theorem s_goodNfa (s st en : Int) (a : Option Addr) (cap : Nat) (L : List Ed) (w : World) (hl : L.length ≤ 8589934592) (hR : RowG a L w) : Calls Try.prog 50 #[.agg #[.int .i64 s, .int .i64 st, .int .i64 en, .slice a L.length cap]] w fun e w' => e = .returned (.bool (gnB s st en L)) ∧ Below w.heap.size w w' := by
  have A1 := hide (fun w => s_in s 1 80 w)
  have GL := hide (fun n w => s_in n 1 65535 w)
  have M0 := Mut.new w #[.int .i64 s, .int .i64 st, .int .i64 en, .slice a L.length cap] 79
  by_cases h80 : 1 ≤ s ∧ s ≤ 80
  · rw [show inB s 1 80 = true from inB_t h80.1 h80.2] at A1
    obtain ⟨h80a, h80b⟩ := h80
    by_cases p1 : st < 0
    · rw [show gnB s st en L = false from gn_head (by simp only [ghB, stB, Bool.and_eq_false_iff, decide_eq_false_iff_not]; omega)]
      go_enter Try.func50, Try.ntmps50
      go_wp2_with fail
      refine (A1.out _).mono ?_
      rintro e w1 ⟨rfl, rfl⟩
      go_wp2_with fail
      go_ret
      exact ⟨rfl, below_box (Below.refl _ _)⟩
    · skip
      by_cases p2 : st ≥ s
      · rw [show gnB s st en L = false from gn_head (by simp only [ghB, stB, Bool.and_eq_false_iff, decide_eq_false_iff_not]; omega)]
        go_enter Try.func50, Try.ntmps50
        go_wp2_with fail
        refine (A1.out _).mono ?_
        rintro e w1 ⟨rfl, rfl⟩
        go_wp2_with fail
        go_ret
        exact ⟨rfl, below_box (Below.refl _ _)⟩
      · skip
        by_cases p3 : en < 0
        · rw [show gnB s st en L = false from gn_head (by simp only [ghB, stB, Bool.and_eq_false_iff, decide_eq_false_iff_not]; omega)]
          go_enter Try.func50, Try.ntmps50
          go_wp2_with fail
          refine (A1.out _).mono ?_
          rintro e w1 ⟨rfl, rfl⟩
          go_wp2_with fail
          go_ret
          exact ⟨rfl, below_box (Below.refl _ _)⟩
        · skip
          by_cases p4 : en ≥ s
          · rw [show gnB s st en L = false from gn_head (by simp only [ghB, stB, Bool.and_eq_false_iff, decide_eq_false_iff_not]; omega)]
            go_enter Try.func50, Try.ntmps50
            go_wp2_with fail
            refine (A1.out _).mono ?_
            rintro e w1 ⟨rfl, rfl⟩
            go_wp2_with fail
            go_ret
            exact ⟨rfl, below_box (Below.refl _ _)⟩
          · skip
            by_cases p5 : (L.length : Int) > 200
            · rw [show gnB s st en L = false from gn_head (by simp only [ghB, stB, Bool.and_eq_false_iff, decide_eq_false_iff_not]; omega)]
              go_enter Try.func50, Try.ntmps50
              go_wp2_with fail
              refine (A1.out _).mono ?_
              rintro e w1 ⟨rfl, rfl⟩
              go_wp2_with fail
              go_ret
              exact ⟨rfl, below_box (Below.refl _ _)⟩
            · skip
              have hgh : Hid (ghB s st en L.length = true) := by show ghB s st en L.length = true; simp only [ghB, stB, Bool.and_eq_true, decide_eq_true_eq]; omega
              go_enter Try.func50, Try.ntmps50
              go_wp2_with fail
              refine (A1.out _).mono ?_
              rintro e w1 ⟨rfl, rfl⟩
              go_wp2_with fail
              go_loopw [42] (fun y wr => ∃ k : Nat, y = .int .i64 k ∧ k ≤ L.length ∧ Hid ((L.take k).all (edB s) = true) ∧ Mut wr w.heap.size [.int .i64 s, .int .i64 st, .int .i64 en, .slice a L.length cap] ∧ Below w.heap.size w wr) (fun y _ => L.length - (intOf y).toNat)
              case atStart => exact ⟨0, rfl, Nat.zero_le _, by show _ = true; simp, M0, below_box (Below.refl _ _)⟩
              case round =>
                clear A1
                obtain ⟨k, rfl, hk, hall, Mn, hbw⟩ := hrel
                by_cases hlt : k < L.length
                · obtain ⟨b, off, rfl, hb, u0, u1, u2, u3, u4⟩ := hR k hlt
                  replace u0 := (hbw.cell (p := ⟨b, off + k * 5, none⟩) hb).trans u0
                  replace u1 := (hbw.cell (p := ⟨b, off + k * 5 + 1, none⟩) hb).trans u1
                  replace u2 := (hbw.cell (p := ⟨b, off + k * 5 + 2, none⟩) hb).trans u2
                  replace u3 := (hbw.cell (p := ⟨b, off + k * 5 + 3, none⟩) hb).trans u3
                  replace u4 := (hbw.cell (p := ⟨b, off + k * 5 + 4, none⟩) hb).trans u4
                  have hlt' : (k : Int) < (L.length : Int) := by omega
                  have hstep := hide (fun h => all_takeG (edB s) (L := L) (k := k) hlt ▸ h : ((L.take k).all (edB s) && edB s (gAt L k)) = true → (L.take (k + 1)).all (edB s) = true)
                  have hno := hide (fun h => gn_no (s := s) (st := st) (en := en) hlt h)
                  generalize gAt L k = ed at *
                  obtain ⟨x, y, f, bb, n⟩ := ed
                  simp only at u0 u1 u2 u3 u4
                  have Mn' := Mn.alloc (.cells #[.int .i64 x, .int .i64 y, .bool f, .bool bb, .int .i64 n] 149)
                  have n0 := Mn'.2.1 0 _ rfl
                  have dE := hide (hbw.alloc hbw.size (.cells #[.int .i64 x, .int .i64 y, .bool f, .bool bb, .int .i64 n] 149))
                  have X3 := hide (GL.out n)
                  replace Mn' := hide Mn'
                  clear Mn p1 p2 p3 p4 p5 M0
                  by_cases r1 : x < 0
                  · have hf := hide (hno.out (by simp only [edB, stB, Bool.and_eq_false_iff, decide_eq_false_iff_not]; omega))
                    go_wp2_with fail
                    go_ret
                    exact ⟨by rw [hf.out]; rfl, dE.out⟩
                  · skip
                    by_cases r2 : x ≥ s
                    · have hf := hide (hno.out (by simp only [edB, stB, Bool.and_eq_false_iff, decide_eq_false_iff_not]; omega))
                      go_wp2_with fail
                      go_ret
                      exact ⟨by rw [hf.out]; rfl, dE.out⟩
                    · skip
                      by_cases r3 : y < 0
                      · have hf := hide (hno.out (by simp only [edB, stB, Bool.and_eq_false_iff, decide_eq_false_iff_not]; omega))
                        go_wp2_with fail
                        go_ret
                        exact ⟨by rw [hf.out]; rfl, dE.out⟩
                      · skip
                        by_cases r4 : y ≥ s
                        · have hf := hide (hno.out (by simp only [edB, stB, Bool.and_eq_false_iff, decide_eq_false_iff_not]; omega))
                          go_wp2_with fail
                          go_ret
                          exact ⟨by rw [hf.out]; rfl, dE.out⟩
                        · skip
                          have q1 : stB s x = true := by simp only [stB, decide_eq_true_eq]; omega
                          have q2 : stB s y = true := by simp only [stB, decide_eq_true_eq]; omega
                          cases f <;> cases bb
                          · cases h6 : inB n 1 65535 with
                            | true =>
                              rw [h6] at X3
                              have g3 : glB false false n = true := h6
                              have hyes := hide (hstep.out (by rw [show (L.take k).all (edB s) = true from hall]; simp [edB, q1, q2, g3]))
                              clear q1 q2 g3
                              go_wp2_with fail
                              refine (X3.out _).mono ?_
                              rintro e w5 ⟨rfl, rfl⟩
                              go_wp2_with fail
                              exact ⟨⟨k + 1, by go_num, by omega, hyes.out, Mn'.out, dE.out⟩, by simp [intOf]; omega⟩
                            | false =>
                              rw [h6] at X3
                              have g3 : glB false false n = false := h6
                              have hf := hide (hno.out (by simp [edB, g3]))
                              clear q1 q2 g3
                              go_wp2_with fail
                              refine (X3.out _).mono ?_
                              rintro e w5 ⟨rfl, rfl⟩
                              go_wp2_with fail
                              go_ret
                              exact ⟨by rw [hf.out]; rfl, dE.out⟩
                          · cases h6 : (n != 0) with
                            | false =>
                              have h7 : n = 0 := by simpa using h6
                              have g3 : glB false true n = true := by rw [h7]; rfl
                              clear h7
                              have hyes := hide (hstep.out (by rw [show (L.take k).all (edB s) = true from hall]; simp [edB, q1, q2, g3]))
                              clear q1 q2 g3
                              go_wp2_with fail
                              exact ⟨⟨k + 1, by go_num, by omega, hyes.out, Mn'.out, dE.out⟩, by simp [intOf]; omega⟩
                            | true =>
                              have h7 : ¬ n = 0 := by simpa using h6
                              have g3 : glB false true n = false := by simp [glB, h7]
                              clear h7
                              have hf := hide (hno.out (by simp [edB, g3]))
                              clear q1 q2 g3
                              go_wp2_with fail
                              go_ret
                              exact ⟨by rw [hf.out]; rfl, dE.out⟩
                          · cases h6 : (n != 0) with
                            | false =>
                              have h7 : n = 0 := by simpa using h6
                              have g3 : glB true false n = true := by rw [h7]; rfl
                              clear h7
                              have hyes := hide (hstep.out (by rw [show (L.take k).all (edB s) = true from hall]; simp [edB, q1, q2, g3]))
                              clear q1 q2 g3
                              go_wp2_with fail
                              exact ⟨⟨k + 1, by go_num, by omega, hyes.out, Mn'.out, dE.out⟩, by simp [intOf]; omega⟩
                            | true =>
                              have h7 : ¬ n = 0 := by simpa using h6
                              have g3 : glB true false n = false := by simp [glB, h7]
                              clear h7
                              have hf := hide (hno.out (by simp [edB, g3]))
                              clear q1 q2 g3
                              go_wp2_with fail
                              go_ret
                              exact ⟨by rw [hf.out]; rfl, dE.out⟩
                          · have g3 : glB true true n = false := by simp [glB]
                            have hf := hide (hno.out (by simp [edB, g3]))
                            clear q1 q2 g3
                            go_wp2_with fail
                            go_ret
                            exact ⟨by rw [hf.out]; rfl, dE.out⟩
                · obtain rfl : k = L.length := by omega
                  have hf := hide (gn_yes hgh.out hall)
                  go_wp2_with fail
                  go_ret
                  exact ⟨by rw [hf.out]; rfl, hbw⟩
  · rw [show inB s 1 80 = false from inB_n h80] at A1
    rw [show gnB s st en L = false from gn_head (by simp only [ghB, stB, Bool.and_eq_false_iff, decide_eq_false_iff_not]; omega)]
    go_enter Try.func50, Try.ntmps50
    go_wp2_with fail
    refine (A1.out _).mono ?_
    rintro e w1 ⟨rfl, rfl⟩
    go_wp2_with fail
    go_ret
    exact ⟨rfl, below_box (Below.refl _ _)⟩
end Go.Proofs.Ytocgghhlfmgndaa
