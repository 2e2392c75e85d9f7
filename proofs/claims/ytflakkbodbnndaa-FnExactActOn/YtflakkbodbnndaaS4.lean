/- What the specification's GoodAttrs answers. -/
import Derived.Test.YtflakkbodbnndaaAll4
import Derived.Test.YtflakkbodbnndaaFlatAttrs
namespace Go.Proofs.Ytflakkbodbnndaa
open Go.RowKit

set_option maxRecDepth 100000 in
set_option maxHeartbeats 3200000 in
theorem s_goodAttrs (o nx md pf : Int) (a0 : Option Addr) (n0 c0 : Nat) (f : Nat → Int) (a1 : Option Addr) (n1 c1 : Nat) (g : Nat → Int) (w : World) (h0 : n0 ≤ 1048576) (h1 : n1 ≤ 1048576) (R0 : RowInt a0 n0 f w) (R1 : RowInt a1 n1 g w) :
    Calls Try.prog 48 #[.agg #[.int .i64 o, .slice a0 n0 c0, .int .i64 nx, .int .i64 md, .int .i64 pf, .slice a1 n1 c1]] w fun e w' => e = .returned (.bool (attrB o nx md pf n0 f n1 g)) ∧ Below w.heap.size w w' := by
  have M := Mut.new w #[.int .i64 o, .slice a0 n0 c0, .int .i64 nx, .int .i64 md, .int .i64 pf, .slice a1 n1 c1] 33
  have d : Below w.heap.size w (w.alloc (.cells #[.int .i64 o, .slice a0 n0 c0, .int .i64 nx, .int .i64 md, .int .i64 pf, .slice a1 n1 c1] 33)) := below_box (Below.refl _ _)
  have R0 := R0.below d
  have R1 := R1.below d
  go_enter Try.func48, Try.ntmps48
  go_wp2_with fail
  generalize w.alloc (.cells #[.int .i64 o, .slice a0 n0 c0, .int .i64 nx, .int .i64 md, .int .i64 pf, .slice a1 n1 c1] 33) = w1 at *
  have u0 := M.2.1 0 _ rfl
  have u1 := M.2.1 1 _ rfl
  have u2 := M.2.1 2 _ rfl
  have u3 := M.2.1 3 _ rfl
  have u4 := M.2.1 4 _ rfl
  have u5 := M.2.1 5 _ rfl
  clear M
  go_loop [4, 10] (fun _ i => ∃ k : Nat, k ≤ n0 ∧ i = .int .i64 k ∧ (List.range k).all (pathOk f) = true) (fun _ i => n0 - (intOf i).toNat)
  case atStart => exact ⟨0, Nat.zero_le _, rfl, rfl⟩
  case round =>
    obtain ⟨k, hk, rfl, hall⟩ := hrel
    by_cases hlt : k < n0
    · obtain ⟨b, off, rfl, hbw, e0⟩ := R0 k hlt
      have hlt' : (k : Int) < (n0 : Int) := by omega
      have s1 := hide (fun w => s_in (f k) 1 65535 w)
      by_cases hp : pathOk f k = true
      · have hn := hide (rall_next hall hp)
        rw [show inB (f k) 1 65535 = true from hp] at s1
        clear hall hp R0 R1
        go_wp2_with fail
        refine (s1.out _).mono ?_
        rintro e w2 ⟨rfl, rfl⟩
        go_wp2_with fail
        exact ⟨⟨k + 1, by omega, by go_num, hn.out⟩, by simp [intOf]; omega⟩
      · have hp : pathOk f k = false := by simpa using hp
        have hn := hide (attrB_path (o := o) (nx := nx) (md := md) (pf := pf) (n1 := n1) (g := g) (rall_no hlt hp))
        rw [show inB (f k) 1 65535 = false from hp] at s1
        clear hall hp R0 R1
        go_wp2_with fail
        refine (s1.out _).mono ?_
        rintro e w2 ⟨rfl, rfl⟩
        go_wp2_with fail
        go_ret
        exact ⟨ret_bool hn.out.symm, d⟩
    · have hk' : k = n0 := by omega
      subst hk'
      have hP := hide (show pathB k f = true from hall)
      clear hall hlt hk R0
      go_wp2_with fail
      go_loop [5, 6, 21] (fun _ _ i => ∃ q : Nat, q ≤ n1 ∧ i = .int .i64 q ∧ (List.range q).all (commOk g) = true) (fun _ _ i => n1 - (intOf i).toNat)
      case atStart => exact ⟨0, Nat.zero_le _, rfl, rfl⟩
      case round =>
        obtain ⟨q, hq, rfl, hall⟩ := hrel
        by_cases hlt : q < n1
        · obtain ⟨b, off, rfl, hbw, e0⟩ := R1 q hlt
          have hlt' : (q : Int) < (n1 : Int) := by omega
          have s1 := hide (fun w => s_in (g q) 0 1000000 w)
          have hcd : commOk g q = (inB (g q) 0 1000000 && (q == 0 || decide (g (q - 1) < g q))) := rfl
          by_cases hi : inB (g q) 0 1000000 = true
          · rw [hi] at s1
            rw [hi, Bool.true_and] at hcd
            by_cases hz : q = 0
            · subst hz
              have hn := hide (rall_next hall (hcd.trans rfl))
              simp only [Nat.add_zero] at e0
              clear hall hcd hi R1
              go_wp2_with fail
              refine (s1.out _).mono ?_
              rintro e w2 ⟨rfl, rfl⟩
              go_wp2_with fail
              exact ⟨⟨1, by omega, by go_num, hn.out⟩, by simp [intOf]; omega⟩
            · obtain ⟨m, rfl⟩ : ∃ m, q = m + 1 := ⟨q - 1, by omega⟩
              obtain ⟨b', off', hbo, _, e1⟩ := R1 m (by omega)
              simp only [Option.some.injEq, Addr.mk.injEq, and_true] at hbo
              obtain ⟨rfl, rfl⟩ := hbo
              have hm1 : ((m + 1 : Nat) : Int) - 1 = (m : Int) := by omega
              have hm2 : (m : Int) < (n1 : Int) := by omega
              have hm3 : ((m + 1 : Nat) : Int) > 0 := by omega
              have hcd : commOk g (m + 1) = decide (g m < g (m + 1)) := by rw [hcd]; simp
              by_cases hr : g m < g (m + 1)
              · have hn := hide (rall_next hall (hcd.trans (by simp [hr])))
                have hr' : ¬ (g m ≥ g (m + 1)) := by omega
                clear hall hcd hi R1 hz
                generalize g m = y0 at *
                generalize g (m + 1) = y1 at *
                go_wp2_with fail
                refine (s1.out _).mono ?_
                rintro e w2 ⟨rfl, rfl⟩
                go_wp2_with fail
                exact ⟨⟨m + 2, by omega, by go_num, hn.out⟩, by simp [intOf]; omega⟩
              · have hn := hide (attrB_comm (o := o) (nx := nx) (md := md) (pf := pf) (n0 := k) (f := f) (rall_no hlt (hcd.trans (by simp [hr]))))
                have hr' : (g m ≥ g (m + 1)) := by omega
                clear hall hcd hi R1 hz
                generalize g m = y0 at *
                generalize g (m + 1) = y1 at *
                go_wp2_with fail
                refine (s1.out _).mono ?_
                rintro e w2 ⟨rfl, rfl⟩
                go_wp2_with fail
                go_ret
                exact ⟨ret_bool hn.out.symm, d⟩
          · have hi : inB (g q) 0 1000000 = false := by simpa using hi
            have hn := hide (attrB_comm (o := o) (nx := nx) (md := md) (pf := pf) (n0 := k) (f := f) (rall_no hlt (show commOk g q = false by rw [hcd, hi]; rfl)))
            rw [hi] at s1
            clear hall hcd hi R1
            go_wp2_with fail
            refine (s1.out _).mono ?_
            rintro e w2 ⟨rfl, rfl⟩
            go_wp2_with fail
            go_ret
            exact ⟨ret_bool hn.out.symm, d⟩
        · have hq' : q = n1 := by omega
          subst hq'
          have hC := hide (show commB q g = true from hall)
          clear hall hlt hq R1
          have t1 := hide (fun w => s_in o 0 2 w)
          have t3 := hide (fun w => s_addr nx w)
          have t4 := hide (fun w => s_in md 0 1000000 w)
          have t5 := hide (fun w => s_in pf 0 1000000 w)
          have hdef : Hid (attrB o nx md pf k f q g = (inB o 0 2 && inB nx 0 4294967295 && inB md 0 1000000 && inB pf 0 1000000 && decide (k ≤ 10) && decide (q ≤ 6))) := by
            show attrB o nx md pf k f q g = _
            unfold attrB
            rw [hP.out, hC.out]
            simp
          clear hP hC
          by_cases x0 : inB o 0 2 = true
          · by_cases x1 : k ≤ 10
            · by_cases x2 : inB nx 0 4294967295 = true
              · by_cases x3 : inB md 0 1000000 = true
                · by_cases x4 : inB pf 0 1000000 = true
                  · by_cases x5 : q ≤ 6
                    · have hv := hide (hdef.out.trans (show _ = true by simp [x0, x1, x2, x3, x4, x5]))
                      clear hdef
                      rw [x0] at t1
                      clear x0
                      rw [x2] at t3
                      clear x2
                      rw [x3] at t4
                      clear x3
                      rw [x4] at t5
                      clear x4
                      have y1 : ((k : Int) ≤ 10) := by omega
                      have y5 : ((q : Int) ≤ 6) := by omega
                      go_wp2_with fail
                      refine (t1.out _).mono ?_
                      rintro e w2 ⟨rfl, rfl⟩
                      go_wp2_with fail
                      refine (t3.out _).mono ?_
                      rintro e w2 ⟨rfl, rfl⟩
                      go_wp2_with fail
                      refine (t4.out _).mono ?_
                      rintro e w2 ⟨rfl, rfl⟩
                      go_wp2_with fail
                      refine (t5.out _).mono ?_
                      rintro e w2 ⟨rfl, rfl⟩
                      go_wp2_with fail
                      go_ret
                      exact ⟨ret_bool (by first | exact hv.out.symm | (rw [hv.out]; exact decide_eq_false (by omega))), d⟩
                    · have hv := hide (hdef.out.trans (show _ = false by simp [x0, x1, x2, x3, x4, x5]))
                      clear hdef
                      rw [x0] at t1
                      clear x0
                      rw [x2] at t3
                      clear x2
                      rw [x3] at t4
                      clear x3
                      rw [x4] at t5
                      clear x4
                      have y1 : ((k : Int) ≤ 10) := by omega
                      have y5 : ¬ ((q : Int) ≤ 6) := by omega
                      go_wp2_with fail
                      refine (t1.out _).mono ?_
                      rintro e w2 ⟨rfl, rfl⟩
                      go_wp2_with fail
                      refine (t3.out _).mono ?_
                      rintro e w2 ⟨rfl, rfl⟩
                      go_wp2_with fail
                      refine (t4.out _).mono ?_
                      rintro e w2 ⟨rfl, rfl⟩
                      go_wp2_with fail
                      refine (t5.out _).mono ?_
                      rintro e w2 ⟨rfl, rfl⟩
                      go_wp2_with fail
                      go_ret
                      exact ⟨ret_bool (by first | exact hv.out.symm | (rw [hv.out]; exact decide_eq_false (by omega))), d⟩
                  · have x4 : inB pf 0 1000000 = false := by simpa using x4
                    have hv := hide (hdef.out.trans (show _ = false by simp [x0, x1, x2, x3, x4]))
                    clear hdef
                    rw [x0] at t1
                    clear x0
                    rw [x2] at t3
                    clear x2
                    rw [x3] at t4
                    clear x3
                    rw [x4] at t5
                    clear x4
                    have y1 : ((k : Int) ≤ 10) := by omega
                    go_wp2_with fail
                    refine (t1.out _).mono ?_
                    rintro e w2 ⟨rfl, rfl⟩
                    go_wp2_with fail
                    refine (t3.out _).mono ?_
                    rintro e w2 ⟨rfl, rfl⟩
                    go_wp2_with fail
                    refine (t4.out _).mono ?_
                    rintro e w2 ⟨rfl, rfl⟩
                    go_wp2_with fail
                    refine (t5.out _).mono ?_
                    rintro e w2 ⟨rfl, rfl⟩
                    go_wp2_with fail
                    go_ret
                    exact ⟨ret_bool (by first | exact hv.out.symm | (rw [hv.out]; exact decide_eq_false (by omega))), d⟩
                · have x3 : inB md 0 1000000 = false := by simpa using x3
                  have hv := hide (hdef.out.trans (show _ = false by simp [x0, x1, x2, x3]))
                  clear hdef
                  rw [x0] at t1
                  clear x0
                  rw [x2] at t3
                  clear x2
                  rw [x3] at t4
                  clear x3
                  have y1 : ((k : Int) ≤ 10) := by omega
                  go_wp2_with fail
                  refine (t1.out _).mono ?_
                  rintro e w2 ⟨rfl, rfl⟩
                  go_wp2_with fail
                  refine (t3.out _).mono ?_
                  rintro e w2 ⟨rfl, rfl⟩
                  go_wp2_with fail
                  refine (t4.out _).mono ?_
                  rintro e w2 ⟨rfl, rfl⟩
                  go_wp2_with fail
                  go_ret
                  exact ⟨ret_bool (by first | exact hv.out.symm | (rw [hv.out]; exact decide_eq_false (by omega))), d⟩
              · have x2 : inB nx 0 4294967295 = false := by simpa using x2
                have hv := hide (hdef.out.trans (show _ = false by simp [x0, x1, x2]))
                clear hdef
                rw [x0] at t1
                clear x0
                rw [x2] at t3
                clear x2
                have y1 : ((k : Int) ≤ 10) := by omega
                go_wp2_with fail
                refine (t1.out _).mono ?_
                rintro e w2 ⟨rfl, rfl⟩
                go_wp2_with fail
                refine (t3.out _).mono ?_
                rintro e w2 ⟨rfl, rfl⟩
                go_wp2_with fail
                go_ret
                exact ⟨ret_bool (by first | exact hv.out.symm | (rw [hv.out]; exact decide_eq_false (by omega))), d⟩
            · have hv := hide (hdef.out.trans (show _ = false by simp [x0, x1]))
              clear hdef
              rw [x0] at t1
              clear x0
              have y1 : ¬ ((k : Int) ≤ 10) := by omega
              go_wp2_with fail
              refine (t1.out _).mono ?_
              rintro e w2 ⟨rfl, rfl⟩
              go_wp2_with fail
              go_ret
              exact ⟨ret_bool (by first | exact hv.out.symm | (rw [hv.out]; exact decide_eq_false (by omega))), d⟩
          · have x0 : inB o 0 2 = false := by simpa using x0
            have hv := hide (hdef.out.trans (show _ = false by simp [x0]))
            clear hdef
            rw [x0] at t1
            clear x0
            go_wp2_with fail
            refine (t1.out _).mono ?_
            rintro e w2 ⟨rfl, rfl⟩
            go_wp2_with fail
            go_ret
            exact ⟨ret_bool (by first | exact hv.out.symm | (rw [hv.out]; exact decide_eq_false (by omega))), d⟩
end Go.Proofs.Ytflakkbodbnndaa
