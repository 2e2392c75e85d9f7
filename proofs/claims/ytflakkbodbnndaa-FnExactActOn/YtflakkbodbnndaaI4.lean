/- What the program's isAsn, goodPath, goodComms and GoodAttrs answer. -/
import Derived.Test.YtflakkbodbnndaaAll5
import Derived.Test.YtflakkbodbnndaaFlatAttrs
import Derived.Test.YtflakkbodbnndaaAll4
namespace Go.Proofs.Ytflakkbodbnndaa
open Go.RowKit

set_option maxHeartbeats 400000 in
theorem i_isAsn (n : Int) (w : World) :
    Calls Try.prog 57 #[.int .i64 n] w fun e w' => e = .returned (.bool (inB n 1 65535)) ∧ w' = w := by
  by_cases h1 : 1 ≤ n
  · by_cases h2 : n ≤ 65535
    · rw [inB_t h1 h2]
      go_enter Try.func57, Try.ntmps57
      go_wp2
      go_ret
      exact ⟨rfl, rfl⟩
    · rw [inB_f2 h2]
      go_enter Try.func57, Try.ntmps57
      go_wp2
      go_ret
      exact ⟨rfl, rfl⟩
  · rw [inB_f1 h1]
    go_enter Try.func57, Try.ntmps57
    go_wp2
    go_ret
    exact ⟨rfl, rfl⟩
set_option maxRecDepth 100000 in
set_option maxHeartbeats 800000 in
theorem i_goodPath (a0 : Option Addr) (n0 c0 : Nat) (f : Nat → Int) (w : World) (h0 : n0 ≤ 1048576) (R0 : RowInt a0 n0 f w) :
    Calls Try.prog 88 #[.slice a0 n0 c0] w fun e w' => e = .returned (.bool (decide (n0 ≤ 10) && pathB n0 f)) ∧ w' = w := by
  by_cases hten : n0 ≤ 10
  · have hten' : ¬ ((n0 : Int) > 10) := by omega
    have hd : Hid (decide (n0 ≤ 10) = true) := decide_eq_true hten
    clear hten h0
    go_enter Try.func88, Try.ntmps88
    go_wp2_with fail
    go_loop [4, 10] (fun _ i => ∃ k : Nat, k ≤ n0 ∧ i = .int .i64 k ∧ (List.range k).all (pathOk f) = true) (fun _ i => n0 - (intOf i).toNat)
    case atStart => exact ⟨0, Nat.zero_le _, rfl, rfl⟩
    case round =>
      obtain ⟨k, hk, rfl, hall⟩ := hrel
      by_cases hlt : k < n0
      · obtain ⟨b, off, rfl, hbw, e0⟩ := R0 k hlt
        have hlt' : (k : Int) < (n0 : Int) := by omega
        have s1 := hide (fun w => i_isAsn (f k) w)
        by_cases hp : pathOk f k = true
        · have hn := hide (rall_next hall hp)
          rw [show inB (f k) 1 65535 = true from hp] at s1
          clear hall hp R0
          go_wp2_with fail
          refine (s1.out _).mono ?_
          rintro e w2 ⟨rfl, rfl⟩
          go_wp2_with fail
          exact ⟨⟨k + 1, by omega, by go_num, hn.out⟩, by simp [intOf]; omega⟩
        · have hp : pathOk f k = false := by simpa using hp
          have hn := hide (show pathB n0 f = false from rall_no hlt hp)
          rw [show inB (f k) 1 65535 = false from hp] at s1
          clear hall hp R0
          go_wp2_with fail
          refine (s1.out _).mono ?_
          rintro e w2 ⟨rfl, rfl⟩
          go_wp2_with fail
          go_ret
          exact ⟨ret_bool (by rw [hn.out]; simp), rfl⟩
      · have hk' : k = n0 := by omega
        subst hk'
        have hP := hide (show pathB k f = true from hall)
        clear hall hlt hk R0
        go_wp2_with fail
        go_ret
        exact ⟨ret_bool (by rw [hP.out, hd.out]; rfl), rfl⟩
  · have hten' : ((n0 : Int) > 10) := by omega
    have hd : Hid (decide (n0 ≤ 10) = false) := decide_eq_false hten
    clear hten h0
    go_enter Try.func88, Try.ntmps88
    go_wp2_with fail
    go_ret
    exact ⟨ret_bool (by rw [hd.out]; rfl), rfl⟩
set_option maxRecDepth 100000 in
set_option maxHeartbeats 1600000 in
theorem i_goodComms (a1 : Option Addr) (n1 c1 : Nat) (g : Nat → Int) (w : World) (h1 : n1 ≤ 1048576) (R1 : RowInt a1 n1 g w) :
    Calls Try.prog 89 #[.slice a1 n1 c1] w fun e w' => e = .returned (.bool (decide (n1 ≤ 6) && commB n1 g)) ∧ w' = w := by
  by_cases hten : n1 ≤ 6
  · have hten' : ¬ ((n1 : Int) > 6) := by omega
    have hd : Hid (decide (n1 ≤ 6) = true) := decide_eq_true hten
    clear hten h1
    go_enter Try.func89, Try.ntmps89
    go_wp2_with fail
    go_loop [3, 4, 10] (fun _ _ i => ∃ q : Nat, q ≤ n1 ∧ i = .int .i64 q ∧ (List.range q).all (commOk g) = true) (fun _ _ i => n1 - (intOf i).toNat)
    case atStart => exact ⟨0, Nat.zero_le _, rfl, rfl⟩
    case round =>
      obtain ⟨q, hq, rfl, hall⟩ := hrel
      by_cases hlt : q < n1
      · obtain ⟨b, off, rfl, hbw, e0⟩ := R1 q hlt
        have hlt' : (q : Int) < (n1 : Int) := by omega
        have s1 := hide (fun w => i_value (g q) w)
        have hcd : commOk g q = (inB (g q) 0 1000000 && (q == 0 || decide (g (q - 1) < g q))) := rfl
        by_cases hi : inB (g q) 0 1000000 = true
        · rw [hi] at s1
          rw [hi, Bool.true_and] at hcd
          by_cases hz : q = 0
          · subst hz
            have hn := hide (rall_next hall (hcd.trans rfl))
            simp only [Nat.add_zero] at e0
            clear hall hcd hi R1
            go_wp2_with fail
            refine (s1.out _).mono ?_
            rintro e w2 ⟨rfl, rfl⟩
            go_wp2_with fail
            exact ⟨⟨1, by omega, by go_num, hn.out⟩, by simp [intOf]; omega⟩
          · obtain ⟨m, rfl⟩ : ∃ m, q = m + 1 := ⟨q - 1, by omega⟩
            obtain ⟨b', off', hbo, _, e1⟩ := R1 m (by omega)
            simp only [Option.some.injEq, Addr.mk.injEq, and_true] at hbo
            obtain ⟨rfl, rfl⟩ := hbo
            have hm1 : ((m + 1 : Nat) : Int) - 1 = (m : Int) := by omega
            have hm2 : (m : Int) < (n1 : Int) := by omega
            have hm3 : ((m + 1 : Nat) : Int) > 0 := by omega
            have hcd : commOk g (m + 1) = decide (g m < g (m + 1)) := by rw [hcd]; simp
            by_cases hr : g m < g (m + 1)
            · have hn := hide (rall_next hall (hcd.trans (by simp [hr])))
              have hr' : ¬ (g m ≥ g (m + 1)) := by omega
              clear hall hcd hi R1 hz
              generalize g m = y0 at *
              generalize g (m + 1) = y1 at *
              go_wp2_with fail
              refine (s1.out _).mono ?_
              rintro e w2 ⟨rfl, rfl⟩
              go_wp2_with fail
              exact ⟨⟨m + 2, by omega, by go_num, hn.out⟩, by simp [intOf]; omega⟩
            · have hn := hide (show commB n1 g = false from rall_no hlt (hcd.trans (by simp [hr])))
              have hr' : (g m ≥ g (m + 1)) := by omega
              clear hall hcd hi R1 hz
              generalize g m = y0 at *
              generalize g (m + 1) = y1 at *
              go_wp2_with fail
              refine (s1.out _).mono ?_
              rintro e w2 ⟨rfl, rfl⟩
              go_wp2_with fail
              go_ret
              exact ⟨ret_bool (by rw [hn.out]; simp), rfl⟩
        · have hi : inB (g q) 0 1000000 = false := by simpa using hi
          have hn := hide (show commB n1 g = false from rall_no hlt (show commOk g q = false by rw [hcd, hi]; rfl))
          rw [hi] at s1
          clear hall hcd hi R1
          go_wp2_with fail
          refine (s1.out _).mono ?_
          rintro e w2 ⟨rfl, rfl⟩
          go_wp2_with fail
          go_ret
          exact ⟨ret_bool (by rw [hn.out]; simp), rfl⟩
      · have hq' : q = n1 := by omega
        subst hq'
        have hC := hide (show commB q g = true from hall)
        clear hall hlt hq R1
        go_wp2_with fail
        go_ret
        exact ⟨ret_bool (by rw [hC.out, hd.out]; rfl), rfl⟩
  · have hten' : ((n1 : Int) > 6) := by omega
    have hd : Hid (decide (n1 ≤ 6) = false) := decide_eq_false hten
    clear hten h1
    go_enter Try.func89, Try.ntmps89
    go_wp2_with fail
    go_ret
    exact ⟨ret_bool (by rw [hd.out]; rfl), rfl⟩
set_option maxRecDepth 100000 in
set_option maxHeartbeats 3200000 in
theorem i_goodAttrs (o nx md pf : Int) (a0 : Option Addr) (n0 c0 : Nat) (f : Nat → Int) (a1 : Option Addr) (n1 c1 : Nat) (g : Nat → Int) (w : World) (h0 : n0 ≤ 1048576) (h1 : n1 ≤ 1048576) (R0 : RowInt a0 n0 f w) (R1 : RowInt a1 n1 g w) :
    Calls Try.prog 60 #[.agg #[.int .i64 o, .slice a0 n0 c0, .int .i64 nx, .int .i64 md, .int .i64 pf, .slice a1 n1 c1]] w fun e w' => e = .returned (.bool (attrB o nx md pf n0 f n1 g)) ∧ Below w.heap.size w w' := by
  have d : Below w.heap.size w (w.alloc (.cells #[.int .i64 o, .slice a0 n0 c0, .int .i64 nx, .int .i64 md, .int .i64 pf, .slice a1 n1 c1] 33)) := below_box (Below.refl _ _)
  have R0 := R0.below d
  have R1 := R1.below d
  have t1 := hide (fun w => i_isAddr nx w)
  have t2 := hide (fun w => i_value md w)
  have t3 := hide (fun w => i_value pf w)
  have t4 := hide (fun w R => i_goodPath a0 n0 c0 f w h0 R)
  have t5 := hide (fun w R => i_goodComms a1 n1 c1 g w h1 R)
  have hdef : Hid (attrB o nx md pf n0 f n1 g = (inB o 0 2 && inB nx 0 4294967295 && inB md 0 1000000 && inB pf 0 1000000 && (decide (n0 ≤ 10) && pathB n0 f) && (decide (n1 ≤ 6) && commB n1 g))) := by
    show attrB o nx md pf n0 f n1 g = _
    unfold attrB
    simp only [Bool.and_assoc]
  clear h0 h1
  generalize attrB o nx md pf n0 f n1 g = r at *
  generalize (decide (n0 ≤ 10) && pathB n0 f) = r4 at *
  generalize (decide (n1 ≤ 6) && commB n1 g) = r5 at *
  by_cases ho1 : o < 0
  · have hv := hide (hdef.out.trans (show _ = false by rw [inB_f1 (by omega)]; rfl))
    clear hdef
    go_enter Try.func60, Try.ntmps60
    go_wp2_with fail
    go_ret
    exact ⟨ret_bool hv.out.symm, d⟩
  · by_cases ho2 : o > 2
    · have hv := hide (hdef.out.trans (show _ = false by rw [inB_f2 (by omega)]; rfl))
      clear hdef
      go_enter Try.func60, Try.ntmps60
      go_wp2_with fail
      go_ret
      exact ⟨ret_bool hv.out.symm, d⟩
    · have xo : inB o 0 2 = true := inB_t (by omega) (by omega)
      by_cases x0 : inB nx 0 4294967295 = true
      · by_cases x1 : inB md 0 1000000 = true
        · by_cases x2 : inB pf 0 1000000 = true
          · by_cases x3 : r4 = true
            · by_cases x4 : r5 = true
              · have hv := hide (hdef.out.trans (show _ = true by simp [xo, x0, x1, x2, x3, x4]))
                clear hdef xo
                rw [x0] at t1
                clear x0
                rw [x1] at t2
                clear x1
                rw [x2] at t3
                clear x2
                rw [x3] at t4
                clear x3
                rw [x4] at t5
                clear x4
                go_enter Try.func60, Try.ntmps60
                go_wp2_with fail
                refine (t1.out _).mono ?_
                rintro e w2 ⟨rfl, rfl⟩
                go_wp2_with fail
                refine (t2.out _).mono ?_
                rintro e w2 ⟨rfl, rfl⟩
                go_wp2_with fail
                refine (t3.out _).mono ?_
                rintro e w2 ⟨rfl, rfl⟩
                go_wp2_with fail
                refine (t4.out _ R0).mono ?_
                rintro e w2 ⟨rfl, rfl⟩
                go_wp2_with fail
                refine (t5.out _ R1).mono ?_
                rintro e w2 ⟨rfl, rfl⟩
                go_wp2_with fail
                go_ret
                exact ⟨ret_bool hv.out.symm, d⟩
              · have x4 : r5 = false := by simpa using x4
                have hv := hide (hdef.out.trans (show _ = false by simp [xo, x0, x1, x2, x3, x4]))
                clear hdef xo
                rw [x0] at t1
                clear x0
                rw [x1] at t2
                clear x1
                rw [x2] at t3
                clear x2
                rw [x3] at t4
                clear x3
                rw [x4] at t5
                clear x4
                go_enter Try.func60, Try.ntmps60
                go_wp2_with fail
                refine (t1.out _).mono ?_
                rintro e w2 ⟨rfl, rfl⟩
                go_wp2_with fail
                refine (t2.out _).mono ?_
                rintro e w2 ⟨rfl, rfl⟩
                go_wp2_with fail
                refine (t3.out _).mono ?_
                rintro e w2 ⟨rfl, rfl⟩
                go_wp2_with fail
                refine (t4.out _ R0).mono ?_
                rintro e w2 ⟨rfl, rfl⟩
                go_wp2_with fail
                refine (t5.out _ R1).mono ?_
                rintro e w2 ⟨rfl, rfl⟩
                go_wp2_with fail
                go_ret
                exact ⟨ret_bool hv.out.symm, d⟩
            · have x3 : r4 = false := by simpa using x3
              have hv := hide (hdef.out.trans (show _ = false by simp [xo, x0, x1, x2, x3]))
              clear hdef xo
              rw [x0] at t1
              clear x0
              rw [x1] at t2
              clear x1
              rw [x2] at t3
              clear x2
              rw [x3] at t4
              clear x3
              go_enter Try.func60, Try.ntmps60
              go_wp2_with fail
              refine (t1.out _).mono ?_
              rintro e w2 ⟨rfl, rfl⟩
              go_wp2_with fail
              refine (t2.out _).mono ?_
              rintro e w2 ⟨rfl, rfl⟩
              go_wp2_with fail
              refine (t3.out _).mono ?_
              rintro e w2 ⟨rfl, rfl⟩
              go_wp2_with fail
              refine (t4.out _ R0).mono ?_
              rintro e w2 ⟨rfl, rfl⟩
              go_wp2_with fail
              go_ret
              exact ⟨ret_bool hv.out.symm, d⟩
          · have x2 : inB pf 0 1000000 = false := by simpa using x2
            have hv := hide (hdef.out.trans (show _ = false by simp [xo, x0, x1, x2]))
            clear hdef xo
            rw [x0] at t1
            clear x0
            rw [x1] at t2
            clear x1
            rw [x2] at t3
            clear x2
            go_enter Try.func60, Try.ntmps60
            go_wp2_with fail
            refine (t1.out _).mono ?_
            rintro e w2 ⟨rfl, rfl⟩
            go_wp2_with fail
            refine (t2.out _).mono ?_
            rintro e w2 ⟨rfl, rfl⟩
            go_wp2_with fail
            refine (t3.out _).mono ?_
            rintro e w2 ⟨rfl, rfl⟩
            go_wp2_with fail
            go_ret
            exact ⟨ret_bool hv.out.symm, d⟩
        · have x1 : inB md 0 1000000 = false := by simpa using x1
          have hv := hide (hdef.out.trans (show _ = false by simp [xo, x0, x1]))
          clear hdef xo
          rw [x0] at t1
          clear x0
          rw [x1] at t2
          clear x1
          go_enter Try.func60, Try.ntmps60
          go_wp2_with fail
          refine (t1.out _).mono ?_
          rintro e w2 ⟨rfl, rfl⟩
          go_wp2_with fail
          refine (t2.out _).mono ?_
          rintro e w2 ⟨rfl, rfl⟩
          go_wp2_with fail
          go_ret
          exact ⟨ret_bool hv.out.symm, d⟩
      · have x0 : inB nx 0 4294967295 = false := by simpa using x0
        have hv := hide (hdef.out.trans (show _ = false by simp [xo, x0]))
        clear hdef xo
        rw [x0] at t1
        clear x0
        go_enter Try.func60, Try.ntmps60
        go_wp2_with fail
        refine (t1.out _).mono ?_
        rintro e w2 ⟨rfl, rfl⟩
        go_wp2_with fail
        go_ret
        exact ⟨ret_bool hv.out.symm, d⟩
end Go.Proofs.Ytflakkbodbnndaa
