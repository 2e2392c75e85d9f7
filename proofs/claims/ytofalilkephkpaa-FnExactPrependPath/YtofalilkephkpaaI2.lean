/- What the program's functions of chapter 2 answer: values, order, tables. -/
import Derived.Test.YtofalilkephkpaaFlatEntry
import Derived.Test.YtofalilkephkpaaS2
import Derived.Test.YtofalilkephkpaaI1c
namespace Go.Proofs.Ytofalilkephkpaa
open Go.RowKit

set_option maxHeartbeats 400000 in
theorem i_value (n : Int) (w : World) :
    Calls Try.prog 111 #[.int .i64 n] w fun e w' => e = .returned (.bool (inB n 0 1000000)) ∧ w' = w := by
  by_cases h1 : 0 ≤ n
  · by_cases h2 : n ≤ 1000000
    · rw [inB_t h1 h2]
      go_enter Try.func111, Try.ntmps111
      go_wp2
      go_ret
      exact ⟨rfl, rfl⟩
    · rw [inB_f2 h2]
      go_enter Try.func111, Try.ntmps111
      go_wp2
      go_ret
      exact ⟨rfl, rfl⟩
  · rw [inB_f1 h1]
    go_enter Try.func111, Try.ntmps111
    go_wp2
    go_ret
    exact ⟨rfl, rfl⟩

set_option maxHeartbeats 800000 in
theorem i_before (a l b m : Int) (w : World) (hg1 : goodB a l = true) (hg2 : goodB b m = true) :
    Calls Try.prog 112 #[.agg #[.int .i64 a, .int .i64 l], .agg #[.int .i64 b, .int .i64 m]] w fun e w' =>
      e = .returned (.bool (decide (cmpP a l b m < 0))) ∧ Below w.heap.size w w' := by
  have s1 := hide (fun w => i_compare a l b m w)
  rw [hg1, hg2] at s1
  simp only [Bool.and_self, if_true] at s1
  clear hg1 hg2
  generalize cmpP a l b m = r at s1 ⊢
  go_enter Try.func112, Try.ntmps112
  go_wp2_with fail
  refine (s1.out _).mono ?_
  rintro e w1 ⟨rfl, hb1⟩
  go_wp2_with fail
  go_ret
  exact ⟨rfl, below_box2 hb1⟩

theorem all_good {f0 f1 f2 : Nat → Int} {m : Nat} (h : (List.range (m + 1)).all (entOk f0 f1 f2) = true) : goodB (f0 m) (f1 m) = true := by
  rw [List.all_eq_true] at h
  have h1 := h m (List.mem_range.2 (by omega))
  unfold entOk at h1
  rw [Bool.and_eq_true, Bool.and_eq_true] at h1
  exact h1.1.1
theorem tabB_over {f0 f1 f2 : Nat → Int} {n : Nat} (h : ¬ n ≤ 30) : tabB f0 f1 f2 n = false := by
  unfold tabB
  rw [show decide (n ≤ 30) = false by simpa using h, Bool.and_false]
theorem tabB_all {f0 f1 f2 : Nat → Int} {n : Nat} (h : n ≤ 30) (ha : (List.range n).all (entOk f0 f1 f2) = true) : tabB f0 f1 f2 n = true := by
  unfold tabB
  rw [show decide (n ≤ 30) = true by simpa using h, ha]; rfl
set_option maxRecDepth 100000 in
set_option maxHeartbeats 1600000 in
theorem i_goodTable (a0 : Option Addr) (len cap : Nat) (f0 f1 f2 : Nat → Int) (w : World) (hl : len ≤ 1048576) (hE : RowEntry a0 len f0 f1 f2 w) :
    Calls Try.prog 35 #[.slice a0 len cap] w fun e w' => e = .returned (.bool (tabB f0 f1 f2 len)) ∧ Below w.heap.size w w' := by
  by_cases h30 : len ≤ 30
  · have h30' : (len : Int) ≤ 30 := by omega
    go_enter Try.func35, Try.ntmps35
    go_wp2_with fail
    go_loopw [3, 4, 10] (fun _ _ i wr => ∃ k : Nat, k ≤ len ∧ i = .int .i64 k ∧ Below w.heap.size w wr ∧ (List.range k).all (entOk f0 f1 f2) = true) (fun _ _ i _ => len - (intOf i).toNat)
    case atStart => exact ⟨0, Nat.zero_le _, rfl, Below.refl _ _, rfl⟩
    case round =>
      obtain ⟨k, hk, rfl, hb, hall⟩ := hrel
      by_cases hlt : k < len
      · obtain ⟨b, off, rfl, hbw, h0, h1, h2⟩ := hE k hlt
        have h0 := (hb.cell (p := ⟨b, off + k * 3, none⟩) hbw).trans h0
        have h1 := (hb.cell (p := ⟨b, off + k * 3 + 1, none⟩) hbw).trans h1
        have h2 := (hb.cell (p := ⟨b, off + k * 3 + 2, none⟩) hbw).trans h2
        have hlt' : (k : Int) < (len : Int) := by omega
        have s1 := hide (fun w => i_good (f0 k) (f1 k) w)
        have s2 := hide (fun w => i_value (f2 k) w)
        have hok : entOk f0 f1 f2 k = (goodB (f0 k) (f1 k) && inB (f2 k) 0 1000000 && (k == 0 || decide (cmpP (f0 (k - 1)) (f1 (k - 1)) (f0 k) (f1 k) < 0))) := rfl
        have hok := hide hok
        have hfin := hide (tabB_no (f0 := f0) (f1 := f1) (f2 := f2) (n := len) hlt)
        have hnext := hide (all_next (f0 := f0) (f1 := f1) (f2 := f2) hall)
        by_cases hg : goodB (f0 k) (f1 k) = true
        · by_cases hv : inB (f2 k) 0 1000000 = true
          · by_cases hz : k = 0
            · have hE1 : entOk f0 f1 f2 k = true := by rw [hok.out, hg, hv, hz]; rfl
              rw [hg] at s1
              rw [hv] at s2
              have hN := hide (hnext.out hE1)
              clear hg hv hE hok hfin hnext hE1 hall
              subst hz
              simp only [Nat.zero_mul, Nat.add_zero] at h0 h1 h2
              generalize (f0 0) = a at *
              generalize (f1 0) = l at *
              generalize (f2 0) = v at *
              go_wp2_with fail
              refine (s1.out _).mono ?_
              rintro e w1 ⟨rfl, hb1⟩
              obtain ⟨hc, hf⟩ := bcell hb1
              go_wp2_with fail
              refine (s2.out _).mono ?_
              rintro e w2 ⟨rfl, rfl⟩
              have hbq := hb.trans ((below_box hb1).mono hb.size)
              clear hb1 hc hf
              go_wp2_with fail
              refine wp_region_quiet_below (by kernel_rfl) (by kernel_rfl) ?_
              repeat (first | go_big_quiet_step ((fail)) | quiet_step ((fail)))
              refine wpQuiet_nil ?_
              intro _ hw'
              obtain ⟨⟨dq, osq⟩, hw''⟩ := hw'
              subst hw''
              have hq := below_regrown w2 dq osq
              generalize Go.Sort.grow (redrawn w2 dq) osq = wq at hq ⊢
              have hbz := hbq.trans (hq.mono hbq.size)
              go_wp2_with fail
              exact ⟨⟨1, by omega, by go_num, hbz, hN.out⟩, by simp [intOf]; omega⟩
            · obtain ⟨m, rfl⟩ : ∃ m, k = m + 1 := ⟨k - 1, by omega⟩
              obtain ⟨b', off', hbo, _, i0, i1, _⟩ := hE m (by omega)
              simp only [Option.some.injEq, Addr.mk.injEq, and_true] at hbo
              obtain ⟨rfl, rfl⟩ := hbo
              have i0 := (hb.cell (p := ⟨b, off + m * 3, none⟩) hbw).trans i0
              have i1 := (hb.cell (p := ⟨b, off + m * 3 + 1, none⟩) hbw).trans i1
              have s3 := hide (fun w => i_before (f0 m) (f1 m) (f0 (m + 1)) (f1 (m + 1)) w (all_good hall) hg)
              have hz' : (m + 1 == 0) = false := by simp
              have hok := hok.out
              rw [hg, hv, hz', Nat.add_sub_cancel] at hok
              simp only [Bool.true_and, Bool.false_or] at hok
              rw [hg] at s1
              rw [hv] at s2
              rw [← hok] at s3
              have hm0 : ((0 : Int) < (m : Int) + 1) := by omega
              have hmlt : (m : Int) < (len : Int) := by omega
              have hbr : b < wr.heap.size := Nat.lt_of_lt_of_le hbw hb.size
              cases hE1 : entOk f0 f1 f2 (m + 1) with
              | true =>
                rw [hE1] at s3
                have hN := hide (hnext.out hE1)
                clear hg hv hE hok hfin hnext hE1 hz hz' hall
                generalize (f0 (m + 1)) = a at *
                generalize (f1 (m + 1)) = l at *
                generalize (f2 (m + 1)) = v at *
                generalize (f0 m) = a' at *
                generalize (f1 m) = l' at *
                go_wp2_with fail
                refine (s1.out _).mono ?_
                rintro e w1 ⟨rfl, hb1⟩
                obtain ⟨hc, hf⟩ := bcell hb1
                have c0 := cell_regrown ((hc wr.heap.size 0 (by simp)).trans (show _ = some (.int .i64 a) by simp [go_sem]))
                have c1 := cell_regrown ((hc wr.heap.size 1 (by simp)).trans (show _ = some (.int .i64 l) by simp [go_sem]))
                have q0 := cell_regrown ((hc b (off + m * 3) (by simp; omega)).trans ((old1 hbr _ _).trans i0))
                have q1 := cell_regrown ((hc b (off + m * 3 + 1) (by simp; omega)).trans ((old1 hbr _ _).trans i1))
                go_wp2_with fail
                refine (s2.out _).mono ?_
                rintro e w2 ⟨rfl, rfl⟩
                have hbq := hb.trans ((below_box hb1).mono hb.size)
                clear hb1 hc hf h0 h1 h2 i0 i1
                go_wp2_with fail
                refine wp_region_quiet_below (by kernel_rfl) (by kernel_rfl) ?_
                repeat (first | go_big_quiet_step (((first | (go_at_call 112; exact Calls.regrown_of (s3.out _))))) | quiet_step (((first | (go_at_call 112; exact Calls.regrown_of (s3.out _))))))
                refine wpQuiet_nil ?_
                intro _ hw'
                obtain ⟨⟨dq, osq⟩, hw''⟩ := hw'
                subst hw''
                have hq := below_regrown w2 dq osq
                generalize Go.Sort.grow (redrawn w2 dq) osq = wq at hq ⊢
                have hbz := hbq.trans (hq.mono hbq.size)
                clear c0 c1 q0 q1
                go_wp2_with fail
                exact ⟨⟨m + 1 + 1, by omega, by go_num, hbz, hN.out⟩, by simp [intOf]; omega⟩
              | false =>
                rw [hE1] at s3
                have hN := hide (hfin.out hE1)
                clear hg hv hE hok hfin hnext hE1 hz hz' hall
                generalize (f0 (m + 1)) = a at *
                generalize (f1 (m + 1)) = l at *
                generalize (f2 (m + 1)) = v at *
                generalize (f0 m) = a' at *
                generalize (f1 m) = l' at *
                go_wp2_with fail
                refine (s1.out _).mono ?_
                rintro e w1 ⟨rfl, hb1⟩
                obtain ⟨hc, hf⟩ := bcell hb1
                have c0 := cell_regrown ((hc wr.heap.size 0 (by simp)).trans (show _ = some (.int .i64 a) by simp [go_sem]))
                have c1 := cell_regrown ((hc wr.heap.size 1 (by simp)).trans (show _ = some (.int .i64 l) by simp [go_sem]))
                have q0 := cell_regrown ((hc b (off + m * 3) (by simp; omega)).trans ((old1 hbr _ _).trans i0))
                have q1 := cell_regrown ((hc b (off + m * 3 + 1) (by simp; omega)).trans ((old1 hbr _ _).trans i1))
                go_wp2_with fail
                refine (s2.out _).mono ?_
                rintro e w2 ⟨rfl, rfl⟩
                have hbq := hb.trans ((below_box hb1).mono hb.size)
                clear hb1 hc hf h0 h1 h2 i0 i1
                go_wp2_with fail
                refine wp_region_quiet_below (by kernel_rfl) (by kernel_rfl) ?_
                repeat (first | go_big_quiet_step (((first | (go_at_call 112; exact Calls.regrown_of (s3.out _))))) | quiet_step (((first | (go_at_call 112; exact Calls.regrown_of (s3.out _))))))
                refine wpQuiet_nil ?_
                intro _ hw'
                obtain ⟨⟨dq, osq⟩, hw''⟩ := hw'
                subst hw''
                have hq := below_regrown w2 dq osq
                generalize Go.Sort.grow (redrawn w2 dq) osq = wq at hq ⊢
                have hbz := hbq.trans (hq.mono hbq.size)
                clear c0 c1 q0 q1
                go_wp2_with fail
                go_ret
                exact ⟨ret_bool hN.out.symm, hbz⟩
          · have hv' : inB (f2 k) 0 1000000 = false := by simpa using hv
            have hE1 : entOk f0 f1 f2 k = false := by rw [hok.out, hg, hv']; rfl
            rw [hg] at s1
            rw [hv'] at s2
            have hF := hide (hfin.out hE1)
            clear hg hv hv' hE hok hfin hnext hE1 hall
            generalize (f0 k) = a at *
            generalize (f1 k) = l at *
            generalize (f2 k) = v at *
            go_wp2_with fail
            refine (s1.out _).mono ?_
            rintro e w1 ⟨rfl, hb1⟩
            obtain ⟨hc, hf⟩ := bcell hb1
            go_wp2_with fail
            refine (s2.out _).mono ?_
            rintro e w2 ⟨rfl, rfl⟩
            have hbq := hb.trans ((below_box hb1).mono hb.size)
            clear hb1 hc hf
            go_wp2_with fail
            go_ret
            exact ⟨ret_bool hF.out.symm, hbq⟩
        · have hg' : goodB (f0 k) (f1 k) = false := by simpa using hg
          have hE1 : entOk f0 f1 f2 k = false := by rw [hok.out, hg']; rfl
          rw [hg'] at s1
          have hF := hide (hfin.out hE1)
          clear hg hg' hE hok hfin hnext hE1 hall s2
          generalize (f0 k) = a at *
          generalize (f1 k) = l at *
          generalize (f2 k) = v at *
          go_wp2_with fail
          refine (s1.out _).mono ?_
          rintro e w1 ⟨rfl, hb1⟩
          have hbq := hb.trans ((below_box hb1).mono hb.size)
          clear hb1
          go_wp2_with fail
          go_ret
          exact ⟨ret_bool hF.out.symm, hbq⟩
      · have hk' : k = len := by omega
        subst hk'
        have hF := hide (tabB_all h30 hall)
        clear hE hall
        go_wp2_with fail
        go_ret
        exact ⟨ret_bool hF.out.symm, hb⟩
  · have h30' : ¬ (len : Int) ≤ 30 := by omega
    have hF := hide (tabB_over (f0 := f0) (f1 := f1) (f2 := f2) h30)
    clear hE
    go_enter Try.func35, Try.ntmps35
    go_wp2_with fail
    go_ret
    exact ⟨ret_bool hF.out.symm, Below.refl _ _⟩
end Go.Proofs.Ytofalilkephkpaa
