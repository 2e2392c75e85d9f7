/- What the specification's functions of chapter 2 answer: tables. -/
import Derived.Test.YtofalilkephkpaaFlatEntry
import Derived.Test.YtofalilkephkpaaS1c
namespace Go.Proofs.Ytofalilkephkpaa
open Go.RowKit

def entOk (f0 f1 f2 : Nat → Int) (k : Nat) : Bool :=
  goodB (f0 k) (f1 k) && inB (f2 k) 0 1000000 && (k == 0 || decide (cmpP (f0 (k - 1)) (f1 (k - 1)) (f0 k) (f1 k) < 0))
def tabB (f0 f1 f2 : Nat → Int) (n : Nat) : Bool := (List.range n).all (entOk f0 f1 f2) && decide (n ≤ 30)

theorem all_next {f0 f1 f2 : Nat → Int} {k : Nat} (h : (List.range k).all (entOk f0 f1 f2) = true) (h1 : entOk f0 f1 f2 k = true) : (List.range (k + 1)).all (entOk f0 f1 f2) = true := by
  rw [List.range_succ, List.all_append, h, Bool.true_and]
  simp [h1]
theorem tabB_no {f0 f1 f2 : Nat → Int} {n k : Nat} (hk : k < n) (h : entOk f0 f1 f2 k = false) : tabB f0 f1 f2 n = false := by
  unfold tabB
  have h2 : (List.range n).all (entOk f0 f1 f2) = false := by
    rw [List.all_eq_false]
    exact ⟨k, List.mem_range.2 hk, by simp [h]⟩
  rw [h2]; rfl

set_option maxHeartbeats 400000 in
theorem s_value (n : Int) (w : World) :
    Calls Try.prog 122 #[.int .i64 n] w fun e w' => e = .returned (.bool (inB n 0 1000000)) ∧ Below w.heap.size w w' := by
  go_enter Try.func122, Try.ntmps122
  go_wp2_with (go_at_call 121; refine (s_in _ _ _ _).mono ?_; rintro e w' ⟨rfl, rfl⟩)
  go_ret
  exact ⟨rfl, Below.refl _ _⟩

set_option maxRecDepth 100000 in
set_option maxHeartbeats 1600000 in
theorem s_goodTable (a0 : Option Addr) (len cap : Nat) (f0 f1 f2 : Nat → Int) (w : World) (hl : len ≤ 1048576) (hE : RowEntry a0 len f0 f1 f2 w) :
    Calls Try.prog 106 #[.slice a0 len cap] w fun e w' => e = .returned (.bool (tabB f0 f1 f2 len)) ∧ Below w.heap.size w w' := by
  go_enter Try.func106, Try.ntmps106
  go_wp2_with fail
  go_loopw [3, 4, 7] (fun _ _ i wr => ∃ k : Nat, k ≤ len ∧ i = .int .i64 k ∧ Below w.heap.size w wr ∧ (List.range k).all (entOk f0 f1 f2) = true) (fun _ _ i _ => len - (intOf i).toNat)
  case atStart => exact ⟨0, Nat.zero_le _, rfl, Below.refl _ _, rfl⟩
  case round =>
    obtain ⟨k, hk, rfl, hb, hall⟩ := hrel
    by_cases hlt : k < len
    · obtain ⟨b, off, rfl, hbw, h0, h1, h2⟩ := hE k hlt
      have h0 := (hb.cell (p := ⟨b, off + k * 3, none⟩) hbw).trans h0
      have h1 := (hb.cell (p := ⟨b, off + k * 3 + 1, none⟩) hbw).trans h1
      have h2 := (hb.cell (p := ⟨b, off + k * 3 + 2, none⟩) hbw).trans h2
      have hlt' : (k : Int) < (len : Int) := by omega
      have s1 := hide (fun w => s_good (f0 k) (f1 k) w)
      have s2 := hide (fun w => s_value (f2 k) w)
      have hok : entOk f0 f1 f2 k = (goodB (f0 k) (f1 k) && inB (f2 k) 0 1000000 && (k == 0 || decide (cmpP (f0 (k - 1)) (f1 (k - 1)) (f0 k) (f1 k) < 0))) := rfl
      have hok := hide hok
      have hfin := hide (tabB_no (f0 := f0) (f1 := f1) (f2 := f2) (n := len) hlt)
      have hnext := hide (all_next (f0 := f0) (f1 := f1) (f2 := f2) hall)
      have hnn : Hid (∀ a l v, (f0 k) = a → (f1 k) = l → (f2 k) = v → True) := fun _ _ _ _ _ _ => trivial
      clear hnn hall
      by_cases hg : goodB (f0 k) (f1 k) = true
      · by_cases hv : inB (f2 k) 0 1000000 = true
        · by_cases hz : k = 0
          · have hE1 : entOk f0 f1 f2 k = true := by rw [hok.out, hg, hv, hz]; rfl
            rw [hg] at s1
            rw [hv] at s2
            have hN := hide (hnext.out hE1)
            clear hg hv hE hok hfin hnext hE1
            subst hz
            simp only [Nat.zero_mul, Nat.add_zero] at h0 h1 h2
            generalize (f0 0) = a at *
            generalize (f1 0) = l at *
            generalize (f2 0) = v at *
            go_wp2_with fail
            have c0 : (wr.alloc (.cells #[.int .i64 a, .int .i64 l, .int .i64 v] 46)).cell? ⟨wr.heap.size, 0, none⟩ = some (.int .i64 a) := by simp [go_sem]
            have c1 : (wr.alloc (.cells #[.int .i64 a, .int .i64 l, .int .i64 v] 46)).cell? ⟨wr.heap.size, 1, none⟩ = some (.int .i64 l) := by simp [go_sem]
            have c2 : (wr.alloc (.cells #[.int .i64 a, .int .i64 l, .int .i64 v] 46)).cell? ⟨wr.heap.size, 2, none⟩ = some (.int .i64 v) := by simp [go_sem]
            have k0 := cell_regrown c0
            have k1 := cell_regrown c1
            have k2 := cell_regrown c2
            refine wp_region_quiet_below (by kernel_rfl) (by kernel_rfl) ?_
            repeat (first | go_big_quiet_step (((first
                        | (go_at_call 125; exact Calls.regrown_of (s1.out _))
                        | (go_at_call 122; exact Calls.regrown_of (s2.out _))
                        | (go_at_call 104; exact Calls.regrown_of (s3.out _))))) | quiet_step (((first
                        | (go_at_call 125; exact Calls.regrown_of (s1.out _))
                        | (go_at_call 122; exact Calls.regrown_of (s2.out _))
                        | (go_at_call 104; exact Calls.regrown_of (s3.out _))))))
            refine wpQuiet_nil ?_
            intro _ hw'
            obtain ⟨⟨dq, osq⟩, hw''⟩ := hw'
            subst hw''
            have hq := below_regrown (wr.alloc (.cells #[.int .i64 a, .int .i64 l, .int .i64 v] 46)) dq osq
            generalize Go.Sort.grow (redrawn (wr.alloc (.cells #[.int .i64 a, .int .i64 l, .int .i64 v] 46)) dq) osq = wq at hq ⊢
            have hbq := hb.trans ((below_box hq).mono hb.size)
            clear hq k0 k1 k2 c0 c1 c2
            go_wp2_with fail
            exact ⟨⟨1, by omega, by go_num, hbq, hN.out⟩, by simp [intOf]; omega⟩
          · obtain ⟨m, rfl⟩ : ∃ m, k = m + 1 := ⟨k - 1, by omega⟩
            obtain ⟨b', off', hbo, _, i0, i1, _⟩ := hE m (by omega)
            simp only [Option.some.injEq, Addr.mk.injEq, and_true] at hbo
            obtain ⟨rfl, rfl⟩ := hbo
            have i0 := (hb.cell (p := ⟨b, off + m * 3, none⟩) hbw).trans i0
            have i1 := (hb.cell (p := ⟨b, off + m * 3 + 1, none⟩) hbw).trans i1
            have s3 := hide (fun w => s_compare1 (f0 m) (f1 m) (f0 (m + 1)) (f1 (m + 1)) w)
            have hz' : (m + 1 == 0) = false := by simp
            have hok := hok.out
            rw [hg, hv, hz', Nat.add_sub_cancel] at hok
            simp only [Bool.true_and, Bool.false_or] at hok
            rw [hg] at s1
            rw [hv] at s2
            have hm0 : ((0 : Int) < (m : Int) + 1) := by omega
            have hmlt : (m : Int) < (len : Int) := by omega
            have j0 := fun o => (old1 (show b < wr.heap.size from Nat.lt_of_lt_of_le hbw hb.size) o (off + m * 3)).trans i0
            have j1 := fun o => (old1 (show b < wr.heap.size from Nat.lt_of_lt_of_le hbw hb.size) o (off + m * 3 + 1)).trans i1
            have q0 := fun o => cell_regrown (j0 o)
            have q1 := fun o => cell_regrown (j1 o)
            by_cases hc : cmpP (f0 m) (f1 m) (f0 (m + 1)) (f1 (m + 1)) < 0
            · have hE1 : entOk f0 f1 f2 (m + 1) = true := by rw [hok]; simpa using hc
              have hN := hide (hnext.out hE1)
              have hcd : decide (0 ≤ cmpP (f0 m) (f1 m) (f0 (m + 1)) (f1 (m + 1))) = false := by simp; omega
              clear hg hv hE hok hfin hnext hE1 hz hz' i0 i1 j0 j1
              generalize cmpP (f0 m) (f1 m) (f0 (m + 1)) (f1 (m + 1)) = r at *
              generalize (f0 (m + 1)) = a at *
              generalize (f1 (m + 1)) = l at *
              generalize (f2 (m + 1)) = v at *
              generalize (f0 m) = a' at *
              generalize (f1 m) = l' at *
              go_wp2_with fail
              have c0 : (wr.alloc (.cells #[.int .i64 a, .int .i64 l, .int .i64 v] 46)).cell? ⟨wr.heap.size, 0, none⟩ = some (.int .i64 a) := by simp [go_sem]
              have c1 : (wr.alloc (.cells #[.int .i64 a, .int .i64 l, .int .i64 v] 46)).cell? ⟨wr.heap.size, 1, none⟩ = some (.int .i64 l) := by simp [go_sem]
              have c2 : (wr.alloc (.cells #[.int .i64 a, .int .i64 l, .int .i64 v] 46)).cell? ⟨wr.heap.size, 2, none⟩ = some (.int .i64 v) := by simp [go_sem]
              have k0 := cell_regrown c0
              have k1 := cell_regrown c1
              have k2 := cell_regrown c2
              refine wp_region_quiet_below (by kernel_rfl) (by kernel_rfl) ?_
              repeat (first | go_big_quiet_step (((first
                          | (go_at_call 125; exact Calls.regrown_of (s1.out _))
                          | (go_at_call 122; exact Calls.regrown_of (s2.out _))
                          | (go_at_call 104; exact Calls.regrown_of (s3.out _))))) | quiet_step (((first
                          | (go_at_call 125; exact Calls.regrown_of (s1.out _))
                          | (go_at_call 122; exact Calls.regrown_of (s2.out _))
                          | (go_at_call 104; exact Calls.regrown_of (s3.out _))))))
              refine wpQuiet_nil ?_
              intro _ hw'
              obtain ⟨⟨dq, osq⟩, hw''⟩ := hw'
              subst hw''
              have hq := below_regrown (wr.alloc (.cells #[.int .i64 a, .int .i64 l, .int .i64 v] 46)) dq osq
              generalize Go.Sort.grow (redrawn (wr.alloc (.cells #[.int .i64 a, .int .i64 l, .int .i64 v] 46)) dq) osq = wq at hq ⊢
              have hbq := hb.trans ((below_box hq).mono hb.size)
              clear hq k0 k1 k2 c0 c1 c2
              go_wp2_with fail
              exact ⟨⟨m + 1 + 1, by omega, by go_num, hbq, hN.out⟩, by simp [intOf]; omega⟩
            · have hE1 : entOk f0 f1 f2 (m + 1) = false := by rw [hok]; simpa using hc
              have hF := hide (hfin.out hE1)
              have hcd : decide (0 ≤ cmpP (f0 m) (f1 m) (f0 (m + 1)) (f1 (m + 1))) = true := by simp; omega
              clear hg hv hE hok hfin hnext hE1 hz hz' i0 i1 j0 j1
              generalize cmpP (f0 m) (f1 m) (f0 (m + 1)) (f1 (m + 1)) = r at *
              generalize (f0 (m + 1)) = a at *
              generalize (f1 (m + 1)) = l at *
              generalize (f2 (m + 1)) = v at *
              generalize (f0 m) = a' at *
              generalize (f1 m) = l' at *
              go_wp2_with fail
              have c0 : (wr.alloc (.cells #[.int .i64 a, .int .i64 l, .int .i64 v] 46)).cell? ⟨wr.heap.size, 0, none⟩ = some (.int .i64 a) := by simp [go_sem]
              have c1 : (wr.alloc (.cells #[.int .i64 a, .int .i64 l, .int .i64 v] 46)).cell? ⟨wr.heap.size, 1, none⟩ = some (.int .i64 l) := by simp [go_sem]
              have c2 : (wr.alloc (.cells #[.int .i64 a, .int .i64 l, .int .i64 v] 46)).cell? ⟨wr.heap.size, 2, none⟩ = some (.int .i64 v) := by simp [go_sem]
              have k0 := cell_regrown c0
              have k1 := cell_regrown c1
              have k2 := cell_regrown c2
              refine wp_region_quiet_below (by kernel_rfl) (by kernel_rfl) ?_
              repeat (first | go_big_quiet_step (((first
                          | (go_at_call 125; exact Calls.regrown_of (s1.out _))
                          | (go_at_call 122; exact Calls.regrown_of (s2.out _))
                          | (go_at_call 104; exact Calls.regrown_of (s3.out _))))) | quiet_step (((first
                          | (go_at_call 125; exact Calls.regrown_of (s1.out _))
                          | (go_at_call 122; exact Calls.regrown_of (s2.out _))
                          | (go_at_call 104; exact Calls.regrown_of (s3.out _))))))
              refine wpQuiet_nil ?_
              intro _ hw'
              obtain ⟨⟨dq, osq⟩, hw''⟩ := hw'
              subst hw''
              have hq := below_regrown (wr.alloc (.cells #[.int .i64 a, .int .i64 l, .int .i64 v] 46)) dq osq
              generalize Go.Sort.grow (redrawn (wr.alloc (.cells #[.int .i64 a, .int .i64 l, .int .i64 v] 46)) dq) osq = wq at hq ⊢
              have hbq := hb.trans ((below_box hq).mono hb.size)
              clear hq k0 k1 k2 c0 c1 c2
              go_wp2_with fail
              go_ret
              exact ⟨ret_bool hF.out.symm, hbq⟩
        · have hv' : inB (f2 k) 0 1000000 = false := by simpa using hv
          have hE1 : entOk f0 f1 f2 k = false := by rw [hok.out, hg, hv']; rfl
          rw [hg] at s1
          rw [hv'] at s2
          have hF := hide (hfin.out hE1)
          clear hg hv hv' hE hok hfin hnext hE1
          generalize (f0 k) = a at *
          generalize (f1 k) = l at *
          generalize (f2 k) = v at *
          go_wp2_with fail
          have c0 : (wr.alloc (.cells #[.int .i64 a, .int .i64 l, .int .i64 v] 46)).cell? ⟨wr.heap.size, 0, none⟩ = some (.int .i64 a) := by simp [go_sem]
          have c1 : (wr.alloc (.cells #[.int .i64 a, .int .i64 l, .int .i64 v] 46)).cell? ⟨wr.heap.size, 1, none⟩ = some (.int .i64 l) := by simp [go_sem]
          have c2 : (wr.alloc (.cells #[.int .i64 a, .int .i64 l, .int .i64 v] 46)).cell? ⟨wr.heap.size, 2, none⟩ = some (.int .i64 v) := by simp [go_sem]
          have k0 := cell_regrown c0
          have k1 := cell_regrown c1
          have k2 := cell_regrown c2
          refine wp_region_quiet_below (by kernel_rfl) (by kernel_rfl) ?_
          repeat (first | go_big_quiet_step (((first
                      | (go_at_call 125; exact Calls.regrown_of (s1.out _))
                      | (go_at_call 122; exact Calls.regrown_of (s2.out _))
                      | (go_at_call 104; exact Calls.regrown_of (s3.out _))))) | quiet_step (((first
                      | (go_at_call 125; exact Calls.regrown_of (s1.out _))
                      | (go_at_call 122; exact Calls.regrown_of (s2.out _))
                      | (go_at_call 104; exact Calls.regrown_of (s3.out _))))))
          refine wpQuiet_nil ?_
          intro _ hw'
          obtain ⟨⟨dq, osq⟩, hw''⟩ := hw'
          subst hw''
          have hq := below_regrown (wr.alloc (.cells #[.int .i64 a, .int .i64 l, .int .i64 v] 46)) dq osq
          generalize Go.Sort.grow (redrawn (wr.alloc (.cells #[.int .i64 a, .int .i64 l, .int .i64 v] 46)) dq) osq = wq at hq ⊢
          have hbq := hb.trans ((below_box hq).mono hb.size)
          clear hq k0 k1 k2 c0 c1 c2
          go_wp2_with fail
          go_ret
          exact ⟨ret_bool hF.out.symm, hbq⟩
      · have hg' : goodB (f0 k) (f1 k) = false := by simpa using hg
        have hE1 : entOk f0 f1 f2 k = false := by rw [hok.out, hg']; rfl
        rw [hg'] at s1
        have hF := hide (hfin.out hE1)
        clear hg hg' hE hok hfin hnext hE1 s2
        generalize (f0 k) = a at *
        generalize (f1 k) = l at *
        generalize (f2 k) = v at *
        go_wp2_with fail
        have c0 : (wr.alloc (.cells #[.int .i64 a, .int .i64 l, .int .i64 v] 46)).cell? ⟨wr.heap.size, 0, none⟩ = some (.int .i64 a) := by simp [go_sem]
        have c1 : (wr.alloc (.cells #[.int .i64 a, .int .i64 l, .int .i64 v] 46)).cell? ⟨wr.heap.size, 1, none⟩ = some (.int .i64 l) := by simp [go_sem]
        have c2 : (wr.alloc (.cells #[.int .i64 a, .int .i64 l, .int .i64 v] 46)).cell? ⟨wr.heap.size, 2, none⟩ = some (.int .i64 v) := by simp [go_sem]
        have k0 := cell_regrown c0
        have k1 := cell_regrown c1
        have k2 := cell_regrown c2
        refine wp_region_quiet_below (by kernel_rfl) (by kernel_rfl) ?_
        repeat (first | go_big_quiet_step (((first
                    | (go_at_call 125; exact Calls.regrown_of (s1.out _))
                    | (go_at_call 122; exact Calls.regrown_of (s2.out _))
                    | (go_at_call 104; exact Calls.regrown_of (s3.out _))))) | quiet_step (((first
                    | (go_at_call 125; exact Calls.regrown_of (s1.out _))
                    | (go_at_call 122; exact Calls.regrown_of (s2.out _))
                    | (go_at_call 104; exact Calls.regrown_of (s3.out _))))))
        refine wpQuiet_nil ?_
        intro _ hw'
        obtain ⟨⟨dq, osq⟩, hw''⟩ := hw'
        subst hw''
        have hq := below_regrown (wr.alloc (.cells #[.int .i64 a, .int .i64 l, .int .i64 v] 46)) dq osq
        generalize Go.Sort.grow (redrawn (wr.alloc (.cells #[.int .i64 a, .int .i64 l, .int .i64 v] 46)) dq) osq = wq at hq ⊢
        have hbq := hb.trans ((below_box hq).mono hb.size)
        clear hq k0 k1 k2 c0 c1 c2
        go_wp2_with fail
        go_ret
        exact ⟨ret_bool hF.out.symm, hbq⟩
    · have hk' : k = len := by omega
      subst hk'
      have hfin : tabB f0 f1 f2 k = decide ((k : Int) ≤ 30) := by
        unfold tabB; rw [hall, Bool.true_and]
        by_cases h : k ≤ 30
        · have : ((k : Int) ≤ 30) := by omega
          simp [h, this]
        · have : ¬ ((k : Int) ≤ 30) := by omega
          simp [h, this]
      have hF := hide hfin
      clear hfin hall hE
      go_wp2_with fail
      go_ret
      exact ⟨ret_bool hF.out.symm, hb⟩
end Go.Proofs.Ytofalilkephkpaa
