/- What the program's functions on good updates answer: one contract each. -/
import Derived.Test.YtoeephmdklmpfaaI4
import Derived.Test.YtoeephmdklmpfaaFlatPrefix
import Derived.Test.YtoeephmdklmpfaaPlain4u
namespace Go.Proofs.Ytoeephmdklmpfaa
open Go.RowKit

set_option maxRecDepth 100000 in
set_option maxHeartbeats 3200000 in
theorem i_nlri (a0 : Option Addr) (len cap : Nat) (f0 f1 : Nat → Int) (w : World) (hl : len ≤ 1048576) (hE : RowPrefix a0 len f0 f1 w) :
    Calls Try.prog 96 #[.slice a0 len cap] w fun e w' => e = .returned (.bool (nlriB len f0 f1)) ∧ Below w.heap.size w w' := by
  by_cases hten : len ≤ 10
  · have hten' : ¬ ((len : Int) > 10) := by omega
    have hd : Hid (decide (len ≤ 10) = true) := decide_eq_true hten
    clear hten
    go_enter Try.func96, Try.ntmps96
    go_wp2_with fail
    go_loopw [3, 4, 10] (fun _ _ i wr => ∃ k : Nat, k ≤ len ∧ i = .int .i64 k ∧ Below w.heap.size w wr ∧ (List.range k).all (nlriOk f0 f1) = true) (fun _ _ i _ => len - (intOf i).toNat)
    case atStart => exact ⟨0, Nat.zero_le _, rfl, Below.refl _ _, rfl⟩
    case round =>
      obtain ⟨k, hk, rfl, hb, hall⟩ := hrel
      by_cases hlt : k < len
      · obtain ⟨b, off, rfl, hbw, h0, h1⟩ := hE k hlt
        have h0 := (hb.cell (p := ⟨b, off + k * 2, none⟩) hbw).trans h0
        have h1 := (hb.cell (p := ⟨b, off + k * 2 + 1, none⟩) hbw).trans h1
        have hlt' : (k : Int) < (len : Int) := by omega
        have s1 := hide (fun w => i_good (f0 k) (f1 k) w)
        have hok : Hid (nlriOk f0 f1 k = (goodB (f0 k) (f1 k) && (k == 0 || decide (cmpP (f0 (k - 1)) (f1 (k - 1)) (f0 k) (f1 k) < 0)))) := rfl
        have hfin := hide (nlriB_no (f0 := f0) (f1 := f1) (n := len) hlt)
        have hnext := hide (rall_next (p := nlriOk f0 f1) hall)
        have hall := hide hall
        by_cases hg : goodB (f0 k) (f1 k) = true
        · rw [hg] at s1
          by_cases hz : k = 0
          · have hE1 : nlriOk f0 f1 k = true := by rw [hok.out, hg, hz]; rfl
            have hN := hide (hnext.out hE1)
            clear hg hE hok hfin hnext hE1 hall
            subst hz
            simp only [Nat.zero_mul, Nat.add_zero] at h0 h1
            generalize (f0 0) = a at *
            generalize (f1 0) = l at *
            go_wp2_with fail
            have c0 : (wr.alloc (.cells #[.int .i64 a, .int .i64 l] 122)).cell? ⟨wr.heap.size, 0, none⟩ = some (.int .i64 a) := by simp [go_sem]
            have c1 : (wr.alloc (.cells #[.int .i64 a, .int .i64 l] 122)).cell? ⟨wr.heap.size, 1, none⟩ = some (.int .i64 l) := by simp [go_sem]
            have k0 := cell_regrown c0
            have k1 := cell_regrown c1
            refine wp_region_quiet_below (by kernel_rfl) (by kernel_rfl) ?_
            repeat (first | go_big_quiet_step (((first | (go_at_call 128; exact Calls.regrown_of (s1.out _))))) | quiet_step (((first | (go_at_call 128; exact Calls.regrown_of (s1.out _))))))
            refine wpQuiet_nil ?_
            intro _ hw'
            obtain ⟨⟨dq, osq⟩, hw''⟩ := hw'
            subst hw''
            have hq := below_regrown (wr.alloc (.cells #[.int .i64 a, .int .i64 l] 122)) dq osq
            generalize Go.Sort.grow (redrawn (wr.alloc (.cells #[.int .i64 a, .int .i64 l] 122)) dq) osq = wq at hq ⊢
            have hbq := hb.trans ((below_box hq).mono hb.size)
            clear hq k0 k1 c0 c1
            go_wp2_with fail
            exact ⟨⟨1, by omega, by go_num, hbq, hN.out⟩, by simp [intOf]; omega⟩
          · obtain ⟨m, rfl⟩ : ∃ m, k = m + 1 := ⟨k - 1, by omega⟩
            obtain ⟨b', off', hbo, _, i0, i1⟩ := hE m (by omega)
            simp only [Option.some.injEq, Addr.mk.injEq, and_true] at hbo
            obtain ⟨rfl, rfl⟩ := hbo
            have i0 := (hb.cell (p := ⟨b, off + m * 2, none⟩) hbw).trans i0
            have i1 := (hb.cell (p := ⟨b, off + m * 2 + 1, none⟩) hbw).trans i1
            have hgm := nlri_good hall.out (Nat.lt_succ_self m)
            have s3 := hide (fun w => i_before (f0 m) (f1 m) (f0 (m + 1)) (f1 (m + 1)) w hgm hg)
            clear hgm
            have hz' : (m + 1 == 0) = false := by simp
            have hok := hok.out
            rw [hg, hz', Nat.add_sub_cancel] at hok
            simp only [Bool.true_and, Bool.false_or] at hok
            have hm0 : ((0 : Int) < (m : Int) + 1) := by omega
            have hmlt : (m : Int) < (len : Int) := by omega
            have j0 := fun o => (old1 (show b < wr.heap.size from Nat.lt_of_lt_of_le hbw hb.size) o (off + m * 2)).trans i0
            have j1 := fun o => (old1 (show b < wr.heap.size from Nat.lt_of_lt_of_le hbw hb.size) o (off + m * 2 + 1)).trans i1
            have q0 := fun o => cell_regrown (j0 o)
            have q1 := fun o => cell_regrown (j1 o)
            by_cases hc : cmpP (f0 m) (f1 m) (f0 (m + 1)) (f1 (m + 1)) < 0
            · have hE1 : nlriOk f0 f1 (m + 1) = true := by rw [hok]; simpa using hc
              have hN := hide (hnext.out hE1)
              have hcd : decide (cmpP (f0 m) (f1 m) (f0 (m + 1)) (f1 (m + 1)) < 0) = true := by simpa using hc
              rw [hcd] at s3
              clear hcd
              clear hg hE hok hfin hnext hE1 hz hz' i0 i1 j0 j1 hall hc
              generalize (f0 (m + 1)) = a at *
              generalize (f1 (m + 1)) = l at *
              generalize (f0 m) = a' at *
              generalize (f1 m) = l' at *
              go_wp2_with fail
              have c0 : (wr.alloc (.cells #[.int .i64 a, .int .i64 l] 122)).cell? ⟨wr.heap.size, 0, none⟩ = some (.int .i64 a) := by simp [go_sem]
              have c1 : (wr.alloc (.cells #[.int .i64 a, .int .i64 l] 122)).cell? ⟨wr.heap.size, 1, none⟩ = some (.int .i64 l) := by simp [go_sem]
              have k0 := cell_regrown c0
              have k1 := cell_regrown c1
              refine wp_region_quiet_below (by kernel_rfl) (by kernel_rfl) ?_
              repeat (first | go_big_quiet_step (((first | (go_at_call 128; exact Calls.regrown_of (s1.out _)) | (go_at_call 129; exact Calls.regrown_of (s3.out _))))) | quiet_step (((first | (go_at_call 128; exact Calls.regrown_of (s1.out _)) | (go_at_call 129; exact Calls.regrown_of (s3.out _))))))
              refine wpQuiet_nil ?_
              intro _ hw'
              obtain ⟨⟨dq, osq⟩, hw''⟩ := hw'
              subst hw''
              have hq := below_regrown (wr.alloc (.cells #[.int .i64 a, .int .i64 l] 122)) dq osq
              generalize Go.Sort.grow (redrawn (wr.alloc (.cells #[.int .i64 a, .int .i64 l] 122)) dq) osq = wq at hq ⊢
              have hbq := hb.trans ((below_box hq).mono hb.size)
              clear hq k0 k1 c0 c1
              go_wp2_with fail
              exact ⟨⟨m + 1 + 1, by omega, by go_num, hbq, hN.out⟩, by simp [intOf]; omega⟩
            · have hE1 : nlriOk f0 f1 (m + 1) = false := by rw [hok]; simpa using hc
              have hN := hide (hfin.out hE1)
              have hcd : decide (cmpP (f0 m) (f1 m) (f0 (m + 1)) (f1 (m + 1)) < 0) = false := by simpa using hc
              rw [hcd] at s3
              clear hcd
              clear hg hE hok hfin hnext hE1 hz hz' i0 i1 j0 j1 hall hc
              generalize (f0 (m + 1)) = a at *
              generalize (f1 (m + 1)) = l at *
              generalize (f0 m) = a' at *
              generalize (f1 m) = l' at *
              go_wp2_with fail
              have c0 : (wr.alloc (.cells #[.int .i64 a, .int .i64 l] 122)).cell? ⟨wr.heap.size, 0, none⟩ = some (.int .i64 a) := by simp [go_sem]
              have c1 : (wr.alloc (.cells #[.int .i64 a, .int .i64 l] 122)).cell? ⟨wr.heap.size, 1, none⟩ = some (.int .i64 l) := by simp [go_sem]
              have k0 := cell_regrown c0
              have k1 := cell_regrown c1
              refine wp_region_quiet_below (by kernel_rfl) (by kernel_rfl) ?_
              repeat (first | go_big_quiet_step (((first | (go_at_call 128; exact Calls.regrown_of (s1.out _)) | (go_at_call 129; exact Calls.regrown_of (s3.out _))))) | quiet_step (((first | (go_at_call 128; exact Calls.regrown_of (s1.out _)) | (go_at_call 129; exact Calls.regrown_of (s3.out _))))))
              refine wpQuiet_nil ?_
              intro _ hw'
              obtain ⟨⟨dq, osq⟩, hw''⟩ := hw'
              subst hw''
              have hq := below_regrown (wr.alloc (.cells #[.int .i64 a, .int .i64 l] 122)) dq osq
              generalize Go.Sort.grow (redrawn (wr.alloc (.cells #[.int .i64 a, .int .i64 l] 122)) dq) osq = wq at hq ⊢
              have hbq := hb.trans ((below_box hq).mono hb.size)
              clear hq k0 k1 c0 c1
              go_wp2_with fail
              go_ret
              exact ⟨ret_bool hN.out.symm, hbq⟩
        · have hg' : goodB (f0 k) (f1 k) = false := by simpa using hg
          have hE1 : nlriOk f0 f1 k = false := by rw [hok.out, hg']; rfl
          rw [hg'] at s1
          have hN := hide (hfin.out hE1)
          clear hg hg' hE hok hfin hnext hE1 hall
          generalize (f0 k) = a at *
          generalize (f1 k) = l at *
          go_wp2_with fail
          have c0 : (wr.alloc (.cells #[.int .i64 a, .int .i64 l] 122)).cell? ⟨wr.heap.size, 0, none⟩ = some (.int .i64 a) := by simp [go_sem]
          have c1 : (wr.alloc (.cells #[.int .i64 a, .int .i64 l] 122)).cell? ⟨wr.heap.size, 1, none⟩ = some (.int .i64 l) := by simp [go_sem]
          have k0 := cell_regrown c0
          have k1 := cell_regrown c1
          refine wp_region_quiet_below (by kernel_rfl) (by kernel_rfl) ?_
          repeat (first | go_big_quiet_step (((first | (go_at_call 128; exact Calls.regrown_of (s1.out _))))) | quiet_step (((first | (go_at_call 128; exact Calls.regrown_of (s1.out _))))))
          refine wpQuiet_nil ?_
          intro _ hw'
          obtain ⟨⟨dq, osq⟩, hw''⟩ := hw'
          subst hw''
          have hq := below_regrown (wr.alloc (.cells #[.int .i64 a, .int .i64 l] 122)) dq osq
          generalize Go.Sort.grow (redrawn (wr.alloc (.cells #[.int .i64 a, .int .i64 l] 122)) dq) osq = wq at hq ⊢
          have hbq := hb.trans ((below_box hq).mono hb.size)
          clear hq k0 k1 c0 c1
          go_wp2_with fail
          go_ret
          exact ⟨ret_bool hN.out.symm, hbq⟩
      · have hk' : k = len := by omega
        subst hk'
        have hA := hide hall
        clear hall hlt hk hE
        go_wp2_with fail
        go_ret
        exact ⟨ret_bool (by unfold nlriB; rw [hA.out, hd.out]; rfl), hb⟩
  · have hten' : ((len : Int) > 10) := by omega
    have hd : Hid (nlriB len f0 f1 = false) := by
      show nlriB len f0 f1 = false
      unfold nlriB
      rw [decide_eq_false hten]
      rfl
    clear hten
    go_enter Try.func96, Try.ntmps96
    go_wp2_with fail
    go_ret
    exact ⟨ret_bool hd.out.symm, Below.refl _ _⟩
set_option maxRecDepth 100000 in
set_option maxHeartbeats 1600000 in
theorem i_zero (o nx md pf : Int) (a0 : Option Addr) (n0 c0 : Nat) (a1 : Option Addr) (n1 c1 : Nat) (w : World) :
    Calls Try.prog 99 #[.agg #[.int .i64 o, .slice a0 n0 c0, .int .i64 nx, .int .i64 md, .int .i64 pf, .slice a1 n1 c1]] w fun e w' => e = .returned (.bool (zeroB o nx md pf n0 n1)) ∧ Below w.heap.size w w' := by
  have hdef : Hid (zeroB o nx md pf n0 n1 = (o == 0 && nx == 0 && md == 0 && pf == 0 && n0 == 0 && n1 == 0)) := rfl
  by_cases xo : o = 0
  · by_cases xnx : nx = 0
    · by_cases xmd : md = 0
      · by_cases xpf : pf = 0
        · by_cases xn0 : n0 = 0
          · by_cases xn1 : n1 = 0
            · have hv := hide (hdef.out.trans (show _ = true by simp [xo, xnx, xmd, xpf, xn0, xn1]))
              have yo : (o == 0) = true := by simp [xo]
              have ynx : (nx == 0) = true := by simp [xnx]
              have ymd : (md == 0) = true := by simp [xmd]
              have ypf : (pf == 0) = true := by simp [xpf]
              have yn0 : ((n0 : Int) == 0) = true := by simp; omega
              have yn1 : ((n1 : Int) == 0) = true := by simp; omega
              clear hdef xo xnx xmd xpf xn0 xn1
              go_enter Try.func99, Try.ntmps99
              go_wp2_with fail
              go_ret
              exact ⟨ret_bool hv.out.symm, below_box (Below.refl _ _)⟩
            · have hv := hide (hdef.out.trans (show _ = false by simp [xo, xnx, xmd, xpf, xn0, xn1]))
              have yo : (o == 0) = true := by simp [xo]
              have ynx : (nx == 0) = true := by simp [xnx]
              have ymd : (md == 0) = true := by simp [xmd]
              have ypf : (pf == 0) = true := by simp [xpf]
              have yn0 : ((n0 : Int) == 0) = true := by simp; omega
              have yn1 : ((n1 : Int) == 0) = false := by simp; omega
              clear hdef xo xnx xmd xpf xn0 xn1
              go_enter Try.func99, Try.ntmps99
              go_wp2_with fail
              go_ret
              exact ⟨ret_bool hv.out.symm, below_box (Below.refl _ _)⟩
          · have hv := hide (hdef.out.trans (show _ = false by simp [xo, xnx, xmd, xpf, xn0]))
            have yo : (o == 0) = true := by simp [xo]
            have ynx : (nx == 0) = true := by simp [xnx]
            have ymd : (md == 0) = true := by simp [xmd]
            have ypf : (pf == 0) = true := by simp [xpf]
            have yn0 : ((n0 : Int) == 0) = false := by simp; omega
            clear hdef xo xnx xmd xpf xn0
            go_enter Try.func99, Try.ntmps99
            go_wp2_with fail
            go_ret
            exact ⟨ret_bool hv.out.symm, below_box (Below.refl _ _)⟩
        · have hv := hide (hdef.out.trans (show _ = false by simp [xo, xnx, xmd, xpf]))
          have yo : (o == 0) = true := by simp [xo]
          have ynx : (nx == 0) = true := by simp [xnx]
          have ymd : (md == 0) = true := by simp [xmd]
          have ypf : (pf == 0) = false := by simp [xpf]
          clear hdef xo xnx xmd xpf
          go_enter Try.func99, Try.ntmps99
          go_wp2_with fail
          go_ret
          exact ⟨ret_bool hv.out.symm, below_box (Below.refl _ _)⟩
      · have hv := hide (hdef.out.trans (show _ = false by simp [xo, xnx, xmd]))
        have yo : (o == 0) = true := by simp [xo]
        have ynx : (nx == 0) = true := by simp [xnx]
        have ymd : (md == 0) = false := by simp [xmd]
        clear hdef xo xnx xmd
        go_enter Try.func99, Try.ntmps99
        go_wp2_with fail
        go_ret
        exact ⟨ret_bool hv.out.symm, below_box (Below.refl _ _)⟩
    · have hv := hide (hdef.out.trans (show _ = false by simp [xo, xnx]))
      have yo : (o == 0) = true := by simp [xo]
      have ynx : (nx == 0) = false := by simp [xnx]
      clear hdef xo xnx
      go_enter Try.func99, Try.ntmps99
      go_wp2_with fail
      go_ret
      exact ⟨ret_bool hv.out.symm, below_box (Below.refl _ _)⟩
  · have hv := hide (hdef.out.trans (show _ = false by simp [xo]))
    have yo : (o == 0) = false := by simp [xo]
    clear hdef xo
    go_enter Try.func99, Try.ntmps99
    go_wp2_with fail
    go_ret
    exact ⟨ret_bool hv.out.symm, below_box (Below.refl _ _)⟩
end Go.Proofs.Ytoeephmdklmpfaa
