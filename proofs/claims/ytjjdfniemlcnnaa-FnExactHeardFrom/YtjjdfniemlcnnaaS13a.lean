/- l13At of the specification: where a prefix's row stands. -/
import Derived.Test.YtjjdfniemlcnnaaPlain13b
import Derived.Test.YtjjdfniemlcnnaaAll7
import Derived.Lib.QuietBelow
namespace Go.Proofs.Ytjjdfniemlcnnaa
open Go.RowKit

set_option maxRecDepth 100000 in
set_option maxHeartbeats 3200000 in
theorem s_l13At (ow : Int) (a : Option Addr) (n c : Nat) (U : Nat → Rc) (pa pl : Int) (w : World) (hn : n ≤ 1048576) (hR : RowR a n U w) :
    Calls Try.prog 68 #[.agg #[.int .i64 ow, .slice a n c], .agg #[.int .i64 pa, .int .i64 pl]] w fun e w' => e = .returned (.tuple #[.int .i64 (plN U n pa pl : Int), .bool (plK U n pa pl)]) ∧ Below w.heap.size w w' := by
  have he := eqPrefix_run
  have hgu := eqPrefix_guard
  have hB0 : Below w.heap.size w ((w.alloc (.cells #[.int .i64 ow, .slice a n c] 24)).alloc (.cells #[.int .i64 pa, .int .i64 pl] 52)) := below_box2 (Below.refl _ _)
  have MB := (Mut.new w #[.int .i64 ow, .slice a n c] 24).alloc (.cells #[.int .i64 pa, .int .i64 pl] 52)
  have MP := Mut.new (w.alloc (.cells #[.int .i64 ow, .slice a n c] 24)) #[.int .i64 pa, .int .i64 pl] 52
  simp only [World.size_alloc] at MP
  go_enter Try.func68, Try.ntmps68
  go_wp2_with fail
  generalize (w.alloc (.cells #[.int .i64 ow, .slice a n c] 24)).alloc (.cells #[.int .i64 pa, .int .i64 pl] 52) = W at *
  go_loopw [6] (fun y wr => ∃ k : Nat, y = .int .i64 k ∧ k ≤ n ∧ Hid (∀ i, i < k → cmpP (U i).ad (U i).ln pa pl < 0) ∧ Below W.heap.size W wr) (fun y _ => n - (intOf y).toNat)
  case atStart => exact ⟨0, rfl, Nat.zero_le _, fun i hi => absurd hi (by omega), Below.refl _ _⟩
  case round =>
    obtain ⟨k, rfl, hk, hall, hb⟩ := hrel
    have MBr := MB.below hb
    have MPr := MP.below hb
    have hbw0 := hB0.trans (hb.mono hB0.size)
    have m1 := cell_regrown (MBr.2.1 1 _ rfl)
    have p0 := cell_regrown (MPr.2.1 0 _ rfl)
    have p1 := cell_regrown (MPr.2.1 1 _ rfl)
    clear MB MP
    by_cases hlt : k < n
    · obtain ⟨b, off, a0, c0, rfl, hbw, u0, u1, u2, ht⟩ := hR k hlt
      have u0r := (hbw0.cell (p := ⟨b, off + k * 3, none⟩) hbw).trans u0
      have u1r := (hbw0.cell (p := ⟨b, off + k * 3 + 1, none⟩) hbw).trans u1
      replace u0 := cell_regrown ((hbw0.cell (p := ⟨b, off + k * 3, none⟩) hbw).trans u0)
      replace u1 := cell_regrown ((hbw0.cell (p := ⟨b, off + k * 3 + 1, none⟩) hbw).trans u1)
      replace u2 := (hbw0.cell (p := ⟨b, off + k * 3 + 2, none⟩) hbw).trans u2
      have hlt' : (k : Int) < (n : Int) := by omega
      have CPc := hide (fun w => s_compare1 (U k).ad (U k).ln pa pl w)
      have hbr : b < wr.heap.size := Nat.lt_of_lt_of_le hbw hbw0.size
      clear ht u2 hR
      by_cases hr : cmpP (U k).ad (U k).ln pa pl < 0
      · have hN : Hid (∀ i, i < k + 1 → cmpP (U i).ad (U i).ln pa pl < 0) := by
          intro i hi
          by_cases cc : i = k
          · rw [cc]; exact hr
          · exact hall.out i (by omega)
        clear hall
        generalize cmpP (U k).ad (U k).ln pa pl = cc at *
        generalize (U k).ad = ua at *
        generalize (U k).ln = ul at *
        clear u0r u1r
        go_wp2_with fail
        refine wp_region_quiet_below (by kernel_rfl) (by kernel_rfl) ?_
        repeat (first | go_big_quiet_step ((go_at_call 35; exact Calls.regrown_of (CPc.out _))) | quiet_step ((go_at_call 35; exact Calls.regrown_of (CPc.out _))))
        refine wpQuiet_nil ?_
        intro _ hw'
        obtain ⟨⟨dq, osq⟩, hw''⟩ := hw'
        subst hw''
        have hq := below_regrown wr dq osq
        generalize Go.Sort.grow (redrawn wr dq) osq = wq at hq ⊢
        have hbq := hb.trans (hq.mono hb.size)
        clear hq m1 p0 p1 u0 u1 MBr MPr
        go_wp2_with fail
        exact ⟨⟨k + 1, by go_num, by omega, hN.out, hbq⟩, by simp [intOf]; omega⟩
      · have hpl := hide (pl_eq (U := U) (n := n) (a := pa) (l := pl) (k := k) ⟨hk, hall.out, fun _ => hr⟩)
        have hkk : Hid (plK U n pa pl = ((U k).ad == pa && (U k).ln == pl)) := by
          rw [Hid, plK, hpl.out]; simp [hlt]
        have u0' := hide u0r
        have u1' := hide u1r
        clear hall
        generalize cmpP (U k).ad (U k).ln pa pl = cc at *
        generalize (U k).ad = ua at *
        generalize (U k).ln = ul at *
        clear u0r u1r
        go_wp2_with fail
        refine wp_region_quiet_below (by kernel_rfl) (by kernel_rfl) ?_
        repeat (first | go_big_quiet_step ((go_at_call 35; exact Calls.regrown_of (CPc.out _))) | quiet_step ((go_at_call 35; exact Calls.regrown_of (CPc.out _))))
        refine wpQuiet_nil ?_
        intro _ hw'
        obtain ⟨⟨dq, osq⟩, hw''⟩ := hw'
        subst hw''
        have hq := below_regrown wr dq osq
        generalize Go.Sort.grow (redrawn wr dq) osq = wq at hq ⊢
        have hbq := hb.trans (hq.mono hb.size)
        clear m1 p0 p1 u0 u1
        have MBq := MBr.below hq
        have MPq := MPr.below hq
        have m1 := cell_regrown (MBq.2.1 1 _ rfl)
        have p0 := cell_regrown (MPq.2.1 0 _ rfl)
        have p1 := cell_regrown (MPq.2.1 1 _ rfl)
        have u0 := cell_regrown ((hq.cell (p := ⟨b, off + k * 3, none⟩) hbr).trans u0'.out)
        have u1 := cell_regrown ((hq.cell (p := ⟨b, off + k * 3 + 1, none⟩) hbr).trans u1'.out)
        clear hq
        go_wp2_with fail
        refine wp_region_quiet_below (by kernel_rfl) (by kernel_rfl) ?_
        repeat (first | go_big_quiet_step (fail) | quiet_step (fail))
        refine wpQuiet_nil ?_
        intro _ hw'
        obtain ⟨⟨dq, osq⟩, hw''⟩ := hw'
        subst hw''
        have hq := below_regrown wq dq osq
        generalize Go.Sort.grow (redrawn wq dq) osq = wq2 at hq ⊢
        have hbq2 := hbq.trans (hq.mono hbq.size)
        clear hq m1 p0 p1 u0 u1
        go_wp2_with fail
        go_ret2
        exact ⟨by rw [hpl.out, hkk.out]; rfl, hB0.trans (hbq2.mono hB0.size)⟩
    · have hlt' : ¬ (k : Int) < (n : Int) := by omega
      obtain rfl : k = n := by omega
      have hpl := hide (pl_eq (U := U) (n := k) (a := pa) (l := pl) (k := k) ⟨hk, hall.out, fun e => absurd e (by omega)⟩)
      have hkk : Hid (plK U k pa pl = false) := by
        rw [Hid, plK, hpl.out]; simp
      clear hall hR
      go_wp2_with fail
      refine wp_region_quiet_below (by kernel_rfl) (by kernel_rfl) ?_
      repeat (first | go_big_quiet_step (fail) | quiet_step (fail))
      refine wpQuiet_nil ?_
      intro _ hw'
      obtain ⟨⟨dq, osq⟩, hw''⟩ := hw'
      subst hw''
      have hq := below_regrown wr dq osq
      generalize Go.Sort.grow (redrawn wr dq) osq = wq at hq ⊢
      have hbq := hb.trans (hq.mono hb.size)
      clear m1 p0 p1
      have MBq := MBr.below hq
      have MPq := MPr.below hq
      have m1 := cell_regrown (MBq.2.1 1 _ rfl)
      have p0 := cell_regrown (MPq.2.1 0 _ rfl)
      have p1 := cell_regrown (MPq.2.1 1 _ rfl)
      clear hq
      go_wp2_with fail
      refine wp_region_quiet_below (by kernel_rfl) (by kernel_rfl) ?_
      repeat (first | go_big_quiet_step (fail) | quiet_step (fail))
      refine wpQuiet_nil ?_
      intro _ hw'
      obtain ⟨⟨dq, osq⟩, hw''⟩ := hw'
      subst hw''
      have hq := below_regrown wq dq osq
      generalize Go.Sort.grow (redrawn wq dq) osq = wq2 at hq ⊢
      have hbq2 := hbq.trans (hq.mono hbq.size)
      clear hq m1 p0 p1
      go_wp2_with fail
      go_ret2
      exact ⟨by rw [hpl.out, hkk.out]; rfl, hB0.trans (hbq2.mono hB0.size)⟩
end Go.Proofs.Ytjjdfniemlcnnaa
