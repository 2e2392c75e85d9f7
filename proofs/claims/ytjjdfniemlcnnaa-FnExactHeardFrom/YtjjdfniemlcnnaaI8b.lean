/- slices.MinFunc at offers, bestPeer, BestOffer of the program. -/
import Derived.Test.YtjjdfniemlcnnaaI8a
import Derived.Lib.QuietBelow
import Derived.Deep.RegionHeld3
namespace Go.Proofs.Ytjjdfniemlcnnaa
open Go.RowKit

set_option maxRecDepth 100000 in
set_option maxHeartbeats 3200000 in
theorem i_minO (a : Option Addr) (n c : Nat) (T : Nat → Oc) (w : World) (hn : n ≤ 1048576) (h0 : 0 < n) (hR : RowO a n T w) :
    Calls Try.prog 100 #[.slice a n c, .func (.func 101) #[] #[]] w fun e w' => (∃ b0 e0 b1 e1, e = .returned (.agg #[.int .i64 (T (pkO T (n - 1))).pe, .int .i64 (T (pkO T (n - 1))).o, .slice b0 (T (pkO T (n - 1))).n0 e0, .int .i64 (T (pkO T (n - 1))).nx, .int .i64 (T (pkO T (n - 1))).md, .int .i64 (T (pkO T (n - 1))).pf, .slice b1 (T (pkO T (n - 1))).n1 e1])) ∧ Below w.heap.size w w' := by
  have h1 : ¬ ((n : Int) < 1) := by omega
  have h2 : (0 : Int) < n := by omega
  obtain ⟨b, off, a0, c0, a1, c1, rfl, hbw, u0, u1, u2, u3, u4, u5, u6, _⟩ := hR 0 h0
  simp only [Nat.zero_mul, Nat.add_zero] at u0 u1 u2 u3 u4 u5 u6
  have M := Mut.new (w.alloc (.cells #[.int .i64 0, .int .i64 0, .slice none 0 0, .int .i64 0, .int .i64 0, .int .i64 0, .slice none 0 0] 49)) #[.int .i64 (T 0).pe, .int .i64 (T 0).o, .slice a0 (T 0).n0 c0, .int .i64 (T 0).nx, .int .i64 (T 0).md, .int .i64 (T 0).pf, .slice a1 (T 0).n1 c1] 49
  have d0 : Below w.heap.size w ((w.alloc (.cells #[.int .i64 0, .int .i64 0, .slice none 0 0, .int .i64 0, .int .i64 0, .int .i64 0, .slice none 0 0] 49)).alloc (.cells #[.int .i64 (T 0).pe, .int .i64 (T 0).o, .slice a0 (T 0).n0 c0, .int .i64 (T 0).nx, .int .i64 (T 0).md, .int .i64 (T 0).pf, .slice a1 (T 0).n1 c1] 49)) := below_box2 (Below.refl _ _)
  have M2 := (Mut.new w #[.int .i64 0, .int .i64 0, .slice none 0 0, .int .i64 0, .int .i64 0, .int .i64 0, .slice none 0 0] 49).alloc (.cells #[.int .i64 (T 0).pe, .int .i64 (T 0).o, .slice a0 (T 0).n0 c0, .int .i64 (T 0).nx, .int .i64 (T 0).md, .int .i64 (T 0).pf, .slice a1 (T 0).n1 c1] 49)
  rw [World.size_alloc] at M
  go_enter Try.func100, Try.ntmps100
  go_wp2_with fail
  generalize (w.alloc (.cells #[.int .i64 0, .int .i64 0, .slice none 0 0, .int .i64 0, .int .i64 0, .int .i64 0, .slice none 0 0] 49)).alloc (.cells #[.int .i64 (T 0).pe, .int .i64 (T 0).o, .slice a0 (T 0).n0 c0, .int .i64 (T 0).nx, .int .i64 (T 0).md, .int .i64 (T 0).pf, .slice a1 (T 0).n1 c1] 49) = w1 at *
  clear u0 u1 u2 u3 u4 u5 u6
  go_loopw [6] (fun y wr => ∃ k : Nat, y = .int .i64 ((k : Int) + 1) ∧ k + 1 ≤ n ∧ (∃ b0 e0 b1 e1, Mut wr (w.heap.size + 1) [.int .i64 (T (pkO T k)).pe, .int .i64 (T (pkO T k)).o, .slice b0 (T (pkO T k)).n0 e0, .int .i64 (T (pkO T k)).nx, .int .i64 (T (pkO T k)).md, .int .i64 (T (pkO T k)).pf, .slice b1 (T (pkO T k)).n1 e1]) ∧ Mut wr w.heap.size [.int .i64 0, .int .i64 0, .slice none 0 0, .int .i64 0, .int .i64 0, .int .i64 0, .slice none 0 0] ∧ Below w.heap.size w wr) (fun y _ => n - (intOf y).toNat)
  case atStart => exact ⟨0, rfl, by omega, ⟨a0, c0, a1, c1, M⟩, M2, d0⟩
  case round =>
    clear M d0 M2
    obtain ⟨k, rfl, hk, ⟨b0, e0, b1, e1, M⟩, M2, hb⟩ := hrel
    have hpk : Hid (pkO T (k + 1) = if cmpO (T (k + 1)) (T (pkO T k)) < 0 then k + 1 else pkO T k) := rfl
    by_cases hlt : k + 1 < n
    · obtain ⟨b', off', a0', c0', a1', c1', hbo, _, u0, u1, u2, u3, u4, u5, u6, _⟩ := hR (k + 1) hlt
      simp only [Option.some.injEq, Addr.mk.injEq, and_true] at hbo
      obtain ⟨rfl, rfl⟩ := hbo
      replace u0 := (hb.cell (p := ⟨b, off + (k + 1) * 7, none⟩) hbw).trans u0
      replace u1 := (hb.cell (p := ⟨b, off + (k + 1) * 7 + 1, none⟩) hbw).trans u1
      replace u2 := (hb.cell (p := ⟨b, off + (k + 1) * 7 + 2, none⟩) hbw).trans u2
      replace u3 := (hb.cell (p := ⟨b, off + (k + 1) * 7 + 3, none⟩) hbw).trans u3
      replace u4 := (hb.cell (p := ⟨b, off + (k + 1) * 7 + 4, none⟩) hbw).trans u4
      replace u5 := (hb.cell (p := ⟨b, off + (k + 1) * 7 + 5, none⟩) hbw).trans u5
      replace u6 := (hb.cell (p := ⟨b, off + (k + 1) * 7 + 6, none⟩) hbw).trans u6
      have hlt' : (k : Int) + 1 < (n : Int) := by omega
      have hnn : ((k : Int) + 1).toNat = k + 1 := by omega
      have C := hide (fun w => i_orderO a0' c0' a1' c1' (T (k + 1)) b0 e0 b1 e1 (T (pkO T k)) w)
      clear hR
      generalize cmpO (T (k + 1)) (T (pkO T k)) = r at *
      by_cases hr : r < 0
      · have hN := hide (hpk.out.trans (if_pos hr))
        have hr' : decide (r < 0) = true := by simp [hr]
        clear hpk
        generalize hT1 : T (pkO T k) = t at *
        go_wp2_with fail
        have k0 := cell_regrown (M.2.1 0 _ rfl)
        have k1 := cell_regrown (M.2.1 1 _ rfl)
        have k2 := cell_regrown (M.2.1 2 _ rfl)
        have k3 := cell_regrown (M.2.1 3 _ rfl)
        have k4 := cell_regrown (M.2.1 4 _ rfl)
        have k5 := cell_regrown (M.2.1 5 _ rfl)
        have k6 := cell_regrown (M.2.1 6 _ rfl)
        have l0 := cell_regrown u0
        have l1 := cell_regrown u1
        have l2 := cell_regrown u2
        have l3 := cell_regrown u3
        have l4 := cell_regrown u4
        have l5 := cell_regrown u5
        have l6 := cell_regrown u6
        refine wp_region_quiet_below (by kernel_rfl) (by kernel_rfl) ?_
        repeat (first | go_big_quiet_step ((go_at_call 101; exact Calls.regrown_of ((C.out _).mono (fun e w h => ⟨h.1, h.2.1⟩)))) | quiet_step ((go_at_call 101; exact Calls.regrown_of ((C.out _).mono (fun e w h => ⟨h.1, h.2.1⟩)))))
        refine wpQuiet_nil ?_
        intro _ hw'
        obtain ⟨⟨dq, osq⟩, hw''⟩ := hw'
        subst hw''
        have hq := below_regrown wr dq osq
        generalize Go.Sort.grow (redrawn wr dq) osq = wq at hq ⊢
        have hbq := hb.trans (hq.mono hb.size)
        have hbr : b < wr.heap.size := Nat.lt_of_lt_of_le hbw hb.size
        replace M := M.below hq
        replace M2 := M2.below hq
        have c0 := (hq.cell (p := ⟨b, off + (k + 1) * 7, none⟩) hbr).trans u0
        have c1 := (hq.cell (p := ⟨b, off + (k + 1) * 7 + 1, none⟩) hbr).trans u1
        have c2 := (hq.cell (p := ⟨b, off + (k + 1) * 7 + 2, none⟩) hbr).trans u2
        have c3 := (hq.cell (p := ⟨b, off + (k + 1) * 7 + 3, none⟩) hbr).trans u3
        have c4 := (hq.cell (p := ⟨b, off + (k + 1) * 7 + 4, none⟩) hbr).trans u4
        have c5 := (hq.cell (p := ⟨b, off + (k + 1) * 7 + 5, none⟩) hbr).trans u5
        have c6 := (hq.cell (p := ⟨b, off + (k + 1) * 7 + 6, none⟩) hbr).trans u6
        clear u0 u1 u2 u3 u4 u5 u6
        clear k0 k1 k2 k3 k4 k5 k6 l0 l1 l2 l3 l4 l5 l6 hq C
        have z0 := M.2.2 0 (by simp)
        have y0 := M.2.1 0 _ rfl
        have z1 := M.2.2 1 (by simp)
        have y1 := M.2.1 1 _ rfl
        have z2 := M.2.2 2 (by simp)
        have y2 := M.2.1 2 _ rfl
        have z3 := M.2.2 3 (by simp)
        have y3 := M.2.1 3 _ rfl
        have z4 := M.2.2 4 (by simp)
        have y4 := M.2.1 4 _ rfl
        have z5 := M.2.2 5 (by simp)
        have y5 := M.2.1 5 _ rfl
        have z6 := M.2.2 6 (by simp)
        have y6 := M.2.1 6 _ rfl
        go_wp2_with fail
        refine ⟨⟨k + 1, by go_num, by omega, ⟨a0', c0', a1', c1', ?_⟩, ?_, ?_⟩, by simp [intOf]; omega⟩
        · rw [hN.out]
          exact (((((((M.set 0 (.int .i64 (T (k + 1)).pe)).set 1 (.int .i64 (T (k + 1)).o)).set 2 (.slice a0' (T (k + 1)).n0 c0')).set 3 (.int .i64 (T (k + 1)).nx)).set 4 (.int .i64 (T (k + 1)).md)).set 5 (.int .i64 (T (k + 1)).pf)).set 6 (.slice a1' (T (k + 1)).n1 c1'))
        · exact (((((((M2.other (c := w.heap.size + 1) (by omega) 0 (.int .i64 (T (k + 1)).pe)).other (c := w.heap.size + 1) (by omega) 1 (.int .i64 (T (k + 1)).o)).other (c := w.heap.size + 1) (by omega) 2 (.slice a0' (T (k + 1)).n0 c0')).other (c := w.heap.size + 1) (by omega) 3 (.int .i64 (T (k + 1)).nx)).other (c := w.heap.size + 1) (by omega) 4 (.int .i64 (T (k + 1)).md)).other (c := w.heap.size + 1) (by omega) 5 (.int .i64 (T (k + 1)).pf)).other (c := w.heap.size + 1) (by omega) 6 (.slice a1' (T (k + 1)).n1 c1'))
        · exact (((((((hbq.setCell (p := ⟨w.heap.size + 1, 0, none⟩) (Nat.le_succ _) (.int .i64 (T (k + 1)).pe)).setCell (p := ⟨w.heap.size + 1, 1, none⟩) (Nat.le_succ _) (.int .i64 (T (k + 1)).o)).setCell (p := ⟨w.heap.size + 1, 2, none⟩) (Nat.le_succ _) (.slice a0' (T (k + 1)).n0 c0')).setCell (p := ⟨w.heap.size + 1, 3, none⟩) (Nat.le_succ _) (.int .i64 (T (k + 1)).nx)).setCell (p := ⟨w.heap.size + 1, 4, none⟩) (Nat.le_succ _) (.int .i64 (T (k + 1)).md)).setCell (p := ⟨w.heap.size + 1, 5, none⟩) (Nat.le_succ _) (.int .i64 (T (k + 1)).pf)).setCell (p := ⟨w.heap.size + 1, 6, none⟩) (Nat.le_succ _) (.slice a1' (T (k + 1)).n1 c1'))
      · have hN := hide (hpk.out.trans (if_neg hr))
        have hr' : decide (r < 0) = false := by simp [hr]
        clear hpk
        go_wp2_with fail
        have k0 := cell_regrown (M.2.1 0 _ rfl)
        have k1 := cell_regrown (M.2.1 1 _ rfl)
        have k2 := cell_regrown (M.2.1 2 _ rfl)
        have k3 := cell_regrown (M.2.1 3 _ rfl)
        have k4 := cell_regrown (M.2.1 4 _ rfl)
        have k5 := cell_regrown (M.2.1 5 _ rfl)
        have k6 := cell_regrown (M.2.1 6 _ rfl)
        have l0 := cell_regrown u0
        have l1 := cell_regrown u1
        have l2 := cell_regrown u2
        have l3 := cell_regrown u3
        have l4 := cell_regrown u4
        have l5 := cell_regrown u5
        have l6 := cell_regrown u6
        refine wp_region_quiet_below (by kernel_rfl) (by kernel_rfl) ?_
        repeat (first | go_big_quiet_step ((go_at_call 101; exact Calls.regrown_of ((C.out _).mono (fun e w h => ⟨h.1, h.2.1⟩)))) | quiet_step ((go_at_call 101; exact Calls.regrown_of ((C.out _).mono (fun e w h => ⟨h.1, h.2.1⟩)))))
        refine wpQuiet_nil ?_
        intro _ hw'
        obtain ⟨⟨dq, osq⟩, hw''⟩ := hw'
        subst hw''
        have hq := below_regrown wr dq osq
        generalize Go.Sort.grow (redrawn wr dq) osq = wq at hq ⊢
        have hbq := hb.trans (hq.mono hb.size)
        replace M := M.below hq
        replace M2 := M2.below hq
        clear k0 k1 k2 k3 k4 k5 k6 l0 l1 l2 l3 l4 l5 l6 hq C u0 u1 u2 u3 u4 u5 u6
        go_wp2_with fail
        exact ⟨⟨k + 1, by go_num, by omega, ⟨b0, e0, b1, e1, by rw [hN.out]; exact M⟩, M2, hbq⟩, by simp [intOf]; omega⟩
    · have hlt' : ¬ ((k : Int) + 1 < (n : Int)) := by omega
      obtain rfl : n = k + 1 := by omega
      clear hpk hR
      have z0 := M2.2.2 0 (by simp)
      have x0 := M2.2.1 0 _ rfl
      have y0 := M.2.1 0 _ rfl
      have z1 := M2.2.2 1 (by simp)
      have x1 := M2.2.1 1 _ rfl
      have y1 := M.2.1 1 _ rfl
      have z2 := M2.2.2 2 (by simp)
      have x2 := M2.2.1 2 _ rfl
      have y2 := M.2.1 2 _ rfl
      have z3 := M2.2.2 3 (by simp)
      have x3 := M2.2.1 3 _ rfl
      have y3 := M.2.1 3 _ rfl
      have z4 := M2.2.2 4 (by simp)
      have x4 := M2.2.1 4 _ rfl
      have y4 := M.2.1 4 _ rfl
      have z5 := M2.2.2 5 (by simp)
      have x5 := M2.2.1 5 _ rfl
      have y5 := M.2.1 5 _ rfl
      have z6 := M2.2.2 6 (by simp)
      have x6 := M2.2.1 6 _ rfl
      have y6 := M.2.1 6 _ rfl
      clear M M2
      go_wp2_with fail
      exact bodyPost_ret (v := .agg #[.int .i64 (T (pkO T k)).pe, .int .i64 (T (pkO T k)).o, .slice b0 (T (pkO T k)).n0 e0, .int .i64 (T (pkO T k)).nx, .int .i64 (T (pkO T k)).md, .int .i64 (T (pkO T k)).pf, .slice b1 (T (pkO T k)).n1 e1]) (by simp [results, Try.results100, go_sem, *]) rfl ⟨⟨b0, e0, b1, e1, rfl⟩, by
        refine (Below.setCell (Below.setCell (Below.setCell (Below.setCell (Below.setCell (Below.setCell (Below.setCell hb ?_ _) ?_ _) ?_ _) ?_ _) ?_ _) ?_ _) ?_ _) <;> (simp; try omega)⟩
theorem fld_peer (t : Oc) (b0 : Option Addr) (e0 : Nat) (b1 : Option Addr) (e1 : Nat) (w : World) : (Instr.field 49 (.agg #[.int .i64 t.pe, .int .i64 t.o, .slice b0 t.n0 e0, .int .i64 t.nx, .int .i64 t.md, .int .i64 t.pf, .slice b1 t.n1 e1]) 0).run Try.prog w = .ok (.int .i64 t.pe) w := by kernel_rfl
set_option maxRecDepth 100000 in
set_option maxHeartbeats 1600000 in
theorem i_bestPeer (a : Option Addr) (n c : Nat) (T : Nat → Oc) (w : World) (hn : n ≤ 1048576) (hR : RowO a n T w) :
    Calls Try.prog 94 #[.slice a n c] w fun e w' => e = .returned (.tuple #[.int .i64 (if 0 < n then (T (pkO T (n - 1))).pe else 0), .bool (decide (0 < n))]) ∧ Below w.heap.size w w' := by
  by_cases h0 : n = 0
  · subst h0
    go_enter Try.func94, Try.ntmps94
    go_wp2_with fail
    go_ret2
    exact ⟨rfl, Below.refl _ _⟩
  · have h0' : ((n : Int) == 0) = false := by simp; omega
    have h1 : 0 < n := by omega
    have M := hide (fun w R => i_minO a n c T w hn h1 R)
    have hf := fld_peer
    rw [if_pos h1, decide_eq_true h1]
    generalize T (pkO T (n - 1)) = t at *
    go_enter Try.func94, Try.ntmps94
    go_wp2_with fail
    refine (M.out _ hR).mono ?_
    rintro e w1 ⟨⟨b0, e0, b1, e1, rfl⟩, d1⟩
    go_wp2_with fail
    go_ret2
    exact ⟨rfl, d1⟩
end Go.Proofs.Ytjjdfniemlcnnaa
