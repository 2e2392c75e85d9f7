/- Lists of offers as the laws hand them over: their size, a copy, a comparison. -/
import Derived.Test.YtjjdfniemlcnnaaLawO
import Derived.Lib.QuietBelow
namespace Go.Proofs.Ytjjdfniemlcnnaa
open Go.RowKit

set_option maxRecDepth 100000 in
set_option maxHeartbeats 1600000 in
theorem w_szOfferS (a : Option Addr) (n c : Nat) (T : Nat → Oc) (m : Int) (w : World) (hn : n ≤ maxLen) (hx : MaxO n T) (hm : m ≤ 1048576) (hm0 : 0 ≤ m) (hR : RowO a n T w) :
    Calls Try.prog 76 #[.slice a n c, .int .i64 m] w fun e w' => e = .returned (.int .i64 (if (n : Int) + (totO T n : Int) ≤ m then m - (n : Int) - (totO T n : Int) else -1)) ∧ Below w.heap.size w w' := by
  unfold maxLen at hn
  generalize hRv : (if (n : Int) + (totO T n : Int) ≤ m then m - (n : Int) - (totO T n : Int) else -1) = R
  have hY : Hid ((n : Int) + (totO T n : Int) ≤ m → R = m - (n : Int) - (totO T n : Int)) := fun h => by rw [← hRv, if_pos h]
  have hN0 : Hid (¬ (n : Int) + (totO T n : Int) ≤ m → R = -1) := fun h => by rw [← hRv, if_neg h]
  clear hRv
  by_cases h0 : (n : Int) ≤ m
  · have q0 : ¬ (m - (n : Int) < 0) := by omega
    go_enter Try.func76, Try.ntmps76
    go_wp2_with fail
    go_loopw [1, 5] (fun x y wr => ∃ k : Nat, x = .int .i64 (m - (n : Int) - (totO T k : Int)) ∧ y = .int .i64 k ∧ k ≤ n ∧ (n : Int) + (totO T k : Int) ≤ m ∧ Below w.heap.size w wr) (fun _ y _ => n - (intOf y).toNat)
    case atStart => exact ⟨0, by simp [totO], rfl, Nat.zero_le _, by simp [totO]; omega, Below.refl _ _⟩
    case round =>
      obtain ⟨k, rfl, rfl, hk, hle, hb⟩ := hrel
      by_cases hlt : k < n
      · obtain ⟨b, off, a0, c0, a1, c1, rfl, hbw, u0, u1, u2, u3, u4, u5, u6, _⟩ := hR k hlt
        replace u0 := (hb.cell (p := ⟨b, off + k * 7, none⟩) hbw).trans u0
        replace u1 := (hb.cell (p := ⟨b, off + k * 7 + 1, none⟩) hbw).trans u1
        replace u2 := (hb.cell (p := ⟨b, off + k * 7 + 2, none⟩) hbw).trans u2
        replace u3 := (hb.cell (p := ⟨b, off + k * 7 + 3, none⟩) hbw).trans u3
        replace u4 := (hb.cell (p := ⟨b, off + k * 7 + 4, none⟩) hbw).trans u4
        replace u5 := (hb.cell (p := ⟨b, off + k * 7 + 5, none⟩) hbw).trans u5
        replace u6 := (hb.cell (p := ⟨b, off + k * 7 + 6, none⟩) hbw).trans u6
        have hlt' : (k : Int) < (n : Int) := by omega
        obtain ⟨l1, l2⟩ := hx k hlt
        have ST := hide (fun w => w_szOffer a0 c0 a1 c1 (T k) (m - (n : Int) - (totO T k : Int)) w l1 l2 (by omega) (by omega))
        have hs : Hid (totO T (k + 1) = totO T k + (T k).tot) := rfl
        have hmo := hide (totO_mono T (show k + 1 ≤ n by omega))
        generalize totO T k = tk at *
        generalize T k = t at *
        by_cases e : (t.tot : Int) ≤ m - (n : Int) - (tk : Int)
        · rw [if_pos e] at ST
          have q1 : ¬ (m - (n : Int) - (tk : Int) - (t.tot : Int) < 0) := by omega
          have hN : Hid (m - (n : Int) - (tk : Int) - (t.tot : Int) = m - (n : Int) - (totO T (k + 1) : Int) ∧ (n : Int) + (totO T (k + 1) : Int) ≤ m) := by
            have := hs.out
            exact ⟨by omega, by omega⟩
          clear hs hmo l1 l2 e
          go_wp2_with fail
          refine (ST.out _).mono ?_
          rintro e w3 ⟨rfl, b3⟩
          go_wp2_with fail
          exact ⟨⟨k + 1, by rw [hN.out.1], by go_num, by omega, hN.out.2, hb.trans (b3.mono hb.size)⟩, by simp [intOf]; omega⟩
        · rw [if_neg e] at ST
          have hE := hide (hN0.out (by have h1 := hs.out; have h2 := hmo.out; omega))
          clear hs hmo l1 l2 e
          go_wp2_with fail
          refine (ST.out _).mono ?_
          rintro e w3 ⟨rfl, b3⟩
          go_wp2_with fail
          go_ret
          exact ⟨by rw [hE.out]; rfl, hb.trans (b3.mono hb.size)⟩
      · have hlt' : ¬ (k : Int) < (n : Int) := by omega
        obtain rfl : k = n := by omega
        have hE := hide (hY.out hle)
        go_wp2_with fail
        go_ret
        exact ⟨by rw [hE.out]; rfl, hb⟩
  · have q0 : m - (n : Int) < 0 := by omega
    have hE := hide (hN0.out (by omega))
    go_enter Try.func76, Try.ntmps76
    go_wp2_with fail
    go_ret
    exact ⟨by rw [hE.out]; rfl, Below.refl _ _⟩
set_option maxRecDepth 100000 in
set_option maxHeartbeats 3200000 in
theorem w_eqOfferS (a a' : Option Addr) (n c c' : Nat) (T : Nat → Oc) (w : World) (hn : n ≤ 1048576) (hl : LowO n T) (hR : RowO a n T w) (hQ : RowO a' n T w) :
    Calls Try.prog 75 #[.slice a n c, .slice a' n c'] w fun e w' => e = .returned (.bool true) ∧ Below w.heap.size w w' := by
  have hne : ((n : Int) != (n : Int)) = false := by simp
  go_enter Try.func75, Try.ntmps75
  go_wp2_with fail
  go_loopw [5] (fun i wr => ∃ k : Nat, k ≤ n ∧ i = .int .i64 k ∧ Below w.heap.size w wr) (fun i _ => n - (intOf i).toNat)
  case atStart => exact ⟨0, Nat.zero_le _, rfl, Below.refl _ _⟩
  case round =>
    obtain ⟨k, hk, rfl, hb⟩ := hrel
    by_cases hlt : k < n
    · obtain ⟨b, off, a0, c0, a1, c1, rfl, hbw, u0, u1, u2, u3, u4, u5, u6, ht⟩ := hR k hlt
      obtain ⟨b', off', d0, e0, d1, e1, rfl, hbw', v0, v1, v2, v3, v4, v5, v6, hu⟩ := hQ k hlt
      replace u0 := cell_regrown ((hb.cell (p := ⟨b, off + k * 7, none⟩) hbw).trans u0)
      replace u1 := cell_regrown ((hb.cell (p := ⟨b, off + k * 7 + 1, none⟩) hbw).trans u1)
      replace u2 := cell_regrown ((hb.cell (p := ⟨b, off + k * 7 + 2, none⟩) hbw).trans u2)
      replace u3 := cell_regrown ((hb.cell (p := ⟨b, off + k * 7 + 3, none⟩) hbw).trans u3)
      replace u4 := cell_regrown ((hb.cell (p := ⟨b, off + k * 7 + 4, none⟩) hbw).trans u4)
      replace u5 := cell_regrown ((hb.cell (p := ⟨b, off + k * 7 + 5, none⟩) hbw).trans u5)
      replace u6 := cell_regrown ((hb.cell (p := ⟨b, off + k * 7 + 6, none⟩) hbw).trans u6)
      replace v0 := cell_regrown ((hb.cell (p := ⟨b', off' + k * 7, none⟩) hbw').trans v0)
      replace v1 := cell_regrown ((hb.cell (p := ⟨b', off' + k * 7 + 1, none⟩) hbw').trans v1)
      replace v2 := cell_regrown ((hb.cell (p := ⟨b', off' + k * 7 + 2, none⟩) hbw').trans v2)
      replace v3 := cell_regrown ((hb.cell (p := ⟨b', off' + k * 7 + 3, none⟩) hbw').trans v3)
      replace v4 := cell_regrown ((hb.cell (p := ⟨b', off' + k * 7 + 4, none⟩) hbw').trans v4)
      replace v5 := cell_regrown ((hb.cell (p := ⟨b', off' + k * 7 + 5, none⟩) hbw').trans v5)
      replace v6 := cell_regrown ((hb.cell (p := ⟨b', off' + k * 7 + 6, none⟩) hbw').trans v6)
      have hlt' : (k : Int) < (n : Int) := by omega
      obtain ⟨l1, l2⟩ := hl k hlt
      have E := hide (fun w hT hU => w_eqOffer a0 d0 c0 e0 a1 d1 c1 e1 (T k) w (by omega) (by omega) hT hU)
      have hT := hide (ht.below hb)
      have hU := hide (hu.below hb)
      clear hR hQ l1 l2 ht hu
      generalize T k = t at *
      go_wp2_with fail
      refine wp_region_quiet_below (by kernel_rfl) (by kernel_rfl) ?_
      repeat (first | go_big_quiet_step (((go_at_call 24; exact Calls.regrown_of (E.out _ (hT.out.below (below_regrown _ _ _)) (hU.out.below (below_regrown _ _ _)))))) | quiet_step (((go_at_call 24; exact Calls.regrown_of (E.out _ (hT.out.below (below_regrown _ _ _)) (hU.out.below (below_regrown _ _ _)))))))
      refine wpQuiet_nil ?_
      intro _ hw'
      obtain ⟨⟨dq, osq⟩, hw''⟩ := hw'
      subst hw''
      have hq := below_regrown wr dq osq
      generalize Go.Sort.grow (redrawn wr dq) osq = wq at hq ⊢
      have hbq := hb.trans (hq.mono hb.size)
      clear hq u0 u1 u2 u3 u4 u5 u6 v0 v1 v2 v3 v4 v5 v6
      go_wp2_with fail
      exact ⟨⟨k + 1, by omega, by go_num, hbq⟩, by simp [intOf]; omega⟩
    · have hlt' : ¬ (k : Int) < (n : Int) := by omega
      go_wp2_with fail
      go_ret
      exact ⟨rfl, hb⟩
set_option maxRecDepth 100000 in
set_option maxHeartbeats 3200000 in
theorem w_toOfferS (a : Option Addr) (n c : Nat) (T : Nat → Oc) (w : World) (hn : n ≤ 1048576) (hl : LowO n T) (hR : RowO a n T w) :
    Calls Try.prog 77 #[.slice a n c] w fun e w' => e = .returned (.slice (some ⟨w.heap.size, 0, none⟩) n n) ∧ (∃ X Y, RowOO w.heap.size n X Y w'.heap.size T w') ∧ FreeB w.heap.size (n * 7) w' ∧ Below w.heap.size w w' := by
  have hinfo : (Try.prog.info? 49).map (fun i => (i.zero, i.size, i.bytes)) = some (some (.agg #[.int .i64 0, .int .i64 0, .slice none 0 0, .int .i64 0, .int .i64 0, .int .i64 0, .slice none 0 0]), 7, 88) := by kernel_rfl
  obtain ⟨i, hi, hzz⟩ := Option.map_eq_some_iff.1 hinfo
  simp only [Prod.mk.injEq] at hzz
  obtain ⟨hz, hsz, hby⟩ := hzz
  have hmk := fun w : World => run_make (P := Try.prog) w 61 49 i _ Try.underlying61 hi hz .i64 .i64 (n : Int) (n : Int) (by omega) (by omega) (by rw [hby]; omega) (by omega)
  rw [hsz] at hmk
  clear hi hz hsz hby hinfo
  go_enter Try.func77, Try.ntmps77
  go_wp2_with fail
  clear hmk
  go_loopw [4] (fun y wr => ∃ k : Nat, y = .int .i64 k ∧ k ≤ n ∧ (∃ X Y, RowOO w.heap.size k X Y wr.heap.size T wr) ∧ FreeB w.heap.size (n * 7) wr ∧ Below w.heap.size w wr) (fun y _ => n - (intOf y).toNat)
  case atStart => exact ⟨0, rfl, Nat.zero_le _, ⟨fun _ => 0, fun _ => 0, Nat.le_refl _, fun i hi => absurd hi (by omega)⟩, by
    have h := FreeB.new w (madeCells #[.int .i64 0, .int .i64 0, .slice none 0 0, .int .i64 0, .int .i64 0, .int .i64 0, .slice none 0 0] (n * 7)) 49
    simpa [madeCells] using h, below_box (Below.refl _ _)⟩
  case round =>
    obtain ⟨k, rfl, hk, ⟨X, Y, RT⟩, FC, hb⟩ := hrel
    by_cases hlt : k < n
    · obtain ⟨b, off, a0, c0, a1, c1, rfl, hbw, u0, u1, u2, u3, u4, u5, u6, ht⟩ := hR k hlt
      replace u0 := (hb.cell (p := ⟨b, off + k * 7, none⟩) hbw).trans u0
      replace u1 := (hb.cell (p := ⟨b, off + k * 7 + 1, none⟩) hbw).trans u1
      replace u2 := (hb.cell (p := ⟨b, off + k * 7 + 2, none⟩) hbw).trans u2
      replace u3 := (hb.cell (p := ⟨b, off + k * 7 + 3, none⟩) hbw).trans u3
      replace u4 := (hb.cell (p := ⟨b, off + k * 7 + 4, none⟩) hbw).trans u4
      replace u5 := (hb.cell (p := ⟨b, off + k * 7 + 5, none⟩) hbw).trans u5
      replace u6 := (hb.cell (p := ⟨b, off + k * 7 + 6, none⟩) hbw).trans u6
      have hlt' : (k : Int) < (n : Int) := by omega
      obtain ⟨l1, l2⟩ := hl k hlt
      have TT := hide (fun w hT => w_toOffer a0 c0 a1 c1 (T k) w l1 l2 hT)
      have hT := hide (ht.below hb)
      have hRT := hide RT
      have hFC := hide FC
      clear l1 l2 ht hR RT FC
      go_wp2_with fail
      refine (TT.out _ hT.out).mono ?_
      rintro e w3 ⟨x, y, rfl, hx, hy, o1, o2, b3⟩
      have lt0 := hFC.out.1
      have FC := hFC.out.below b3
      have RT := hide (hRT.out.below b3)
      have d3 := hb.trans (b3.mono hb.size)
      have ly := o2.1
      obtain ⟨⟨p0, e0⟩, g0⟩ := FC.2 (k * 7) (by omega)
      obtain ⟨⟨p1, e1⟩, g1⟩ := FC.2 (k * 7 + 1) (by omega)
      obtain ⟨⟨p2, e2⟩, g2⟩ := FC.2 (k * 7 + 2) (by omega)
      obtain ⟨⟨p3, e3⟩, g3⟩ := FC.2 (k * 7 + 3) (by omega)
      obtain ⟨⟨p4, e4⟩, g4⟩ := FC.2 (k * 7 + 4) (by omega)
      obtain ⟨⟨p5, e5⟩, g5⟩ := FC.2 (k * 7 + 5) (by omega)
      obtain ⟨⟨p6, e6⟩, g6⟩ := FC.2 (k * 7 + 6) (by omega)
      have hN := hide (RT.out.next (hi' := w3.heap.size) FC hlt (by omega) hy hx ly (Nat.le_refl _) o1 o2)
      have hF := hide ((((((((FC.set (k * 7) (.int .i64 (T k).pe)).set (k * 7 + 1) (.int .i64 (T k).o)).set (k * 7 + 2) (.slice (some ⟨x, 0, none⟩) (T k).n0 (T k).n0)).set (k * 7 + 3) (.int .i64 (T k).nx)).set (k * 7 + 4) (.int .i64 (T k).md)).set (k * 7 + 5) (.int .i64 (T k).pf)).set (k * 7 + 6) (.slice (some ⟨y, 0, none⟩) (T k).n1 (T k).n1)))
      clear b3 hRT hFC RT FC hb
      go_wp2_with fail
      exact ⟨⟨k + 1, by go_num, by omega, ⟨_, _, by simpa using hN.out⟩, hF.out, (((((((d3.setCell (Nat.le_refl _) _).setCell (Nat.le_refl _) _).setCell (Nat.le_refl _) _).setCell (Nat.le_refl _) _).setCell (Nat.le_refl _) _).setCell (Nat.le_refl _) _).setCell (Nat.le_refl _) _)⟩, by simp [intOf]; omega⟩
    · have hlt' : ¬ (k : Int) < (n : Int) := by omega
      obtain rfl : k = n := by omega
      go_wp2_with fail
      go_ret
      exact ⟨rfl, ⟨X, Y, RT⟩, FC, hb⟩
end Go.Proofs.Ytjjdfniemlcnnaa
