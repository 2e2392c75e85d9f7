/- Lists of routes as the laws hand them over: their size, a copy, a comparison. -/
import Derived.Test.YtlhdeeihpaogkaaRou14
import Derived.Lib.QuietBelow
namespace Go.Proofs.Ytlhdeeihpaogkaa
open Go.RowKit

set_option maxRecDepth 100000 in
set_option maxHeartbeats 1600000 in
theorem w_szRouteS (a : Option Addr) (n c : Nat) (T : Nat → Ro) (m : Int) (w : World) (hn : n ≤ maxLen) (hx : MaxG n T) (hm : m ≤ 1048576) (hm0 : 0 ≤ m) (hR : RowG a n T w) :
    Calls Try.prog 8 #[.slice a n c, .int .i64 m] w fun e w' => e = .returned (.int .i64 (if (n : Int) + (totG T n : Int) ≤ m then m - (n : Int) - (totG T n : Int) else -1)) ∧ Below w.heap.size w w' := by
  unfold maxLen at hn
  generalize hRv : (if (n : Int) + (totG T n : Int) ≤ m then m - (n : Int) - (totG T n : Int) else -1) = R
  have hY : Hid ((n : Int) + (totG T n : Int) ≤ m → R = m - (n : Int) - (totG T n : Int)) := fun h => by rw [← hRv, if_pos h]
  have hN0 : Hid (¬ (n : Int) + (totG T n : Int) ≤ m → R = -1) := fun h => by rw [← hRv, if_neg h]
  clear hRv
  by_cases h0 : (n : Int) ≤ m
  · have q0 : ¬ (m - (n : Int) < 0) := by omega
    go_enter Try.func8, Try.ntmps8
    go_wp2_with fail
    go_loopw [1, 5] (fun x y wr => ∃ k : Nat, x = .int .i64 (m - (n : Int) - (totG T k : Int)) ∧ y = .int .i64 k ∧ k ≤ n ∧ (n : Int) + (totG T k : Int) ≤ m ∧ Below w.heap.size w wr) (fun _ y _ => n - (intOf y).toNat)
    case atStart => exact ⟨0, by simp [totG], rfl, Nat.zero_le _, by simp [totG]; omega, Below.refl _ _⟩
    case round =>
      obtain ⟨k, rfl, rfl, hk, hle, hb⟩ := hrel
      by_cases hlt : k < n
      · obtain ⟨b, off, a0, c0, a1, c1, rfl, ⟨hbw, hC⟩, _⟩ := hR k hlt
        have u0 := hC 0 _ rfl
        have u1 := hC 1 _ rfl
        have u2 := hC 2 _ rfl
        have u3 := hC 3 _ rfl
        have u4 := hC 4 _ rfl
        have u5 := hC 5 _ rfl
        have u6 := hC 6 _ rfl
        have u7 := hC 7 _ rfl
        simp only [Nat.add_zero] at u0
        clear hC
        replace u0 := (hb.cell (p := ⟨b, off + k * 8, none⟩) hbw).trans u0
        replace u1 := (hb.cell (p := ⟨b, off + k * 8 + 1, none⟩) hbw).trans u1
        replace u2 := (hb.cell (p := ⟨b, off + k * 8 + 2, none⟩) hbw).trans u2
        replace u3 := (hb.cell (p := ⟨b, off + k * 8 + 3, none⟩) hbw).trans u3
        replace u4 := (hb.cell (p := ⟨b, off + k * 8 + 4, none⟩) hbw).trans u4
        replace u5 := (hb.cell (p := ⟨b, off + k * 8 + 5, none⟩) hbw).trans u5
        replace u6 := (hb.cell (p := ⟨b, off + k * 8 + 6, none⟩) hbw).trans u6
        replace u7 := (hb.cell (p := ⟨b, off + k * 8 + 7, none⟩) hbw).trans u7
        have hlt' : (k : Int) < (n : Int) := by omega
        obtain ⟨l1, l2⟩ := hx k hlt
        have ST := hide (fun w => w_szRoute (T k).pa (T k).pl (T k).o (T k).nx (T k).md (T k).pf a0 (T k).n0 c0 a1 (T k).n1 c1 (m - (n : Int) - (totG T k : Int)) w l1 l2 (by omega) (by omega))
        have hs : Hid (totG T (k + 1) = totG T k + (T k).tot) := rfl
        have hmo := hide (totG_mono T (show k + 1 ≤ n by omega))
        have htt : ((T k).tot : Int) = ((T k).n0 : Int) + (T k).n1 := by simp [Ro.tot]
        generalize totG T k = tk at *
        generalize T k = t at *
        rw [show m - (n : Int) - (tk : Int) - (t.n0 : Int) - (t.n1 : Int) = m - (n : Int) - (tk : Int) - (t.tot : Int) by omega, ← htt] at ST
        clear htt
        by_cases e : (t.tot : Int) ≤ m - (n : Int) - (tk : Int)
        · rw [if_pos e] at ST
          have q1 : ¬ (m - (n : Int) - (tk : Int) - (t.tot : Int) < 0) := by omega
          have hN : Hid (m - (n : Int) - (tk : Int) - (t.tot : Int) = m - (n : Int) - (totG T (k + 1) : Int) ∧ (n : Int) + (totG T (k + 1) : Int) ≤ m) := by
            have := hs.out
            exact ⟨by omega, by omega⟩
          clear hs hmo l1 l2 e
          go_wp2_with fail
          refine (ST.out _).mono ?_
          rintro e w3 ⟨rfl, b3⟩
          go_wp2_with fail
          exact ⟨⟨k + 1, by rw [hN.out.1], by go_num, by omega, hN.out.2, hb.trans (b3.mono hb.size)⟩, by simp [intOf]; omega⟩
        · rw [if_neg e] at ST
          have hE := hide (hN0.out (by have h1 := hs.out; have h2 := hmo.out; omega))
          clear hs hmo l1 l2 e
          go_wp2_with fail
          refine (ST.out _).mono ?_
          rintro e w3 ⟨rfl, b3⟩
          go_wp2_with fail
          go_ret
          exact ⟨by rw [hE.out]; rfl, hb.trans (b3.mono hb.size)⟩
      · have hlt' : ¬ (k : Int) < (n : Int) := by omega
        obtain rfl : k = n := by omega
        have hE := hide (hY.out hle)
        go_wp2_with fail
        go_ret
        exact ⟨by rw [hE.out]; rfl, hb⟩
  · have q0 : m - (n : Int) < 0 := by omega
    have hE := hide (hN0.out (by omega))
    go_enter Try.func8, Try.ntmps8
    go_wp2_with fail
    go_ret
    exact ⟨by rw [hE.out]; rfl, Below.refl _ _⟩
set_option maxRecDepth 100000 in
set_option maxHeartbeats 3200000 in
theorem w_toRouteS (a : Option Addr) (n c : Nat) (T : Nat → Ro) (w : World) (hn : n ≤ 1048576) (hl : LowG n T) (hR : RowG a n T w) :
    Calls Try.prog 10 #[.slice a n c] w fun e w' => e = .returned (.slice (some ⟨w.heap.size, 0, none⟩) n n) ∧ (∃ X Y, RowGO w.heap.size n X Y w'.heap.size T w') ∧ FreeB w.heap.size (n * 8) w' ∧ Below w.heap.size w w' := by
  have hinfo : (Try.prog.info? 60).map (fun i => (i.zero, i.size, i.bytes)) = some (some (.agg #[.int .i64 0, .int .i64 0, .int .i64 0, .slice none 0 0, .int .i64 0, .int .i64 0, .int .i64 0, .slice none 0 0]), 8, 96) := by kernel_rfl
  obtain ⟨i, hi, hzz⟩ := Option.map_eq_some_iff.1 hinfo
  simp only [Prod.mk.injEq] at hzz
  obtain ⟨hz, hsz, hby⟩ := hzz
  have hmk := fun w : World => run_make (P := Try.prog) w 25 60 i _ Try.underlying25 hi hz .i64 .i64 (n : Int) (n : Int) (by omega) (by omega) (by rw [hby]; omega) (by omega)
  rw [hsz] at hmk
  clear hi hz hsz hby hinfo
  go_enter Try.func10, Try.ntmps10
  go_wp2_with fail
  clear hmk
  go_loopw [4] (fun y wr => ∃ k : Nat, y = .int .i64 k ∧ k ≤ n ∧ (∃ X Y, RowGO w.heap.size k X Y wr.heap.size T wr) ∧ FreeB w.heap.size (n * 8) wr ∧ Below w.heap.size w wr) (fun y _ => n - (intOf y).toNat)
  case atStart => exact ⟨0, rfl, Nat.zero_le _, ⟨fun _ => 0, fun _ => 0, Nat.le_refl _, fun i hi => absurd hi (by omega)⟩, by
    have h := FreeB.new w (madeCells #[.int .i64 0, .int .i64 0, .int .i64 0, .slice none 0 0, .int .i64 0, .int .i64 0, .int .i64 0, .slice none 0 0] (n * 8)) 60
    simpa [madeCells] using h, below_box (Below.refl _ _)⟩
  case round =>
    obtain ⟨k, rfl, hk, ⟨X, Y, RT⟩, FC, hb⟩ := hrel
    by_cases hlt : k < n
    · obtain ⟨b, off, a0, c0, a1, c1, rfl, ⟨hbw, hC⟩, ht⟩ := hR k hlt
      have u0 := hC 0 _ rfl
      have u1 := hC 1 _ rfl
      have u2 := hC 2 _ rfl
      have u3 := hC 3 _ rfl
      have u4 := hC 4 _ rfl
      have u5 := hC 5 _ rfl
      have u6 := hC 6 _ rfl
      have u7 := hC 7 _ rfl
      simp only [Nat.add_zero] at u0
      clear hC
      replace u0 := (hb.cell (p := ⟨b, off + k * 8, none⟩) hbw).trans u0
      replace u1 := (hb.cell (p := ⟨b, off + k * 8 + 1, none⟩) hbw).trans u1
      replace u2 := (hb.cell (p := ⟨b, off + k * 8 + 2, none⟩) hbw).trans u2
      replace u3 := (hb.cell (p := ⟨b, off + k * 8 + 3, none⟩) hbw).trans u3
      replace u4 := (hb.cell (p := ⟨b, off + k * 8 + 4, none⟩) hbw).trans u4
      replace u5 := (hb.cell (p := ⟨b, off + k * 8 + 5, none⟩) hbw).trans u5
      replace u6 := (hb.cell (p := ⟨b, off + k * 8 + 6, none⟩) hbw).trans u6
      replace u7 := (hb.cell (p := ⟨b, off + k * 8 + 7, none⟩) hbw).trans u7
      have hlt' : (k : Int) < (n : Int) := by omega
      obtain ⟨l1, l2⟩ := hl k hlt
      have TT := hide (fun w (hT : RowInt a0 (T k).n0 (T k).f w ∧ RowInt a1 (T k).n1 (T k).g w) => w_toRoute (T k).pa (T k).pl (T k).o (T k).nx (T k).md (T k).pf a0 (T k).n0 c0 (T k).f a1 (T k).n1 c1 (T k).g w l1 l2 hT.1 hT.2)
      have hT := hide (And.intro (ht.1.below hb) (ht.2.below hb))
      have hRT := hide RT
      have hFC := hide FC
      clear l1 l2 ht hR RT FC
      go_wp2_with fail
      refine (TT.out _ hT.out).mono ?_
      rintro e w3 ⟨x, y, rfl, hx, hy, o1, o2, b3⟩
      have lt0 := hFC.out.1
      have FC := hFC.out.below b3
      have RT := hide (hRT.out.below b3)
      have d3 := hb.trans (b3.mono hb.size)
      have ly := o2.1
      obtain ⟨⟨p0, e0⟩, g0⟩ := FC.2 (k * 8) (by omega)
      obtain ⟨⟨p1, e1⟩, g1⟩ := FC.2 (k * 8 + 1) (by omega)
      obtain ⟨⟨p2, e2⟩, g2⟩ := FC.2 (k * 8 + 2) (by omega)
      obtain ⟨⟨p3, e3⟩, g3⟩ := FC.2 (k * 8 + 3) (by omega)
      obtain ⟨⟨p4, e4⟩, g4⟩ := FC.2 (k * 8 + 4) (by omega)
      obtain ⟨⟨p5, e5⟩, g5⟩ := FC.2 (k * 8 + 5) (by omega)
      obtain ⟨⟨p6, e6⟩, g6⟩ := FC.2 (k * 8 + 6) (by omega)
      obtain ⟨⟨p7, e7⟩, g7⟩ := FC.2 (k * 8 + 7) (by omega)
      have hN := hide (RT.out.next (hi' := w3.heap.size) FC hlt (by omega) hy hx ly (Nat.le_refl _) o1 o2)
      have hF := hide ((((((((FC.set (k * 8) (.int .i64 (T k).pa)).set (k * 8 + 1) (.int .i64 (T k).pl)).set (k * 8 + 2) (.int .i64 (T k).o)).set (k * 8 + 3) (.slice (some ⟨x, 0, none⟩) (T k).n0 (T k).n0)).set (k * 8 + 4) (.int .i64 (T k).nx)).set (k * 8 + 5) (.int .i64 (T k).md)).set (k * 8 + 6) (.int .i64 (T k).pf)).set (k * 8 + 7) (.slice (some ⟨y, 0, none⟩) (T k).n1 (T k).n1))
      clear b3 hRT hFC RT FC hb
      go_wp2_with fail
      exact ⟨⟨k + 1, by go_num, by omega, ⟨_, _, by simpa using hN.out⟩, hF.out, ((((((((d3.setCell (Nat.le_refl _) _).setCell (Nat.le_refl _) _).setCell (Nat.le_refl _) _).setCell (Nat.le_refl _) _).setCell (Nat.le_refl _) _).setCell (Nat.le_refl _) _).setCell (Nat.le_refl _) _).setCell (Nat.le_refl _) _)⟩, by simp [intOf]; omega⟩
    · have hlt' : ¬ (k : Int) < (n : Int) := by omega
      obtain rfl : k = n := by omega
      go_wp2_with fail
      go_ret
      exact ⟨rfl, ⟨X, Y, RT⟩, FC, hb⟩
end Go.Proofs.Ytlhdeeihpaogkaa
