/- Rows and ribs as the laws hand them over: their size, a copy, a comparison. -/
import Derived.Test.YtjjdfniemlcnnaaRib13
import Derived.Test.YtjjdfniemlcnnaaAll1
namespace Go.Proofs.Ytjjdfniemlcnnaa
open Go.RowKit

set_option maxRecDepth 100000 in
set_option maxHeartbeats 800000 in
theorem w_szRow (a0 : Option Addr) (c0 : Nat) (t : Rc) (m : Int) (w : World) (h0 : t.n ≤ maxLen) (h1 : MaxO t.n t.T) (hm : m ≤ 1048576) (hm0 : 0 ≤ m) (R : RowO a0 t.n t.T w) :
    Calls Try.prog 59 #[.agg #[.int .i64 t.ad, .int .i64 t.ln, .slice a0 t.n c0], .int .i64 m] w fun e w' => e = .returned (.int .i64 (if (t.tot : Int) ≤ m then m - (t.tot : Int) else -1)) ∧ Below w.heap.size w w' := by
  have s0 := hide (fun w R => w_szOfferS a0 t.n c0 t.T m w h0 h1 hm hm0 R)
  have ht : t.tot = t.n + totO t.T t.n := rfl
  have R1 := R.below (below_box (o := .cells #[.int .i64 t.ad, .int .i64 t.ln, .slice a0 t.n c0] 89) (Below.refl _ _))
  by_cases e0 : (t.n : Int) + (totO t.T t.n : Int) ≤ m
  · rw [if_pos e0] at s0
    rw [if_pos (by omega), show m - (t.tot : Int) = m - (t.n : Int) - (totO t.T t.n : Int) by omega]
    have q0 : ¬ (m - (t.n : Int) - (totO t.T t.n : Int) < 0) := by omega
    clear e0 h0 h1 hm hm0 ht R
    go_enter Try.func59, Try.ntmps59
    go_wp2_with fail
    refine (s0.out _ R1).mono ?_
    rintro e w1 ⟨rfl, b1⟩
    go_wp2_with fail
    go_ret
    exact ⟨rfl, below_box b1⟩
  · rw [if_neg e0] at s0
    rw [if_neg (by omega)]
    clear e0 h0 h1 hm hm0 ht R
    go_enter Try.func59, Try.ntmps59
    go_wp2_with fail
    refine (s0.out _ R1).mono ?_
    rintro e w1 ⟨rfl, b1⟩
    go_wp2_with fail
    go_ret
    exact ⟨rfl, below_box b1⟩
set_option maxRecDepth 100000 in
set_option maxHeartbeats 1600000 in
theorem w_eqRow (a0 b0 : Option Addr) (c0 e0 : Nat) (t : Rc) (w : World) (h0 : t.n ≤ 1048576) (h1 : LowO t.n t.T) (R : RowO a0 t.n t.T w) (Q : RowO b0 t.n t.T w) :
    Calls Try.prog 56 #[.agg #[.int .i64 t.ad, .int .i64 t.ln, .slice a0 t.n c0], .agg #[.int .i64 t.ad, .int .i64 t.ln, .slice b0 t.n e0]] w fun e w' => e = .returned (.bool true) ∧ Below w.heap.size w w' := by
  have s0 := hide (fun w => w_eqPrefix t.ad t.ln w)
  have s1 := hide (fun w R Q => w_eqOfferS a0 b0 t.n c0 e0 t.T w h0 h1 R Q)
  clear h0 h1
  have M0 := (Mut.new w #[.int .i64 t.ad, .int .i64 t.ln, .slice a0 t.n c0] 63).alloc (.cells #[.int .i64 t.ad, .int .i64 t.ln, .slice b0 t.n e0] 63)
  have M1 := Mut.new (w.alloc (.cells #[.int .i64 t.ad, .int .i64 t.ln, .slice a0 t.n c0] 63)) #[.int .i64 t.ad, .int .i64 t.ln, .slice b0 t.n e0] 63
  have d0 : Below w.heap.size w ((w.alloc (.cells #[.int .i64 t.ad, .int .i64 t.ln, .slice a0 t.n c0] 63)).alloc (.cells #[.int .i64 t.ad, .int .i64 t.ln, .slice b0 t.n e0] 63)) := below_box2 (Below.refl _ _)
  simp only [World.size_alloc] at M1
  go_enter Try.func56, Try.ntmps56
  go_wp2_with fail
  generalize (w.alloc (.cells #[.int .i64 t.ad, .int .i64 t.ln, .slice a0 t.n c0] 63)).alloc (.cells #[.int .i64 t.ad, .int .i64 t.ln, .slice b0 t.n e0] 63) = w1 at *
  refine (s0.out _).mono ?_
  rintro e w2 ⟨rfl, hb2⟩
  have M0 := M0.below hb2
  have M1 := M1.below hb2
  have d2 := d0.trans (hb2.mono d0.size)
  clear hb2 d0
  have u2 := M0.2.1 2 _ rfl
  have v2 := M1.2.1 2 _ rfl
  clear M0 M1
  go_wp2_with fail
  refine (s1.out _ (R.below d2) (Q.below d2)).mono ?_
  rintro e w3 ⟨rfl, hb3⟩
  have d3 := d2.trans (hb3.mono d2.size)
  go_wp2_with fail
  go_ret
  exact ⟨rfl, d3⟩
set_option maxRecDepth 100000 in
set_option maxHeartbeats 1600000 in
theorem w_toRow (a0 : Option Addr) (c0 : Nat) (t : Rc) (w : World) (h0 : t.n ≤ 1048576) (h1 : LowO t.n t.T) (R : RowO a0 t.n t.T w) :
    Calls Try.prog 63 #[.agg #[.int .i64 t.ad, .int .i64 t.ln, .slice a0 t.n c0]] w fun e w' => ∃ x, e = .returned (.agg #[.int .i64 t.ad, .int .i64 t.ln, .slice (some ⟨x, 0, none⟩) t.n t.n]) ∧ w.heap.size ≤ x ∧ (∃ X Y, RowOO x t.n X Y w'.heap.size t.T w') ∧ FreeB x (t.n * 7) w' ∧ Below w.heap.size w w' := by
  have s0 := hide (fun w => w_toPrefix t.ad t.ln w)
  have s1 := hide (fun w R => w_toOfferS a0 t.n c0 t.T w h0 h1 R)
  clear h0 h1
  have M0 := ((Mut.new w #[.int .i64 t.ad, .int .i64 t.ln, .slice a0 t.n c0] 89).alloc (.cells #[.int .i64 0, .int .i64 0, .slice none 0 0] 63)).alloc (.cells #[.int .i64 0, .int .i64 0, .slice none 0 0] 63)
  have M1 := (Mut.new (w.alloc (.cells #[.int .i64 t.ad, .int .i64 t.ln, .slice a0 t.n c0] 89)) #[.int .i64 0, .int .i64 0, .slice none 0 0] 63).alloc (.cells #[.int .i64 0, .int .i64 0, .slice none 0 0] 63)
  have M2 := Mut.new ((w.alloc (.cells #[.int .i64 t.ad, .int .i64 t.ln, .slice a0 t.n c0] 89)).alloc (.cells #[.int .i64 0, .int .i64 0, .slice none 0 0] 63)) #[.int .i64 0, .int .i64 0, .slice none 0 0] 63
  have d0 : Below w.heap.size w (((w.alloc (.cells #[.int .i64 t.ad, .int .i64 t.ln, .slice a0 t.n c0] 89)).alloc (.cells #[.int .i64 0, .int .i64 0, .slice none 0 0] 63)).alloc (.cells #[.int .i64 0, .int .i64 0, .slice none 0 0] 63)) := below_box3 (Below.refl _ _)
  simp only [World.size_alloc] at M1 M2
  go_enter Try.func63, Try.ntmps63
  go_wp2_with fail
  generalize ((w.alloc (.cells #[.int .i64 t.ad, .int .i64 t.ln, .slice a0 t.n c0] 89)).alloc (.cells #[.int .i64 0, .int .i64 0, .slice none 0 0] 63)).alloc (.cells #[.int .i64 0, .int .i64 0, .slice none 0 0] 63) = w1 at *
  refine (s0.out _).mono ?_
  rintro e w2 ⟨rfl, hb2⟩
  have M0 := M0.below hb2
  have M1 := M1.below hb2
  have M2 := M2.below hb2
  have d2 := d0.trans (hb2.mono d0.size)
  clear hb2 d0
  have u2 := M0.2.1 2 _ rfl
  have v0 := M2.2.1 0 _ rfl
  have v1 := M2.2.1 1 _ rfl
  have v2 := M2.2.1 2 _ rfl
  have x0 := M2.2.2 0 (by simp)
  have x1 := M2.2.2 1 (by simp)
  have x2 := M2.2.2 2 (by simp)
  go_wp2_with fail
  have M2 := (M2.set 0 (.int .i64 t.ad)).set 1 (.int .i64 t.ln)
  have M1 := (M1.other (c := w.heap.size + 1 + 1) (by omega) 0 (.int .i64 t.ad)).other (c := w.heap.size + 1 + 1) (by omega) 1 (.int .i64 t.ln)
  have d2 := (d2.setCell (p := ⟨w.heap.size + 1 + 1, 0, none⟩) (by simp; omega) (.int .i64 t.ad)).setCell (p := ⟨w.heap.size + 1 + 1, 1, none⟩) (by simp; omega) (.int .i64 t.ln)
  clear M0 u2 v0 x0 v1 x1 v2 x2
  generalize (w2.setCell ⟨w.heap.size + 1 + 1, 0, none⟩ (.int .i64 t.ad)).setCell ⟨w.heap.size + 1 + 1, 1, none⟩ (.int .i64 t.ln) = w3 at *
  refine (s1.out _ (R.below d2)).mono ?_
  rintro e w4 ⟨rfl, ⟨X, Y, o1⟩, F1, hb4⟩
  have hlt := M2.1
  have M1 := M1.below hb4
  have M2 := M2.below hb4
  have d3 := d2.trans (hb4.mono d2.size)
  have hle := d2.size
  clear hb4 d2
  have v0 := M2.2.1 0 _ rfl
  have x0 := M2.2.2 0 (by simp)
  have y0 := M1.2.1 0 _ rfl
  have f0 := M1.2.2 0 (by simp)
  have v1 := M2.2.1 1 _ rfl
  have x1 := M2.2.2 1 (by simp)
  have y1 := M1.2.1 1 _ rfl
  have f1 := M1.2.2 1 (by simp)
  have v2 := M2.2.1 2 _ rfl
  have x2 := M2.2.2 2 (by simp)
  have y2 := M1.2.1 2 _ rfl
  have f2 := M1.2.2 2 (by simp)
  clear M1 M2
  go_wp2_with fail
  exact bodyPost_ret (v := .agg #[.int .i64 t.ad, .int .i64 t.ln, .slice (some ⟨w3.heap.size, 0, none⟩) t.n t.n]) (by simp [results, Try.results63, go_sem, *]) rfl ⟨_, rfl, by omega, ⟨X, Y, by
    refine RowOO.hi (RowOO.out (RowOO.out (RowOO.out (RowOO.out o1 ?_ _ _) ?_ _ _) ?_ _ _) ?_ _ _) (by simp) <;> omega⟩, by
    refine FreeB.out (FreeB.out (FreeB.out (FreeB.out F1 ?_ _ _) ?_ _ _) ?_ _ _) ?_ _ _ <;> omega, by
    refine Below.setCell (Below.setCell (Below.setCell (Below.setCell d3 ?_ _) ?_ _) ?_ _) ?_ _ <;> (simp; try omega)⟩
set_option maxRecDepth 100000 in
set_option maxHeartbeats 1600000 in
theorem w_szRowS (a : Option Addr) (n c : Nat) (U : Nat → Rc) (m : Int) (w : World) (hn : n ≤ maxLen) (hx : MaxR n U) (hm : m ≤ 1048576) (hm0 : 0 ≤ m) (hR : RowR a n U w) :
    Calls Try.prog 32 #[.slice a n c, .int .i64 m] w fun e w' => e = .returned (.int .i64 (if (n : Int) + (totR U n : Int) ≤ m then m - (n : Int) - (totR U n : Int) else -1)) ∧ Below w.heap.size w w' := by
  unfold maxLen at hn
  generalize hRv : (if (n : Int) + (totR U n : Int) ≤ m then m - (n : Int) - (totR U n : Int) else -1) = R
  have hY : Hid ((n : Int) + (totR U n : Int) ≤ m → R = m - (n : Int) - (totR U n : Int)) := fun h => by rw [← hRv, if_pos h]
  have hN0 : Hid (¬ (n : Int) + (totR U n : Int) ≤ m → R = -1) := fun h => by rw [← hRv, if_neg h]
  clear hRv
  by_cases h0 : (n : Int) ≤ m
  · have q0 : ¬ (m - (n : Int) < 0) := by omega
    go_enter Try.func32, Try.ntmps32
    go_wp2_with fail
    go_loopw [1, 5] (fun x y wr => ∃ k : Nat, x = .int .i64 (m - (n : Int) - (totR U k : Int)) ∧ y = .int .i64 k ∧ k ≤ n ∧ (n : Int) + (totR U k : Int) ≤ m ∧ Below w.heap.size w wr) (fun _ y _ => n - (intOf y).toNat)
    case atStart => exact ⟨0, by simp [totR], rfl, Nat.zero_le _, by simp [totR]; omega, Below.refl _ _⟩
    case round =>
      obtain ⟨k, rfl, rfl, hk, hle, hb⟩ := hrel
      by_cases hlt : k < n
      · obtain ⟨b, off, a0, c0, rfl, hbw, u0, u1, u2, hin⟩ := hR k hlt
        replace u0 := (hb.cell (p := ⟨b, off + k * 3, none⟩) hbw).trans u0
        replace u1 := (hb.cell (p := ⟨b, off + k * 3 + 1, none⟩) hbw).trans u1
        replace u2 := (hb.cell (p := ⟨b, off + k * 3 + 2, none⟩) hbw).trans u2
        have hlt' : (k : Int) < (n : Int) := by omega
        obtain ⟨l1, l2⟩ := hx k hlt
        have ST := hide (fun w R => w_szRow a0 c0 (U k) (m - (n : Int) - (totR U k : Int)) w l1 l2 (by omega) (by omega) R)
        have hT := hide (hin.below hb)
        have hs : Hid (totR U (k + 1) = totR U k + (U k).tot) := rfl
        have hmo := hide (totR_mono U (show k + 1 ≤ n by omega))
        clear hin
        generalize totR U k = tk at *
        generalize U k = t at *
        by_cases e : (t.tot : Int) ≤ m - (n : Int) - (tk : Int)
        · rw [if_pos e] at ST
          have q1 : ¬ (m - (n : Int) - (tk : Int) - (t.tot : Int) < 0) := by omega
          have hN : Hid (m - (n : Int) - (tk : Int) - (t.tot : Int) = m - (n : Int) - (totR U (k + 1) : Int) ∧ (n : Int) + (totR U (k + 1) : Int) ≤ m) := by
            have := hs.out
            exact ⟨by omega, by omega⟩
          clear hs hmo l1 l2 e
          go_wp2_with fail
          refine (ST.out _ hT.out).mono ?_
          rintro e w3 ⟨rfl, b3⟩
          go_wp2_with fail
          exact ⟨⟨k + 1, by rw [hN.out.1], by go_num, by omega, hN.out.2, hb.trans (b3.mono hb.size)⟩, by simp [intOf]; omega⟩
        · rw [if_neg e] at ST
          have hE := hide (hN0.out (by have h1 := hs.out; have h2 := hmo.out; omega))
          clear hs hmo l1 l2 e
          go_wp2_with fail
          refine (ST.out _ hT.out).mono ?_
          rintro e w3 ⟨rfl, b3⟩
          go_wp2_with fail
          go_ret
          exact ⟨by rw [hE.out]; rfl, hb.trans (b3.mono hb.size)⟩
      · have hlt' : ¬ (k : Int) < (n : Int) := by omega
        obtain rfl : k = n := by omega
        have hE := hide (hY.out hle)
        go_wp2_with fail
        go_ret
        exact ⟨by rw [hE.out]; rfl, hb⟩
  · have q0 : m - (n : Int) < 0 := by omega
    have hE := hide (hN0.out (by omega))
    go_enter Try.func32, Try.ntmps32
    go_wp2_with fail
    go_ret
    exact ⟨by rw [hE.out]; rfl, Below.refl _ _⟩
set_option maxRecDepth 100000 in
set_option maxHeartbeats 3200000 in
theorem w_eqRowS (a a' : Option Addr) (n c c' : Nat) (U : Nat → Rc) (w : World) (hn : n ≤ 1048576) (hl : LowR n U) (hR : RowR a n U w) (hQ : RowR a' n U w) :
    Calls Try.prog 29 #[.slice a n c, .slice a' n c'] w fun e w' => e = .returned (.bool true) ∧ Below w.heap.size w w' := by
  have hne : ((n : Int) != (n : Int)) = false := by simp
  go_enter Try.func29, Try.ntmps29
  go_wp2_with fail
  go_loopw [5] (fun i wr => ∃ k : Nat, k ≤ n ∧ i = .int .i64 k ∧ Below w.heap.size w wr) (fun i _ => n - (intOf i).toNat)
  case atStart => exact ⟨0, Nat.zero_le _, rfl, Below.refl _ _⟩
  case round =>
    obtain ⟨k, hk, rfl, hb⟩ := hrel
    by_cases hlt : k < n
    · obtain ⟨b, off, a0, c0, rfl, hbw, u0, u1, u2, ht⟩ := hR k hlt
      obtain ⟨b', off', d0, e0, rfl, hbw', v0, v1, v2, hu⟩ := hQ k hlt
      replace u0 := cell_regrown ((hb.cell (p := ⟨b, off + k * 3, none⟩) hbw).trans u0)
      replace u1 := cell_regrown ((hb.cell (p := ⟨b, off + k * 3 + 1, none⟩) hbw).trans u1)
      replace u2 := cell_regrown ((hb.cell (p := ⟨b, off + k * 3 + 2, none⟩) hbw).trans u2)
      replace v0 := cell_regrown ((hb.cell (p := ⟨b', off' + k * 3, none⟩) hbw').trans v0)
      replace v1 := cell_regrown ((hb.cell (p := ⟨b', off' + k * 3 + 1, none⟩) hbw').trans v1)
      replace v2 := cell_regrown ((hb.cell (p := ⟨b', off' + k * 3 + 2, none⟩) hbw').trans v2)
      have hlt' : (k : Int) < (n : Int) := by omega
      obtain ⟨l1, l2⟩ := hl k hlt
      have E := hide (fun w hT hU => w_eqRow a0 d0 c0 e0 (U k) w l1 (lowO_of l2) hT hU)
      have hT := hide (ht.below hb)
      have hU := hide (hu.below hb)
      clear hR hQ l1 l2 ht hu
      generalize U k = t at *
      go_wp2_with fail
      refine wp_region_quiet_below (by kernel_rfl) (by kernel_rfl) ?_
      repeat (first | go_big_quiet_step (((go_at_call 56; exact Calls.regrown_of (E.out _ (hT.out.below (below_regrown _ _ _)) (hU.out.below (below_regrown _ _ _)))))) | quiet_step (((go_at_call 56; exact Calls.regrown_of (E.out _ (hT.out.below (below_regrown _ _ _)) (hU.out.below (below_regrown _ _ _)))))))
      refine wpQuiet_nil ?_
      intro _ hw'
      obtain ⟨⟨dq, osq⟩, hw''⟩ := hw'
      subst hw''
      have hq := below_regrown wr dq osq
      generalize Go.Sort.grow (redrawn wr dq) osq = wq at hq ⊢
      have hbq := hb.trans (hq.mono hb.size)
      clear hq u0 u1 u2 v0 v1 v2
      go_wp2_with fail
      exact ⟨⟨k + 1, by omega, by go_num, hbq⟩, by simp [intOf]; omega⟩
    · have hlt' : ¬ (k : Int) < (n : Int) := by omega
      go_wp2_with fail
      go_ret
      exact ⟨rfl, hb⟩
set_option maxRecDepth 100000 in
set_option maxHeartbeats 3200000 in
theorem w_toRowS (a : Option Addr) (n c : Nat) (U : Nat → Rc) (w : World) (hn : n ≤ 1048576) (hl : LowR n U) (hR : RowR a n U w) :
    Calls Try.prog 36 #[.slice a n c] w fun e w' => e = .returned (.slice (some ⟨w.heap.size, 0, none⟩) n n) ∧ (∃ X H, RowRO w.heap.size n X H w'.heap.size U w') ∧ FreeB w.heap.size (n * 3) w' ∧ Below w.heap.size w w' := by
  have hinfo : (Try.prog.info? 63).map (fun i => (i.zero, i.size, i.bytes)) = some (some (.agg #[.int .i64 0, .int .i64 0, .slice none 0 0]), 3, 40) := by kernel_rfl
  obtain ⟨i, hi, hzz⟩ := Option.map_eq_some_iff.1 hinfo
  simp only [Prod.mk.injEq] at hzz
  obtain ⟨hz, hsz, hby⟩ := hzz
  have hmk := fun w : World => run_make (P := Try.prog) w 22 63 i _ Try.underlying22 hi hz .i64 .i64 (n : Int) (n : Int) (by omega) (by omega) (by rw [hby]; omega) (by omega)
  rw [hsz] at hmk
  clear hi hz hsz hby hinfo
  go_enter Try.func36, Try.ntmps36
  go_wp2_with fail
  clear hmk
  go_loopw [4] (fun y wr => ∃ k : Nat, y = .int .i64 k ∧ k ≤ n ∧ (∃ X H, RowRO w.heap.size k X H wr.heap.size U wr) ∧ FreeB w.heap.size (n * 3) wr ∧ Below w.heap.size w wr) (fun y _ => n - (intOf y).toNat)
  case atStart => exact ⟨0, rfl, Nat.zero_le _, ⟨fun _ => 0, fun _ => 0, Nat.le_refl _, fun i hi => absurd hi (by omega)⟩, by
    have h := FreeB.new w (madeCells #[.int .i64 0, .int .i64 0, .slice none 0 0] (n * 3)) 63
    simpa [madeCells] using h, below_box (Below.refl _ _)⟩
  case round =>
    obtain ⟨k, rfl, hk, ⟨X, H, RT⟩, FC, hb⟩ := hrel
    by_cases hlt : k < n
    · obtain ⟨b, off, a0, c0, rfl, hbw, u0, u1, u2, ht⟩ := hR k hlt
      replace u0 := (hb.cell (p := ⟨b, off + k * 3, none⟩) hbw).trans u0
      replace u1 := (hb.cell (p := ⟨b, off + k * 3 + 1, none⟩) hbw).trans u1
      replace u2 := (hb.cell (p := ⟨b, off + k * 3 + 2, none⟩) hbw).trans u2
      have hlt' : (k : Int) < (n : Int) := by omega
      obtain ⟨l1, l2⟩ := hl k hlt
      have TT := hide (fun w hT => w_toRow a0 c0 (U k) w l1 (lowO_of l2) hT)
      have hT := hide (ht.below hb)
      have hRT := hide RT
      have hFC := hide FC
      clear l1 l2 ht hR RT FC
      go_wp2_with fail
      refine (TT.out _ hT.out).mono ?_
      rintro e w3 ⟨x, rfl, hx, ⟨Y, Z, o1⟩, F1, b3⟩
      have lt0 := hFC.out.1
      have FC := hFC.out.below b3
      have RT := hide (hRT.out.below b3)
      have d3 := hb.trans (b3.mono hb.size)
      have ly := F1.1
      obtain ⟨⟨p0, e0⟩, g0⟩ := FC.2 (k * 3) (by omega)
      obtain ⟨⟨p1, e1⟩, g1⟩ := FC.2 (k * 3 + 1) (by omega)
      obtain ⟨⟨p2, e2⟩, g2⟩ := FC.2 (k * 3 + 2) (by omega)
      have hN := hide (RT.out.next (hi' := w3.heap.size) FC hlt (by omega) hx ly (Nat.le_refl _) F1 o1)
      have hF := hide (((FC.set (k * 3) (.int .i64 (U k).ad)).set (k * 3 + 1) (.int .i64 (U k).ln)).set (k * 3 + 2) (.slice (some ⟨x, 0, none⟩) (U k).n (U k).n))
      clear b3 hRT hFC RT FC hb F1
      go_wp2_with fail
      exact ⟨⟨k + 1, by go_num, by omega, ⟨_, _, by simpa using hN.out⟩, hF.out, ((d3.setCell (Nat.le_refl _) _).setCell (Nat.le_refl _) _).setCell (Nat.le_refl _) _⟩, by simp [intOf]; omega⟩
    · have hlt' : ¬ (k : Int) < (n : Int) := by omega
      obtain rfl : k = n := by omega
      go_wp2_with fail
      go_ret
      exact ⟨rfl, ⟨X, H, RT⟩, FC, hb⟩
set_option maxRecDepth 100000 in
set_option maxHeartbeats 800000 in
theorem w_szRib (ow : Int) (a : Option Addr) (n c : Nat) (U : Nat → Rc) (m : Int) (w : World) (hn : n ≤ maxLen) (hx : MaxR n U) (hm : m ≤ 1048576) (hm0 : 0 ≤ m) (hR : RowR a n U w) :
    Calls Try.prog 12 #[.agg #[.int .i64 ow, .slice a n c], .int .i64 m] w fun e w' => e = .returned (.int .i64 (if (n : Int) + (totR U n : Int) ≤ m then m - (n : Int) - (totR U n : Int) else -1)) ∧ Below w.heap.size w w' := by
  have s0 := hide (fun w R => w_szRowS a n c U m w hn hx hm hm0 R)
  have R1 := hR.below (below_box (o := .cells #[.int .i64 ow, .slice a n c] 32) (Below.refl _ _))
  by_cases e0 : (n : Int) + (totR U n : Int) ≤ m
  · rw [if_pos e0] at s0
    rw [if_pos e0]
    have q0 : ¬ (m - (n : Int) - (totR U n : Int) < 0) := by omega
    clear e0 hn hx hm hm0 hR
    go_enter Try.func12, Try.ntmps12
    go_wp2_with fail
    refine (s0.out _ R1).mono ?_
    rintro e w1 ⟨rfl, b1⟩
    go_wp2_with fail
    go_ret
    exact ⟨rfl, below_box b1⟩
  · rw [if_neg e0] at s0
    rw [if_neg e0]
    clear e0 hn hx hm hm0 hR
    go_enter Try.func12, Try.ntmps12
    go_wp2_with fail
    refine (s0.out _ R1).mono ?_
    rintro e w1 ⟨rfl, b1⟩
    go_wp2_with fail
    go_ret
    exact ⟨rfl, below_box b1⟩
set_option maxRecDepth 100000 in
set_option maxHeartbeats 1600000 in
theorem w_eqRib (ow : Int) (a a' : Option Addr) (n c c' : Nat) (U : Nat → Rc) (w : World) (hn : n ≤ 1048576) (hl : LowR n U) (hR : RowR a n U w) (hQ : RowR a' n U w) :
    Calls Try.prog 9 #[.agg #[.int .i64 ow, .slice a n c], .agg #[.int .i64 ow, .slice a' n c']] w fun e w' => e = .returned (.bool true) ∧ Below w.heap.size w w' := by
  have s1 := hide (fun w R Q => w_eqRowS a a' n c c' U w hn hl R Q)
  have k0 : (ow != ow) = false := by simp
  clear hn hl
  have d0 : Below w.heap.size w ((w.alloc (.cells #[.int .i64 ow, .slice a n c] 24)).alloc (.cells #[.int .i64 ow, .slice a' n c'] 24)) := below_box2 (Below.refl _ _)
  go_enter Try.func9, Try.ntmps9
  go_wp2_with fail
  refine (s1.out _ (hR.below d0) (hQ.below d0)).mono ?_
  rintro e w3 ⟨rfl, hb3⟩
  have d3 := d0.trans (hb3.mono d0.size)
  go_wp2_with fail
  go_ret
  exact ⟨rfl, d3⟩
set_option maxRecDepth 100000 in
set_option maxHeartbeats 1600000 in
theorem w_toRib (ow : Int) (a : Option Addr) (n c : Nat) (U : Nat → Rc) (w : World) (hn : n ≤ 1048576) (hl : LowR n U) (hR : RowR a n U w) :
    Calls Try.prog 14 #[.agg #[.int .i64 ow, .slice a n c]] w fun e w' => ∃ q, e = .returned (.agg #[.int .i64 ow, .slice (some ⟨q, 0, none⟩) n n]) ∧ w.heap.size ≤ q ∧ (∃ X H, RowRO q n X H w'.heap.size U w') ∧ FreeB q (n * 3) w' ∧ Below w.heap.size w w' := by
  have s1 := hide (fun w R => w_toRowS a n c U w hn hl R)
  clear hn hl
  go_enter Try.func14, Try.ntmps14
  go_wp2_with fail
  have M1 := (Mut.new (w.alloc (.cells #[.int .i64 ow, .slice a n c] 32)) #[.int .i64 0, .slice none 0 0] 24).alloc (.cells #[.int .i64 ow, .slice none 0 0] 24)
  have M2 := Mut.new ((w.alloc (.cells #[.int .i64 ow, .slice a n c] 32)).alloc (.cells #[.int .i64 0, .slice none 0 0] 24)) #[.int .i64 ow, .slice none 0 0] 24
  have d2 : Below w.heap.size w (((w.alloc (.cells #[.int .i64 ow, .slice a n c] 32)).alloc (.cells #[.int .i64 0, .slice none 0 0] 24)).alloc (.cells #[.int .i64 ow, .slice none 0 0] 24)) := below_box3 (Below.refl _ _)
  simp only [World.size_alloc] at M1 M2
  generalize ((w.alloc (.cells #[.int .i64 ow, .slice a n c] 32)).alloc (.cells #[.int .i64 0, .slice none 0 0] 24)).alloc (.cells #[.int .i64 ow, .slice none 0 0] 24) = w3 at *
  refine (s1.out _ (hR.below d2)).mono ?_
  rintro e w4 ⟨rfl, ⟨X, H, o1⟩, F1, hb4⟩
  have hlt := M2.1
  have M1 := M1.below hb4
  have M2 := M2.below hb4
  have d3 := d2.trans (hb4.mono d2.size)
  have hle := d2.size
  clear hb4 d2
  have v0 := M2.2.1 0 _ rfl
  have x0 := M2.2.2 0 (by simp)
  have y0 := M1.2.1 0 _ rfl
  have f0 := M1.2.2 0 (by simp)
  have v1 := M2.2.1 1 _ rfl
  have x1 := M2.2.2 1 (by simp)
  have y1 := M1.2.1 1 _ rfl
  have f1 := M1.2.2 1 (by simp)
  clear M1 M2
  go_wp2_with fail
  exact bodyPost_ret (v := .agg #[.int .i64 ow, .slice (some ⟨w3.heap.size, 0, none⟩) n n]) (by simp [results, Try.results14, go_sem, *]) rfl ⟨_, rfl, by omega, ⟨X, H, by
    refine RowRO.hi (RowRO.out (RowRO.out (RowRO.out o1 ?_ _ _) ?_ _ _) ?_ _ _) (by simp) <;> omega⟩, by
    refine FreeB.out (FreeB.out (FreeB.out F1 ?_ _ _) ?_ _ _) ?_ _ _ <;> omega, by
    refine Below.setCell (Below.setCell (Below.setCell d3 ?_ _) ?_ _) ?_ _ <;> (simp; try omega)⟩
end Go.Proofs.Ytjjdfniemlcnnaa
