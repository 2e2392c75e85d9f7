/- What the program's withEntry and BuildTrie answer. -/
import Derived.Test.YtjmflkheaioboabI2h
namespace Go.Proofs.Ytjmflkheaioboab
open Go.RowKit

theorem ownT_set4 {w : World} {base g cap : Nat} {ts : List Nd} (h : OwnT base (.slice (some ⟨g, 0, none⟩) ts.length cap) ts w) {q : Nat} (hq : q < ts.length) (n : Nd) :
    OwnT base (.slice (some ⟨g, 0, none⟩) ts.length cap) (ts.set q n) ((((w.setCell ⟨g, q * 4, none⟩ (.int .i64 n.z)).setCell ⟨g, q * 4 + 1, none⟩ (.int .i64 n.o)).setCell ⟨g, q * 4 + 2, none⟩ (.bool n.h)).setCell ⟨g, q * 4 + 3, none⟩ (.int .i64 n.v)) := by
  have h1 := ownT_set h (tc_set (ts := ts) (i := q) hq n.z true).1 (by simp)
  have h2 := ownT_set h1 (tc_set (i := q) (by simpa using hq) n.o true).2.1 (by simp)
  rw [List.set_set, nAt_set hq, if_pos rfl] at h2
  have h3 := ownT_set h2 (tc_set (i := q) (by simpa using hq) 0 n.h).2.2.1 (by simp)
  rw [List.set_set, nAt_set hq, if_pos rfl] at h3
  have h4 := ownT_set h3 (tc_set (i := q) (by simpa using hq) n.v true).2.2.2 (by simp)
  rw [List.set_set, nAt_set hq, if_pos rfl] at h4
  simpa using h4

set_option maxRecDepth 100000 in
set_option maxHeartbeats 800000 in
theorem i_clone (b off cap : Nat) (ts : List Nd) (w : World) (hE : RowT (some ⟨b, off, none⟩) ts.length (nAt ts) w) (hlen : ts.length ≤ 2000000) :
    Calls Try.prog 68 #[.slice (some ⟨b, off, none⟩) ts.length cap] w fun e w' => ∃ v', e = .returned v' ∧ OwnT w.heap.size v' ts w' ∧ Below w.heap.size w w' := by
  obtain ⟨i0, hi, hz0, hz1, hz2⟩ := info_parts infoNode
  have hcells := rowT_cells (hE.below (below_box (Below.refl (w.alloc (.cells #[] 70)).heap.size (w.alloc (.cells #[] 70)))))
  have hnil : ∀ w : World, (binOp .eql 37 (.slice (some ⟨b, off, none⟩) ts.length cap) (.slice none 0 0)).run Try.prog w = .ok (.bool false) w := fun _ => rfl
  have hown := World.ownsRow_made (e := 70) (size := 4) (base := w.heap.size) w #[] 0 (Nat.le_refl _) (by decide) (by decide)
  go_enter Try.func68, Try.ntmps68
  go_wp2_with (first | (at_builtin; refine wpList_append_own _ rfl _ _ 37 rfl w.heap.size 70 i0 (.agg #[.int .i64 0, .int .i64 0, .bool false, .int .i64 0]) 4 32 Try.underlying37 hi hz0 hz1 hz2 rfl (by decide) _ _ _ rfl hown ⟨b, off, none⟩ ts.length cap (tcells ts) rfl (tc_len ts) hcells (tc_one ts) ?c3 ?c4 ?c5 ?_))
  case c3 => unfold maxLen; omega
  case c4 => omega
  case c5 => simp
  · intro v' w5 hown' hgrow _
    have hT : OwnT w.heap.size v' ts w5 := by unfold OwnT; simpa using hown'
    have hgb : Below w.heap.size _ w5 := grown_belowT hgrow (by intro y hy; simp only [Value.ownBlock, Option.some.injEq] at hy; omega) (by simp only [World.size_alloc]; omega)
    have hbe : Below w.heap.size w w5 := (below_box (Below.refl _ _)).trans hgb
    clear hown' hgrow hgb hown hcells hE
    go_wp2_with fail
    go_ret
    exact ⟨_, rfl, hT, hbe⟩

set_option maxRecDepth 100000 in
set_option maxHeartbeats 3200000 in
theorem i_withEntry (b0 off0 cap : Nat) (ts : List Nd) (a : Int) (L : Nat) (val : Int) (w : World) (hE : RowT (some ⟨b0, off0, none⟩) ts.length (nAt ts) w) (hok : OkT ts) (hne : 0 < ts.length) (hlen : ts.length ≤ 1000000) (hL : L ≤ 32) (ha0 : 0 ≤ a) (ha1 : a ≤ 4294967295) :
    Calls Try.prog 52 #[.slice (some ⟨b0, off0, none⟩) ts.length cap, .agg #[.int .i64 a, .int .i64 L, .int .i64 val]] w fun e w' => ∃ v', e = .returned v' ∧ OwnT w.heap.size v' (insT a L val ts) w' ∧ Below w.heap.size w w' := by
  obtain ⟨i0, hi, hz0, hz1, hz2⟩ := info_parts infoNode
  have ix0 : ∀ (z o : Int) (w : World), (Instr.index 90 (.agg #[.int .i64 z, .int .i64 o]) (.int .i64 0)).run Try.prog w = .ok (.int .i64 z) w := fun _ _ _ => by kernel_rfl
  have ix1 : ∀ (z o : Int) (w : World), (Instr.index 90 (.agg #[.int .i64 z, .int .i64 o]) (.int .i64 1)).run Try.prog w = .ok (.int .i64 o) w := fun _ _ _ => by kernel_rfl
  have hIns := hide (insTo_ok hok hne a)
  have hR1 := hE.below (below_box (Below.refl (w.alloc (.cells #[.int .i64 a, .int .i64 L, .int .i64 val] 32)).heap.size (w.alloc (.cells #[.int .i64 a, .int .i64 L, .int .i64 val] 32))))
  have hcl := i_clone b0 off0 cap ts (w.alloc (.cells #[.int .i64 a, .int .i64 L, .int .i64 val] 32)) hR1 (by omega)
  clear hE hR1
  go_enter Try.func52, Try.ntmps52
  go_wp2_with fail
  refine hcl.mono ?_
  clear hcl
  rintro e w1 ⟨v1, rfl, hown0, hb1⟩
  have hB1 := (Blk.new w #[.int .i64 a, .int .i64 L, .int .i64 val] 32).below hb1
  have hown0 := own_base hown0 (show w.heap.size ≤ (w.alloc (.cells #[.int .i64 a, .int .i64 L, .int .i64 val] 32)).heap.size by simp)
  have hb1 := below_box hb1
  have hbs1 := hb1.size
  obtain ⟨g00, c00, rfl, _, _⟩ := ownT_shape hown0 hne
  have p1 := hB1.cell 1
  simp at p1
  go_wp2_with fail
  clear p1
  go_loopw [5, 6, 7, 8, 9, 15] (fun v at_ _ _ _ kk wr => ∃ k : Nat, k ≤ L ∧ kk = .int .i64 k ∧ at_ = .int .i64 (insTo a ts k).2 ∧ OwnT w.heap.size v (insTo a ts k).1 wr ∧ Below w.heap.size w wr ∧ Blk wr w.heap.size #[.int .i64 a, .int .i64 L, .int .i64 val] 32) (fun _ _ _ _ _ kk _ => L - (intOf kk).toNat)
  case atStart => exact ⟨0, Nat.zero_le _, rfl, rfl, hown0, hb1, hB1⟩
  case round =>
    obtain ⟨k, hk, rfl, rfl, hown, hb, hB⟩ := hrel
    have hi1 := hIns.out k
    obtain ⟨_, hlt, hl1, hl2⟩ := hi1
    obtain ⟨g, c, rfl, hg0, hg1⟩ := ownT_shape hown (by omega)
    have p0 := hB.cell 0
    have p1 := hB.cell 1
    have p2 := hB.cell 2
    simp at p0 p1 p2
    have hnb := ownT_ne hown hB (by decide)
    have hbs := hb.size
    clear hown0 hb1 hB1 hbs1
    by_cases hkl : k < L
    · have hkl' : (k : Int) < (L : Int) := by omega
      have hH := (hIns.out k).ok.half hlt (bitA a k)
      have hstep : Hid (insTo a ts (k + 1) = insStep (bitA a k) (insTo a ts k)) := rfl
      have s1 := hide (fun w => i_bitAt a k w ha0 ha1 (by omega) (by omega))
      have hbit := bitA_bd a k
      generalize bitA a k = bb at *
      generalize hS : insTo a ts k = S at *
      have hSH := hide hS
      clear hS
      obtain ⟨tt, q⟩ := S
      dsimp only at *
      obtain ⟨⟨c0, c1, c2, c3⟩, hfr⟩ := ownT_at hown hlt
      have hql : (q : Int) < (tt.length : Int) := by omega
      have s2 := hide (fun w => i_nodeHalves (nAt tt q).z (nAt tt q).o (nAt tt q).v (nAt tt q).h w)
      have hI0 := hide (ins_n (bit := bb) (ts := tt) (q := q))
      have hI1 := hide (ins_y (bit := bb) (ts := tt) (q := q))
      have hS4 := hide (fun w' (h : OwnT w.heap.size (.slice (some ⟨g, 0, none⟩) tt.length c) tt w') n => ownT_set4 h hlt n)
      have hOW := hide hown
      have hn0 : Hid (setHalf (nAt tt q) 0 tt.length = ⟨tt.length, (nAt tt q).o, (nAt tt q).h, (nAt tt q).v⟩) := rfl
      have hn1 : Hid (setHalf (nAt tt q) 1 tt.length = ⟨(nAt tt q).z, tt.length, (nAt tt q).h, (nAt tt q).v⟩) := rfl
      have hh0 : Hid (halfOf (nAt tt q) 0 = (nAt tt q).z) := rfl
      have hh1 : Hid (halfOf (nAt tt q) 1 = (nAt tt q).o) := rfl
      generalize hzz : (nAt tt q).z = z at *
      generalize hoo : (nAt tt q).o = oo at *
      generalize hhh : (nAt tt q).h = hh at *
      generalize hvv : (nAt tt q).v = vv at *
      clear hzz hoo hhh hvv hown hfr
      have w0 := hide (fun w => i_withHalf0 z oo vv tt.length hh w)
      have w1' := hide (fun w => i_withHalf1 z oo vv tt.length hh w)
      rcases (show bb = 0 ∨ bb = 1 by omega) with rfl | rfl
      · rw [hh0.out] at hH
        by_cases hz : z = 0
        · have hY := hide (hI1.out (hh0.out.trans hz))
          subst hz
          clear hI0 hI1 hH
          go_wp2_with fail
          refine (s1.out _).mono ?_
          rintro e w2 ⟨rfl, rfl⟩
          go_wp2_with fail
          refine (s2.out _).mono ?_
          rintro e w3 ⟨rfl, hb3⟩
          have C0 := ((bcell hb3).1 g (q * 4) hg1).trans c0
          have C1 := ((bcell hb3).1 g (q * 4 + 1) hg1).trans c1
          have C2 := ((bcell hb3).1 g (q * 4 + 2) hg1).trans c2
          have C3 := ((bcell hb3).1 g (q * 4 + 3) hg1).trans c3
          have hg3 : g < w3.heap.size := Nat.lt_of_lt_of_le hg1 hb3.size
          clear c0 c1 c2 c3
          go_wp2_with fail
          refine (w0.out _).mono ?_
          rintro e w4 ⟨rfl, hb4⟩
          have hb12 := below_step hb3 hb4
          have hown := ownT_below hOW.out hb12
          have hB2 := hB.below hb12
          have hbz := hb.trans (hb12.mono hbs)
          have hbs2 := hbz.size
          have hg4 : g < w4.heap.size := Nat.lt_of_lt_of_le hg3 hb4.size
          obtain ⟨⟨E0, E1, E2, E3⟩, hfr⟩ := ownT_at hown hlt
          have f0 := hfr (q * 4)
          have f1 := hfr (q * 4 + 1)
          have f2 := hfr (q * 4 + 2)
          have f3 := hfr (q * 4 + 3)
          have hO4 := hS4.out w4 hown ⟨(tt.length : Int), oo, hh, vv⟩
          dsimp only at hO4
          have hlen4 : (tt.set q ⟨(tt.length : Int), oo, hh, vv⟩).length = tt.length := by simp
          have hB4 := (((hB2.other hnb (q * 4) (.int .i64 (⟨(tt.length : Int), oo, hh, vv⟩ : Nd).z)).other hnb (q * 4 + 1) (.int .i64 (⟨(tt.length : Int), oo, hh, vv⟩ : Nd).o)).other hnb (q * 4 + 2) (.bool (⟨(tt.length : Int), oo, hh, vv⟩ : Nd).h)).other hnb (q * 4 + 3) (.int .i64 (⟨(tt.length : Int), oo, hh, vv⟩ : Nd).v)
          dsimp only at hB4
          have hbz4 := (((hbz.setCell (p := ⟨g, q * 4, none⟩) hg0 (.int .i64 (⟨(tt.length : Int), oo, hh, vv⟩ : Nd).z)).setCell (p := ⟨g, q * 4 + 1, none⟩) hg0 (.int .i64 (⟨(tt.length : Int), oo, hh, vv⟩ : Nd).o)).setCell (p := ⟨g, q * 4 + 2, none⟩) hg0 (.bool (⟨(tt.length : Int), oo, hh, vv⟩ : Nd).h)).setCell (p := ⟨g, q * 4 + 3, none⟩) hg0 (.int .i64 (⟨(tt.length : Int), oo, hh, vv⟩ : Nd).v)
          dsimp only at hbz4
          have hOH : Hid (World.ownsRow ((((w4.setCell ⟨g, q * 4, none⟩ (.int .i64 (⟨(tt.length : Int), oo, hh, vv⟩ : Nd).z)).setCell ⟨g, q * 4 + 1, none⟩ (.int .i64 (⟨(tt.length : Int), oo, hh, vv⟩ : Nd).o)).setCell ⟨g, q * 4 + 2, none⟩ (.bool (⟨(tt.length : Int), oo, hh, vv⟩ : Nd).h)).setCell ⟨g, q * 4 + 3, none⟩ (.int .i64 (⟨(tt.length : Int), oo, hh, vv⟩ : Nd).v)) w.heap.size 70 4 (.slice (some ⟨g, 0, none⟩) tt.length c) tt.length (tcells (tt.set q ⟨(tt.length : Int), oo, hh, vv⟩))) := by
            have h := hO4
            unfold OwnT at h
            rw [hlen4] at h
            exact h
          have hOH := hOH.out
          dsimp only at hOH
          clear hb3 hb4 hb12 C0 C1 C2 C3 hfr hown hB2 hbz hO4
          generalize hW4 : ((((w4.setCell ⟨g, q * 4, none⟩ (.int .i64 (⟨(tt.length : Int), oo, hh, vv⟩ : Nd).z)).setCell ⟨g, q * 4 + 1, none⟩ (.int .i64 (⟨(tt.length : Int), oo, hh, vv⟩ : Nd).o)).setCell ⟨g, q * 4 + 2, none⟩ (.bool (⟨(tt.length : Int), oo, hh, vv⟩ : Nd).h)).setCell ⟨g, q * 4 + 3, none⟩ (.int .i64 (⟨(tt.length : Int), oo, hh, vv⟩ : Nd).v)) = W4 at hOH hB4 hbz4
          dsimp only at hW4
          have hbs4 := hbz4.size
          go_wp2_with (first | (at_builtin; refine wpList_append_own _ rfl _ _ 37 rfl w.heap.size 70 i0 (.agg #[.int .i64 0, .int .i64 0, .bool false, .int .i64 0]) 4 32 Try.underlying37 hi hz0 hz1 hz2 rfl (by decide) _ _ _ rfl (World.ownsRow.alloc hOH _) ⟨W4.heap.size, 0, none⟩ 1 1 (ndc nd0) rfl rfl ?c1 ?c2 ?c3 ?c4 ?c5 ?_))
          case c1 =>
            intro j u hj
            match j, hj with
            | 0, hj => simp [ndc, nd0] at hj; subst hj; simp [Addr.add]
            | 1, hj => simp [ndc, nd0] at hj; subst hj; simp [Addr.add]
            | 2, hj => simp [ndc, nd0] at hj; subst hj; simp [Addr.add]
            | 3, hj => simp [ndc, nd0] at hj; subst hj; simp [Addr.add]
          case c2 => intro u hu; simp [ndc, nd0] at hu; rcases hu with rfl | rfl | rfl | rfl <;> rfl
          case c3 => unfold maxLen; omega
          case c4 => omega
          case c5 => simp; omega
          · intro v' w5 hown' hgrow _
            have hT : OwnT w.heap.size v' (tt.set q ⟨(tt.length : Int), oo, hh, vv⟩ ++ [nd0]) w5 := by unfold OwnT; rw [tc_app]; simpa using hown'
            have hgb : Below w.heap.size _ w5 := grown_belowT hgrow (by intro y hy; simp only [Value.ownBlock, Option.some.injEq] at hy; omega) (by simp only [World.size_alloc]; omega)
            have hbe : Below w.heap.size w w5 := (hbz4.trans ((below_box (Below.refl _ _)).mono hbs4)).trans hgb
            have hB5 := (hB4.below (below_box (Below.refl _ _))).grown hgrow (by simp only [Value.ownBlock, ne_eq, Option.some.injEq]; exact hnb)
            have hst : Hid (insTo a ts (k + 1) = (tt.set q ⟨(tt.length : Int), oo, hh, vv⟩ ++ [nd0], tt.length)) := by show _ = _; rw [hstep.out, hY.out, hn0.out]
            clear hown' hgrow hgb hOH hB4 hbz4 hW4
            go_wp2_with fail
            exact ⟨⟨k + 1, by omega, by go_num, by rw [hst.out], by rw [hst.out]; exact hT, hbe, hB5⟩, by simp [intOf]; omega⟩
        · have hY := hide (hI0.out (by rw [hh0.out]; exact hz))
          have hY := hY.out
          rw [hh0.out] at hY
          have hzb : (z == 0) = false := by simpa using hz
          clear hI0 hI1 hz
          obtain ⟨y, hy⟩ := Int.eq_ofNat_of_zero_le hH.1
          subst hy
          rw [Int.toNat_natCast] at hY
          have hY := hide hY
          go_wp2_with fail
          refine (s1.out _).mono ?_
          rintro e w2 ⟨rfl, rfl⟩
          go_wp2_with fail
          refine (s2.out _).mono ?_
          rintro e w3 ⟨rfl, hb3⟩
          have hown := ownT_below hOW.out hb3
          have hB2 := hB.below hb3
          have hbz := hb.trans (hb3.mono hbs)
          clear hb3 c0 c1 c2 c3
          go_wp2_with fail
          have hst : Hid (insTo a ts (k + 1) = (tt, y)) := by show _ = _; rw [hstep.out, hY.out]
          exact ⟨⟨k + 1, by omega, by go_num, by rw [hst.out], by rw [hst.out]; exact hown, hbz, hB2⟩, by simp [intOf]; omega⟩
      · rw [hh1.out] at hH
        by_cases hz : oo = 0
        · have hY := hide (hI1.out (hh1.out.trans hz))
          subst hz
          clear hI0 hI1 hH
          go_wp2_with fail
          refine (s1.out _).mono ?_
          rintro e w2 ⟨rfl, rfl⟩
          go_wp2_with fail
          refine (s2.out _).mono ?_
          rintro e w3 ⟨rfl, hb3⟩
          have C0 := ((bcell hb3).1 g (q * 4) hg1).trans c0
          have C1 := ((bcell hb3).1 g (q * 4 + 1) hg1).trans c1
          have C2 := ((bcell hb3).1 g (q * 4 + 2) hg1).trans c2
          have C3 := ((bcell hb3).1 g (q * 4 + 3) hg1).trans c3
          have hg3 : g < w3.heap.size := Nat.lt_of_lt_of_le hg1 hb3.size
          clear c0 c1 c2 c3
          go_wp2_with fail
          refine (w1'.out _).mono ?_
          rintro e w4 ⟨rfl, hb4⟩
          have hb12 := below_step hb3 hb4
          have hown := ownT_below hOW.out hb12
          have hB2 := hB.below hb12
          have hbz := hb.trans (hb12.mono hbs)
          have hbs2 := hbz.size
          have hg4 : g < w4.heap.size := Nat.lt_of_lt_of_le hg3 hb4.size
          obtain ⟨⟨E0, E1, E2, E3⟩, hfr⟩ := ownT_at hown hlt
          have f0 := hfr (q * 4)
          have f1 := hfr (q * 4 + 1)
          have f2 := hfr (q * 4 + 2)
          have f3 := hfr (q * 4 + 3)
          have hO4 := hS4.out w4 hown ⟨z, (tt.length : Int), hh, vv⟩
          dsimp only at hO4
          have hlen4 : (tt.set q ⟨z, (tt.length : Int), hh, vv⟩).length = tt.length := by simp
          have hB4 := (((hB2.other hnb (q * 4) (.int .i64 (⟨z, (tt.length : Int), hh, vv⟩ : Nd).z)).other hnb (q * 4 + 1) (.int .i64 (⟨z, (tt.length : Int), hh, vv⟩ : Nd).o)).other hnb (q * 4 + 2) (.bool (⟨z, (tt.length : Int), hh, vv⟩ : Nd).h)).other hnb (q * 4 + 3) (.int .i64 (⟨z, (tt.length : Int), hh, vv⟩ : Nd).v)
          dsimp only at hB4
          have hbz4 := (((hbz.setCell (p := ⟨g, q * 4, none⟩) hg0 (.int .i64 (⟨z, (tt.length : Int), hh, vv⟩ : Nd).z)).setCell (p := ⟨g, q * 4 + 1, none⟩) hg0 (.int .i64 (⟨z, (tt.length : Int), hh, vv⟩ : Nd).o)).setCell (p := ⟨g, q * 4 + 2, none⟩) hg0 (.bool (⟨z, (tt.length : Int), hh, vv⟩ : Nd).h)).setCell (p := ⟨g, q * 4 + 3, none⟩) hg0 (.int .i64 (⟨z, (tt.length : Int), hh, vv⟩ : Nd).v)
          dsimp only at hbz4
          have hOH : Hid (World.ownsRow ((((w4.setCell ⟨g, q * 4, none⟩ (.int .i64 (⟨z, (tt.length : Int), hh, vv⟩ : Nd).z)).setCell ⟨g, q * 4 + 1, none⟩ (.int .i64 (⟨z, (tt.length : Int), hh, vv⟩ : Nd).o)).setCell ⟨g, q * 4 + 2, none⟩ (.bool (⟨z, (tt.length : Int), hh, vv⟩ : Nd).h)).setCell ⟨g, q * 4 + 3, none⟩ (.int .i64 (⟨z, (tt.length : Int), hh, vv⟩ : Nd).v)) w.heap.size 70 4 (.slice (some ⟨g, 0, none⟩) tt.length c) tt.length (tcells (tt.set q ⟨z, (tt.length : Int), hh, vv⟩))) := by
            have h := hO4
            unfold OwnT at h
            rw [hlen4] at h
            exact h
          have hOH := hOH.out
          dsimp only at hOH
          clear hb3 hb4 hb12 C0 C1 C2 C3 hfr hown hB2 hbz hO4
          generalize hW4 : ((((w4.setCell ⟨g, q * 4, none⟩ (.int .i64 (⟨z, (tt.length : Int), hh, vv⟩ : Nd).z)).setCell ⟨g, q * 4 + 1, none⟩ (.int .i64 (⟨z, (tt.length : Int), hh, vv⟩ : Nd).o)).setCell ⟨g, q * 4 + 2, none⟩ (.bool (⟨z, (tt.length : Int), hh, vv⟩ : Nd).h)).setCell ⟨g, q * 4 + 3, none⟩ (.int .i64 (⟨z, (tt.length : Int), hh, vv⟩ : Nd).v)) = W4 at hOH hB4 hbz4
          dsimp only at hW4
          have hbs4 := hbz4.size
          go_wp2_with (first | (at_builtin; refine wpList_append_own _ rfl _ _ 37 rfl w.heap.size 70 i0 (.agg #[.int .i64 0, .int .i64 0, .bool false, .int .i64 0]) 4 32 Try.underlying37 hi hz0 hz1 hz2 rfl (by decide) _ _ _ rfl (World.ownsRow.alloc hOH _) ⟨W4.heap.size, 0, none⟩ 1 1 (ndc nd0) rfl rfl ?c1 ?c2 ?c3 ?c4 ?c5 ?_))
          case c1 =>
            intro j u hj
            match j, hj with
            | 0, hj => simp [ndc, nd0] at hj; subst hj; simp [Addr.add]
            | 1, hj => simp [ndc, nd0] at hj; subst hj; simp [Addr.add]
            | 2, hj => simp [ndc, nd0] at hj; subst hj; simp [Addr.add]
            | 3, hj => simp [ndc, nd0] at hj; subst hj; simp [Addr.add]
          case c2 => intro u hu; simp [ndc, nd0] at hu; rcases hu with rfl | rfl | rfl | rfl <;> rfl
          case c3 => unfold maxLen; omega
          case c4 => omega
          case c5 => simp; omega
          · intro v' w5 hown' hgrow _
            have hT : OwnT w.heap.size v' (tt.set q ⟨z, (tt.length : Int), hh, vv⟩ ++ [nd0]) w5 := by unfold OwnT; rw [tc_app]; simpa using hown'
            have hgb : Below w.heap.size _ w5 := grown_belowT hgrow (by intro y hy; simp only [Value.ownBlock, Option.some.injEq] at hy; omega) (by simp only [World.size_alloc]; omega)
            have hbe : Below w.heap.size w w5 := (hbz4.trans ((below_box (Below.refl _ _)).mono hbs4)).trans hgb
            have hB5 := (hB4.below (below_box (Below.refl _ _))).grown hgrow (by simp only [Value.ownBlock, ne_eq, Option.some.injEq]; exact hnb)
            have hst : Hid (insTo a ts (k + 1) = (tt.set q ⟨z, (tt.length : Int), hh, vv⟩ ++ [nd0], tt.length)) := by show _ = _; rw [hstep.out, hY.out, hn1.out]
            clear hown' hgrow hgb hOH hB4 hbz4 hW4
            go_wp2_with fail
            exact ⟨⟨k + 1, by omega, by go_num, by rw [hst.out], by rw [hst.out]; exact hT, hbe, hB5⟩, by simp [intOf]; omega⟩
        · have hY := hide (hI0.out (by rw [hh1.out]; exact hz))
          have hY := hY.out
          rw [hh1.out] at hY
          have hzb : (oo == 0) = false := by simpa using hz
          clear hI0 hI1 hz
          obtain ⟨y, hy⟩ := Int.eq_ofNat_of_zero_le hH.1
          subst hy
          rw [Int.toNat_natCast] at hY
          have hY := hide hY
          go_wp2_with fail
          refine (s1.out _).mono ?_
          rintro e w2 ⟨rfl, rfl⟩
          go_wp2_with fail
          refine (s2.out _).mono ?_
          rintro e w3 ⟨rfl, hb3⟩
          have hown := ownT_below hOW.out hb3
          have hB2 := hB.below hb3
          have hbz := hb.trans (hb3.mono hbs)
          clear hb3 c0 c1 c2 c3
          go_wp2_with fail
          have hst : Hid (insTo a ts (k + 1) = (tt, y)) := by show _ = _; rw [hstep.out, hY.out]
          exact ⟨⟨k + 1, by omega, by go_num, by rw [hst.out], by rw [hst.out]; exact hown, hbz, hB2⟩, by simp [intOf]; omega⟩
    · have hkL : k = L := by omega
      subst hkL
      generalize hS : insTo a ts k = S at *
      have hFin : Hid (insT a k val ts = S.1.set S.2 { nAt S.1 S.2 with h := true, v := val }) := by show insT a k val ts = _; unfold insT; rw [hS]
      clear hS hIns
      obtain ⟨tt, q⟩ := S
      dsimp only at *
      obtain ⟨⟨c0, c1, c2, c3⟩, hfr⟩ := ownT_at hown hlt
      have f2 := hfr (q * 4 + 2)
      have f3 := hfr (q * 4 + 3)
      have hql : (q : Int) < (tt.length : Int) := by omega
      have hT1 := ownT_set hown (tc_set (ts := tt) (i := q) hlt 0 true).2.2.1 (by simp)
      have hT2 := ownT_set hT1 (tc_set (ts := tt.set q { nAt tt q with h := true }) (i := q) (by simpa using hlt) val true).2.2.2 (by simp)
      rw [List.set_set, nAt_set hlt, if_pos rfl] at hT2
      have hT2 := hide hT2
      have p2' := fun v => (World.cell?_setCell_other wr ⟨g, q * 4 + 2, none⟩ ⟨w.heap.size, 2, none⟩ v (by simp <;> omega)).trans p2
      clear hown hT1 hfr
      go_wp2_with fail
      go_ret
      refine ⟨_, rfl, ?_, (hb.setCell hg0 _).setCell hg0 _⟩
      rw [hFin.out]
      simpa using hT2.out

set_option maxRecDepth 100000 in
set_option maxHeartbeats 1600000 in
theorem i_buildTrie_yes (a0 : Option Addr) (len cap : Nat) (f0 f1 f2 : Nat → Int) (w : World) (hl : len ≤ 1048576) (hE : RowEntry a0 len f0 f1 f2 w) (ht : tabB f0 f1 f2 len = true) :
    Calls Try.prog 20 #[.slice a0 len cap] w fun e w' => ∃ v', e = .returned (.tuple #[v', .bool true]) ∧ OwnT w.heap.size v' (buildTo f0 f1 f2 len) w' ∧ Below w.heap.size w w' := by
  have s0 := hide (fun w hE => i_goodTable a0 len cap f0 f1 f2 w hl hE)
  rw [ht] at s0
  obtain ⟨h30, hF⟩ := tab_facts ht
  have hOK := hide (build_ok f0 f1 f2 len (fun i hi => (hF i hi).1))
  have hF := hide hF
  clear ht
  go_enter Try.func20, Try.ntmps20
  go_wp2_with fail
  refine (s0.out _ hE).mono ?_
  rintro e w0 ⟨rfl, hb0⟩
  have hz0 := hb0.size
  clear s0
  go_wp2_with fail
  go_loopw [4, 6, 14] (fun v _ i wr => ∃ k : Nat, k ≤ len ∧ i = .int .i64 k ∧ OwnT w.heap.size v (buildTo f0 f1 f2 k) wr ∧ Below w.heap.size w wr) (fun _ _ i _ => len - (intOf i).toNat)
  case atStart => exact ⟨0, Nat.zero_le _, rfl, World.ownsRow_lit w0 #[.int .i64 0, .int .i64 0, .bool false, .int .i64 0] 1 hz0 (by decide) rfl, hb0.trans ((below_box (Below.refl _ _)).mono hz0)⟩
  case round =>
    obtain ⟨k, hk, rfl, hown, hb⟩ := hrel
    by_cases hlt : k < len
    · obtain ⟨b, off, rfl, hbw, h0, h1, h2⟩ := (hE.below hb) k hlt
      have hlt' : (k : Int) < (len : Int) := by omega
      obtain ⟨o1, o2, o3⟩ := hOK.out k (by omega)
      obtain ⟨⟨l0, l1⟩, a0', a1'⟩ := hF.out k hlt
      have hst : Hid (buildTo f0 f1 f2 (k + 1) = insT (f0 k) (f1 k).toNat (f2 k) (buildTo f0 f1 f2 k)) := rfl
      obtain ⟨L, hL⟩ := Int.eq_ofNat_of_zero_le l0
      rw [hL] at h1 hst l1
      rw [Int.toNat_natCast] at hst
      have hbs := hb.size
      obtain ⟨g, c, rfl, hg0, hg1⟩ := ownT_shape hown o2
      have s1 := hide (fun b0 off0 cap0 w' hR => i_withEntry b0 off0 cap0 (buildTo f0 f1 f2 k) (f0 k) L (f2 k) w' hR o1 o2 (by omega) (by omega) a0' a1')
      have hO := fun o => (ownT_row hown hg1).below (below_box (Below.refl (wr.alloc o).heap.size (wr.alloc o)))
      clear hE hL hown
      generalize (f0 k) = a at *
      generalize (f2 k) = v at *
      go_wp2_with fail
      refine (s1.out _ _ _ _ (hO _)).mono ?_
      rintro e w1 ⟨v', rfl, hown', hb'⟩
      have hbz := hb.trans ((below_box hb').mono hbs)
      have hown' := own_base hown' (show w.heap.size ≤ _ by simp only [World.size_alloc]; omega)
      clear hb' hO
      go_wp2_with fail
      exact ⟨⟨k + 1, by omega, by go_num, by rw [hst.out]; exact hown', hbz⟩, by simp [intOf]; omega⟩
    · have hk' : k = len := by omega
      subst hk'
      obtain ⟨o1, o2, o3⟩ := hOK.out k (by omega)
      obtain ⟨g, c, rfl, hg0, hg1⟩ := ownT_shape hown o2
      clear hE
      go_wp2_with fail
      refine bodyPost_ret (v := .tuple #[.slice (some ⟨g, 0, none⟩) (buildTo f0 f1 f2 k).length c, .bool true]) (by simp [results, Try.results20, go_sem]) rfl ⟨_, rfl, hown, hb⟩
set_option maxRecDepth 100000 in
set_option maxHeartbeats 800000 in
theorem i_buildTrie_no (a0 : Option Addr) (len cap : Nat) (f0 f1 f2 : Nat → Int) (w : World) (hl : len ≤ 1048576) (hE : RowEntry a0 len f0 f1 f2 w) (ht : tabB f0 f1 f2 len = false) :
    Calls Try.prog 20 #[.slice a0 len cap] w fun e w' => e = .returned (.tuple #[.slice none 0 0, .bool false]) ∧ Below w.heap.size w w' := by
  have s1 := hide (fun w hE => i_goodTable a0 len cap f0 f1 f2 w hl hE)
  rw [ht] at s1
  go_enter Try.func20, Try.ntmps20
  go_wp2_with fail
  refine (s1.out _ hE).mono ?_
  rintro e w1 ⟨rfl, hb1⟩
  go_wp2_with fail
  refine bodyPost_ret (v := .tuple #[.slice none 0 0, .bool false]) (by simp [results, Try.results20, go_sem]) rfl ⟨rfl, hb1⟩
end Go.Proofs.Ytjmflkheaioboab
