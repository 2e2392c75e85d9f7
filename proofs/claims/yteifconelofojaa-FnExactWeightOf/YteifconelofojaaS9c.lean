/- WeightOf of the specification. -/
import Derived.Test.YteifconelofojaaS9b
import Derived.Test.YteifconelofojaaS6r
import Derived.Test.YteifconelofojaaPlain7f
namespace Go.Proofs.Yteifconelofojaa
open Go.RowKit

theorem coB_iff {n : Nat} {g : Nat → Int} {x : Int} : coB n g x = true ↔ ∃ j, j < n ∧ g j = x := by
  unfold coB
  rw [List.any_eq_true]
  constructor
  · rintro ⟨j, hj, h⟩; exact ⟨j, List.mem_range.1 hj, eq_of_beq h⟩
  · rintro ⟨j, hj, h⟩; exact ⟨j, List.mem_range.2 hj, beq_iff_eq.2 h⟩
theorem coB_no {n : Nat} {g : Nat → Int} {x : Int} (h : coB n g x = false) : ∀ j, j < n → g j ≠ x := fun j hj e => by
  have := coB_iff.2 ⟨j, hj, e⟩
  rw [h] at this
  cases this
theorem RowInt.rowN9 {a : Option Addr} {n : Nat} {f : Nat → Int} {w : World} (h : RowInt a n f w) : RowN .i64 a ((List.range n).map f) w := by
  intro i hi
  rw [List.length_map, List.length_range] at hi
  obtain ⟨b, off, ha, hb, h0⟩ := h i hi
  refine ⟨b, off, ha, hb, ?_⟩
  rw [h0]
  congr 2
  rw [List.getD_eq_getElem?_getD, List.getElem?_map, List.getElem?_range hi]
  rfl
theorem RowInt.take9 {a : Option Addr} {n : Nat} {f : Nat → Int} {w : World} (h : RowInt a n f w) {k : Nat} (hk : k ≤ n) : RowInt a k f w := fun i hi => h i (by omega)
/-- What WeightOf answers. -/
noncomputable def wgR (g : Int) (m : Nat) (T : Nat → Lc) (n : Nat) (f0 f1 f2 : Nat → Int) (pn : Nat) (pf : Nat → Int) : Option Int := if pB (NA g m T n f0 f1 f2 ∧ PathOk pn pf) then wt9 (fun x y => lab9 f0 f1 f2 x y n) T pn pf (pn - 1) else none
theorem lab9_lt {m n : Nat} {f0 f1 f2 : Nat → Int} (h : ∀ i, i < n → ArOk m (f0 i) (f1 i) (f2 i)) (hm : 1 ≤ m) (x y : Int) : lab9 f0 f1 f2 x y n < (m : Int) := by
  unfold lab9
  cases hx : fst9 f0 f1 x y n with
  | none => simp; omega
  | some i => exact (h i (fst9_some.1 hx).1).2.2.2.2.2.2
theorem s_has9 (a : Option Addr) (n c : Nat) (g : Nat → Int) (x : Int) (w : World) (hl : n ≤ 1048576) (hR : RowInt a n g w) :
    Calls Try.prog 86 #[.slice a n c, .int .i64 x] w fun e w' => e = .returned (.bool (coB n g x)) ∧ w' = w := by
  have h := s_l1Has a ((List.range n).map g) c x w (by simpa using hl) hR.rowN9
  have e : hasN ((List.range n).map g) x = coB n g x := by
    simp only [hasN, coB, List.any_map]
    rfl
  rw [e] at h
  simpa using h
set_option maxRecDepth 100000 in
set_option maxHeartbeats 3200000 in
theorem s_weightOf (g : Int) (a : Option Addr) (m c : Nat) (T : Nat → Lc) (ra : Option Addr) (n rc : Nat) (f0 f1 f2 : Nat → Int) (pa : Option Addr) (pn pc : Nat) (pf : Nat → Int) (w : World) (hm : m ≤ 1048576) (hl : LowL m T) (hR : RowLL a m T w) (hn : n ≤ 1048576) (hA : RowArc ra n f0 f1 f2 w) (hp : pn ≤ 1048576) (hpc : pn ≤ pc) (hP : RowInt pa pn pf w) :
    Calls Try.prog 33 #[.agg #[.int .i64 g, .slice a m c], .slice ra n rc, .slice pa pn pc] w fun e w' => e = .returned (.tuple #[.int .i64 ((wgR g m T n f0 f1 f2 pn pf).getD 0), .bool (wgR g m T n f0 f1 f2 pn pf).isSome]) ∧ Below w.heap.size w w' := by
  have hNo : Hid (¬ (NA g m T n f0 f1 f2 ∧ PathOk pn pf) → wgR g m T n f0 f1 f2 pn pf = none) := fun h => by unfold wgR; rw [pB_f h]; simp
  have hYes : Hid (NA g m T n f0 f1 f2 ∧ PathOk pn pf → wgR g m T n f0 f1 f2 pn pf = wt9 (fun x y => lab9 f0 f1 f2 x y n) T pn pf (pn - 1)) := fun h => by unfold wgR; rw [pB_t h]; simp
  generalize wgR g m T n f0 f1 f2 pn pf = rr at *
  have SA := hide (fun w R A => s_arcs9 g a m c T ra n rc f0 f1 f2 w hm hl R hn A)
  have SI := hide (fun w => s_in (pn : Int) 1 6 w)
  have MX := Mut.new w #[.int .i64 g, .slice a m c] 27
  have dX : Below w.heap.size w (w.alloc (.cells #[.int .i64 g, .slice a m c] 27)) := below_box (Below.refl _ _)
  have c0 := MX.2.1 0 _ rfl
  have c1 := MX.2.1 1 _ rfl
  by_cases hNA : NA g m T n f0 f1 f2
  · rw [show naB g m T n f0 f1 f2 = true from pB_t hNA] at SA
    by_cases hp6 : 1 ≤ pn ∧ pn ≤ 6
    · rw [inB_t (by omega) (by omega)] at SI
      have hpi : (pn : Int) ≤ 6 := by omega
      go_enter Try.func33, Try.ntmps33
      go_wp2_with fail
      generalize w.alloc (.cells #[.int .i64 g, .slice a m c] 27) = wx at *
      refine (SA.out _ (hR.below dX) (hA.below dX)).mono ?_
      rintro e w1 ⟨rfl, b1⟩
      replace MX := MX.below b1
      replace dX := dX.trans (b1.mono dX.size)
      clear b1 SA c0 c1
      go_wp2_with fail
      refine (SI.out _).mono ?_
      rintro e w2 ⟨rfl, hw2⟩
      rw [hw2]; clear hw2 w2 SI
      go_wp2_with fail
      obtain ⟨pb, po, hpa, _, _⟩ := hP 0 (by omega)
      subst hpa
      go_loopw [6, 7, 25] (fun _ _ y wr => ∃ k : Nat, y = .int .i64 k ∧ k ≤ pn ∧ Hid (∀ i, i < k → (0 ≤ pf i ∧ pf i ≤ 5) ∧ ∀ j, j < i → pf j ≠ pf i) ∧ Below w1.heap.size w1 wr) (fun _ _ y _ => pn - (intOf y).toNat)
      case atStart => exact ⟨0, rfl, Nat.zero_le _, fun i hi => absurd hi (by omega), Below.refl _ _⟩
      case round =>
        obtain ⟨k, rfl, hk, hall, hb⟩ := hrel
        have dY := dX.trans (hb.mono dX.size)
        by_cases hlt : k < pn
        · obtain ⟨b', off', hab, hbw, u0⟩ := hP k hlt
          simp only [Option.some.injEq, Addr.mk.injEq, and_true] at hab
          obtain ⟨rfl, rfl⟩ := hab
          replace u0 := (dY.cell (p := ⟨pb, po + k, none⟩) hbw).trans u0
          have hlt' : (k : Int) < (pn : Int) := by omega
          have hkc : (k : Int) ≤ (pc : Int) := by omega
          have S1 := hide (fun w => s_in (pf k) 0 5 w)
          have S2 := hide (fun w R => s_has9 (some ⟨pb, po, none⟩) k pc pf (pf k) w (by omega) R)
          have hPk := hide ((hP.take9 (k := k) (by omega)).below dY)
          have hBad : Hid (¬ ((0 ≤ pf k ∧ pf k ≤ 5) ∧ ∀ j, j < k → pf j ≠ pf k) → rr = none) := fun h => hNo.out (fun q => h ⟨q.2.2.2.1 k hlt, q.2.2.2.2 k hlt⟩)
          have hNext : Hid (((0 ≤ pf k ∧ pf k ≤ 5) ∧ ∀ j, j < k → pf j ≠ pf k) → ∀ i, i < k + 1 → (0 ≤ pf i ∧ pf i ≤ 5) ∧ ∀ j, j < i → pf j ≠ pf i) := fun h i hi => by
            by_cases e : i = k
            · subst e; exact h
            · exact hall.out i (by omega)
          have hco : Hid (coB k pf (pf k) = false → ∀ j, j < k → pf j ≠ pf k) := fun h => coB_no h
          have hcy : Hid (coB k pf (pf k) = true → ¬ ∀ j, j < k → pf j ≠ pf k) := fun h q => by
            obtain ⟨j, hj, e⟩ := coB_iff.1 h
            exact q j hj e
          clear hall hYes hNo hR hA hl hNA
          by_cases q1 : 0 ≤ pf k ∧ pf k ≤ 5
          · rw [inB_t q1.1 q1.2] at S1
            cases q2 : coB k pf (pf k) with
            | false =>
              rw [q2] at S2
              have hN := hide (hNext.out ⟨q1, hco.out q2⟩)
              clear hBad hNext hco hcy q2
              generalize pf k = x at *
              go_wp2_with fail
              refine (S1.out _).mono ?_
              rintro e w3 ⟨rfl, hw3⟩
              rw [hw3]; clear hw3 w3
              go_wp2_with fail
              refine (S2.out _ hPk.out).mono ?_
              rintro e w3 ⟨rfl, hw3⟩
              rw [hw3]; clear hw3 w3
              go_wp2_with fail
              exact ⟨⟨k + 1, by go_num, by omega, hN, hb⟩, by simp [intOf]; omega⟩
            | true =>
              rw [q2] at S2
              have hE := hide (hBad.out (fun h => hcy.out q2 h.2))
              clear hBad hNext hco hcy q2
              generalize pf k = x at *
              go_wp2_with fail
              refine (S1.out _).mono ?_
              rintro e w3 ⟨rfl, hw3⟩
              rw [hw3]; clear hw3 w3
              go_wp2_with fail
              refine (S2.out _ hPk.out).mono ?_
              rintro e w3 ⟨rfl, hw3⟩
              rw [hw3]; clear hw3 w3
              go_wp2_with fail
              go_ret2
              exact ⟨by rw [hE.out]; rfl, dY⟩
          · rw [inB_n q1] at S1
            have hE := hide (hBad.out (fun h => q1 h.1))
            clear hBad hNext hco hcy
            generalize pf k = x at *
            go_wp2_with fail
            refine (S1.out _).mono ?_
            rintro e w3 ⟨rfl, hw3⟩
            rw [hw3]; clear hw3 w3
            go_wp2_with fail
            go_ret2
            exact ⟨by rw [hE.out]; rfl, dY⟩
        · have hlt' : ¬ (k : Int) < (pn : Int) := by omega
          obtain rfl : k = pn := by omega
          have hOk : PathOk k pf := ⟨hp6.1, hp6.2, fun i hi => (hall.out i hi).1, fun i hi => (hall.out i hi).2⟩
          have hV := hide (hYes.out ⟨hNA, hOk⟩)
          have hOk9 := hide hOk
          have MY := MX.below hb
          clear hall hYes hNo hOk
          go_wp2_with fail
          go_loopw [6, 7, 10, 11] (fun _ _ y z wq => ∃ (q : Nat) (x : Int), y = .int .i64 x ∧ z = .int .i64 ((k : Int) - 2 - q) ∧ q ≤ k - 1 ∧ 0 ≤ x ∧ x < g ∧ Hid (wt9 (fun x y => lab9 f0 f1 f2 x y n) T k pf q = some x) ∧ Below wr.heap.size wr wq) (fun _ _ _ z _ => (intOf z + 1).toNat)
          case atStart => exact ⟨0, 0, rfl, by simp, Nat.zero_le _, Int.le_refl _, by have := hNA.1.1; omega, rfl, Below.refl _ _⟩
          case round =>
            obtain ⟨q, x, rfl, rfl, hq, hx0, hx1, hw9, hd⟩ := hrel
            have dQ := dY.trans (hd.mono dY.size)
            by_cases hlt : q < k - 1
            · obtain ⟨j, hj⟩ : ∃ j : Nat, (k : Int) - 2 - q = j := ⟨k - 2 - q, by omega⟩
              have hj1 : k - 2 - q = j := by omega
              have hj2 : k - 1 - q = j + 1 := by omega
              obtain ⟨b', off', hab, hbw, u0⟩ := hP j (by omega)
              obtain ⟨b2, off2, hab2, hbw2, u1⟩ := hP (j + 1) (by omega)
              simp only [Option.some.injEq, Addr.mk.injEq, and_true] at hab hab2
              obtain ⟨rfl, rfl⟩ := hab
              obtain ⟨rfl, rfl⟩ := hab2
              replace u0 := cell_regrown ((dQ.cell (p := ⟨pb, po + j, none⟩) hbw).trans u0)
              replace u1 := cell_regrown ((dQ.cell (p := ⟨pb, po + (j + 1), none⟩) hbw).trans u1)
              have hjl : (j : Int) < (k : Int) := by omega
              have hjl1 : (j : Int) + 1 < (k : Int) := by omega
              have hjg : (j : Int) ≥ 0 := by omega
              have e1 : ((j : Int) + 1).toNat = j + 1 := by omega
              have AR := hide (fun w A => s_arc9 ra n rc f0 f1 f2 (pf j) (pf (j + 1)) w hNA.2.1 A)
              have hA9 := hide (hA.below dQ)
              have hSu : Hid (wt9 (fun x y => lab9 f0 f1 f2 x y n) T k pf (q + 1) = if lab9 f0 f1 f2 (pf j) (pf (j + 1)) n < 0 then none else some (ap9 T (lab9 f0 f1 f2 (pf j) (pf (j + 1)) n) x)) := by
                show wt9 _ T k pf (q + 1) = _
                rw [wt9_succ, hw9.out, hj1, hj2]
              have hLm := lab9_lt hNA.2.2 hNA.1.2.2.1 (pf j) (pf (j + 1))
              generalize lab9 f0 f1 f2 (pf j) (pf (j + 1)) n = L at *
              clear hj1 hj2 hw9
              by_cases hL : L < 0
              · have hE : Hid (rr = none) := by
                  show rr = none
                  rw [hV.out]
                  exact wt9_none (k := q + 1) (by rw [hSu.out, if_pos hL]) _ (by omega)
                clear hSu hV hOk9 hR hA
                generalize pf j = y0 at *
                generalize pf (j + 1) = y1 at *
                go_wp2_with fail
                refine wp_region_quiet_below (by kernel_rfl) (by kernel_rfl) ?_
                repeat (first | go_big_quiet_step ((first | (go_at_call 76; exact Calls.regrown_of (AR.out _ (hA9.out.below (below_regrown _ _ _)))))) | quiet_step ((first | (go_at_call 76; exact Calls.regrown_of (AR.out _ (hA9.out.below (below_regrown _ _ _)))))))
                refine wpQuiet_nil ?_
                intro _ hw'
                obtain ⟨⟨dq_, osq_⟩, hw''⟩ := hw'
                subst hw''
                have hq_ := below_regrown wr dq_ osq_
                generalize Go.Sort.grow (redrawn wr dq_) osq_ = wd5 at hq_ ⊢
                have d5 := hd.trans (hq_.mono hd.size)
                clear hq_ u0 u1
                go_wp2_with fail
                go_ret2
                exact ⟨by rw [hE.out]; rfl, dY.trans (d5.mono dY.size)⟩
              · obtain ⟨l, rfl⟩ := Int.eq_ofNat_of_zero_le (show 0 ≤ L by omega)
                obtain ⟨xn, rfl⟩ := Int.eq_ofNat_of_zero_le hx0
                have hlm : l < m := by omega
                have hrow := hNA.1.2.2.2.2 l hlm
                have hap := ap9_ok hNA.1 (k := (l : Int)) (x := (xn : Int)) (by omega) (by omega) hx0 hx1
                have hN : Hid (wt9 (fun x y => lab9 f0 f1 f2 x y n) T k pf (q + 1) = some ((T l).f xn)) := by
                  show wt9 _ T k pf (q + 1) = _
                  rw [hSu.out, if_neg hL]; rfl
                have hap' : 0 ≤ (T l).f xn ∧ (T l).f xn < g := hap
                obtain ⟨bb, oo, a0, q0, ha, hbb, hcb, hro⟩ := hR l hlm
                subst ha
                obtain ⟨br, orr, hab, hbr, hcr⟩ := hro xn (by have := hrow.1; omega)
                subst hab
                have hxl : (xn : Int) < ((T l).n : Int) := by have := hrow.1; omega
                have hll : (l : Int) < (m : Int) := by omega
                have hq1 : (k : Int) - 2 - ((q + 1 : Nat) : Int) = (j : Int) - 1 := by omega
                clear hSu hap hrow
                generalize (T l).f xn = y at *
                generalize (T l).n = tn at *
                generalize pf j = y0 at *
                generalize pf (j + 1) = y1 at *
                go_wp2_with fail
                refine wp_region_quiet_below (by kernel_rfl) (by kernel_rfl) ?_
                repeat (first | go_big_quiet_step ((first | (go_at_call 76; exact Calls.regrown_of (AR.out _ (hA9.out.below (below_regrown _ _ _)))))) | quiet_step ((first | (go_at_call 76; exact Calls.regrown_of (AR.out _ (hA9.out.below (below_regrown _ _ _)))))))
                refine wpQuiet_nil ?_
                intro _ hw'
                obtain ⟨⟨dq_, osq_⟩, hw''⟩ := hw'
                subst hw''
                have hq_ := below_regrown wr dq_ osq_
                generalize Go.Sort.grow (redrawn wr dq_) osq_ = wd5 at hq_ ⊢
                have d5 := hd.trans (hq_.mono hd.size)
                clear hq_ u0 u1
                have dR := dY.trans (d5.mono dY.size)
                have MZ := MY.below d5
                have v0 := MZ.2.1 1 _ rfl
                have v1 := (dR.cell (p := ⟨bb, oo + l, none⟩) hbb).trans hcb
                have v2 := (dR.cell (p := ⟨br, orr + xn, none⟩) hbr).trans hcr
                go_wp2_with fail
                exact ⟨⟨q + 1, y, rfl, by rw [hq1], by omega, hap'.1, hap'.2, hN, d5⟩, by simp [intOf]; omega⟩
            · obtain rfl : q = k - 1 := by omega
              have hz : ¬ ((k : Int) - 2 - ((k - 1 : Nat) : Int) ≥ 0) := by omega
              have hE : Hid (rr = some x) := hV.out.trans hw9.out
              clear hV hw9 hOk9
              go_wp2_with fail
              go_ret2
              exact ⟨by rw [hE.out]; rfl, dQ⟩
    · rw [inB_n (by omega)] at SI
      have hE := hide (hNo.out (fun h => hp6 ⟨h.2.1, h.2.2.1⟩))
      clear hNo hYes hNA hl hP
      go_enter Try.func33, Try.ntmps33
      go_wp2_with fail
      refine (SA.out _ (hR.below dX) (hA.below dX)).mono ?_
      rintro e w1 ⟨rfl, b1⟩
      go_wp2_with fail
      refine (SI.out _).mono ?_
      rintro e w2 ⟨rfl, hw2⟩
      rw [hw2]; clear hw2 w2
      go_wp2_with fail
      go_ret2
      exact ⟨by rw [hE.out]; rfl, dX.trans (b1.mono dX.size)⟩
  · rw [show naB g m T n f0 f1 f2 = false from pB_f hNA] at SA
    have hE := hide (hNo.out (fun h => hNA h.1))
    clear hNo hYes hNA hl hP
    go_enter Try.func33, Try.ntmps33
    go_wp2_with fail
    refine (SA.out _ (hR.below dX) (hA.below dX)).mono ?_
    rintro e w1 ⟨rfl, b1⟩
    go_wp2_with fail
    go_ret2
    exact ⟨by rw [hE.out]; rfl, dX.trans (b1.mono dX.size)⟩
end Go.Proofs.Yteifconelofojaa
