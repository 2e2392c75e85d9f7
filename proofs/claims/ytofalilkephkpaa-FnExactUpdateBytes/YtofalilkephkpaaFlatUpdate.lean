/- Updates in memory, and what the laws do with them: handed over, compared. -/
import Derived.Test.YtofalilkephkpaaFlatAttrs
import Derived.Test.YtofalilkephkpaaFlatPrefix
import Derived.Test.YtofalilkephkpaaSz3
namespace Go.Proofs.Ytofalilkephkpaa
open Go.RowKit

theorem OutPrefix.onlyU {c n k d : Nat} {f0 f1 : Nat → Int} {w w' : World} (h : OutPrefix c n k f0 f1 w) (hb : Only d w w') (hn : c ≠ d) : OutPrefix c n k f0 f1 w' := by
  refine ⟨Nat.lt_of_lt_of_le h.1 hb.2.2.2.1, fun i hi => ?_⟩
  obtain ⟨⟨x0, x1, h0, h1, hk⟩, g0, g1⟩ := h.2 i hi
  exact ⟨⟨x0, x1, (hb.cell h.1 hn).trans h0, (hb.cell h.1 hn).trans h1, hk⟩, (hb.frozen h.1 hn).trans g0, (hb.frozen h.1 hn).trans g1⟩
/-- A few cells of one block are written: nothing else turns. -/
theorem only_sets {c : Nat} {w w' : World} (h : Only c w w') (L : List (Nat × Value)) : Only c w (L.foldl (fun u x => u.setCell ⟨c, x.1, none⟩ x.2) w') := by
  induction L generalizing w' with
  | nil => exact h
  | cons x L ih => exact ih (h.setCell x.1 x.2)
theorem below_only {c base : Nat} {w w' : World} (h : Only c w w') (hc : base ≤ c) (hb : base ≤ w.heap.size) : Below base w w' := ⟨h.1, h.2.1, h.2.2.1, h.2.2.2.1, fun k hk => h.2.2.2.2 k (by omega) (by omega)⟩

theorem w_szPrefixSm (a : Option Addr) (len cap : Nat) (m : Int) (w : World) (hl : len ≤ maxLen) (hm : m ≤ 1048576) (hm0 : 0 ≤ m) :
    Calls Try.prog 135 #[.slice a len cap, .int .i64 m] w fun e w' => e = .returned (.int .i64 (if (len : Int) ≤ m then m - (len : Int) else -1)) ∧ w' = w := by
  by_cases h : (len : Int) ≤ m
  · rw [if_pos h]; exact w_szPrefixSr a len cap m w hm h hm0
  · rw [if_neg h]; exact w_szPrefixSo a len cap m w hl hm (by omega) hm0
set_option maxRecDepth 100000 in
set_option maxHeartbeats 1600000 in
theorem w_szUpdate (ga : Option Addr) (gn gc : Nat) (o nx md pf : Int) (a0 : Option Addr) (n0 c0 : Nat) (a1 : Option Addr) (n1 c1 : Nat) (ca : Option Addr) (cn cc : Nat) (w : World) (lg : gn ≤ maxLen) (l0 : n0 ≤ maxLen) (l1 : n1 ≤ maxLen) (lc : cn ≤ maxLen) :
    Calls Try.prog 57 #[.agg #[.slice ga gn gc, .int .i64 o, .slice a0 n0 c0, .int .i64 nx, .int .i64 md, .int .i64 pf, .slice a1 n1 c1, .slice ca cn cc], .int .i64 1048576] w fun e w' => (∃ r : Int, e = .returned (.int .i64 r) ∧ ((gn + n0 + n1 + cn ≤ 1048576 ∧ 0 ≤ r) ∨ (¬ gn + n0 + n1 + cn ≤ 1048576 ∧ r < 0))) ∧ Below w.heap.size w w' := by
  have s0 := hide (fun w => w_szPrefixSm ga gn gc 1048576 w lg (by omega) (by omega))
  have M := Mut.new w #[.slice ga gn gc, .int .i64 o, .slice a0 n0 c0, .int .i64 nx, .int .i64 md, .int .i64 pf, .slice a1 n1 c1, .slice ca cn cc] 81
  have d : Below w.heap.size w (w.alloc (.cells #[.slice ga gn gc, .int .i64 o, .slice a0 n0 c0, .int .i64 nx, .int .i64 md, .int .i64 pf, .slice a1 n1 c1, .slice ca cn cc] 81)) := below_box (Below.refl _ _)
  by_cases e0 : (gn : Int) ≤ 1048576
  · rw [if_pos e0] at s0
    have s1 := hide (fun w => w_szAttrs o nx md pf a0 n0 c0 a1 n1 c1 (1048576 - (gn : Int)) w l0 l1 (by omega) (by omega))
    have q0 : ¬ (1048576 - (gn : Int) < 0) := by omega
    by_cases e1 : (n0 : Int) + n1 ≤ 1048576 - (gn : Int)
    · rw [if_pos e1] at s1
      have s2 := hide (fun w => w_szPrefixSm ca cn cc (1048576 - (gn : Int) - (n0 : Int) - n1) w lc (by omega) (by omega))
      have q1 : ¬ (1048576 - (gn : Int) - (n0 : Int) - n1 < 0) := by omega
      by_cases e2 : (cn : Int) ≤ 1048576 - (gn : Int) - (n0 : Int) - n1
      · rw [if_pos e2] at s2
        have q2 : ¬ (1048576 - (gn : Int) - (n0 : Int) - n1 - (cn : Int) < 0) := by omega
        have hr : Hid (gn + n0 + n1 + cn ≤ 1048576 ∧ 0 ≤ 1048576 - (gn : Int) - (n0 : Int) - n1 - (cn : Int)) := ⟨by omega, by omega⟩
        clear e0 e1 e2 lg l0 l1 lc
        go_enter Try.func57, Try.ntmps57
        go_wp2_with fail
        generalize w.alloc (.cells #[.slice ga gn gc, .int .i64 o, .slice a0 n0 c0, .int .i64 nx, .int .i64 md, .int .i64 pf, .slice a1 n1 c1, .slice ca cn cc] 81) = wa at *
        refine (s0.out _).mono ?_
        rintro e w1 ⟨rfl, rfl⟩
        have u1 := M.2.1 1 _ rfl
        have u2 := M.2.1 2 _ rfl
        have u3 := M.2.1 3 _ rfl
        have u4 := M.2.1 4 _ rfl
        have u5 := M.2.1 5 _ rfl
        have u6 := M.2.1 6 _ rfl
        go_wp2_with fail
        refine (s1.out _).mono ?_
        rintro e w2 ⟨rfl, b2⟩
        have M := M.below b2
        have d := d.trans (b2.mono d.size)
        have u7 := M.2.1 7 _ rfl
        go_wp2_with fail
        refine (s2.out _).mono ?_
        rintro e w3 ⟨rfl, rfl⟩
        go_wp2_with fail
        go_ret
        exact ⟨⟨_, rfl, .inl hr.out⟩, d⟩
      · rw [if_neg e2] at s2
        have hr : Hid (¬ gn + n0 + n1 + cn ≤ 1048576) := by show ¬ gn + n0 + n1 + cn ≤ 1048576; omega
        clear e0 e1 e2 lg l0 l1 lc
        go_enter Try.func57, Try.ntmps57
        go_wp2_with fail
        generalize w.alloc (.cells #[.slice ga gn gc, .int .i64 o, .slice a0 n0 c0, .int .i64 nx, .int .i64 md, .int .i64 pf, .slice a1 n1 c1, .slice ca cn cc] 81) = wa at *
        refine (s0.out _).mono ?_
        rintro e w1 ⟨rfl, rfl⟩
        have u1 := M.2.1 1 _ rfl
        have u2 := M.2.1 2 _ rfl
        have u3 := M.2.1 3 _ rfl
        have u4 := M.2.1 4 _ rfl
        have u5 := M.2.1 5 _ rfl
        have u6 := M.2.1 6 _ rfl
        go_wp2_with fail
        refine (s1.out _).mono ?_
        rintro e w2 ⟨rfl, b2⟩
        have M := M.below b2
        have d := d.trans (b2.mono d.size)
        have u7 := M.2.1 7 _ rfl
        go_wp2_with fail
        refine (s2.out _).mono ?_
        rintro e w3 ⟨rfl, rfl⟩
        go_wp2_with fail
        go_ret
        exact ⟨⟨_, rfl, .inr ⟨hr.out, by decide⟩⟩, d⟩
    · rw [if_neg e1] at s1
      have hr : Hid (¬ gn + n0 + n1 + cn ≤ 1048576) := by show ¬ gn + n0 + n1 + cn ≤ 1048576; omega
      clear e0 e1 lg l0 l1 lc
      go_enter Try.func57, Try.ntmps57
      go_wp2_with fail
      generalize w.alloc (.cells #[.slice ga gn gc, .int .i64 o, .slice a0 n0 c0, .int .i64 nx, .int .i64 md, .int .i64 pf, .slice a1 n1 c1, .slice ca cn cc] 81) = wa at *
      refine (s0.out _).mono ?_
      rintro e w1 ⟨rfl, rfl⟩
      have u1 := M.2.1 1 _ rfl
      have u2 := M.2.1 2 _ rfl
      have u3 := M.2.1 3 _ rfl
      have u4 := M.2.1 4 _ rfl
      have u5 := M.2.1 5 _ rfl
      have u6 := M.2.1 6 _ rfl
      go_wp2_with fail
      refine (s1.out _).mono ?_
      rintro e w2 ⟨rfl, b2⟩
      have M := M.below b2
      have d := d.trans (b2.mono d.size)
      have u7 := M.2.1 7 _ rfl
      go_wp2_with fail
      go_ret
      exact ⟨⟨_, rfl, .inr ⟨hr.out, by decide⟩⟩, d⟩
  · rw [if_neg e0] at s0
    have hr : Hid (¬ gn + n0 + n1 + cn ≤ 1048576) := by show ¬ gn + n0 + n1 + cn ≤ 1048576; omega
    clear e0 lg l0 l1 lc
    go_enter Try.func57, Try.ntmps57
    go_wp2_with fail
    generalize w.alloc (.cells #[.slice ga gn gc, .int .i64 o, .slice a0 n0 c0, .int .i64 nx, .int .i64 md, .int .i64 pf, .slice a1 n1 c1, .slice ca cn cc] 81) = wa at *
    refine (s0.out _).mono ?_
    rintro e w1 ⟨rfl, rfl⟩
    go_wp2_with fail
    go_ret
    exact ⟨⟨_, rfl, .inr ⟨hr.out, by decide⟩⟩, d⟩
set_option maxRecDepth 100000 in
set_option maxHeartbeats 3200000 in
theorem w_toUpdate (ga : Option Addr) (gn gc : Nat) (f0 f1 : Nat → Int) (o nx md pf : Int) (a0 : Option Addr) (n0 c0 : Nat) (f : Nat → Int) (a1 : Option Addr) (n1 c1 : Nat) (g : Nat → Int) (ca : Option Addr) (cn cc : Nat) (h0 h1 : Nat → Int) (w : World) (lg : gn ≤ 1048576) (l0 : n0 ≤ 1048576) (l1 : n1 ≤ 1048576) (lc : cn ≤ 1048576) (RG : RowPrefix ga gn f0 f1 w) (R0 : RowInt a0 n0 f w) (R1 : RowInt a1 n1 g w) (RC : RowPrefix ca cn h0 h1 w) :
    Calls Try.prog 59 #[.agg #[.slice ga gn gc, .int .i64 o, .slice a0 n0 c0, .int .i64 nx, .int .i64 md, .int .i64 pf, .slice a1 n1 c1, .slice ca cn cc]] w fun e w' => ∃ p x y q, e = .returned (.agg #[.slice (some ⟨p, 0, none⟩) gn gn, .int .i64 o, .slice (some ⟨x, 0, none⟩) n0 n0, .int .i64 nx, .int .i64 md, .int .i64 pf, .slice (some ⟨y, 0, none⟩) n1 n1, .slice (some ⟨q, 0, none⟩) cn cn]) ∧
      w.heap.size ≤ p ∧ p < x ∧ x < y ∧ y < q ∧ OutPrefix p gn gn f0 f1 w' ∧ OutInt x n0 n0 f w' ∧ OutInt y n1 n1 g w' ∧ OutPrefix q cn cn h0 h1 w' ∧ Below w.heap.size w w' := by
  have s0 := hide (fun w R => w_toPrefixS ga gn gc f0 f1 w lg R)
  have s1 := hide (fun w R R' => w_toAttrs o nx md pf a0 n0 c0 f a1 n1 c1 g w l0 l1 R R')
  have s2 := hide (fun w R => w_toPrefixS ca cn cc h0 h1 w lc R)
  clear lg l0 l1 lc
  have M2 := Mut.new ((w.alloc (.cells #[.slice ga gn gc, .int .i64 o, .slice a0 n0 c0, .int .i64 nx, .int .i64 md, .int .i64 pf, .slice a1 n1 c1, .slice ca cn cc] 81)).alloc (.cells #[.slice none 0 0, .int .i64 0, .slice none 0 0, .int .i64 0, .int .i64 0, .int .i64 0, .slice none 0 0, .slice none 0 0] 85)) #[.slice none 0 0, .int .i64 0, .slice none 0 0, .int .i64 0, .int .i64 0, .int .i64 0, .slice none 0 0, .slice none 0 0] 85
  have M1 := (Mut.new (w.alloc (.cells #[.slice ga gn gc, .int .i64 o, .slice a0 n0 c0, .int .i64 nx, .int .i64 md, .int .i64 pf, .slice a1 n1 c1, .slice ca cn cc] 81)) #[.slice none 0 0, .int .i64 0, .slice none 0 0, .int .i64 0, .int .i64 0, .int .i64 0, .slice none 0 0, .slice none 0 0] 85).alloc (.cells #[.slice none 0 0, .int .i64 0, .slice none 0 0, .int .i64 0, .int .i64 0, .int .i64 0, .slice none 0 0, .slice none 0 0] 85)
  have M0 := ((Mut.new w #[.slice ga gn gc, .int .i64 o, .slice a0 n0 c0, .int .i64 nx, .int .i64 md, .int .i64 pf, .slice a1 n1 c1, .slice ca cn cc] 81).alloc (.cells #[.slice none 0 0, .int .i64 0, .slice none 0 0, .int .i64 0, .int .i64 0, .int .i64 0, .slice none 0 0, .slice none 0 0] 85)).alloc (.cells #[.slice none 0 0, .int .i64 0, .slice none 0 0, .int .i64 0, .int .i64 0, .int .i64 0, .slice none 0 0, .slice none 0 0] 85)
  go_enter Try.func59, Try.ntmps59
  go_wp2_with fail
  refine (s0.out _ (RG.below (below_box3 (Below.refl _ _)))).mono ?_
  rintro e w1 ⟨rfl, hb1, o1⟩
  have M0 := M0.below hb1
  have M1 := M1.below hb1
  have M2 := M2.below hb1
  have d1 := below_box3 hb1
  clear hb1
  simp only [World.size_alloc] at o1 M1 M2 ⊢
  have u1 := M0.2.1 1 _ rfl
  have u2 := M0.2.1 2 _ rfl
  have u3 := M0.2.1 3 _ rfl
  have u4 := M0.2.1 4 _ rfl
  have u5 := M0.2.1 5 _ rfl
  have u6 := M0.2.1 6 _ rfl
  have v0 := M2.2.1 0 _ rfl
  have x0 := M2.2.2 0 (by simp)
  go_wp2_with fail
  have M2 := M2.set 0 (.slice (some ⟨w.heap.size + 1 + 1 + 1, 0, none⟩) gn gn)
  have M1 := M1.other (c := w.heap.size + 1 + 1) (by omega) 0 (.slice (some ⟨w.heap.size + 1 + 1 + 1, 0, none⟩) gn gn)
  have M0 := M0.other (c := w.heap.size + 1 + 1) (by omega) 0 (.slice (some ⟨w.heap.size + 1 + 1 + 1, 0, none⟩) gn gn)
  have o1 := o1.onlyU ((Only.refl (w.heap.size + 1 + 1) w1).setCell 0 (.slice (some ⟨w.heap.size + 1 + 1 + 1, 0, none⟩) gn gn)) (by omega)
  have d1 := d1.setCell (p := ⟨w.heap.size + 1 + 1, 0, none⟩) (by simp; omega) (.slice (some ⟨w.heap.size + 1 + 1 + 1, 0, none⟩) gn gn)
  clear u1 u2 u3 u4 u5 u6 v0 x0
  generalize w1.setCell ⟨w.heap.size + 1 + 1, 0, none⟩ (.slice (some ⟨w.heap.size + 1 + 1 + 1, 0, none⟩) gn gn) = w2 at *
  refine (s1.out _ (R0.below d1) (R1.below d1)).mono ?_
  rintro e w3 ⟨x, y, rfl, hx, hy, Ox, Oy, hb3⟩
  have zp := o1.1
  have M0 := M0.below hb3
  have M1 := M1.below hb3
  have M2 := M2.below hb3
  have o1 := o1.below hb3
  have d3 := d1.trans (hb3.mono d1.size)
  clear hb3 d1
  have u7 := M0.2.1 7 _ rfl
  have v1 := M2.2.1 1 _ rfl
  have x1 := M2.2.2 1 (by simp)
  have v2 := M2.2.1 2 _ rfl
  have x2 := M2.2.2 2 (by simp)
  have v3 := M2.2.1 3 _ rfl
  have x3 := M2.2.2 3 (by simp)
  have v4 := M2.2.1 4 _ rfl
  have x4 := M2.2.2 4 (by simp)
  have v5 := M2.2.1 5 _ rfl
  have x5 := M2.2.2 5 (by simp)
  have v6 := M2.2.1 6 _ rfl
  have x6 := M2.2.2 6 (by simp)
  go_wp2_with fail
  have hon : Only (w.heap.size + 1 + 1) w3 ((((((w3.setCell ⟨w.heap.size + 1 + 1, 1, none⟩ (.int .i64 o)).setCell ⟨w.heap.size + 1 + 1, 2, none⟩ (.slice (some ⟨x, 0, none⟩) n0 n0)).setCell ⟨w.heap.size + 1 + 1, 3, none⟩ (.int .i64 nx)).setCell ⟨w.heap.size + 1 + 1, 4, none⟩ (.int .i64 md)).setCell ⟨w.heap.size + 1 + 1, 5, none⟩ (.int .i64 pf)).setCell ⟨w.heap.size + 1 + 1, 6, none⟩ (.slice (some ⟨y, 0, none⟩) n1 n1)) := only_sets (Only.refl _ _) [(1, .int .i64 o), (2, .slice (some ⟨x, 0, none⟩) n0 n0), (3, .int .i64 nx), (4, .int .i64 md), (5, .int .i64 pf), (6, .slice (some ⟨y, 0, none⟩) n1 n1)]
  have M2 := ((((((M2.set 1 (.int .i64 o)).set 2 (.slice (some ⟨x, 0, none⟩) n0 n0)).set 3 (.int .i64 nx)).set 4 (.int .i64 md)).set 5 (.int .i64 pf)).set 6 (.slice (some ⟨y, 0, none⟩) n1 n1))
  have M1 := M1.only hon (by omega)
  have o1 := o1.onlyU hon (by omega)
  have Ox := Ox.only hon (by have := o1.1; omega)
  have Oy := Oy.only hon (by have := o1.1; omega)
  have d4 := d3.trans (below_only hon (by omega) d3.size)
  clear hon d3 M0 u7 v1 x1 v2 x2 v3 x3 v4 x4 v5 x5 v6 x6
  generalize ((((((w3.setCell ⟨w.heap.size + 1 + 1, 1, none⟩ (.int .i64 o)).setCell ⟨w.heap.size + 1 + 1, 2, none⟩ (.slice (some ⟨x, 0, none⟩) n0 n0)).setCell ⟨w.heap.size + 1 + 1, 3, none⟩ (.int .i64 nx)).setCell ⟨w.heap.size + 1 + 1, 4, none⟩ (.int .i64 md)).setCell ⟨w.heap.size + 1 + 1, 5, none⟩ (.int .i64 pf)).setCell ⟨w.heap.size + 1 + 1, 6, none⟩ (.slice (some ⟨y, 0, none⟩) n1 n1)) = w4 at *
  refine (s2.out _ (RC.below d4)).mono ?_
  rintro e w5 ⟨rfl, hb5, o5⟩
  have zy := Oy.1
  have M1 := M1.below hb5
  have M2 := M2.below hb5
  have o1 := o1.below hb5
  have Ox := Ox.below hb5
  have Oy := Oy.below hb5
  have d5 := d4.trans (hb5.mono d4.size)
  clear hb5 d4
  have v0 := M2.2.1 0 _ rfl
  have v1 := M2.2.1 1 _ rfl
  have v2 := M2.2.1 2 _ rfl
  have v3 := M2.2.1 3 _ rfl
  have v4 := M2.2.1 4 _ rfl
  have v5 := M2.2.1 5 _ rfl
  have v6 := M2.2.1 6 _ rfl
  have v7 := M2.2.1 7 _ rfl
  have xx7 := M2.2.2 7 (by simp)
  have y0 := M1.2.1 0 _ rfl
  have t0 := M1.2.2 0 (by simp)
  have y1 := M1.2.1 1 _ rfl
  have t1 := M1.2.2 1 (by simp)
  have y2 := M1.2.1 2 _ rfl
  have t2 := M1.2.2 2 (by simp)
  have y3 := M1.2.1 3 _ rfl
  have t3 := M1.2.2 3 (by simp)
  have y4 := M1.2.1 4 _ rfl
  have t4 := M1.2.2 4 (by simp)
  have y5 := M1.2.1 5 _ rfl
  have t5 := M1.2.2 5 (by simp)
  have y6 := M1.2.1 6 _ rfl
  have t6 := M1.2.2 6 (by simp)
  have y7 := M1.2.1 7 _ rfl
  have t7 := M1.2.2 7 (by simp)
  clear M1 M2
  go_wp2_with fail
  generalize w4.heap.size = q at *
  have hon1 : Only (w.heap.size + 1 + 1) w5 (w5.setCell ⟨w.heap.size + 1 + 1, 7, none⟩ (.slice (some ⟨q, 0, none⟩) cn cn)) := (Only.refl _ _).setCell _ _
  have hon2 : Only (w.heap.size + 1) (w5.setCell ⟨w.heap.size + 1 + 1, 7, none⟩ (.slice (some ⟨q, 0, none⟩) cn cn)) (((((((((w5.setCell ⟨w.heap.size + 1 + 1, 7, none⟩ (.slice (some ⟨q, 0, none⟩) cn cn)).setCell ⟨w.heap.size + 1, 0, none⟩ (.slice (some ⟨w.heap.size + 1 + 1 + 1, 0, none⟩) gn gn)).setCell ⟨w.heap.size + 1, 1, none⟩ (.int .i64 o)).setCell ⟨w.heap.size + 1, 2, none⟩ (.slice (some ⟨x, 0, none⟩) n0 n0)).setCell ⟨w.heap.size + 1, 3, none⟩ (.int .i64 nx)).setCell ⟨w.heap.size + 1, 4, none⟩ (.int .i64 md)).setCell ⟨w.heap.size + 1, 5, none⟩ (.int .i64 pf)).setCell ⟨w.heap.size + 1, 6, none⟩ (.slice (some ⟨y, 0, none⟩) n1 n1)).setCell ⟨w.heap.size + 1, 7, none⟩ (.slice (some ⟨q, 0, none⟩) cn cn)) := only_sets (Only.refl _ _) [(0, .slice (some ⟨w.heap.size + 1 + 1 + 1, 0, none⟩) gn gn), (1, .int .i64 o), (2, .slice (some ⟨x, 0, none⟩) n0 n0), (3, .int .i64 nx), (4, .int .i64 md), (5, .int .i64 pf), (6, .slice (some ⟨y, 0, none⟩) n1 n1), (7, .slice (some ⟨q, 0, none⟩) cn cn)]
  have z5 := d5.size
  exact bodyPost_ret (v := .agg #[.slice (some ⟨w.heap.size + 1 + 1 + 1, 0, none⟩) gn gn, .int .i64 o, .slice (some ⟨x, 0, none⟩) n0 n0, .int .i64 nx, .int .i64 md, .int .i64 pf, .slice (some ⟨y, 0, none⟩) n1 n1, .slice (some ⟨q, 0, none⟩) cn cn]) (by simp [results, Try.results59, go_sem, *]) rfl ⟨_, _, _, _, rfl, by omega, by omega, by omega, by omega,
    (o1.onlyU hon1 (by omega)).onlyU hon2 (by omega), (Ox.only hon1 (by omega)).only hon2 (by omega), (Oy.only hon1 (by omega)).only hon2 (by omega), (o5.onlyU hon1 (by omega)).onlyU hon2 (by omega),
    (d5.trans (below_only hon1 (by omega) (by omega))).trans (below_only hon2 (by omega) (by have := hon1.2.2.2.1; omega))⟩
set_option maxRecDepth 100000 in
set_option maxHeartbeats 3200000 in
theorem w_eqUpdate (ga gb : Option Addr) (gn gc gd : Nat) (f0 f1 : Nat → Int) (o nx md pf : Int) (a0 b0 : Option Addr) (n0 c0 d0 : Nat) (f : Nat → Int) (a1 b1 : Option Addr) (n1 c1 d1 : Nat) (g : Nat → Int) (ca cb : Option Addr) (cn cc cd : Nat) (h0 h1 : Nat → Int) (w : World)
    (lg : gn ≤ 4294967296) (l0 : n0 ≤ 4294967296) (l1 : n1 ≤ 4294967296) (lc : cn ≤ 4294967296) (RG : RowPrefix ga gn f0 f1 w) (R0 : RowInt a0 n0 f w) (R1 : RowInt a1 n1 g w) (RC : RowPrefix ca cn h0 h1 w) (QG : RowPrefix gb gn f0 f1 w) (Q0 : RowInt b0 n0 f w) (Q1 : RowInt b1 n1 g w) (QC : RowPrefix cb cn h0 h1 w) :
    Calls Try.prog 61 #[.agg #[.slice ga gn gc, .int .i64 o, .slice a0 n0 c0, .int .i64 nx, .int .i64 md, .int .i64 pf, .slice a1 n1 c1, .slice ca cn cc], .agg #[.slice gb gn gd, .int .i64 o, .slice b0 n0 d0, .int .i64 nx, .int .i64 md, .int .i64 pf, .slice b1 n1 d1, .slice cb cn cd]] w fun e w' => e = .returned (.bool true) ∧ Below w.heap.size w w' := by
  have s0 := hide (fun w R Q => w_eqPrefixS ga gb gn gc gd f0 f1 w lg R Q)
  have s1 := hide (fun w R R' Q Q' => w_eqAttrs o nx md pf a0 b0 n0 c0 d0 f a1 b1 n1 c1 d1 g w l0 l1 R R' Q Q')
  have s2 := hide (fun w R Q => w_eqPrefixS ca cb cn cc cd h0 h1 w lc R Q)
  clear lg l0 l1 lc
  have M0 := (Mut.new w #[.slice ga gn gc, .int .i64 o, .slice a0 n0 c0, .int .i64 nx, .int .i64 md, .int .i64 pf, .slice a1 n1 c1, .slice ca cn cc] 85).alloc (.cells #[.slice gb gn gd, .int .i64 o, .slice b0 n0 d0, .int .i64 nx, .int .i64 md, .int .i64 pf, .slice b1 n1 d1, .slice cb cn cd] 85)
  have M1 := Mut.new (w.alloc (.cells #[.slice ga gn gc, .int .i64 o, .slice a0 n0 c0, .int .i64 nx, .int .i64 md, .int .i64 pf, .slice a1 n1 c1, .slice ca cn cc] 85)) #[.slice gb gn gd, .int .i64 o, .slice b0 n0 d0, .int .i64 nx, .int .i64 md, .int .i64 pf, .slice b1 n1 d1, .slice cb cn cd] 85
  have e0 : Below w.heap.size w ((w.alloc (.cells #[.slice ga gn gc, .int .i64 o, .slice a0 n0 c0, .int .i64 nx, .int .i64 md, .int .i64 pf, .slice a1 n1 c1, .slice ca cn cc] 85)).alloc (.cells #[.slice gb gn gd, .int .i64 o, .slice b0 n0 d0, .int .i64 nx, .int .i64 md, .int .i64 pf, .slice b1 n1 d1, .slice cb cn cd] 85)) := below_box2 (Below.refl _ _)
  simp only [World.size_alloc] at M1
  go_enter Try.func61, Try.ntmps61
  go_wp2_with fail
  generalize (w.alloc (.cells #[.slice ga gn gc, .int .i64 o, .slice a0 n0 c0, .int .i64 nx, .int .i64 md, .int .i64 pf, .slice a1 n1 c1, .slice ca cn cc] 85)).alloc (.cells #[.slice gb gn gd, .int .i64 o, .slice b0 n0 d0, .int .i64 nx, .int .i64 md, .int .i64 pf, .slice b1 n1 d1, .slice cb cn cd] 85) = w1 at *
  refine (s0.out _ (RG.below e0) (QG.below e0)).mono ?_
  rintro e w2 ⟨rfl, hb2⟩
  have M0 := M0.below hb2
  have M1 := M1.below hb2
  have e2 := e0.trans (hb2.mono e0.size)
  clear hb2 e0
  have u1 := M0.2.1 1 _ rfl
  have v1 := M1.2.1 1 _ rfl
  have u2 := M0.2.1 2 _ rfl
  have v2 := M1.2.1 2 _ rfl
  have u3 := M0.2.1 3 _ rfl
  have v3 := M1.2.1 3 _ rfl
  have u4 := M0.2.1 4 _ rfl
  have v4 := M1.2.1 4 _ rfl
  have u5 := M0.2.1 5 _ rfl
  have v5 := M1.2.1 5 _ rfl
  have u6 := M0.2.1 6 _ rfl
  have v6 := M1.2.1 6 _ rfl
  go_wp2_with fail
  refine (s1.out _ (R0.below e2) (R1.below e2) (Q0.below e2) (Q1.below e2)).mono ?_
  rintro e w3 ⟨rfl, hb3⟩
  have M0 := M0.below hb3
  have M1 := M1.below hb3
  have e3 := e2.trans (hb3.mono e2.size)
  clear hb3 e2
  have u7 := M0.2.1 7 _ rfl
  have v7 := M1.2.1 7 _ rfl
  go_wp2_with fail
  refine (s2.out _ (RC.below e3) (QC.below e3)).mono ?_
  rintro e w4 ⟨rfl, hb4⟩
  have e4 := e3.trans (hb4.mono e3.size)
  go_wp2_with fail
  go_ret
  exact ⟨rfl, e4⟩
end Go.Proofs.Ytofalilkephkpaa
