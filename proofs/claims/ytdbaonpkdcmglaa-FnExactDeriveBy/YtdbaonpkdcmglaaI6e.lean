/- What slices.Equal and the program's areAlike answer. -/
import Derived.Test.YtdbaonpkdcmglaaI6d
import Derived.Test.YtdbaonpkdcmglaaS6f
namespace Go.Proofs.Ytdbaonpkdcmglaa
open Go.RowKit

set_option maxRecDepth 100000 in
theorem neqReCell_run (a l b m : Int) (w : World) :
    (binOp .neq 70 (.agg #[.int .i64 a, .int .i64 l]) (.agg #[.int .i64 b, .int .i64 m])).run Try.prog w = .ok (.bool (!(a == b && l == m))) w := by
  rw [run_neq_struct, run_equalIn_struct (P := Try.prog) w 9999 70 _ _ (by kernel_rfl) (by kernel_rfl)]
  simp only [Program.fieldsOf, Try.underlying70]
  have e3 : ∀ (x y : Int) (w : World), (Op.equalIn 9999 3 (.int .i64 x) (.int .i64 y)).run Try.prog w = .ok (x == y) w := fun x y w => run_equalIn_int w 9998 3 .i64 .i64 x y Try.underlying3
  generalize 9999 = d at e3 ⊢
  by_cases h1 : a = b <;> by_cases h2 : l = m <;> simp [Op.eqFields, go_sem, part, e3, h1, h2]
theorem guardReCell : Try.prog.eqGuardType Try.prog.depth 70 = false := by kernel_rfl
theorem eqReCell_guard (op : BinOp) (x y : Operand) (xs ys : Array Value) (w : World) : (eqGuard op 70 x y (.agg xs) (.agg ys)).run Try.prog w = .ok () w := run_eqGuard_agg w op 70 x y xs ys guardReCell
theorem take_eqQ {L M : List Cl} (hl : L.length = M.length) (h : ∀ i, i < L.length → qAt L i = qAt M i) : L = M := by
  apply List.ext_getElem hl
  intro i h1 h2
  rw [← qAt_eq h1, ← qAt_eq h2]
  exact h i h1
set_option maxRecDepth 100000 in
set_option maxHeartbeats 3200000 in
theorem i_equalQ (a a' : Option Addr) (c c' : Nat) (L M : List Cl) (w : World) (hL : L.length ≤ 1000000) (_hM : M.length ≤ 1000000) (hR : RowQ a L w) (hR' : RowQ a' M w) :
    Calls Try.prog 115 #[.slice a L.length c, .slice a' M.length c'] w fun e w' => e = .returned (.bool (decide (L = M))) ∧ Below w.heap.size w w' := by
  by_cases hl : L.length = M.length
  · have e1 : ((L.length : Int) != (M.length : Int)) = false := by rw [hl]; simp
    go_enter Try.func115, Try.ntmps115
    go_wp2_with fail
    go_loopw [13] (fun y wr => ∃ k : Nat, y = .int .i64 k ∧ k ≤ L.length ∧ Hid (∀ i, i < k → qAt L i = qAt M i) ∧ Below w.heap.size w wr) (fun y _ => L.length - (intOf y).toNat)
    case atStart => exact ⟨0, rfl, Nat.zero_le _, fun i hi => absurd hi (Nat.not_lt_zero _), Below.refl _ _⟩
    case round =>
      obtain ⟨k, rfl, hk, hs, hbw⟩ := hrel
      by_cases hlt : k < L.length
      · obtain ⟨b, off, rfl, hb, u0, u1⟩ := hR k hlt
        obtain ⟨b', off', rfl, hb', v0, v1⟩ := hR' k (by omega)
        have u0 := cell_regrown ((hbw.cell (p := ⟨b, off + k * 2, none⟩) hb).trans u0)
        have u1 := cell_regrown ((hbw.cell (p := ⟨b, off + k * 2 + 1, none⟩) hb).trans u1)
        have v0 := cell_regrown ((hbw.cell (p := ⟨b', off' + k * 2, none⟩) hb').trans v0)
        have v1 := cell_regrown ((hbw.cell (p := ⟨b', off' + k * 2 + 1, none⟩) hb').trans v1)
        have hlt1 : (k : Int) < (L.length : Int) := by omega
        have hlt2 : (k : Int) < (M.length : Int) := by omega
        generalize hx : qAt L k = x at *
        generalize hy : qAt M k = y at *
        replace hx := hide hx
        replace hy := hide hy
        have he := neqReCell_run
        have hgu := eqReCell_guard
        have hll := hide hl
        clear hR hR' hl
        by_cases hxy : x = y
        · have ex : (!(x.1 == y.1 && x.2 == y.2)) = false := by rw [hxy]; simp
          replace hxy := hide hxy
          go_wp2_with fail
          refine wp_region_quiet_below (by kernel_rfl) (by kernel_rfl) ?_
          repeat (first | go_big_quiet_step (((fail))) | quiet_step (((fail))))
          refine wpQuiet_nil ?_
          intro _ hw'
          obtain ⟨⟨dq, osq⟩, hw''⟩ := hw'
          subst hw''
          have hq := below_regrown wr dq osq
          generalize Go.Sort.grow (redrawn wr dq) osq = wq at hq ⊢
          have hbq := hbw.trans (hq.mono hbw.size)
          clear hq u0 u1 v0 v1
          go_wp2_with fail
          refine ⟨⟨k + 1, by go_num, by omega, fun i hi => ?_, hbq⟩, by simp [intOf]; omega⟩
          by_cases hik : i = k
          · rw [hik, hx.out, hy.out, hxy.out]
          · exact hs i (by omega)
        · have ex : (!(x.1 == y.1 && x.2 == y.2)) = true := by
            cases hz : (x.1 == y.1 && x.2 == y.2) with
            | false => rfl
            | true =>
              rw [Bool.and_eq_true, beq_iff_eq, beq_iff_eq] at hz
              exact absurd (Prod.ext hz.1 hz.2) hxy
          have hne : decide (L = M) = false := by
            rw [decide_eq_false_iff_not]
            intro e
            exact hxy (by rw [← hx.out, ← hy.out, e])
          replace hne := hide hne
          clear hxy
          go_wp2_with fail
          refine wp_region_quiet_below (by kernel_rfl) (by kernel_rfl) ?_
          repeat (first | go_big_quiet_step (((fail))) | quiet_step (((fail))))
          refine wpQuiet_nil ?_
          intro _ hw'
          obtain ⟨⟨dq, osq⟩, hw''⟩ := hw'
          subst hw''
          have hq := below_regrown wr dq osq
          generalize Go.Sort.grow (redrawn wr dq) osq = wq at hq ⊢
          have hbq := hbw.trans (hq.mono hbw.size)
          clear hq u0 u1 v0 v1
          go_wp2_with fail
          go_ret
          exact ⟨by rw [hne.out]; rfl, hbq⟩
      · have hLM : L = M := take_eqQ hl (fun i hi => hs i (by omega))
        have hyes := hide (show decide (L = M) = true from by simpa using hLM)
        clear hLM
        go_wp2_with fail
        go_ret
        exact ⟨by rw [hyes.out]; rfl, hbw⟩
  · have e1 : ((L.length : Int) != (M.length : Int)) = true := by
      have : ¬ ((L.length : Int) = (M.length : Int)) := by omega
      simpa using this
    rw [show decide (L = M) = false from by rw [decide_eq_false_iff_not]; intro e; exact hl (by rw [e])]
    clear hl
    go_enter Try.func115, Try.ntmps115
    go_wp2_with fail
    go_ret
    exact ⟨rfl, Below.refl _ _⟩
set_option maxRecDepth 100000 in
set_option maxHeartbeats 1600000 in
theorem i_alike (s t : Re) (w : World) (hs : s.cells.length ≤ 1000000) (ht : t.cells.length ≤ 1000000) : Calls Try.prog 112 #[pv s, pv t] w fun e w' => e = .returned (.bool (sameB s t)) ∧ Below w.heap.size w w' := by
  have s1 := hide (fun w => i_cellsOf s w hs)
  have s2 := hide (fun w => i_cellsOf t w ht)
  have s3 := hide (fun a a' c c' w h h' => i_equalQ a a' c c' s.cells t.cells w hs ht h h')
  go_enter Try.func112, Try.ntmps112
  go_wp2_with fail
  refine (s1.out _).mono ?_
  rintro e w1 ⟨v1, rfl, o1, b1⟩
  go_wp2_with fail
  refine (s2.out _).mono ?_
  rintro e w2 ⟨v2, rfl, o2, b2⟩
  obtain ⟨a1, c1, rfl, R1, _⟩ := ownQ_row o1
  obtain ⟨a2, c2, rfl, R2, _⟩ := ownQ_row o2
  go_wp2_with fail
  refine (s3.out _ _ _ _ _ (R1.below b2) R2).mono ?_
  rintro e w3 ⟨rfl, b3⟩
  go_wp2_with fail
  go_ret
  exact ⟨rfl, below_step (below_step b1 b2) b3⟩
end Go.Proofs.Ytdbaonpkdcmglaa
