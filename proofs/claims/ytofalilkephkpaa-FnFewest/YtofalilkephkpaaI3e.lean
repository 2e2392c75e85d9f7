/- What the program's wholeOf answers. -/
import Derived.Test.YtofalilkephkpaaI3
import Derived.Deep.RegionHeld3
import Derived.BigRegion
namespace Go.Proofs.Ytofalilkephkpaa
open Go.RowKit

def whP (q : Pf) : Pf := if 0 < q.2 then parP q else (0, 0)
theorem whole_yes {q p : Pf} (h : 0 < q.2) : wholeB q p = ((q.1 == (loP (parP q)).1 && q.2 == (loP (parP q)).2) && (p.1 == (hiP (parP q)).1 && p.2 == (hiP (parP q)).2)) := by
  unfold wholeB
  rw [decide_eq_true h]
  rfl
theorem whole_no {q p : Pf} (h : ¬ 0 < q.2) : wholeB q p = false := by unfold wholeB; rw [decide_eq_false h]; rfl
set_option maxRecDepth 100000 in
set_option maxHeartbeats 3200000 in
theorem i_whole (q p : Pf) (w : World) (gq : gdP q) :
    Calls Try.prog 205 #[.agg #[.int .i64 q.1, .int .i64 q.2], .agg #[.int .i64 p.1, .int .i64 p.2]] w fun e w' =>
      e = .returned (.tuple #[.agg #[.int .i64 (whP q).1, .int .i64 (whP q).2], .bool (wholeB q p)]) ∧ Below w.heap.size w w' := by
  have he := eqPrefix_run
  have hgu := eqPrefix_guard
  obtain ⟨qa, ql⟩ := q
  obtain ⟨pa, pl⟩ := p
  by_cases h0 : 0 < ql
  · obtain ⟨g1, g2, _⟩ := par_of gq (by show 1 ≤ ql; omega)
    have e0 : whP (qa, ql) = parP (qa, ql) := by unfold whP; rw [if_pos h0]
    have s1 := hide (fun w => i_parent_yes qa ql w gq (by omega))
    have s2 := hide (fun w => i_halves_yes (parP (qa, ql)).1 (parP (qa, ql)).2 w g1 g2)
    have hW := hide (whole_yes (q := (qa, ql)) (p := (pa, pl)) h0)
    rw [e0]
    have e1 : (parP (qa, ql)).1 = qa - qa % pw (ql - 1) := rfl
    have e2 : (parP (qa, ql)).2 = ql - 1 := rfl
    have e3 : (loP (parP (qa, ql))).1 = qa - qa % pw (ql - 1) := rfl
    have e4 : (loP (parP (qa, ql))).2 = ql - 1 + 1 := rfl
    have e5 : (hiP (parP (qa, ql))).1 = qa - qa % pw (ql - 1) + pw (ql - 1 + 1) := rfl
    have e6 : (hiP (parP (qa, ql))).2 = ql - 1 + 1 := rfl
    rw [e3, e4, e5, e6] at hW
    rw [e1, e2] at s2 ⊢
    clear e0 e1 e2 e3 e4 e5 e6 g1 g2 gq h0
    dsimp only at *
    generalize wholeB (qa, ql) (pa, pl) = wb at *
    generalize qa - qa % pw (ql - 1) = ra at *
    generalize ra + pw (ql - 1 + 1) = rb at *
    generalize hl1 : ql - 1 + 1 = l1 at *
    generalize hl2 : ql - 1 = l2 at *
    clear hl1 hl2
    go_enter Try.func205, Try.ntmps205
    go_wp2_with fail
    have hBq : Bk (((w.alloc (.cells #[.int .i64 qa, .int .i64 ql] 34)).alloc (.cells #[.int .i64 pa, .int .i64 pl] 34)).alloc (.cells #[.int .i64 0, .int .i64 0] 34)) w.heap.size #[.int .i64 qa, .int .i64 ql] 34 := (Bk.new w _ _).below (below_box2 (Below.refl _ _))
    have hBp : Bk (((w.alloc (.cells #[.int .i64 qa, .int .i64 ql] 34)).alloc (.cells #[.int .i64 pa, .int .i64 pl] 34)).alloc (.cells #[.int .i64 0, .int .i64 0] 34)) (w.heap.size + 1) #[.int .i64 pa, .int .i64 pl] 34 := by have := (Bk.new (w.alloc (.cells #[.int .i64 qa, .int .i64 ql] 34)) #[.int .i64 pa, .int .i64 pl] 34).below (below_box (o := .cells #[.int .i64 0, .int .i64 0] 34) (Below.refl _ _)); simpa using this
    have hBr : Bk (((w.alloc (.cells #[.int .i64 qa, .int .i64 ql] 34)).alloc (.cells #[.int .i64 pa, .int .i64 pl] 34)).alloc (.cells #[.int .i64 0, .int .i64 0] 34)) (w.heap.size + 1 + 1) #[.int .i64 0, .int .i64 0] 34 := by have := Bk.new ((w.alloc (.cells #[.int .i64 qa, .int .i64 ql] 34)).alloc (.cells #[.int .i64 pa, .int .i64 pl] 34)) #[.int .i64 0, .int .i64 0] 34; simpa using this
    have hd : Below w.heap.size w (((w.alloc (.cells #[.int .i64 qa, .int .i64 ql] 34)).alloc (.cells #[.int .i64 pa, .int .i64 pl] 34)).alloc (.cells #[.int .i64 0, .int .i64 0] 34)) := below_box3 (Below.refl _ _)
    generalize (((w.alloc (.cells #[.int .i64 qa, .int .i64 ql] 34)).alloc (.cells #[.int .i64 pa, .int .i64 pl] 34)).alloc (.cells #[.int .i64 0, .int .i64 0] 34)) = W1 at *
    refine (s1.out _).mono ?_
    rintro e W2 ⟨rfl, b2⟩
    have hBq := hBq.below b2
    have hBp := hBp.below b2
    have hBr := hBr.below b2
    have hd := hd.trans (b2.mono hd.size)
    have hs2 := hBr.lt
    clear b2
    go_wp2_with fail
    refine (s2.out _).mono ?_
    rintro e W3 ⟨rfl, b3⟩
    have hBw : Bk W3 W2.heap.size #[.int .i64 ra, .int .i64 l2] 34 := (Bk.new W2 _ _).below b3
    have b3' := below_box b3
    have hBq := hBq.below b3'
    have hBp := hBp.below b3'
    have hBr := hBr.below b3'
    have hd := hd.trans (b3'.mono hd.size)
    have hs3 := hBw.lt
    clear b3 b3'
    go_wp2_with fail
    have hBl : Bk ((W3.alloc (.cells #[.int .i64 ra, .int .i64 l1] 34)).alloc (.cells #[.int .i64 rb, .int .i64 l1] 34)) W3.heap.size #[.int .i64 ra, .int .i64 l1] 34 := (Bk.new W3 _ _).below (below_box (Below.refl _ _))
    have hBh : Bk ((W3.alloc (.cells #[.int .i64 ra, .int .i64 l1] 34)).alloc (.cells #[.int .i64 rb, .int .i64 l1] 34)) (W3.heap.size + 1) #[.int .i64 rb, .int .i64 l1] 34 := by have := Bk.new (W3.alloc (.cells #[.int .i64 ra, .int .i64 l1] 34)) #[.int .i64 rb, .int .i64 l1] 34; simpa using this
    have b4 : Below W3.heap.size W3 ((W3.alloc (.cells #[.int .i64 ra, .int .i64 l1] 34)).alloc (.cells #[.int .i64 rb, .int .i64 l1] 34)) := below_box2 (Below.refl _ _)
    have hBq := hBq.below b4
    have hBp := hBp.below b4
    have hBr := hBr.below b4
    have hBw := hBw.below b4
    have hd := hd.trans (b4.mono hd.size)
    generalize ((W3.alloc (.cells #[.int .i64 ra, .int .i64 l1] 34)).alloc (.cells #[.int .i64 rb, .int .i64 l1] 34)) = W4 at *
    clear b4
    have c0 := (hBq.cell 0).trans (show _ = some (.int .i64 qa) from rfl)
    have c1 := (hBq.cell 1).trans (show _ = some (.int .i64 ql) from rfl)
    have c2 := (hBp.cell 0).trans (show _ = some (.int .i64 pa) from rfl)
    have c3 := (hBp.cell 1).trans (show _ = some (.int .i64 pl) from rfl)
    have c4 := (hBw.cell 0).trans (show _ = some (.int .i64 ra) from rfl)
    have c5 := (hBw.cell 1).trans (show _ = some (.int .i64 l2) from rfl)
    have c6 := (hBl.cell 0).trans (show _ = some (.int .i64 ra) from rfl)
    have c7 := (hBl.cell 1).trans (show _ = some (.int .i64 l1) from rfl)
    have c8 := (hBh.cell 0).trans (show _ = some (.int .i64 rb) from rfl)
    have c9 := (hBh.cell 1).trans (show _ = some (.int .i64 l1) from rfl)
    have r0 := (hBr.cell 0).trans (show _ = some (.int .i64 0) from rfl)
    have r1 := (hBr.cell 1).trans (show _ = some (.int .i64 0) from rfl)
    have f0 := bk_frozen hBr 0
    have f1 := bk_frozen hBr 1
    have n1 : ¬ W3.heap.size = w.heap.size + 1 + 1 := by omega
    have n2 : ¬ W3.heap.size + 1 = w.heap.size + 1 + 1 := by omega
    have n3 : ¬ W2.heap.size = w.heap.size + 1 + 1 := by omega
    clear hBq hBp hBw hBl hBh s1 s2
    cases hv1 : (qa == ra && ql == l1) with
    | false =>
      have hW2 : Hid (wb = false) := by have := hW.out; rw [hv1] at this; exact this
      clear hW
      go_wp2_with fail
      go_region
      all_goals
        go_wp2_with fail
        exact bodyPost_ret (v := .tuple #[.agg #[.int .i64 ra, .int .i64 l2], .bool false]) (by simp [results, Try.results205, go_sem, r0, r1]) rfl ⟨by rw [hW2.out], ((hd.setCell (by simp; omega) _).setCell (by simp; omega) _).drew⟩
    | true =>
      cases hv2 : (pa == rb && pl == l1) with
      | false =>
        have hW2 : Hid (wb = false) := by have := hW.out; rw [hv1, hv2] at this; exact this
        clear hW
        go_wp2_with fail
        go_region
        all_goals
          go_wp2_with fail
          exact bodyPost_ret (v := .tuple #[.agg #[.int .i64 ra, .int .i64 l2], .bool false]) (by simp [results, Try.results205, go_sem, r0, r1]) rfl ⟨by rw [hW2.out], ((hd.setCell (by simp; omega) _).setCell (by simp; omega) _).drew⟩
      | true =>
        have hW2 : Hid (wb = true) := by have := hW.out; rw [hv1, hv2] at this; exact this
        clear hW
        go_wp2_with fail
        go_region
        all_goals
          go_wp2_with fail
          exact bodyPost_ret (v := .tuple #[.agg #[.int .i64 ra, .int .i64 l2], .bool true]) (by simp [results, Try.results205, go_sem, r0, r1]) rfl ⟨by rw [hW2.out], ((hd.setCell (by simp; omega) _).setCell (by simp; omega) _).drew⟩
  · have hql : ql = 0 := by have := (gdP_parts gq).1; dsimp only at this; omega
    have e0 : whP (qa, ql) = (0, 0) := by unfold whP; rw [if_neg h0]
    have s1 := hide (fun w => i_parent_no qa ql w (.inr hql))
    have s2 := hide (fun w => i_halves_yes 0 0 w root_good (by decide))
    have hW2 : Hid (wholeB (qa, ql) (pa, pl) = false) := whole_no h0
    rw [e0]
    clear e0 gq h0 hql
    dsimp only at *
    generalize wholeB (qa, ql) (pa, pl) = wb at *
    generalize (0 : Int) + pw (0 + 1) = rb at *
    generalize (0 : Int) + 1 = l1 at *
    go_enter Try.func205, Try.ntmps205
    go_wp2_with fail
    have hBq : Bk (((w.alloc (.cells #[.int .i64 qa, .int .i64 ql] 34)).alloc (.cells #[.int .i64 pa, .int .i64 pl] 34)).alloc (.cells #[.int .i64 0, .int .i64 0] 34)) w.heap.size #[.int .i64 qa, .int .i64 ql] 34 := (Bk.new w _ _).below (below_box2 (Below.refl _ _))
    have hBp : Bk (((w.alloc (.cells #[.int .i64 qa, .int .i64 ql] 34)).alloc (.cells #[.int .i64 pa, .int .i64 pl] 34)).alloc (.cells #[.int .i64 0, .int .i64 0] 34)) (w.heap.size + 1) #[.int .i64 pa, .int .i64 pl] 34 := by have := (Bk.new (w.alloc (.cells #[.int .i64 qa, .int .i64 ql] 34)) #[.int .i64 pa, .int .i64 pl] 34).below (below_box (o := .cells #[.int .i64 0, .int .i64 0] 34) (Below.refl _ _)); simpa using this
    have hBr : Bk (((w.alloc (.cells #[.int .i64 qa, .int .i64 ql] 34)).alloc (.cells #[.int .i64 pa, .int .i64 pl] 34)).alloc (.cells #[.int .i64 0, .int .i64 0] 34)) (w.heap.size + 1 + 1) #[.int .i64 0, .int .i64 0] 34 := by have := Bk.new ((w.alloc (.cells #[.int .i64 qa, .int .i64 ql] 34)).alloc (.cells #[.int .i64 pa, .int .i64 pl] 34)) #[.int .i64 0, .int .i64 0] 34; simpa using this
    have hd : Below w.heap.size w (((w.alloc (.cells #[.int .i64 qa, .int .i64 ql] 34)).alloc (.cells #[.int .i64 pa, .int .i64 pl] 34)).alloc (.cells #[.int .i64 0, .int .i64 0] 34)) := below_box3 (Below.refl _ _)
    generalize (((w.alloc (.cells #[.int .i64 qa, .int .i64 ql] 34)).alloc (.cells #[.int .i64 pa, .int .i64 pl] 34)).alloc (.cells #[.int .i64 0, .int .i64 0] 34)) = W1 at *
    refine (s1.out _).mono ?_
    rintro e W2 ⟨rfl, b2⟩
    have hBq := hBq.below b2
    have hBp := hBp.below b2
    have hBr := hBr.below b2
    have hd := hd.trans (b2.mono hd.size)
    have hs2 := hBr.lt
    clear b2
    go_wp2_with fail
    refine (s2.out _).mono ?_
    rintro e W3 ⟨rfl, b3⟩
    have hBw : Bk W3 W2.heap.size #[.int .i64 0, .int .i64 0] 34 := (Bk.new W2 _ _).below b3
    have b3' := below_box b3
    have hBq := hBq.below b3'
    have hBp := hBp.below b3'
    have hBr := hBr.below b3'
    have hd := hd.trans (b3'.mono hd.size)
    have hs3 := hBw.lt
    clear b3 b3'
    go_wp2_with fail
    have hBl : Bk ((W3.alloc (.cells #[.int .i64 0, .int .i64 l1] 34)).alloc (.cells #[.int .i64 rb, .int .i64 l1] 34)) W3.heap.size #[.int .i64 0, .int .i64 l1] 34 := (Bk.new W3 _ _).below (below_box (Below.refl _ _))
    have hBh : Bk ((W3.alloc (.cells #[.int .i64 0, .int .i64 l1] 34)).alloc (.cells #[.int .i64 rb, .int .i64 l1] 34)) (W3.heap.size + 1) #[.int .i64 rb, .int .i64 l1] 34 := by have := Bk.new (W3.alloc (.cells #[.int .i64 0, .int .i64 l1] 34)) #[.int .i64 rb, .int .i64 l1] 34; simpa using this
    have b4 : Below W3.heap.size W3 ((W3.alloc (.cells #[.int .i64 0, .int .i64 l1] 34)).alloc (.cells #[.int .i64 rb, .int .i64 l1] 34)) := below_box2 (Below.refl _ _)
    have hBq := hBq.below b4
    have hBp := hBp.below b4
    have hBr := hBr.below b4
    have hBw := hBw.below b4
    have hd := hd.trans (b4.mono hd.size)
    generalize ((W3.alloc (.cells #[.int .i64 0, .int .i64 l1] 34)).alloc (.cells #[.int .i64 rb, .int .i64 l1] 34)) = W4 at *
    clear b4
    have c0 := (hBq.cell 0).trans (show _ = some (.int .i64 qa) from rfl)
    have c1 := (hBq.cell 1).trans (show _ = some (.int .i64 ql) from rfl)
    have c2 := (hBp.cell 0).trans (show _ = some (.int .i64 pa) from rfl)
    have c3 := (hBp.cell 1).trans (show _ = some (.int .i64 pl) from rfl)
    have c4 := (hBw.cell 0).trans (show _ = some (.int .i64 0) from rfl)
    have c5 := (hBw.cell 1).trans (show _ = some (.int .i64 0) from rfl)
    have c6 := (hBl.cell 0).trans (show _ = some (.int .i64 0) from rfl)
    have c7 := (hBl.cell 1).trans (show _ = some (.int .i64 l1) from rfl)
    have c8 := (hBh.cell 0).trans (show _ = some (.int .i64 rb) from rfl)
    have c9 := (hBh.cell 1).trans (show _ = some (.int .i64 l1) from rfl)
    have r0 := (hBr.cell 0).trans (show _ = some (.int .i64 0) from rfl)
    have r1 := (hBr.cell 1).trans (show _ = some (.int .i64 0) from rfl)
    have f0 := bk_frozen hBr 0
    have f1 := bk_frozen hBr 1
    have n1 : ¬ W3.heap.size = w.heap.size + 1 + 1 := by omega
    have n2 : ¬ W3.heap.size + 1 = w.heap.size + 1 + 1 := by omega
    have n3 : ¬ W2.heap.size = w.heap.size + 1 + 1 := by omega
    clear hBq hBp hBw hBl hBh s1 s2
    go_wp2_with fail
    go_region
    all_goals
      go_wp2_with fail
      exact bodyPost_ret (v := .tuple #[.agg #[.int .i64 0, .int .i64 0], .bool false]) (by simp [results, Try.results205, go_sem, r0, r1]) rfl ⟨by rw [hW2.out], ((hd.setCell (by simp; omega) _).setCell (by simp; omega) _).drew⟩
end Go.Proofs.Ytofalilkephkpaa
