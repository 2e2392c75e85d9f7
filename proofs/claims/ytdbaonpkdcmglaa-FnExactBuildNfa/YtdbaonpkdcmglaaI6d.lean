/- What the program's cellsOf answers: the cells of a part, in memory of their own. -/
import Derived.Test.YtdbaonpkdcmglaaI6cQ
import Derived.Test.YtdbaonpkdcmglaaI6b
import Derived.Deep.RegionHeld3
namespace Go.Proofs.Ytdbaonpkdcmglaa
open Go.RowKit

theorem lo_boxQ {w M : World} (h : Below w.heap.size w M) (n : Nat) (o : Obj) : Below w.heap.size w ((M.drewN n).alloc o) :=
  below_step (below_drewN h n) (show Below (M.drewN n).heap.size (M.drewN n) _ from below_box (Below.refl _ _))
theorem src_boxQ {a : Option Addr} {L : List Cl} {c : Nat} {M : World} (h : SrcQ a L c M) (n : Nat) (o : Obj) : SrcQ a L c ((M.drewN n).alloc o) :=
  ⟨h.1.below (lo_boxQ (Below.refl _ _) n o), h.2⟩
theorem lo_srcQ {base : Nat} {a : Option Addr} {L : List Cl} {c : Nat} {M : World} (h : OwnQ base (.slice a L.length c) L M) (n : Nat) (o : Obj) : SrcQ a L c ((M.drewN n).alloc o) := by
  obtain ⟨a', c', e, hs⟩ := SrcQ.own h
  simp only [Value.slice.injEq, true_and] at e
  obtain ⟨rfl, rfl⟩ := e
  exact src_boxQ hs n o
theorem own1Q (base : Nat) (x y : Int) (w : World) (hb : base ≤ w.heap.size) : OwnQ base (.slice (some ⟨w.heap.size, 0, none⟩) 1 1) [(x, y)] (w.alloc (.cells #[.int .i64 x, .int .i64 y] 70)) :=
  World.ownsRow_lit (e := 70) (size := 2) w #[.int .i64 x, .int .i64 y] 1 hb (by decide) rfl
set_option maxRecDepth 100000 in
set_option maxHeartbeats 12800000 in
theorem i_cellsOf (t : Re) : ∀ (w : World), t.cells.length ≤ 1000000 → Calls Try.prog 56 #[pv t] w fun e w' => ∃ v, e = .returned v ∧ OwnQ w.heap.size v t.cells w' ∧ Below w.heap.size w w' := by
  induction t with
  | non =>
    intro w hl
    have M := im_non
    have t_thn := ta_non_thn
    have t_alt := ta_non_alt
    have t_str := ta_non_str
    simp only [pv]
    have s1 := hide (fun w => i_cell_non w)
    clear hl
    go_enter Try.func56, Try.ntmps56
    go_wp2_with fail
    refine (s1.out _).mono ?_
    rintro e w1 ⟨rfl, b1⟩
    have hO := own1Q w.heap.size 1 0 w1 b1.size
    replace hO := hide hO
    go_wp2_with fail
    go_ret
    exact ⟨_, rfl, hO.out, b1.alloc b1.size _⟩
  | emp =>
    intro w hl
    have M := im_emp
    have t_thn := ta_emp_thn
    have t_alt := ta_emp_alt
    have t_str := ta_emp_str
    simp only [pv]
    have s1 := hide (fun w => i_cell_emp w)
    clear hl
    go_enter Try.func56, Try.ntmps56
    go_wp2_with fail
    refine (s1.out _).mono ?_
    rintro e w1 ⟨rfl, b1⟩
    have hO := own1Q w.heap.size 2 0 w1 b1.size
    replace hO := hide hO
    go_wp2_with fail
    go_ret
    exact ⟨_, rfl, hO.out, b1.alloc b1.size _⟩
  | one n =>
    intro w hl
    have M := im_one
    have t_thn := ta_one_thn
    have t_alt := ta_one_alt
    have t_str := ta_one_str
    simp only [pv]
    have s1 := hide (fun w => i_cell_one n w)
    clear hl
    go_enter Try.func56, Try.ntmps56
    go_wp2_with fail
    refine (s1.out _).mono ?_
    rintro e w1 ⟨rfl, b1⟩
    have hO := own1Q w.heap.size 3 n w1 b1.size
    replace hO := hide hO
    go_wp2_with fail
    go_ret
    exact ⟨_, rfl, hO.out, b1.alloc b1.size _⟩
  | any =>
    intro w hl
    have M := im_any
    have t_thn := ta_any_thn
    have t_alt := ta_any_alt
    have t_str := ta_any_str
    simp only [pv]
    have s1 := hide (fun w => i_cell_any w)
    clear hl
    go_enter Try.func56, Try.ntmps56
    go_wp2_with fail
    refine (s1.out _).mono ?_
    rintro e w1 ⟨rfl, b1⟩
    have hO := own1Q w.heap.size 4 0 w1 b1.size
    replace hO := hide hO
    go_wp2_with fail
    go_ret
    exact ⟨_, rfl, hO.out, b1.alloc b1.size _⟩
  | thn a b ha hb =>
    intro w hl
    have M := im_thn
    have t_thn := ta_thn_thn
    have t_alt := ta_thn_alt
    have t_str := ta_thn_str
    simp only [pv]
    simp only [Re.cells, List.length_cons, List.length_append] at hl
    have IA := hide (fun w => ha w (by omega))
    have IB := hide (fun w => hb w (by omega))
    have hlA : a.cells.length ≤ 1000000 := by omega
    have hlB : b.cells.length ≤ 1000000 := by omega
    clear ha hb hl
    obtain ⟨ta, ca, ea⟩ := pv_shape a
    obtain ⟨tb, cb, eb⟩ := pv_shape b
    rw [ea, eb]
    rw [ea] at IA
    rw [eb] at IB
    clear ea eb
    have s1 := hide (fun w => i_cell_thn ta tb ca cb w)
    go_enter Try.func56, Try.ntmps56
    go_wp2_with fail
    refine (s1.out _).mono ?_
    rintro e w1 ⟨rfl, b1⟩
    have hZ : Below w1.heap.size w1 ((w1.alloc (.cells #[.int .i64 5, .int .i64 0] 70)).alloc (.cells #[.iface ta (.agg ca), .iface tb (.agg cb)] 130)) := below_box2 (Below.refl _ _)
    have hO := hide (ownQ_below (own1Q w.heap.size 5 0 w1 b1.size) (below_box (o := (.cells #[.iface ta (.agg ca), .iface tb (.agg cb)] 130)) (Below.refl _ _)))
    have hB : BkQ ((w1.alloc (.cells #[.int .i64 5, .int .i64 0] 70)).alloc (.cells #[.iface ta (.agg ca), .iface tb (.agg cb)] 130)) (w1.heap.size + 1) #[.iface ta (.agg ca), .iface tb (.agg cb)] 130 := by have := BkQ.new (w1.alloc (.cells #[.int .i64 5, .int .i64 0] 70)) #[.iface ta (.agg ca), .iface tb (.agg cb)] 130; simpa using this
    have d1 := b1.trans (hZ.mono b1.size)
    replace d1 := hide d1
    clear hZ
    go_wp2_with fail
    generalize ((w1.alloc (.cells #[.int .i64 5, .int .i64 0] 70)).alloc (.cells #[.iface ta (.agg ca), .iface tb (.agg cb)] 130)) = Z at *
    obtain ⟨a0, c0, e0, hs0⟩ := SrcQ.own hO.out
    simp only [List.length_cons, List.length_nil, Nat.zero_add, Value.slice.injEq, true_and] at e0
    obtain ⟨e01, e02⟩ := e0
    subst e01 e02
    have hS : ∀ w' : World, Below Z.heap.size Z w' → w'.cell? ⟨w1.heap.size + 1, 0, none⟩ = some (.iface ta (.agg ca)) ∧ w'.cell? ⟨w1.heap.size + 1, 1, none⟩ = some (.iface tb (.agg cb)) := fun w' h => ⟨((hB.below h).cell 0).trans rfl, ((hB.below h).cell 1).trans rfl⟩
    obtain ⟨R0, R1⟩ := hS Z (Below.refl _ _)
    have sC := hide (fun b' c' aa ab ad ca' cb' cd w h1 h2 h3 h4 => i_concatQ3 b' c' [(5, 0)] a.cells b.cells aa ab ad ca' cb' cd w (by simp) (by omega) (by omega) h1 h2 h3 h4)
    simp only [List.length_cons, List.length_nil, Nat.zero_add] at sC
    go_region_held3 (fun w' => w'.cell? ⟨w1.heap.size + 1, 0, none⟩ = some (.iface ta (.agg ca)) ∧ w'.cell? ⟨w1.heap.size + 1, 1, none⟩ = some (.iface tb (.agg cb)))
      (first | go_keep | exact hS _ hbz | exact hS _ (hMx 0 _) | exact hS _ (hMx 1 _) | exact hS _ hbM | exact hS _ hbM.drew | exact hS _ hbN | exact hS _ hbN.drew)
      ((first
        | (have hq1 := hMx; go_at_call 89; refine (sC.out _ _ _ _ _ _ _ _ _ (BkQ.new _ _ _) (by first | exact hS0 0 _ | exact hS0 1 _) (by first | exact hNs 0 _ | exact hNs 1 _) (by first | exact hMs 0 _ | exact hMs 1 _)).mono ?_; rintro e w3 ⟨v3, rfl, hT30, hb30⟩; have hbz : Below Z.heap.size Z w3 := (by first | exact below_step (hMx 0 _) hb30 | exact below_step (hMx 1 _) hb30); have hT3 : OwnQ Z.heap.size v3 ([(5, 0)] ++ a.cells ++ b.cells) w3 := (by first | exact ownQ_base hT30 (hMx 0 _).size | exact ownQ_base hT30 (hMx 1 _).size))
        | (have hq0 := hON; go_at_call 56; refine (IB.out _).mono ?_; rintro e M ⟨vM, rfl, hOM0, hbM0⟩; have hbM : Below Z.heap.size Z M := (by first | exact below_step hbN hbM0 | exact below_step hbN.drew hbM0); have hON2 : OwnQ Z.heap.size (.slice aN a.cells.length cN) a.cells M := (by first | exact ownQ_below hON hbM0 | exact ownQ_below (ownQ_below hON (Below.refl _ _).drew) hbM0); obtain ⟨aM, cM, rfl, hsM0⟩ := SrcQ.own hOM0; have hMx := lo_boxQ hbM; have hNs := lo_srcQ hON2; have hMs := src_boxQ hsM0; have hS0 := src_boxQ (hs0.below hbM); clear hOM0 hsM0)
        | (go_at_call 56; refine (IA.out _).mono ?_; rintro e N ⟨vN, rfl, hON0, hbN0⟩; have hbN : Below Z.heap.size Z N := (by first | exact hbN0 | exact (Below.refl _ _).drew.trans hbN0); have hON1 : OwnQ Z.heap.size vN a.cells N := (by first | exact hON0 | exact ownQ_base hON0 (by simp)); obtain ⟨aN, cN, rfl, _⟩ := SrcQ.own hON1; have hON := hON1; clear hON0 hbN0 hON1)))
    have hdz := d1.out.trans (hbz.mono d1.out.size)
    replace hT3 := hide hT3
    go_wp2_with fail
    go_ret
    refine ⟨_, rfl, ?_, hdz⟩
    have := ownQ_base hT3.out d1.out.size
    simpa [Re.cells] using this
  | alt a b ha hb =>
    intro w hl
    have M := im_alt
    have t_thn := ta_alt_thn
    have t_alt := ta_alt_alt
    have t_str := ta_alt_str
    simp only [pv]
    simp only [Re.cells, List.length_cons, List.length_append] at hl
    have IA := hide (fun w => ha w (by omega))
    have IB := hide (fun w => hb w (by omega))
    have hlA : a.cells.length ≤ 1000000 := by omega
    have hlB : b.cells.length ≤ 1000000 := by omega
    clear ha hb hl
    obtain ⟨ta, ca, ea⟩ := pv_shape a
    obtain ⟨tb, cb, eb⟩ := pv_shape b
    rw [ea, eb]
    rw [ea] at IA
    rw [eb] at IB
    clear ea eb
    have s1 := hide (fun w => i_cell_alt ta tb ca cb w)
    go_enter Try.func56, Try.ntmps56
    go_wp2_with fail
    refine (s1.out _).mono ?_
    rintro e w1 ⟨rfl, b1⟩
    have hZ : Below w1.heap.size w1 ((w1.alloc (.cells #[.int .i64 6, .int .i64 0] 70)).alloc (.cells #[.iface ta (.agg ca), .iface tb (.agg cb)] 131)) := below_box2 (Below.refl _ _)
    have hO := hide (ownQ_below (own1Q w.heap.size 6 0 w1 b1.size) (below_box (o := (.cells #[.iface ta (.agg ca), .iface tb (.agg cb)] 131)) (Below.refl _ _)))
    have hB : BkQ ((w1.alloc (.cells #[.int .i64 6, .int .i64 0] 70)).alloc (.cells #[.iface ta (.agg ca), .iface tb (.agg cb)] 131)) (w1.heap.size + 1) #[.iface ta (.agg ca), .iface tb (.agg cb)] 131 := by have := BkQ.new (w1.alloc (.cells #[.int .i64 6, .int .i64 0] 70)) #[.iface ta (.agg ca), .iface tb (.agg cb)] 131; simpa using this
    have d1 := b1.trans (hZ.mono b1.size)
    replace d1 := hide d1
    clear hZ
    go_wp2_with fail
    generalize ((w1.alloc (.cells #[.int .i64 6, .int .i64 0] 70)).alloc (.cells #[.iface ta (.agg ca), .iface tb (.agg cb)] 131)) = Z at *
    obtain ⟨a0, c0, e0, hs0⟩ := SrcQ.own hO.out
    simp only [List.length_cons, List.length_nil, Nat.zero_add, Value.slice.injEq, true_and] at e0
    obtain ⟨e01, e02⟩ := e0
    subst e01 e02
    have hS : ∀ w' : World, Below Z.heap.size Z w' → w'.cell? ⟨w1.heap.size + 1, 0, none⟩ = some (.iface ta (.agg ca)) ∧ w'.cell? ⟨w1.heap.size + 1, 1, none⟩ = some (.iface tb (.agg cb)) := fun w' h => ⟨((hB.below h).cell 0).trans rfl, ((hB.below h).cell 1).trans rfl⟩
    obtain ⟨R0, R1⟩ := hS Z (Below.refl _ _)
    have sC := hide (fun b' c' aa ab ad ca' cb' cd w h1 h2 h3 h4 => i_concatQ3 b' c' [(6, 0)] a.cells b.cells aa ab ad ca' cb' cd w (by simp) (by omega) (by omega) h1 h2 h3 h4)
    simp only [List.length_cons, List.length_nil, Nat.zero_add] at sC
    go_region_held3 (fun w' => w'.cell? ⟨w1.heap.size + 1, 0, none⟩ = some (.iface ta (.agg ca)) ∧ w'.cell? ⟨w1.heap.size + 1, 1, none⟩ = some (.iface tb (.agg cb)))
      (first | go_keep | exact hS _ hbz | exact hS _ (hMx 0 _) | exact hS _ (hMx 1 _) | exact hS _ hbM | exact hS _ hbM.drew | exact hS _ hbN | exact hS _ hbN.drew)
      ((first
        | (have hq1 := hMx; go_at_call 89; refine (sC.out _ _ _ _ _ _ _ _ _ (BkQ.new _ _ _) (by first | exact hS0 0 _ | exact hS0 1 _) (by first | exact hNs 0 _ | exact hNs 1 _) (by first | exact hMs 0 _ | exact hMs 1 _)).mono ?_; rintro e w3 ⟨v3, rfl, hT30, hb30⟩; have hbz : Below Z.heap.size Z w3 := (by first | exact below_step (hMx 0 _) hb30 | exact below_step (hMx 1 _) hb30); have hT3 : OwnQ Z.heap.size v3 ([(6, 0)] ++ a.cells ++ b.cells) w3 := (by first | exact ownQ_base hT30 (hMx 0 _).size | exact ownQ_base hT30 (hMx 1 _).size))
        | (have hq0 := hON; go_at_call 56; refine (IB.out _).mono ?_; rintro e M ⟨vM, rfl, hOM0, hbM0⟩; have hbM : Below Z.heap.size Z M := (by first | exact below_step hbN hbM0 | exact below_step hbN.drew hbM0); have hON2 : OwnQ Z.heap.size (.slice aN a.cells.length cN) a.cells M := (by first | exact ownQ_below hON hbM0 | exact ownQ_below (ownQ_below hON (Below.refl _ _).drew) hbM0); obtain ⟨aM, cM, rfl, hsM0⟩ := SrcQ.own hOM0; have hMx := lo_boxQ hbM; have hNs := lo_srcQ hON2; have hMs := src_boxQ hsM0; have hS0 := src_boxQ (hs0.below hbM); clear hOM0 hsM0)
        | (go_at_call 56; refine (IA.out _).mono ?_; rintro e N ⟨vN, rfl, hON0, hbN0⟩; have hbN : Below Z.heap.size Z N := (by first | exact hbN0 | exact (Below.refl _ _).drew.trans hbN0); have hON1 : OwnQ Z.heap.size vN a.cells N := (by first | exact hON0 | exact ownQ_base hON0 (by simp)); obtain ⟨aN, cN, rfl, _⟩ := SrcQ.own hON1; have hON := hON1; clear hON0 hbN0 hON1)))
    have hdz := d1.out.trans (hbz.mono d1.out.size)
    replace hT3 := hide hT3
    go_wp2_with fail
    go_ret
    refine ⟨_, rfl, ?_, hdz⟩
    have := ownQ_base hT3.out d1.out.size
    simpa [Re.cells] using this
  | str a ha =>
    intro w hl
    have M := im_str
    have t_thn := ta_str_thn
    have t_alt := ta_str_alt
    have t_str := ta_str_str
    simp only [pv]
    simp only [Re.cells, List.length_cons] at hl
    have IA := hide (fun w => ha w (by omega))
    have hlA : a.cells.length ≤ 1000000 := by omega
    clear ha hl
    obtain ⟨ta, ca, ea⟩ := pv_shape a
    rw [ea]
    rw [ea] at IA
    clear ea
    have s1 := hide (fun w => i_cell_str ta ca w)
    go_enter Try.func56, Try.ntmps56
    go_wp2_with fail
    refine (s1.out _).mono ?_
    rintro e w1 ⟨rfl, b1⟩
    have hZ : Below w1.heap.size w1 ((w1.alloc (.cells #[.int .i64 7, .int .i64 0] 70)).alloc (.cells #[.iface ta (.agg ca)] 128)) := below_box2 (Below.refl _ _)
    have hO := hide (ownQ_below (own1Q w.heap.size 7 0 w1 b1.size) (below_box (o := (.cells #[.iface ta (.agg ca)] 128)) (Below.refl _ _)))
    have hB : BkQ ((w1.alloc (.cells #[.int .i64 7, .int .i64 0] 70)).alloc (.cells #[.iface ta (.agg ca)] 128)) (w1.heap.size + 1) #[.iface ta (.agg ca)] 128 := by have := BkQ.new (w1.alloc (.cells #[.int .i64 7, .int .i64 0] 70)) #[.iface ta (.agg ca)] 128; simpa using this
    have d1 := b1.trans (hZ.mono b1.size)
    replace d1 := hide d1
    clear hZ
    go_wp2_with fail
    generalize ((w1.alloc (.cells #[.int .i64 7, .int .i64 0] 70)).alloc (.cells #[.iface ta (.agg ca)] 128)) = Z at *
    obtain ⟨a0, c0, e0, hs0⟩ := SrcQ.own hO.out
    simp only [List.length_cons, List.length_nil, Nat.zero_add, Value.slice.injEq, true_and] at e0
    obtain ⟨e01, e02⟩ := e0
    subst e01 e02
    have R0 := (hB.cell 0).trans (show _ = some (.iface ta (.agg ca)) from rfl)
    have sC := hide (fun b' c' aa ab ca' cb' w h1 h2 h3 => i_concatQ b' c' [(7, 0)] a.cells aa ab ca' cb' w (by simp) (by omega) h1 h2 h3)
    simp only [List.length_cons, List.length_nil, Nat.zero_add] at sC
    go_wp2_with fail
    refine (IA.out _).mono ?_
    rintro e N ⟨vN, rfl, hON0, hbN⟩
    obtain ⟨aN, cN, rfl, hsN⟩ := SrcQ.own hON0
    have hN1 := hsN.below (below_box (o := .cells #[.slice (some ⟨w1.heap.size, 0, none⟩) 1 1, .slice aN a.cells.length cN] 25) (Below.refl _ _))
    have hs1 := (hs0.below hbN).below (below_box (o := .cells #[.slice (some ⟨w1.heap.size, 0, none⟩) 1 1, .slice aN a.cells.length cN] 25) (Below.refl _ _))
    replace hN1 := hide hN1
    replace hs1 := hide hs1
    have d2 := hide (d1.out.trans (hbN.mono d1.out.size))
    clear hON0 hbN hsN hs0 R0 hB hO
    go_wp2_with fail
    refine (sC.out _ _ _ _ _ _ _ (BkQ.new _ _ _) hs1.out hN1.out).mono ?_
    rintro e w3 ⟨v3, rfl, hT3, hb3⟩
    have d3 := below_step d2.out (below_box hb3)
    replace hT3 := hide (ownQ_base hT3 (below_box (Below.refl _ _)).size)
    replace d3 := hide d3
    go_wp2_with fail
    go_ret
    refine ⟨_, rfl, ?_, d3.out⟩
    have := ownQ_base hT3.out d2.out.size
    simpa [Re.cells] using this
end Go.Proofs.Ytdbaonpkdcmglaa
