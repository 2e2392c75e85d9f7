/- What the program's edgesOf and its parts answer. -/
import Derived.Test.YtdbaonpkdcmglaaEdge6
import Derived.Test.YtdbaonpkdcmglaaI6d
namespace Go.Proofs.Ytdbaonpkdcmglaa
open Go.RowKit

set_option maxHeartbeats 400000 in
theorem i_startOf (x : Int) (w : World) (h0 : 0 ≤ x) (h1 : x ≤ 1000000) : Calls Try.prog 63 #[.int .i64 x] w fun e w' => e = .returned (.int .i64 (2 * x)) ∧ w' = w := by
  go_enter Try.func63, Try.ntmps63
  go_wp2_with fail
  go_ret
  exact ⟨rfl, rfl⟩
set_option maxHeartbeats 400000 in
theorem i_endOf (x : Int) (w : World) (h0 : 0 ≤ x) (h1 : x ≤ 1000000) : Calls Try.prog 64 #[.int .i64 x] w fun e w' => e = .returned (.int .i64 (2 * x + 1)) ∧ w' = w := by
  go_enter Try.func64, Try.ntmps64
  go_wp2_with fail
  go_ret
  exact ⟨rfl, rfl⟩
set_option maxRecDepth 100000 in
set_option maxHeartbeats 400000 in
theorem i_freeEdge (x y : Int) (w : World) : Calls Try.prog 95 #[.int .i64 x, .int .i64 y] w fun e w' => e = .returned (.agg #[.int .i64 x, .int .i64 y, .bool true, .bool false, .int .i64 0]) ∧ Below w.heap.size w w' := by
  go_enter Try.func95, Try.ntmps95
  go_wp2_with fail
  exact bodyPost_ret (v := .agg #[.int .i64 x, .int .i64 y, .bool true, .bool false, .int .i64 0]) (by simp [results, Try.results95, go_sem]) rfl ⟨rfl, below_box (Below.refl _ _)⟩
set_option maxRecDepth 100000 in
set_option maxHeartbeats 3200000 in
theorem i_thenEdges (k f s : Int) (w : World) (hk : 0 ≤ k ∧ k ≤ 1000000) (hf : 0 ≤ f ∧ f ≤ 1000000) (hs : 0 ≤ s ∧ s ≤ 1000000) : Calls Try.prog 97 #[.int .i64 k, .int .i64 f, .int .i64 s] w fun e w' => ∃ v, e = .returned v ∧ OwnG w.heap.size v (thnE k f s) w' ∧ Below w.heap.size w w' := by
  have Sk := hide (fun w => i_startOf k w hk.1 hk.2)
  have Ek := hide (fun w => i_endOf k w hk.1 hk.2)
  have Sf := hide (fun w => i_startOf f w hf.1 hf.2)
  have Ef := hide (fun w => i_endOf f w hf.1 hf.2)
  have Ss := hide (fun w => i_startOf s w hs.1 hs.2)
  have Es := hide (fun w => i_endOf s w hs.1 hs.2)
  have F := hide i_freeEdge
  clear hk hf hs
  go_enter Try.func97, Try.ntmps97
  go_wp2_with fail
  refine (Sk.out _).mono ?_
  rintro e w_ ⟨rfl, hw_⟩
  rw [hw_]
  clear hw_ w_
  go_wp2_with fail
  refine (Sf.out _).mono ?_
  rintro e w_ ⟨rfl, hw_⟩
  rw [hw_]
  clear hw_ w_
  go_wp2_with fail
  refine (F.out _ _ _).mono ?_
  rintro e w1 ⟨rfl, b1⟩
  go_wp2_with fail
  refine (Ef.out _).mono ?_
  rintro e w_ ⟨rfl, hw_⟩
  rw [hw_]
  clear hw_ w_
  go_wp2_with fail
  refine (Ss.out _).mono ?_
  rintro e w_ ⟨rfl, hw_⟩
  rw [hw_]
  clear hw_ w_
  go_wp2_with fail
  refine (F.out _ _ _).mono ?_
  rintro e w2 ⟨rfl, b2⟩
  replace b2 := below_step b1 b2
  go_wp2_with fail
  refine (Es.out _).mono ?_
  rintro e w_ ⟨rfl, hw_⟩
  rw [hw_]
  clear hw_ w_
  go_wp2_with fail
  refine (Ek.out _).mono ?_
  rintro e w_ ⟨rfl, hw_⟩
  rw [hw_]
  clear hw_ w_
  go_wp2_with fail
  refine (F.out _ _ _).mono ?_
  rintro e w3 ⟨rfl, b3⟩
  replace b3 := below_step b2 b3
  have hO := hide (ownLitG w.heap.size (thnE k f s) w3 b3.size (by simp [thnE]))
  go_wp2_with fail
  go_ret
  exact ⟨_, rfl, hO.out, b3.alloc b3.size _⟩
set_option maxRecDepth 100000 in
set_option maxHeartbeats 3200000 in
theorem i_orEdges (k f s : Int) (w : World) (hk : 0 ≤ k ∧ k ≤ 1000000) (hf : 0 ≤ f ∧ f ≤ 1000000) (hs : 0 ≤ s ∧ s ≤ 1000000) : Calls Try.prog 98 #[.int .i64 k, .int .i64 f, .int .i64 s] w fun e w' => ∃ v, e = .returned v ∧ OwnG w.heap.size v (altE k f s) w' ∧ Below w.heap.size w w' := by
  have Sk := hide (fun w => i_startOf k w hk.1 hk.2)
  have Ek := hide (fun w => i_endOf k w hk.1 hk.2)
  have Sf := hide (fun w => i_startOf f w hf.1 hf.2)
  have Ef := hide (fun w => i_endOf f w hf.1 hf.2)
  have Ss := hide (fun w => i_startOf s w hs.1 hs.2)
  have Es := hide (fun w => i_endOf s w hs.1 hs.2)
  have F := hide i_freeEdge
  clear hk hf hs
  go_enter Try.func98, Try.ntmps98
  go_wp2_with fail
  refine (Sk.out _).mono ?_
  rintro e w_ ⟨rfl, hw_⟩
  rw [hw_]
  clear hw_ w_
  go_wp2_with fail
  refine (Sf.out _).mono ?_
  rintro e w_ ⟨rfl, hw_⟩
  rw [hw_]
  clear hw_ w_
  go_wp2_with fail
  refine (F.out _ _ _).mono ?_
  rintro e w1 ⟨rfl, b1⟩
  go_wp2_with fail
  refine (Sk.out _).mono ?_
  rintro e w_ ⟨rfl, hw_⟩
  rw [hw_]
  clear hw_ w_
  go_wp2_with fail
  refine (Ss.out _).mono ?_
  rintro e w_ ⟨rfl, hw_⟩
  rw [hw_]
  clear hw_ w_
  go_wp2_with fail
  refine (F.out _ _ _).mono ?_
  rintro e w2 ⟨rfl, b2⟩
  replace b2 := below_step b1 b2
  go_wp2_with fail
  refine (Ef.out _).mono ?_
  rintro e w_ ⟨rfl, hw_⟩
  rw [hw_]
  clear hw_ w_
  go_wp2_with fail
  refine (Ek.out _).mono ?_
  rintro e w_ ⟨rfl, hw_⟩
  rw [hw_]
  clear hw_ w_
  go_wp2_with fail
  refine (F.out _ _ _).mono ?_
  rintro e w3 ⟨rfl, b3⟩
  replace b3 := below_step b2 b3
  go_wp2_with fail
  refine (Es.out _).mono ?_
  rintro e w_ ⟨rfl, hw_⟩
  rw [hw_]
  clear hw_ w_
  go_wp2_with fail
  refine (Ek.out _).mono ?_
  rintro e w_ ⟨rfl, hw_⟩
  rw [hw_]
  clear hw_ w_
  go_wp2_with fail
  refine (F.out _ _ _).mono ?_
  rintro e w4 ⟨rfl, b4⟩
  replace b4 := below_step b3 b4
  have hO := hide (ownLitG w.heap.size (altE k f s) w4 b4.size (by simp [altE]))
  go_wp2_with fail
  go_ret
  exact ⟨_, rfl, hO.out, b4.alloc b4.size _⟩
set_option maxRecDepth 100000 in
set_option maxHeartbeats 3200000 in
theorem i_starEdges (k f : Int) (w : World) (hk : 0 ≤ k ∧ k ≤ 1000000) (hf : 0 ≤ f ∧ f ≤ 1000000) : Calls Try.prog 99 #[.int .i64 k, .int .i64 f] w fun e w' => ∃ v, e = .returned v ∧ OwnG w.heap.size v (strE k f) w' ∧ Below w.heap.size w w' := by
  have Sk := hide (fun w => i_startOf k w hk.1 hk.2)
  have Ek := hide (fun w => i_endOf k w hk.1 hk.2)
  have Sf := hide (fun w => i_startOf f w hf.1 hf.2)
  have Ef := hide (fun w => i_endOf f w hf.1 hf.2)
  have F := hide i_freeEdge
  clear hk hf
  go_enter Try.func99, Try.ntmps99
  go_wp2_with fail
  refine (Sk.out _).mono ?_
  rintro e w_ ⟨rfl, hw_⟩
  rw [hw_]
  clear hw_ w_
  go_wp2_with fail
  refine (Ek.out _).mono ?_
  rintro e w_ ⟨rfl, hw_⟩
  rw [hw_]
  clear hw_ w_
  go_wp2_with fail
  refine (F.out _ _ _).mono ?_
  rintro e w1 ⟨rfl, b1⟩
  go_wp2_with fail
  refine (Sk.out _).mono ?_
  rintro e w_ ⟨rfl, hw_⟩
  rw [hw_]
  clear hw_ w_
  go_wp2_with fail
  refine (Sf.out _).mono ?_
  rintro e w_ ⟨rfl, hw_⟩
  rw [hw_]
  clear hw_ w_
  go_wp2_with fail
  refine (F.out _ _ _).mono ?_
  rintro e w2 ⟨rfl, b2⟩
  replace b2 := below_step b1 b2
  go_wp2_with fail
  refine (Ef.out _).mono ?_
  rintro e w_ ⟨rfl, hw_⟩
  rw [hw_]
  clear hw_ w_
  go_wp2_with fail
  refine (Ek.out _).mono ?_
  rintro e w_ ⟨rfl, hw_⟩
  rw [hw_]
  clear hw_ w_
  go_wp2_with fail
  refine (F.out _ _ _).mono ?_
  rintro e w3 ⟨rfl, b3⟩
  replace b3 := below_step b2 b3
  go_wp2_with fail
  refine (Ef.out _).mono ?_
  rintro e w_ ⟨rfl, hw_⟩
  rw [hw_]
  clear hw_ w_
  go_wp2_with fail
  refine (Sf.out _).mono ?_
  rintro e w_ ⟨rfl, hw_⟩
  rw [hw_]
  clear hw_ w_
  go_wp2_with fail
  refine (F.out _ _ _).mono ?_
  rintro e w4 ⟨rfl, b4⟩
  replace b4 := below_step b3 b4
  have hO := hide (ownLitG w.heap.size (strE k f) w4 b4.size (by simp [strE]))
  go_wp2_with fail
  go_ret
  exact ⟨_, rfl, hO.out, b4.alloc b4.size _⟩
set_option maxRecDepth 100000 in
set_option maxHeartbeats 12800000 in
theorem i_edgesOf (t : Re) : ∀ (k : Int) (w : World), 0 ≤ k → k + (t.cells.length : Int) ≤ 1000 → Calls Try.prog 65 #[pv t, .int .i64 k] w fun e w' => ∃ v, e = .returned v ∧ OwnG w.heap.size v (t.edi k) w' ∧ Below w.heap.size w w' := by
  induction t with
  | non =>
    intro k w hk0 hk1
    have t_emp := ta_non_emp
    have t_one := ta_non_one
    have t_any := ta_non_any
    have t_thn := ta_non_thn
    have t_alt := ta_non_alt
    have t_str := ta_non_str
    simp only [pv, Re.edi]
    simp only [Re.cells, List.length_cons, List.length_nil] at hk1
    have SS := hide (fun w => i_startOf k w hk0 (by omega))
    have SE := hide (fun w => i_endOf k w hk0 (by omega))
    have F := hide i_freeEdge
    clear hk1
    go_enter Try.func65, Try.ntmps65
    go_wp2_with fail
    go_ret
    exact ⟨_, rfl, ownG_nil _ _, Below.refl _ _⟩
  | emp =>
    intro k w hk0 hk1
    have t_emp := ta_emp_emp
    have t_one := ta_emp_one
    have t_any := ta_emp_any
    have t_thn := ta_emp_thn
    have t_alt := ta_emp_alt
    have t_str := ta_emp_str
    simp only [pv, Re.edi]
    simp only [Re.cells, List.length_cons, List.length_nil] at hk1
    have SS := hide (fun w => i_startOf k w hk0 (by omega))
    have SE := hide (fun w => i_endOf k w hk0 (by omega))
    have F := hide i_freeEdge
    clear hk1
    go_enter Try.func65, Try.ntmps65
    go_wp2_with fail
    refine (SS.out _).mono ?_
    rintro e w_ ⟨rfl, hw_⟩
    rw [hw_]
    clear hw_ w_
    go_wp2_with fail
    refine (SE.out _).mono ?_
    rintro e w_ ⟨rfl, hw_⟩
    rw [hw_]
    clear hw_ w_
    go_wp2_with fail
    refine (F.out _ _ _).mono ?_
    rintro e w1 ⟨rfl, b1⟩
    replace b1 := (by first | exact below_box b1 | exact b1)
    have hO := hide (ownLitG w.heap.size [frI (2 * k) (2 * k + 1)] w1 b1.size (by simp))
    go_wp2_with fail
    go_ret
    exact ⟨_, rfl, hO.out, b1.alloc b1.size _⟩
  | one n =>
    intro k w hk0 hk1
    have t_emp := ta_one_emp
    have t_one := ta_one_one
    have t_any := ta_one_any
    have t_thn := ta_one_thn
    have t_alt := ta_one_alt
    have t_str := ta_one_str
    simp only [pv, Re.edi]
    simp only [Re.cells, List.length_cons, List.length_nil] at hk1
    have SS := hide (fun w => i_startOf k w hk0 (by omega))
    have SE := hide (fun w => i_endOf k w hk0 (by omega))
    have F := hide i_freeEdge
    clear hk1
    have hZ : Below w.heap.size w (w.alloc (.cells #[.int .i64 n] 134)) := below_box (Below.refl _ _)
    have hB : BkQ (w.alloc (.cells #[.int .i64 n] 134)) w.heap.size #[.int .i64 n] 134 := BkQ.new w _ _
    go_enter Try.func65, Try.ntmps65
    go_wp2_with fail
    generalize w.alloc (.cells #[.int .i64 n] 134) = Z at *
    have hS : ∀ w' : World, Below Z.heap.size Z w' → w'.cell? ⟨w.heap.size, 0, none⟩ = some (.int .i64 n) := fun w' h => ((hB.below h).cell 0).trans rfl
    have R0 := hS Z (Below.refl _ _)
    go_region_held3 (fun w' => w'.cell? ⟨w.heap.size, 0, none⟩ = some (.int .i64 n))
      (first | exact hS _ (Below.refl _ _) | exact hS _ (Below.refl _ _).drew | (refine hS _ ?_; first | exact (Below.refl _ _).alloc (Nat.le_refl _) _ | exact (Below.refl _ _).drew.alloc (Nat.le_refl _) _) | go_keep)
      ((first
        | (go_at_call 64; refine (SE.out _).mono ?_; rintro e w_ ⟨rfl, hw_⟩; rw [hw_]; clear hw_ w_)
        | (go_at_call 63; refine (SS.out _).mono ?_; rintro e w_ ⟨rfl, hw_⟩; rw [hw_]; clear hw_ w_)))
    go_wp2_with fail
    go_ret
    first
      | exact ⟨_, rfl, ownLitG w.heap.size [(2 * k, 2 * k + 1, false, false, n)] Z hZ.size (by simp), hZ.alloc hZ.size _⟩
      | exact ⟨_, rfl, ownLitG w.heap.size [(2 * k, 2 * k + 1, false, false, n)] Z.drew hZ.size (by simp), hZ.drew.alloc hZ.size _⟩
      | exact ⟨_, rfl, ownG_below (ownLitG w.heap.size [(2 * k, 2 * k + 1, false, false, n)] Z hZ.size (by simp)) (Below.refl _ _).drew, (hZ.alloc hZ.size _).drew⟩
  | any =>
    intro k w hk0 hk1
    have t_emp := ta_any_emp
    have t_one := ta_any_one
    have t_any := ta_any_any
    have t_thn := ta_any_thn
    have t_alt := ta_any_alt
    have t_str := ta_any_str
    simp only [pv, Re.edi]
    simp only [Re.cells, List.length_cons, List.length_nil] at hk1
    have SS := hide (fun w => i_startOf k w hk0 (by omega))
    have SE := hide (fun w => i_endOf k w hk0 (by omega))
    have F := hide i_freeEdge
    clear hk1
    have b0 : Below w.heap.size w (w.alloc (.cells #[] 136)) := below_box (Below.refl _ _)
    have hO := ownLitG w.heap.size [(2 * k, 2 * k + 1, false, true, 0)] (w.alloc (.cells #[] 136)) b0.size (by simp)
    rw [show (w.alloc (.cells #[] 136)).heap.size = w.heap.size + 1 by simp] at hO
    replace hO := hide hO
    go_enter Try.func65, Try.ntmps65
    go_wp2_with fail
    refine (SS.out _).mono ?_
    rintro e w_ ⟨rfl, hw_⟩
    rw [hw_]
    clear hw_ w_
    go_wp2_with fail
    refine (SE.out _).mono ?_
    rintro e w_ ⟨rfl, hw_⟩
    rw [hw_]
    clear hw_ w_
    go_wp2_with fail
    go_ret
    exact ⟨_, rfl, hO.out, b0.alloc b0.size _⟩
  | thn a b ha hb =>
    intro k w hk0 hk1
    have t_emp := ta_thn_emp
    have t_one := ta_thn_one
    have t_any := ta_thn_any
    have t_thn := ta_thn_thn
    have t_alt := ta_thn_alt
    have t_str := ta_thn_str
    simp only [Re.cells, List.length_cons, List.length_append] at hk1
    have IA := hide (fun w => ha (k + 1) w (by omega) (by omega))
    have IB := hide (fun w => hb (k + 1 + (a.cells.length : Int)) w (by omega) (by omega))
    have CA := hide (fun w => i_cellsOf a w (by omega))
    have ST := hide (fun w => i_thenEdges k (k + 1) (k + 1 + (a.cells.length : Int)) w ⟨hk0, by omega⟩ ⟨by omega, by omega⟩ ⟨by omega, by omega⟩)
    have hla := edi_len a (k + 1)
    have hlb := edi_len b (k + 1 + (a.cells.length : Int))
    have hA' : (a.edi (k + 1)).length ≤ 4000 := by omega
    have hB' : (b.edi (k + 1 + (a.cells.length : Int))).length ≤ 4000 := by omega
    have hT' : (thnE k (k + 1) (k + 1 + (a.cells.length : Int))).length ≤ 4 := by simp [thnE]
    have hal : (a.cells.length : Int) ≤ 1000 := by omega
    clear ha hb hla hlb
    show Calls Try.prog 65 #[.iface 130 (.agg #[pv a, pv b]), .int .i64 k] w fun e w' => ∃ v, e = .returned v ∧ OwnG w.heap.size v (thnE k (k + 1) (k + 1 + (a.cells.length : Int)) ++ a.edi (k + 1) ++ b.edi (k + 1 + (a.cells.length : Int))) w' ∧ Below w.heap.size w w'
    obtain ⟨ta, ca, ea⟩ := pv_shape a
    obtain ⟨tb, cb, eb⟩ := pv_shape b
    rw [ea, eb]
    rw [ea] at IA CA
    rw [eb] at IB
    clear ea eb
    generalize thnE k (k + 1) (k + 1 + (a.cells.length : Int)) = ET at *
    generalize a.edi (k + 1) = EA at *
    generalize b.edi (k + 1 + (a.cells.length : Int)) = EB at *
    have hZ : Below w.heap.size w (w.alloc (.cells #[.iface ta (.agg ca), .iface tb (.agg cb)] 130)) := below_box (Below.refl _ _)
    have hB : BkQ (w.alloc (.cells #[.iface ta (.agg ca), .iface tb (.agg cb)] 130)) w.heap.size #[.iface ta (.agg ca), .iface tb (.agg cb)] 130 := BkQ.new w _ _
    go_enter Try.func65, Try.ntmps65
    go_wp2_with fail
    refine (CA.out _).mono ?_
    rintro e Z ⟨v0, rfl, o0, bz⟩
    obtain ⟨a0, c0, rfl, _, _⟩ := ownQ_row o0
    replace hZ := hZ.trans (bz.mono hZ.size)
    replace hB := hB.below bz
    clear o0 bz CA
    go_wp2_with fail
    have hS : ∀ w' : World, Below Z.heap.size Z w' → w'.cell? ⟨w.heap.size, 0, none⟩ = some (.iface ta (.agg ca)) ∧ w'.cell? ⟨w.heap.size, 1, none⟩ = some (.iface tb (.agg cb)) := fun w' h => ⟨((hB.below h).cell 0).trans rfl, ((hB.below h).cell 1).trans rfl⟩
    obtain ⟨R0, R1⟩ := hS Z (Below.refl _ _)
    have sC := hide (fun b' c' aa ab ad ca' cb' cd w h1 h2 h3 h4 => i_concatG3 b' c' ET EA EB aa ab ad ca' cb' cd w (by omega) (by omega) (by omega) h1 h2 h3 h4)
    go_region_held3 (fun w' => w'.cell? ⟨w.heap.size, 0, none⟩ = some (.iface ta (.agg ca)) ∧ w'.cell? ⟨w.heap.size, 1, none⟩ = some (.iface tb (.agg cb)))
      (first | exact hS _ (Below.refl _ _) | exact hS _ (Below.refl _ _).drew | exact hS _ hbz | exact hS _ hbz.drew | exact hS _ hbM | exact hS _ hbM.drew | exact hS _ hbN | exact hS _ hbN.drew | exact hS _ hbT | exact hS _ hbT.drew | (refine hS _ ?_; first | exact hbM.alloc hbM.size _ | exact hbM.drew.alloc hbM.size _) | go_keep)
      ((first
        | (have hq1 := hOM; go_at_call 96; refine (sC.out _ _ _ _ _ _ _ _ _ (BkG.new _ _ _) (by first | exact lo_srcG hOT2 (boxG _ 0 _) | exact lo_srcG hOT2 (boxG _ 1 _)) (by first | exact lo_srcG hON2 (boxG _ 0 _) | exact lo_srcG hON2 (boxG _ 1 _)) (by first | exact lo_srcG hOM (boxG _ 0 _) | exact lo_srcG hOM (boxG _ 1 _))).mono ?_; rintro e w3 ⟨v3, rfl, hT30, hb30⟩; have hbz : Below Z.heap.size Z w3 := (by first | exact below_step (below_step hbM (boxG _ 0 _)) hb30 | exact below_step (below_step hbM (boxG _ 1 _)) hb30); have hT3 : OwnG Z.heap.size v3 (ET ++ EA ++ EB) w3 := (by first | exact ownG_base hT30 (below_step hbM (boxG _ 0 _)).size | exact ownG_base hT30 (below_step hbM (boxG _ 1 _)).size))
        | (have hq0 := hON; go_at_call 65; refine (IB.out _).mono ?_; rintro e M ⟨vM, rfl, hOM0, hbM0⟩; have hbM : Below Z.heap.size Z M := (by first | exact below_step hbN hbM0 | exact below_step hbN.drew hbM0); have hON2 : OwnG Z.heap.size (.slice aN EA.length cN) EA M := (by first | exact ownG_below hON hbM0 | exact ownG_below (ownG_below hON (Below.refl _ _).drew) hbM0); have hOT2 : OwnG Z.heap.size (.slice aT ET.length cT) ET M := (by first | exact ownG_below hOT1 hbM0 | exact ownG_below (ownG_below hOT1 (Below.refl _ _).drew) hbM0); obtain ⟨aM, cM, rfl, _⟩ := SrcG.own hOM0; have hOM := hOM0; clear hOM0 hbM0)
        | (have hq2 := hOT; go_at_call 65; refine (IA.out _).mono ?_; rintro e N ⟨vN, rfl, hON0, hbN0⟩; have hbN : Below Z.heap.size Z N := (by first | exact below_step hbT hbN0 | exact below_step hbT.drew hbN0); have hOT1 : OwnG Z.heap.size (.slice aT ET.length cT) ET N := (by first | exact ownG_below hOT hbN0 | exact ownG_below (ownG_below hOT (Below.refl _ _).drew) hbN0); have hON1 : OwnG Z.heap.size vN EA N := (by first | exact ownG_base hON0 hbT.size | exact ownG_base hON0 hbT.drew.size); obtain ⟨aN, cN, rfl, _⟩ := SrcG.own hON1; have hON := hON1; clear hON0 hbN0 hON1)
        | (go_at_call 97; refine (ST.out _).mono ?_; rintro e T ⟨vT, rfl, hOT0, hbT0⟩; have hbT : Below Z.heap.size Z T := (by first | exact hbT0 | exact (Below.refl _ _).drew.trans hbT0); have hOTa : OwnG Z.heap.size vT ET T := (by first | exact hOT0 | exact ownG_base hOT0 (by simp)); obtain ⟨aT, cT, rfl, _⟩ := SrcG.own hOTa; have hOT := hOTa; clear hOT0 hbT0 hOTa)))
    have hdz := hZ.trans (hbz.mono hZ.size)
    replace hT3 := hide hT3
    go_wp2_with fail
    go_ret
    exact ⟨_, rfl, ownG_base hT3.out hZ.size, by first | exact hdz | exact hdz.drew⟩
  | alt a b ha hb =>
    intro k w hk0 hk1
    have t_emp := ta_alt_emp
    have t_one := ta_alt_one
    have t_any := ta_alt_any
    have t_thn := ta_alt_thn
    have t_alt := ta_alt_alt
    have t_str := ta_alt_str
    simp only [Re.cells, List.length_cons, List.length_append] at hk1
    have IA := hide (fun w => ha (k + 1) w (by omega) (by omega))
    have IB := hide (fun w => hb (k + 1 + (a.cells.length : Int)) w (by omega) (by omega))
    have CA := hide (fun w => i_cellsOf a w (by omega))
    have ST := hide (fun w => i_orEdges k (k + 1) (k + 1 + (a.cells.length : Int)) w ⟨hk0, by omega⟩ ⟨by omega, by omega⟩ ⟨by omega, by omega⟩)
    have hla := edi_len a (k + 1)
    have hlb := edi_len b (k + 1 + (a.cells.length : Int))
    have hA' : (a.edi (k + 1)).length ≤ 4000 := by omega
    have hB' : (b.edi (k + 1 + (a.cells.length : Int))).length ≤ 4000 := by omega
    have hT' : (altE k (k + 1) (k + 1 + (a.cells.length : Int))).length ≤ 4 := by simp [altE]
    have hal : (a.cells.length : Int) ≤ 1000 := by omega
    clear ha hb hla hlb
    show Calls Try.prog 65 #[.iface 131 (.agg #[pv a, pv b]), .int .i64 k] w fun e w' => ∃ v, e = .returned v ∧ OwnG w.heap.size v (altE k (k + 1) (k + 1 + (a.cells.length : Int)) ++ a.edi (k + 1) ++ b.edi (k + 1 + (a.cells.length : Int))) w' ∧ Below w.heap.size w w'
    obtain ⟨ta, ca, ea⟩ := pv_shape a
    obtain ⟨tb, cb, eb⟩ := pv_shape b
    rw [ea, eb]
    rw [ea] at IA CA
    rw [eb] at IB
    clear ea eb
    generalize altE k (k + 1) (k + 1 + (a.cells.length : Int)) = ET at *
    generalize a.edi (k + 1) = EA at *
    generalize b.edi (k + 1 + (a.cells.length : Int)) = EB at *
    have hZ : Below w.heap.size w (w.alloc (.cells #[.iface ta (.agg ca), .iface tb (.agg cb)] 131)) := below_box (Below.refl _ _)
    have hB : BkQ (w.alloc (.cells #[.iface ta (.agg ca), .iface tb (.agg cb)] 131)) w.heap.size #[.iface ta (.agg ca), .iface tb (.agg cb)] 131 := BkQ.new w _ _
    go_enter Try.func65, Try.ntmps65
    go_wp2_with fail
    refine (CA.out _).mono ?_
    rintro e Z ⟨v0, rfl, o0, bz⟩
    obtain ⟨a0, c0, rfl, _, _⟩ := ownQ_row o0
    replace hZ := hZ.trans (bz.mono hZ.size)
    replace hB := hB.below bz
    clear o0 bz CA
    go_wp2_with fail
    have hS : ∀ w' : World, Below Z.heap.size Z w' → w'.cell? ⟨w.heap.size, 0, none⟩ = some (.iface ta (.agg ca)) ∧ w'.cell? ⟨w.heap.size, 1, none⟩ = some (.iface tb (.agg cb)) := fun w' h => ⟨((hB.below h).cell 0).trans rfl, ((hB.below h).cell 1).trans rfl⟩
    obtain ⟨R0, R1⟩ := hS Z (Below.refl _ _)
    have sC := hide (fun b' c' aa ab ad ca' cb' cd w h1 h2 h3 h4 => i_concatG3 b' c' ET EA EB aa ab ad ca' cb' cd w (by omega) (by omega) (by omega) h1 h2 h3 h4)
    go_region_held3 (fun w' => w'.cell? ⟨w.heap.size, 0, none⟩ = some (.iface ta (.agg ca)) ∧ w'.cell? ⟨w.heap.size, 1, none⟩ = some (.iface tb (.agg cb)))
      (first | exact hS _ (Below.refl _ _) | exact hS _ (Below.refl _ _).drew | exact hS _ hbz | exact hS _ hbz.drew | exact hS _ hbM | exact hS _ hbM.drew | exact hS _ hbN | exact hS _ hbN.drew | exact hS _ hbT | exact hS _ hbT.drew | (refine hS _ ?_; first | exact hbM.alloc hbM.size _ | exact hbM.drew.alloc hbM.size _) | go_keep)
      ((first
        | (have hq1 := hOM; go_at_call 96; refine (sC.out _ _ _ _ _ _ _ _ _ (BkG.new _ _ _) (by first | exact lo_srcG hOT2 (boxG _ 0 _) | exact lo_srcG hOT2 (boxG _ 1 _)) (by first | exact lo_srcG hON2 (boxG _ 0 _) | exact lo_srcG hON2 (boxG _ 1 _)) (by first | exact lo_srcG hOM (boxG _ 0 _) | exact lo_srcG hOM (boxG _ 1 _))).mono ?_; rintro e w3 ⟨v3, rfl, hT30, hb30⟩; have hbz : Below Z.heap.size Z w3 := (by first | exact below_step (below_step hbM (boxG _ 0 _)) hb30 | exact below_step (below_step hbM (boxG _ 1 _)) hb30); have hT3 : OwnG Z.heap.size v3 (ET ++ EA ++ EB) w3 := (by first | exact ownG_base hT30 (below_step hbM (boxG _ 0 _)).size | exact ownG_base hT30 (below_step hbM (boxG _ 1 _)).size))
        | (have hq0 := hON; go_at_call 65; refine (IB.out _).mono ?_; rintro e M ⟨vM, rfl, hOM0, hbM0⟩; have hbM : Below Z.heap.size Z M := (by first | exact below_step hbN hbM0 | exact below_step hbN.drew hbM0); have hON2 : OwnG Z.heap.size (.slice aN EA.length cN) EA M := (by first | exact ownG_below hON hbM0 | exact ownG_below (ownG_below hON (Below.refl _ _).drew) hbM0); have hOT2 : OwnG Z.heap.size (.slice aT ET.length cT) ET M := (by first | exact ownG_below hOT1 hbM0 | exact ownG_below (ownG_below hOT1 (Below.refl _ _).drew) hbM0); obtain ⟨aM, cM, rfl, _⟩ := SrcG.own hOM0; have hOM := hOM0; clear hOM0 hbM0)
        | (have hq2 := hOT; go_at_call 65; refine (IA.out _).mono ?_; rintro e N ⟨vN, rfl, hON0, hbN0⟩; have hbN : Below Z.heap.size Z N := (by first | exact below_step hbT hbN0 | exact below_step hbT.drew hbN0); have hOT1 : OwnG Z.heap.size (.slice aT ET.length cT) ET N := (by first | exact ownG_below hOT hbN0 | exact ownG_below (ownG_below hOT (Below.refl _ _).drew) hbN0); have hON1 : OwnG Z.heap.size vN EA N := (by first | exact ownG_base hON0 hbT.size | exact ownG_base hON0 hbT.drew.size); obtain ⟨aN, cN, rfl, _⟩ := SrcG.own hON1; have hON := hON1; clear hON0 hbN0 hON1)
        | (go_at_call 98; refine (ST.out _).mono ?_; rintro e T ⟨vT, rfl, hOT0, hbT0⟩; have hbT : Below Z.heap.size Z T := (by first | exact hbT0 | exact (Below.refl _ _).drew.trans hbT0); have hOTa : OwnG Z.heap.size vT ET T := (by first | exact hOT0 | exact ownG_base hOT0 (by simp)); obtain ⟨aT, cT, rfl, _⟩ := SrcG.own hOTa; have hOT := hOTa; clear hOT0 hbT0 hOTa)))
    have hdz := hZ.trans (hbz.mono hZ.size)
    replace hT3 := hide hT3
    go_wp2_with fail
    go_ret
    exact ⟨_, rfl, ownG_base hT3.out hZ.size, by first | exact hdz | exact hdz.drew⟩
  | str a ha =>
    intro k w hk0 hk1
    have t_emp := ta_str_emp
    have t_one := ta_str_one
    have t_any := ta_str_any
    have t_thn := ta_str_thn
    have t_alt := ta_str_alt
    have t_str := ta_str_str
    simp only [Re.cells, List.length_cons] at hk1
    have IA := hide (fun w => ha (k + 1) w (by omega) (by omega))
    have ST := hide (fun w => i_starEdges k (k + 1) w ⟨hk0, by omega⟩ ⟨by omega, by omega⟩)
    have hla := edi_len a (k + 1)
    have hA' : (a.edi (k + 1)).length ≤ 4000 := by omega
    have hT' : (strE k (k + 1)).length ≤ 4 := by simp [strE]
    clear ha hla
    show Calls Try.prog 65 #[.iface 128 (.agg #[pv a]), .int .i64 k] w fun e w' => ∃ v, e = .returned v ∧ OwnG w.heap.size v (strE k (k + 1) ++ a.edi (k + 1)) w' ∧ Below w.heap.size w w'
    obtain ⟨ta, ca, ea⟩ := pv_shape a
    rw [ea]
    rw [ea] at IA
    clear ea
    generalize strE k (k + 1) = ET at *
    generalize a.edi (k + 1) = EA at *
    have hZ : Below w.heap.size w (w.alloc (.cells #[.iface ta (.agg ca)] 128)) := below_box (Below.refl _ _)
    have hB : BkQ (w.alloc (.cells #[.iface ta (.agg ca)] 128)) w.heap.size #[.iface ta (.agg ca)] 128 := BkQ.new w _ _
    go_enter Try.func65, Try.ntmps65
    go_wp2_with fail
    generalize w.alloc (.cells #[.iface ta (.agg ca)] 128) = Z at *
    have hS : ∀ w' : World, Below Z.heap.size Z w' → w'.cell? ⟨w.heap.size, 0, none⟩ = some (.iface ta (.agg ca)) := fun w' h => ((hB.below h).cell 0).trans rfl
    have R0 := hS Z (Below.refl _ _)
    have sC := hide (fun b' c' aa ab ca' cb' w h1 h2 h3 => i_concatG b' c' ET EA aa ab ca' cb' w (by omega) (by omega) h1 h2 h3)
    go_region_held3 (fun w' => w'.cell? ⟨w.heap.size, 0, none⟩ = some (.iface ta (.agg ca)))
      (first | exact hS _ (Below.refl _ _) | exact hS _ (Below.refl _ _).drew | exact hS _ hbz | exact hS _ hbz.drew | exact hS _ hbN | exact hS _ hbN.drew | exact hS _ hbT | exact hS _ hbT.drew | (refine hS _ ?_; first | exact hbN.alloc hbN.size _ | exact hbN.drew.alloc hbN.size _) | go_keep)
      ((first
        | (have hq1 := hON; go_at_call 96; refine (sC.out _ _ _ _ _ _ _ (BkG.new _ _ _) (by first | exact lo_srcG hOT1 (boxG _ 0 _) | exact lo_srcG hOT1 (boxG _ 1 _)) (by first | exact lo_srcG hON (boxG _ 0 _) | exact lo_srcG hON (boxG _ 1 _))).mono ?_; rintro e w3 ⟨v3, rfl, hT30, hb30⟩; have hbz : Below Z.heap.size Z w3 := (by first | exact below_step (below_step hbN (boxG _ 0 _)) hb30 | exact below_step (below_step hbN (boxG _ 1 _)) hb30); have hT3 : OwnG Z.heap.size v3 (ET ++ EA) w3 := (by first | exact ownG_base hT30 (below_step hbN (boxG _ 0 _)).size | exact ownG_base hT30 (below_step hbN (boxG _ 1 _)).size))
        | (have hq2 := hOT; go_at_call 65; refine (IA.out _).mono ?_; rintro e N ⟨vN, rfl, hON0, hbN0⟩; have hbN : Below Z.heap.size Z N := (by first | exact below_step hbT hbN0 | exact below_step hbT.drew hbN0); have hOT1 : OwnG Z.heap.size (.slice aT ET.length cT) ET N := (by first | exact ownG_below hOT hbN0 | exact ownG_below (ownG_below hOT (Below.refl _ _).drew) hbN0); have hON1 : OwnG Z.heap.size vN EA N := (by first | exact ownG_base hON0 hbT.size | exact ownG_base hON0 hbT.drew.size); obtain ⟨aN, cN, rfl, _⟩ := SrcG.own hON1; have hON := hON1; clear hON0 hbN0 hON1)
        | (go_at_call 99; refine (ST.out _).mono ?_; rintro e T ⟨vT, rfl, hOT0, hbT0⟩; have hbT : Below Z.heap.size Z T := (by first | exact hbT0 | exact (Below.refl _ _).drew.trans hbT0); have hOTa : OwnG Z.heap.size vT ET T := (by first | exact hOT0 | exact ownG_base hOT0 (by simp)); obtain ⟨aT, cT, rfl, _⟩ := SrcG.own hOTa; have hOT := hOTa; clear hOT0 hbT0 hOTa)))
    have hdz := hZ.trans (hbz.mono hZ.size)
    replace hT3 := hide hT3
    go_wp2_with fail
    go_ret
    exact ⟨_, rfl, ownG_base hT3.out hZ.size, by first | exact hdz | exact hdz.drew⟩
end Go.Proofs.Ytdbaonpkdcmglaa
