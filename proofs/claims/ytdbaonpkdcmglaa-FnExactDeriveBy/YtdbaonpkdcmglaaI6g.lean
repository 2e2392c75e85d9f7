/- What the program's derive and deriveThen answer. -/
import Derived.Test.YtdbaonpkdcmglaaI6f
import Derived.Deep.DeepCutAuto
import Derived.Deep.Cut
import Derived.Deep.CutRange
namespace Go.Proofs.Ytdbaonpkdcmglaa
open Go.RowKit

/-- A box of two values made since Z. -/
def LeftB (Z wx : World) (bo : Nat) (x y : Value) : Prop := Mut wx bo [x, y] ∧ Below Z.heap.size Z wx ∧ Z.heap.size ≤ bo
theorem leftB_new {Z N : World} (h : Below Z.heap.size Z N) (x y : Value) (t : TypeId) : LeftB Z (N.alloc (.cells #[x, y] t)) N.heap.size x y := ⟨Mut.new N _ _, h.alloc h.size _, h.size⟩
theorem leftB_set {Z N : World} {x0 y0 : Value} (M : Mut N Z.heap.size [x0, y0]) (h : Below Z.heap.size Z N) (x y : Value) : LeftB Z ((N.setCell ⟨Z.heap.size, 0, none⟩ x).setCell ⟨Z.heap.size, 1, none⟩ y) Z.heap.size x y :=
  ⟨(M.set 0 x).set 1 y, (h.setCell (Nat.le_refl _) _).setCell (Nat.le_refl _) _, Nat.le_refl _⟩
theorem LeftB.drew {Z wx : World} {bo : Nat} {x y : Value} (h : LeftB Z wx bo x y) : LeftB Z wx.drew bo x y := ⟨h.1.drew, h.2.1.drew, h.2.2⟩
set_option maxRecDepth 100000 in
set_option maxHeartbeats 12800000 in
theorem i_deriveThen (a b : Re) (n : Int) (w : World)
    (ha : ∀ w, Calls Try.prog 61 #[pv a, .int .i64 n] w fun e w' => e = .returned (pv (a.der n)) ∧ Below w.heap.size w w') (hb : ∀ w, Calls Try.prog 61 #[pv b, .int .i64 n] w fun e w' => e = .returned (pv (b.der n)) ∧ Below w.heap.size w w') :
    Calls Try.prog 93 #[.agg #[pv a, pv b], .int .i64 n] w fun e w' => e = .returned (pv (Re.der n (.thn a b))) ∧ Below w.heap.size w w' := by
  have IA := hide ha
  have IB := hide hb
  have TE := hide (i_te a)
  clear ha hb
  obtain ⟨ta, ca, ea⟩ := pv_shape a
  obtain ⟨tb, cb, eb⟩ := pv_shape b
  obtain ⟨tx, cx, ex⟩ := pv_shape (a.der n)
  obtain ⟨ty, cy, ey⟩ := pv_shape (b.der n)
  have hF : a.te = false → pv (Re.der n (.thn a b)) = .iface 130 (.agg #[.iface tx (.agg cx), .iface tb (.agg cb)]) := by
    intro h
    simp only [Re.der, h, Bool.false_eq_true, if_false, pv, ex, eb]
  have hT : a.te = true → pv (Re.der n (.thn a b)) = .iface 131 (.agg #[.iface 130 (.agg #[.iface tx (.agg cx), .iface tb (.agg cb)]), .iface ty (.agg cy)]) := by
    intro h
    simp only [Re.der, h, if_true, pv, ex, eb, ey]
  rw [ea, ex] at IA
  rw [eb, ey] at IB
  rw [ea] at TE
  rw [ea, eb]
  clear ea eb ex ey
  have hZ : Below w.heap.size w (w.alloc (.cells #[.iface ta (.agg ca), .iface tb (.agg cb)] 130)) := below_box (Below.refl _ _)
  have hB : BkQ (w.alloc (.cells #[.iface ta (.agg ca), .iface tb (.agg cb)] 130)) w.heap.size #[.iface ta (.agg ca), .iface tb (.agg cb)] 130 := BkQ.new w _ _
  replace hF := hide hF
  replace hT := hide hT
  go_enter Try.func93, Try.ntmps93
  go_wp2_with fail
  generalize w.alloc (.cells #[.iface ta (.agg ca), .iface tb (.agg cb)] 130) = Z at *
  have hS : ∀ w' : World, Below Z.heap.size Z w' → w'.cell? ⟨w.heap.size, 0, none⟩ = some (.iface ta (.agg ca)) ∧ w'.cell? ⟨w.heap.size, 1, none⟩ = some (.iface tb (.agg cb)) := fun w' h => ⟨((hB.below h).cell 0).trans rfl, ((hB.below h).cell 1).trans rfl⟩
  obtain ⟨R0, R1⟩ := hS Z (Below.refl _ _)
  go_cut [5] (fun b5 wx => ∃ bo : Nat, b5 = .pointer (some ⟨bo, 0, none⟩) ∧ LeftB Z wx bo (.iface tx (.agg cx)) (.iface tb (.agg cb)))
  case first =>
    have hZb : Below Z.heap.size Z (Z.alloc (.cells #[.nilIface, .nilIface] 130)) := below_box (Below.refl _ _)
    have hMb := Mut.new Z #[.nilIface, .nilIface] 130
    go_region_held3 (fun w' => w'.cell? ⟨w.heap.size, 0, none⟩ = some (.iface ta (.agg ca)) ∧ w'.cell? ⟨w.heap.size, 1, none⟩ = some (.iface tb (.agg cb)))
      (first | go_keep | exact hS _ hbN | exact hS _ hbN.drew | exact hS _ hZb | exact hS _ hZb.drew | exact hS _ ((hbN.setCell (Nat.le_refl _) _).setCell (Nat.le_refl _) _) | exact hS _ ((hbN.setCell (Nat.le_refl _) _).setCell (Nat.le_refl _) _).drew | exact hS _ (hbN.alloc hbN.size _) | exact hS _ (hbN.alloc hbN.size _).drew | exact hS _ (hbN.drew.alloc hbN.size _))
      ((first
        | (go_at_call 61; refine (IA.out _).mono ?_; rintro e N ⟨rfl, hbN0⟩; have hMN := (by first | exact hMb.below hbN0 | exact hMb.drew.below hbN0); have hbN : Below Z.heap.size Z N := (by first | exact below_step hZb hbN0 | exact below_step hZb.drew hbN0); have e0 := hMN.2.1 0 _ rfl; have e1 := hMN.2.1 1 _ rfl; have f0 := hMN.2.2 0 (by simp); have f1 := hMN.2.2 1 (by simp); clear hbN0)
        | (go_at_call 61; refine (IA.out _).mono ?_; rintro e N ⟨rfl, hbN0⟩; have hbN : Below Z.heap.size Z N := (by first | exact hbN0 | exact (Below.refl _ _).drew.trans hbN0); clear hbN0)))
    all_goals (try go_wp2_with fail)
    all_goals go_meet
    all_goals (first | exact ⟨_, rfl, leftB_new hbN _ _ _⟩ | exact ⟨_, rfl, (leftB_new hbN _ _ _).drew⟩ | exact ⟨_, rfl, leftB_new hbN.drew _ _ _⟩ | exact ⟨_, rfl, leftB_set hMN hbN _ _⟩ | exact ⟨_, rfl, (leftB_set hMN hbN _ _).drew⟩ | exact ⟨_, rfl, leftB_set hMN.drew hbN.drew _ _⟩)
  case rest =>
    obtain ⟨bo, rfl, hL⟩ := hcut
    obtain ⟨ML, dL, hbo⟩ := hL
    obtain ⟨R0, R1⟩ := hS _ dL
    have m0 := ML.2.1 0 _ rfl
    have m1 := ML.2.1 1 _ rfl
    cases gt : a.te with
    | false =>
      rw [gt] at TE
      have hres := hide (hF.out gt)
      have dA := hide (hZ.trans (dL.mono hZ.size))
      have hzz := hZ.size
      clear hS hB hZ IA IB hF hT gt
      go_wp2_with fail
      refine (TE.out _).mono ?_
      rintro e w2 ⟨rfl, b2⟩
      have n0 := (ML.below b2).2.1 0 _ rfl
      have n1 := (ML.below b2).2.1 1 _ rfl
      have d2 := dA.out.trans (b2.mono dA.out.size)
      clear ML m0 m1 R0 R1 b2 dL
      go_wp2_with fail
      go_ret
      exact ⟨by rw [hres.out]; rfl, d2⟩
    | true =>
      rw [gt] at TE
      have hres := hide (hT.out gt)
      have dA := hide (hZ.trans (dL.mono hZ.size))
      clear hF hT gt
      go_wp2_with fail
      refine (TE.out _).mono ?_
      rintro e w2 ⟨rfl, b2⟩
      have hS2 : ∀ w' : World, Below w2.heap.size w2 w' → w'.cell? ⟨w.heap.size, 0, none⟩ = some (.iface ta (.agg ca)) ∧ w'.cell? ⟨w.heap.size, 1, none⟩ = some (.iface tb (.agg cb)) ∧ w'.cell? ⟨bo, 0, none⟩ = some (.iface tx (.agg cx)) ∧ w'.cell? ⟨bo, 1, none⟩ = some (.iface tb (.agg cb)) := fun w' h =>
        have h1 := hS w' (below_step (below_step dL b2) h)
        ⟨h1.1, h1.2, ((ML.below b2).below h).2.1 0 _ rfl, ((ML.below b2).below h).2.1 1 _ rfl⟩
      have d2 := dA.out.trans (b2.mono dA.out.size)
      clear m0 m1 R0 R1
      obtain ⟨Q0, Q1, Q2, Q3⟩ := hS2 w2 (Below.refl _ _)
      go_wp2_with fail
      go_region_held3 (fun w' => w'.cell? ⟨w.heap.size, 0, none⟩ = some (.iface ta (.agg ca)) ∧ w'.cell? ⟨w.heap.size, 1, none⟩ = some (.iface tb (.agg cb)) ∧ w'.cell? ⟨bo, 0, none⟩ = some (.iface tx (.agg cx)) ∧ w'.cell? ⟨bo, 1, none⟩ = some (.iface tb (.agg cb)))
        (first | go_keep | exact hS2 _ hbN | exact hS2 _ hbN.drew)
        ((go_at_call 61; refine (IB.out _).mono ?_; rintro e N ⟨rfl, hbN0⟩; have hbN : Below w2.heap.size w2 N := (by first | exact hbN0 | exact (Below.refl _ _).drew.trans hbN0)))
      have d3 := d2.trans (hbN.mono d2.size)
      go_wp2_with fail
      go_ret
      exact ⟨by rw [hres.out]; rfl, by first | exact d3 | exact d3.drew⟩
set_option maxRecDepth 100000 in
set_option maxHeartbeats 12800000 in
theorem i_derive (n : Int) (t : Re) : ∀ (w : World), Calls Try.prog 61 #[pv t, .int .i64 n] w fun e w' => e = .returned (pv (t.der n)) ∧ Below w.heap.size w w' := by
  induction t with
  | non =>
    intro w
    have t_one := ta_non_one
    have t_any := ta_non_any
    have t_thn := ta_non_thn
    have t_alt := ta_non_alt
    have t_str := ta_non_str
    simp only [pv, Re.der]
    go_enter Try.func61, Try.ntmps61
    go_wp2_with fail
    go_ret
    exact ⟨rfl, Below.refl _ _⟩
  | emp =>
    intro w
    have t_one := ta_emp_one
    have t_any := ta_emp_any
    have t_thn := ta_emp_thn
    have t_alt := ta_emp_alt
    have t_str := ta_emp_str
    simp only [pv, Re.der]
    go_enter Try.func61, Try.ntmps61
    go_wp2_with fail
    go_ret
    exact ⟨rfl, Below.refl _ _⟩
  | one m =>
    intro w
    have t_one := ta_one_one
    have t_any := ta_one_any
    have t_thn := ta_one_thn
    have t_alt := ta_one_alt
    have t_str := ta_one_str
    cases h : (m == n) with
    | true =>
      have e1 : Re.der n (.one m) = .emp := by simp [Re.der, h]
      rw [e1]
      clear e1
      simp only [pv]
      go_enter Try.func61, Try.ntmps61
      go_wp2_with fail
      go_ret
      exact ⟨rfl, below_box (Below.refl _ _)⟩
    | false =>
      have e1 : Re.der n (.one m) = .non := by simp [Re.der, h]
      rw [e1]
      clear e1
      simp only [pv]
      go_enter Try.func61, Try.ntmps61
      go_wp2_with fail
      go_ret
      exact ⟨rfl, below_box (Below.refl _ _)⟩
  | any =>
    intro w
    have t_one := ta_any_one
    have t_any := ta_any_any
    have t_thn := ta_any_thn
    have t_alt := ta_any_alt
    have t_str := ta_any_str
    simp only [pv, Re.der]
    go_enter Try.func61, Try.ntmps61
    go_wp2_with fail
    go_ret
    exact ⟨rfl, by first | exact Below.refl _ _ | exact below_box (Below.refl _ _)⟩
  | thn a b ha hb =>
    intro w
    have t_one := ta_thn_one
    have t_any := ta_thn_any
    have t_thn := ta_thn_thn
    have t_alt := ta_thn_alt
    have t_str := ta_thn_str
    have DT := hide (fun w => i_deriveThen a b n w ha hb)
    clear ha hb
    show Calls Try.prog 61 #[.iface 130 (.agg #[pv a, pv b]), .int .i64 n] w fun e w' => e = .returned (pv (Re.der n (.thn a b))) ∧ Below w.heap.size w w'
    generalize pv (Re.der n (.thn a b)) = R at *
    obtain ⟨ta, ca, ea⟩ := pv_shape a
    obtain ⟨tb, cb, eb⟩ := pv_shape b
    rw [ea, eb]
    rw [ea, eb] at DT
    clear ea eb
    go_enter Try.func61, Try.ntmps61
    go_wp2_with fail
    refine (DT.out _).mono ?_
    rintro e w1 ⟨rfl, b1⟩
    go_wp2_with fail
    go_ret
    exact ⟨rfl, below_box b1⟩
  | alt a b ha hb =>
    intro w
    have t_one := ta_alt_one
    have t_any := ta_alt_any
    have t_thn := ta_alt_thn
    have t_alt := ta_alt_alt
    have t_str := ta_alt_str
    have IA := hide ha
    have IB := hide hb
    clear ha hb
    show Calls Try.prog 61 #[.iface 131 (.agg #[pv a, pv b]), .int .i64 n] w fun e w' => e = .returned (.iface 131 (.agg #[pv (a.der n), pv (b.der n)])) ∧ Below w.heap.size w w'
    obtain ⟨ta, ca, ea⟩ := pv_shape a
    obtain ⟨tb, cb, eb⟩ := pv_shape b
    obtain ⟨tx, cx, ex⟩ := pv_shape (a.der n)
    obtain ⟨ty, cy, ey⟩ := pv_shape (b.der n)
    rw [ea, eb, ex, ey]
    rw [ea, ex] at IA
    rw [eb, ey] at IB
    clear ea eb ex ey
    have hZ : Below w.heap.size w (w.alloc (.cells #[.iface ta (.agg ca), .iface tb (.agg cb)] 131)) := below_box (Below.refl _ _)
    have hB : BkQ (w.alloc (.cells #[.iface ta (.agg ca), .iface tb (.agg cb)] 131)) w.heap.size #[.iface ta (.agg ca), .iface tb (.agg cb)] 131 := BkQ.new w _ _
    go_enter Try.func61, Try.ntmps61
    go_wp2_with fail
    generalize w.alloc (.cells #[.iface ta (.agg ca), .iface tb (.agg cb)] 131) = Z at *
    have hS : ∀ w' : World, Below Z.heap.size Z w' → w'.cell? ⟨w.heap.size, 0, none⟩ = some (.iface ta (.agg ca)) ∧ w'.cell? ⟨w.heap.size, 1, none⟩ = some (.iface tb (.agg cb)) := fun w' h => ⟨((hB.below h).cell 0).trans rfl, ((hB.below h).cell 1).trans rfl⟩
    obtain ⟨R0, R1⟩ := hS Z (Below.refl _ _)
    go_region_held3 (fun w' => w'.cell? ⟨w.heap.size, 0, none⟩ = some (.iface ta (.agg ca)) ∧ w'.cell? ⟨w.heap.size, 1, none⟩ = some (.iface tb (.agg cb)))
      (first | go_keep | exact hS _ hbM | exact hS _ hbM.drew | exact hS _ hbN | exact hS _ hbN.drew)
      ((first
        | (have hq0 := hbN; go_at_call 61; refine (IB.out _).mono ?_; rintro e M ⟨rfl, hbM0⟩; have hbM : Below Z.heap.size Z M := (by first | exact below_step hbN hbM0 | exact below_step hbN.drew hbM0))
        | (go_at_call 61; refine (IA.out _).mono ?_; rintro e N ⟨rfl, hbN0⟩; have hbN : Below Z.heap.size Z N := (by first | exact hbN0 | exact (Below.refl _ _).drew.trans hbN0))))
    have hdz := hZ.trans (hbM.mono hZ.size)
    go_wp2_with fail
    go_ret
    exact ⟨rfl, by first | exact hdz | exact hdz.drew⟩
  | str a ha =>
    intro w
    have t_one := ta_str_one
    have t_any := ta_str_any
    have t_thn := ta_str_thn
    have t_alt := ta_str_alt
    have t_str := ta_str_str
    have IA := hide ha
    clear ha
    show Calls Try.prog 61 #[.iface 128 (.agg #[pv a]), .int .i64 n] w fun e w' => e = .returned (.iface 130 (.agg #[pv (a.der n), .iface 128 (.agg #[pv a])])) ∧ Below w.heap.size w w'
    obtain ⟨ta, ca, ea⟩ := pv_shape a
    obtain ⟨tx, cx, ex⟩ := pv_shape (a.der n)
    rw [ea, ex]
    rw [ea, ex] at IA
    clear ea ex
    have hZ : Below w.heap.size w (w.alloc (.cells #[.iface ta (.agg ca)] 128)) := below_box (Below.refl _ _)
    have hB : BkQ (w.alloc (.cells #[.iface ta (.agg ca)] 128)) w.heap.size #[.iface ta (.agg ca)] 128 := BkQ.new w _ _
    go_enter Try.func61, Try.ntmps61
    go_wp2_with fail
    generalize w.alloc (.cells #[.iface ta (.agg ca)] 128) = Z at *
    have hS : ∀ w' : World, Below Z.heap.size Z w' → w'.cell? ⟨w.heap.size, 0, none⟩ = some (.iface ta (.agg ca)) := fun w' h => ((hB.below h).cell 0).trans rfl
    have R0 := hS Z (Below.refl _ _)
    go_region_held3 (fun w' => w'.cell? ⟨w.heap.size, 0, none⟩ = some (.iface ta (.agg ca)))
      (first | go_keep | exact hS _ hbN | exact hS _ hbN.drew)
      ((go_at_call 61; refine (IA.out _).mono ?_; rintro e N ⟨rfl, hbN0⟩; have hbN : Below Z.heap.size Z N := (by first | exact hbN0 | exact (Below.refl _ _).drew.trans hbN0)))
    have hdz := hZ.trans (hbN.mono hZ.size)
    go_wp2_with fail
    go_ret
    exact ⟨rfl, by first | exact hdz | exact hdz.drew⟩
end Go.Proofs.Ytdbaonpkdcmglaa
