/- What the program's tidyThen, tidyOr, tidyStar, tidy and TidyRegex answer. -/
import Derived.Test.YtdbaonpkdcmglaaI6e
import Derived.Test.YtdbaonpkdcmglaaS6h
namespace Go.Proofs.Ytdbaonpkdcmglaa
open Go.RowKit

set_option maxRecDepth 100000 in
set_option maxHeartbeats 3200000 in
theorem i_tidyThen (s t : Re) (w : World) : Calls Try.prog 90 #[pv s, pv t] w fun e w' => e = .returned (pv (mkThn s t)) ∧ Below w.heap.size w w' := by
  have A1 := hide (fun w => i_hasKind s 1 w)
  have B1 := hide (fun w => i_hasKind t 1 w)
  have A2 := hide (fun w => i_hasKind s 2 w)
  have B2 := hide (fun w => i_hasKind t 2 w)
  obtain ⟨ta, ca, ea⟩ := pv_shape s
  obtain ⟨tb, cb, eb⟩ := pv_shape t
  rw [ea] at A1 A2
  rw [eb] at B1 B2
  have pt : pv (.thn s t) = .iface 130 (.agg #[.iface ta (.agg ca), .iface tb (.agg cb)]) := by rw [← ea, ← eb]; rfl
  cases h1 : (s.kind == 1) with
  | true =>
    rw [show mkThn s t = .non from by simp [mkThn, h1]]
    rw [h1] at A1
    rw [ea, eb]
    simp only [pv]
    go_enter Try.func90, Try.ntmps90
    go_wp2_with fail
    refine (A1.out _).mono ?_
    rintro e w1 ⟨rfl, b1⟩
    go_wp2_with fail
    go_ret
    exact ⟨rfl, b1⟩
  | false =>
    rw [h1] at A1
    cases h2 : (t.kind == 1) with
    | true =>
      rw [show mkThn s t = .non from by simp [mkThn, h1, h2]]
      rw [h2] at B1
      rw [ea, eb]
      simp only [pv]
      go_enter Try.func90, Try.ntmps90
      go_wp2_with fail
      refine (A1.out _).mono ?_
      rintro e w1 ⟨rfl, b1⟩
      go_wp2_with fail
      refine (B1.out _).mono ?_
      rintro e w2 ⟨rfl, b2⟩
      replace b2 := below_step b1 b2
      go_wp2_with fail
      go_ret
      exact ⟨rfl, b2⟩
    | false =>
      rw [h2] at B1
      cases h3 : (s.kind == 2) with
      | true =>
        rw [show mkThn s t = t from by simp [mkThn, h1, h2, h3]]
        rw [h3] at A2
        rw [ea, eb]
        go_enter Try.func90, Try.ntmps90
        go_wp2_with fail
        refine (A1.out _).mono ?_
        rintro e w1 ⟨rfl, b1⟩
        go_wp2_with fail
        refine (B1.out _).mono ?_
        rintro e w2 ⟨rfl, b2⟩
        replace b2 := below_step b1 b2
        go_wp2_with fail
        refine (A2.out _).mono ?_
        rintro e w3 ⟨rfl, b3⟩
        replace b3 := below_step b2 b3
        go_wp2_with fail
        go_ret
        exact ⟨rfl, b3⟩
      | false =>
        rw [h3] at A2
        cases h4 : (t.kind == 2) with
        | true =>
          rw [show mkThn s t = s from by simp [mkThn, h1, h2, h3, h4]]
          rw [h4] at B2
          rw [ea, eb]
          go_enter Try.func90, Try.ntmps90
          go_wp2_with fail
          refine (A1.out _).mono ?_
          rintro e w1 ⟨rfl, b1⟩
          go_wp2_with fail
          refine (B1.out _).mono ?_
          rintro e w2 ⟨rfl, b2⟩
          replace b2 := below_step b1 b2
          go_wp2_with fail
          refine (A2.out _).mono ?_
          rintro e w3 ⟨rfl, b3⟩
          replace b3 := below_step b2 b3
          go_wp2_with fail
          refine (B2.out _).mono ?_
          rintro e w4 ⟨rfl, b4⟩
          replace b4 := below_step b3 b4
          go_wp2_with fail
          go_ret
          exact ⟨rfl, b4⟩
        | false =>
          rw [h4] at B2
          rw [show mkThn s t = .thn s t from by simp [mkThn, h1, h2, h3, h4], pt, ea, eb]
          go_enter Try.func90, Try.ntmps90
          go_wp2_with fail
          refine (A1.out _).mono ?_
          rintro e w1 ⟨rfl, b1⟩
          go_wp2_with fail
          refine (B1.out _).mono ?_
          rintro e w2 ⟨rfl, b2⟩
          replace b2 := below_step b1 b2
          go_wp2_with fail
          refine (A2.out _).mono ?_
          rintro e w3 ⟨rfl, b3⟩
          replace b3 := below_step b2 b3
          go_wp2_with fail
          refine (B2.out _).mono ?_
          rintro e w4 ⟨rfl, b4⟩
          replace b4 := below_step b3 b4
          go_wp2_with fail
          go_ret
          exact ⟨rfl, b4⟩
set_option maxRecDepth 100000 in
set_option maxHeartbeats 3200000 in
theorem i_tidyOr (s t : Re) (w : World) (hs : s.cells.length ≤ 1000000) (ht : t.cells.length ≤ 1000000) : Calls Try.prog 91 #[pv s, pv t] w fun e w' => e = .returned (pv (mkAlt s t)) ∧ Below w.heap.size w w' := by
  have A1 := hide (fun w => i_hasKind s 1 w)
  have B1 := hide (fun w => i_hasKind t 1 w)
  have AB := hide (fun w => i_alike s t w hs ht)
  obtain ⟨ta, ca, ea⟩ := pv_shape s
  obtain ⟨tb, cb, eb⟩ := pv_shape t
  rw [ea] at A1
  rw [eb] at B1
  rw [ea, eb] at AB
  clear hs ht
  have pt : pv (.alt s t) = .iface 131 (.agg #[.iface ta (.agg ca), .iface tb (.agg cb)]) := by rw [← ea, ← eb]; rfl
  cases h1 : (s.kind == 1) with
  | true =>
    rw [show mkAlt s t = t from by simp [mkAlt, h1]]
    rw [h1] at A1
    rw [ea, eb]
    go_enter Try.func91, Try.ntmps91
    go_wp2_with fail
    refine (A1.out _).mono ?_
    rintro e w1 ⟨rfl, b1⟩
    go_wp2_with fail
    go_ret
    exact ⟨rfl, b1⟩
  | false =>
    rw [h1] at A1
    cases h2 : (t.kind == 1) with
    | true =>
      rw [show mkAlt s t = s from by simp [mkAlt, h1, h2]]
      rw [h2] at B1
      rw [ea, eb]
      go_enter Try.func91, Try.ntmps91
      go_wp2_with fail
      refine (A1.out _).mono ?_
      rintro e w1 ⟨rfl, b1⟩
      go_wp2_with fail
      refine (B1.out _).mono ?_
      rintro e w2 ⟨rfl, b2⟩
      replace b2 := below_step b1 b2
      go_wp2_with fail
      go_ret
      exact ⟨rfl, b2⟩
    | false =>
      rw [h2] at B1
      cases h3 : (sameB s t) with
      | true =>
        rw [show mkAlt s t = s from by have h3 : decide (s.cells = t.cells) = true := h3; simp [mkAlt, h1, h2, h3]]
        rw [h3] at AB
        rw [ea, eb]
        go_enter Try.func91, Try.ntmps91
        go_wp2_with fail
        refine (A1.out _).mono ?_
        rintro e w1 ⟨rfl, b1⟩
        go_wp2_with fail
        refine (B1.out _).mono ?_
        rintro e w2 ⟨rfl, b2⟩
        replace b2 := below_step b1 b2
        go_wp2_with fail
        refine (AB.out _).mono ?_
        rintro e w3 ⟨rfl, b3⟩
        replace b3 := below_step b2 b3
        go_wp2_with fail
        go_ret
        exact ⟨rfl, b3⟩
      | false =>
        rw [h3] at AB
        rw [show mkAlt s t = .alt s t from by have h3 : decide (s.cells = t.cells) = false := h3; simp [mkAlt, h1, h2, h3], pt, ea, eb]
        go_enter Try.func91, Try.ntmps91
        go_wp2_with fail
        refine (A1.out _).mono ?_
        rintro e w1 ⟨rfl, b1⟩
        go_wp2_with fail
        refine (B1.out _).mono ?_
        rintro e w2 ⟨rfl, b2⟩
        replace b2 := below_step b1 b2
        go_wp2_with fail
        refine (AB.out _).mono ?_
        rintro e w3 ⟨rfl, b3⟩
        replace b3 := below_step b2 b3
        go_wp2_with fail
        go_ret
        exact ⟨rfl, b3⟩
set_option maxRecDepth 100000 in
set_option maxHeartbeats 3200000 in
theorem i_tidyStar (s : Re) (w : World) : Calls Try.prog 92 #[pv s] w fun e w' => e = .returned (pv (mkStr s)) ∧ Below w.heap.size w w' := by
  have A1 := hide (fun w => i_hasKind s 1 w)
  have A2 := hide (fun w => i_hasKind s 2 w)
  have A7 := hide (fun w => i_hasKind s 7 w)
  obtain ⟨ta, ca, ea⟩ := pv_shape s
  rw [ea] at A1 A2 A7
  have pt : pv (.str s) = .iface 128 (.agg #[.iface ta (.agg ca)]) := by rw [← ea]; rfl
  cases h1 : (s.kind == 1) with
  | true =>
    rw [show mkStr s = .emp from by simp [mkStr, h1]]
    rw [h1] at A1
    rw [ea]
    simp only [pv]
    go_enter Try.func92, Try.ntmps92
    go_wp2_with fail
    refine (A1.out _).mono ?_
    rintro e w1 ⟨rfl, b1⟩
    go_wp2_with fail
    go_ret
    exact ⟨rfl, b1⟩
  | false =>
    rw [h1] at A1
    cases h2 : (s.kind == 2) with
    | true =>
      rw [show mkStr s = .emp from by simp [mkStr, h1, h2]]
      rw [h2] at A2
      rw [ea]
      simp only [pv]
      go_enter Try.func92, Try.ntmps92
      go_wp2_with fail
      refine (A1.out _).mono ?_
      rintro e w1 ⟨rfl, b1⟩
      go_wp2_with fail
      refine (A2.out _).mono ?_
      rintro e w2 ⟨rfl, b2⟩
      replace b2 := below_step b1 b2
      go_wp2_with fail
      go_ret
      exact ⟨rfl, b2⟩
    | false =>
      rw [h2] at A2
      cases h3 : (s.kind == 7) with
      | true =>
        rw [show mkStr s = s from by simp [mkStr, h1, h2, h3]]
        rw [h3] at A7
        rw [ea]
        go_enter Try.func92, Try.ntmps92
        go_wp2_with fail
        refine (A1.out _).mono ?_
        rintro e w1 ⟨rfl, b1⟩
        go_wp2_with fail
        refine (A2.out _).mono ?_
        rintro e w2 ⟨rfl, b2⟩
        replace b2 := below_step b1 b2
        go_wp2_with fail
        refine (A7.out _).mono ?_
        rintro e w3 ⟨rfl, b3⟩
        replace b3 := below_step b2 b3
        go_wp2_with fail
        go_ret
        exact ⟨rfl, b3⟩
      | false =>
        rw [h3] at A7
        rw [show mkStr s = .str s from by simp [mkStr, h1, h2, h3], pt, ea]
        go_enter Try.func92, Try.ntmps92
        go_wp2_with fail
        refine (A1.out _).mono ?_
        rintro e w1 ⟨rfl, b1⟩
        go_wp2_with fail
        refine (A2.out _).mono ?_
        rintro e w2 ⟨rfl, b2⟩
        replace b2 := below_step b1 b2
        go_wp2_with fail
        refine (A7.out _).mono ?_
        rintro e w3 ⟨rfl, b3⟩
        replace b3 := below_step b2 b3
        go_wp2_with fail
        go_ret
        exact ⟨rfl, b3⟩
set_option maxRecDepth 100000 in
set_option maxHeartbeats 12800000 in
theorem i_tidy (t : Re) : ∀ (w : World), t.cells.length ≤ 1000000 → Calls Try.prog 57 #[pv t] w fun e w' => e = .returned (pv t.tidy) ∧ Below w.heap.size w w' := by
  induction t with
  | non =>
    intro w hl
    have t_thn := ta_non_thn
    have t_alt := ta_non_alt
    have t_str := ta_non_str
    simp only [pv, Re.tidy]
    clear hl
    go_enter Try.func57, Try.ntmps57
    go_wp2_with fail
    go_ret
    exact ⟨rfl, Below.refl _ _⟩
  | emp =>
    intro w hl
    have t_thn := ta_emp_thn
    have t_alt := ta_emp_alt
    have t_str := ta_emp_str
    simp only [pv, Re.tidy]
    clear hl
    go_enter Try.func57, Try.ntmps57
    go_wp2_with fail
    go_ret
    exact ⟨rfl, Below.refl _ _⟩
  | one n =>
    intro w hl
    have t_thn := ta_one_thn
    have t_alt := ta_one_alt
    have t_str := ta_one_str
    simp only [pv, Re.tidy]
    clear hl
    go_enter Try.func57, Try.ntmps57
    go_wp2_with fail
    go_ret
    exact ⟨rfl, Below.refl _ _⟩
  | any =>
    intro w hl
    have t_thn := ta_any_thn
    have t_alt := ta_any_alt
    have t_str := ta_any_str
    simp only [pv, Re.tidy]
    clear hl
    go_enter Try.func57, Try.ntmps57
    go_wp2_with fail
    go_ret
    exact ⟨rfl, Below.refl _ _⟩
  | thn a b ha hb =>
    intro w hl
    have t_thn := ta_thn_thn
    have t_alt := ta_thn_alt
    have t_str := ta_thn_str
    simp only [Re.cells, List.length_cons, List.length_append] at hl
    have IA := hide (fun w => ha w (by omega))
    have IB := hide (fun w => hb w (by omega))
    have sT := hide (fun w => i_tidyThen a.tidy b.tidy w)
    clear ha hb hl
    show Calls Try.prog 57 #[.iface 130 (.agg #[pv a, pv b])] w fun e w' => e = .returned (pv (mkThn a.tidy b.tidy)) ∧ Below w.heap.size w w'
    obtain ⟨ta, ca, ea⟩ := pv_shape a
    obtain ⟨tb, cb, eb⟩ := pv_shape b
    rw [ea, eb]
    rw [ea] at IA
    rw [eb] at IB
    generalize pv (mkThn a.tidy b.tidy) = R at *
    generalize pv a.tidy = A' at *
    generalize pv b.tidy = B' at *
    clear ea eb
    have hZ : Below w.heap.size w (w.alloc (.cells #[.iface ta (.agg ca), .iface tb (.agg cb)] 130)) := below_box (Below.refl _ _)
    have hB : BkQ (w.alloc (.cells #[.iface ta (.agg ca), .iface tb (.agg cb)] 130)) w.heap.size #[.iface ta (.agg ca), .iface tb (.agg cb)] 130 := BkQ.new w _ _
    go_enter Try.func57, Try.ntmps57
    go_wp2_with fail
    generalize w.alloc (.cells #[.iface ta (.agg ca), .iface tb (.agg cb)] 130) = Z at *
    have hS : ∀ w' : World, Below Z.heap.size Z w' → w'.cell? ⟨w.heap.size, 0, none⟩ = some (.iface ta (.agg ca)) ∧ w'.cell? ⟨w.heap.size, 1, none⟩ = some (.iface tb (.agg cb)) := fun w' h => ⟨((hB.below h).cell 0).trans rfl, ((hB.below h).cell 1).trans rfl⟩
    obtain ⟨R0, R1⟩ := hS Z (Below.refl _ _)
    go_region_held3 (fun w' => w'.cell? ⟨w.heap.size, 0, none⟩ = some (.iface ta (.agg ca)) ∧ w'.cell? ⟨w.heap.size, 1, none⟩ = some (.iface tb (.agg cb)))
      (first | go_keep | exact hS _ hbz | exact hS _ hbz.drew | exact hS _ hbM | exact hS _ hbM.drew | exact hS _ hbN | exact hS _ hbN.drew)
      ((first
        | (have hq1 := hbM; go_at_call 90; refine (sT.out _).mono ?_; rintro e w3 ⟨rfl, hb30⟩; have hbz : Below Z.heap.size Z w3 := (by first | exact below_step hbM hb30 | exact below_step hbM.drew hb30))
        | (have hq0 := hbN; go_at_call 57; refine (IB.out _).mono ?_; rintro e M ⟨rfl, hbM0⟩; have hbM : Below Z.heap.size Z M := (by first | exact below_step hbN hbM0 | exact below_step hbN.drew hbM0))
        | (go_at_call 57; refine (IA.out _).mono ?_; rintro e N ⟨rfl, hbN0⟩; have hbN : Below Z.heap.size Z N := (by first | exact hbN0 | exact (Below.refl _ _).drew.trans hbN0))))
    have hdz := hZ.trans (hbz.mono hZ.size)
    go_wp2_with fail
    go_ret
    exact ⟨rfl, hdz⟩
  | alt a b ha hb =>
    intro w hl
    have t_thn := ta_alt_thn
    have t_alt := ta_alt_alt
    have t_str := ta_alt_str
    simp only [Re.cells, List.length_cons, List.length_append] at hl
    have IA := hide (fun w => ha w (by omega))
    have IB := hide (fun w => hb w (by omega))
    have sT := hide (fun w => i_tidyOr a.tidy b.tidy w (Nat.le_trans (tidy_len a) (by omega)) (Nat.le_trans (tidy_len b) (by omega)))
    clear ha hb hl
    show Calls Try.prog 57 #[.iface 131 (.agg #[pv a, pv b])] w fun e w' => e = .returned (pv (mkAlt a.tidy b.tidy)) ∧ Below w.heap.size w w'
    obtain ⟨ta, ca, ea⟩ := pv_shape a
    obtain ⟨tb, cb, eb⟩ := pv_shape b
    rw [ea, eb]
    rw [ea] at IA
    rw [eb] at IB
    generalize pv (mkAlt a.tidy b.tidy) = R at *
    generalize pv a.tidy = A' at *
    generalize pv b.tidy = B' at *
    clear ea eb
    have hZ : Below w.heap.size w (w.alloc (.cells #[.iface ta (.agg ca), .iface tb (.agg cb)] 131)) := below_box (Below.refl _ _)
    have hB : BkQ (w.alloc (.cells #[.iface ta (.agg ca), .iface tb (.agg cb)] 131)) w.heap.size #[.iface ta (.agg ca), .iface tb (.agg cb)] 131 := BkQ.new w _ _
    go_enter Try.func57, Try.ntmps57
    go_wp2_with fail
    generalize w.alloc (.cells #[.iface ta (.agg ca), .iface tb (.agg cb)] 131) = Z at *
    have hS : ∀ w' : World, Below Z.heap.size Z w' → w'.cell? ⟨w.heap.size, 0, none⟩ = some (.iface ta (.agg ca)) ∧ w'.cell? ⟨w.heap.size, 1, none⟩ = some (.iface tb (.agg cb)) := fun w' h => ⟨((hB.below h).cell 0).trans rfl, ((hB.below h).cell 1).trans rfl⟩
    obtain ⟨R0, R1⟩ := hS Z (Below.refl _ _)
    go_region_held3 (fun w' => w'.cell? ⟨w.heap.size, 0, none⟩ = some (.iface ta (.agg ca)) ∧ w'.cell? ⟨w.heap.size, 1, none⟩ = some (.iface tb (.agg cb)))
      (first | go_keep | exact hS _ hbz | exact hS _ hbz.drew | exact hS _ hbM | exact hS _ hbM.drew | exact hS _ hbN | exact hS _ hbN.drew)
      ((first
        | (have hq1 := hbM; go_at_call 91; refine (sT.out _).mono ?_; rintro e w3 ⟨rfl, hb30⟩; have hbz : Below Z.heap.size Z w3 := (by first | exact below_step hbM hb30 | exact below_step hbM.drew hb30))
        | (have hq0 := hbN; go_at_call 57; refine (IB.out _).mono ?_; rintro e M ⟨rfl, hbM0⟩; have hbM : Below Z.heap.size Z M := (by first | exact below_step hbN hbM0 | exact below_step hbN.drew hbM0))
        | (go_at_call 57; refine (IA.out _).mono ?_; rintro e N ⟨rfl, hbN0⟩; have hbN : Below Z.heap.size Z N := (by first | exact hbN0 | exact (Below.refl _ _).drew.trans hbN0))))
    have hdz := hZ.trans (hbz.mono hZ.size)
    go_wp2_with fail
    go_ret
    exact ⟨rfl, hdz⟩
  | str a ha =>
    intro w hl
    have t_thn := ta_str_thn
    have t_alt := ta_str_alt
    have t_str := ta_str_str
    simp only [Re.cells, List.length_cons] at hl
    have IA := hide (fun w => ha w (by omega))
    have sT := hide (fun w => i_tidyStar a.tidy w)
    clear ha hl
    show Calls Try.prog 57 #[.iface 128 (.agg #[pv a])] w fun e w' => e = .returned (pv (mkStr a.tidy)) ∧ Below w.heap.size w w'
    obtain ⟨ta, ca, ea⟩ := pv_shape a
    rw [ea]
    rw [ea] at IA
    generalize pv (mkStr a.tidy) = R at *
    generalize pv a.tidy = A' at *
    clear ea
    go_enter Try.func57, Try.ntmps57
    go_wp2_with fail
    refine (IA.out _).mono ?_
    rintro e w1 ⟨rfl, b1⟩
    go_wp2_with fail
    refine (sT.out _).mono ?_
    rintro e w2 ⟨rfl, b2⟩
    go_wp2_with fail
    go_ret
    exact ⟨rfl, below_box (below_step b1 b2)⟩
set_option maxRecDepth 100000 in
set_option maxHeartbeats 1600000 in
theorem i_tidyRegex (a : Option Addr) (cap : Nat) (L : List Cl) (w : World) (hm : L.length ≤ 8589934592) (hc : L.length ≤ cap) (hR : RowQ a L w) : Calls Try.prog 24 #[.slice a L.length cap] w (AnsQ (rgB L) (tdA L) w) := by
  have S1 := hide (fun w hR => i_readRegex a cap L w hm hc hR)
  have hlen := tdA_len L
  cases h : rg L with
  | none =>
    rw [show rgB L = false from by simp [rgB, h], show tdA L = [] from by simp [tdA, h]]
    rw [h] at S1
    clear hlen
    go_enter Try.func24, Try.ntmps24
    go_wp2_with fail
    refine (S1.out _ hR).mono ?_
    rintro e w1 ⟨p, hp, rfl, b1⟩
    go_wp2_with fail
    go_ret2
    exact ⟨_, rfl, ownQ_nil _ _, b1⟩
  | some t =>
    have ht : t.cells.length ≤ 30 := by obtain ⟨h1, h2, _⟩ := rg_cells h; rw [← h1]; exact h2
    rw [show tdA L = t.tidy.cells from by simp [tdA, h]] at hlen ⊢
    rw [show rgB L = true from by simp [rgB, h]]
    rw [h] at S1
    have S2 := hide (fun w => i_tidy t w (by omega))
    have S3 := hide (fun w => i_cellsOf t.tidy w (by omega))
    clear hlen ht
    go_enter Try.func24, Try.ntmps24
    go_wp2_with fail
    refine (S1.out _ hR).mono ?_
    rintro e w1 ⟨rfl, b1⟩
    go_wp2_with fail
    refine (S2.out _).mono ?_
    rintro e w2 ⟨rfl, b2⟩
    replace b2 := below_step b1 b2
    go_wp2_with fail
    refine (S3.out _).mono ?_
    rintro e w3 ⟨v, rfl, ho, b3⟩
    replace ho := hide (ownQ_base ho b2.size)
    replace b3 := below_step b2 b3
    go_wp2_with fail
    go_ret2
    exact ⟨_, rfl, ho.out, b3⟩
end Go.Proofs.Ytdbaonpkdcmglaa
