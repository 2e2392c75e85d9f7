/- What the specification's l3Range and RangeOf answer. -/
import Derived.Test.YtlflfloopomaiaaGrow3
import Derived.Test.YtlflfloopomaiaaS1c
import Derived.Deep.RegionHeld3
namespace Go.Proofs.Ytlflfloopomaiaa
open Go.RowKit

theorem rng_len : ∀ (f : Nat) (p : Pf) (a b : Int), gdP p → 33 ≤ p.2 + f → a ≤ b → ((rngF f p a b).length : Int) ≤ pw p.2
  | 0, p, _, _, gp, hf, _ => by have := (gdP_parts gp).2.1; omega
  | f + 1, p, a, b, gp, hf, hab => by
    have pp := (gdP_parts gp).2.2.2.2.2.1
    unfold rngF
    by_cases h1 : p.1 + pw p.2 - 1 < a ∨ b < p.1
    · rw [if_pos h1]; simp; omega
    · rw [if_neg h1]
      by_cases h2 : a ≤ p.1 ∧ p.1 + pw p.2 - 1 ≤ b
      · rw [if_pos h2]; simp; omega
      · rw [if_neg h2]
        have hp : p.2 < 32 := by
          rcases Int.lt_or_le p.2 32 with h | h
          · exact h
          · have e : p.2 = 32 := by have := (gdP_parts gp).2.1; omega
            rw [e, pw_32] at h1 h2
            omega
        have H := half_of gp hp
        have A := rng_len f (loP p) a b H.gl (by show 33 ≤ p.2 + 1 + (f : Int); omega) hab
        have B := rng_len f (hiP p) a b H.gh (by show 33 ≤ p.2 + 1 + (f : Int); omega) hab
        have hsz := H.sz
        have e1 : pw (loP p).2 = pw (p.2 + 1) := rfl
        have e2 : pw (hiP p).2 = pw (p.2 + 1) := rfl
        rw [List.length_append]
        omega
theorem rngF_out {f : Nat} {p : Pf} {a b : Int} (h : p.1 + pw p.2 - 1 < a ∨ b < p.1) : rngF (f + 1) p a b = [] := by rw [rngF, if_pos h]
theorem rngF_in {f : Nat} {p : Pf} {a b : Int} (h : ¬ (p.1 + pw p.2 - 1 < a ∨ b < p.1)) (h2 : a ≤ p.1 ∧ p.1 + pw p.2 - 1 ≤ b) : rngF (f + 1) p a b = [p] := by rw [rngF, if_neg h, if_pos h2]
theorem rngF_cut {f : Nat} {p : Pf} {a b : Int} (h : ¬ (p.1 + pw p.2 - 1 < a ∨ b < p.1)) (h2 : ¬ (a ≤ p.1 ∧ p.1 + pw p.2 - 1 ≤ b)) : rngF (f + 1) p a b = rngF f (loP p) a b ++ rngF f (hiP p) a b := by rw [rngF, if_neg h, if_neg h2]

set_option maxRecDepth 100000 in
set_option maxHeartbeats 12800000 in
theorem s_range (x y : Int) (hxy : x ≤ y) (f : Nat) : ∀ (p : Pf) (base : Nat) (v : Value) (out : List Pf) (w : World), gdP p → 33 ≤ p.2 + f → base ≤ w.heap.size → OwnP base v out w → (out.length : Int) + pw p.2 ≤ 8589934592 →
    Calls Try.prog 65 #[.agg #[.int .i64 p.1, .int .i64 p.2], .int .i64 x, .int .i64 y, v] w fun e w' => ∃ v', e = .returned v' ∧ OwnP base v' (out ++ rngF f p x y) w' ∧ GrowP w w' v v' := by
  induction f with
  | zero => intro p base v out w gp hf; have := (gdP_parts gp).2.1; omega
  | succ f ih =>
    intro p base v out w gp hf hb0 hown hlen
    obtain ⟨hp0, hp32, ha0, ha1, _, hpp, hend⟩ := gdP_parts gp
    have s1 := hide (fun w => s_size p.1 p.2 w hp0 hp32)
    have hOut := hide (rngF_out (f := f) (p := p) (a := x) (b := y))
    have hIn := hide (rngF_in (f := f) (p := p) (a := x) (b := y))
    have hCut := hide (rngF_cut (f := f) (p := p) (a := x) (b := y))
    have hH := hide (fun h => half_of gp h)
    have hLL := hide (fun h => rng_len f (loP p) x y (hH.out h).gl (by show 33 ≤ p.2 + 1 + (f : Int); omega) hxy)
    have IH := hide ih
    clear ih
    have wr1 : IntKind.i64.wrap (p.1 + pw p.2) = p.1 + pw p.2 := wrapk_in _ (by omega)
    have wr2 : IntKind.i64.wrap (p.1 + pw p.2 - 1) = p.1 + pw p.2 - 1 := wrapk_in _ (by omega)
    have hB0 := Bk.new w #[.int .i64 p.1, .int .i64 p.2] 34
    have k0 := cell_regrown ((hB0.cell 0).trans (show _ = some (.int .i64 p.1) from rfl))
    have k1 := cell_regrown ((hB0.cell 1).trans (show _ = some (.int .i64 p.2) from rfl))
    have hne : Hid (some w.heap.size ≠ v.ownBlock) := box_ne hown (Nat.le_refl _)
    have hneN : Hid (∀ b, w.heap.size ≤ b → some b ≠ v.ownBlock) := fun b hb => box_ne hown hb
    go_enter Try.func65, Try.ntmps65
    go_wp2_with fail
    refine wp_region_quiet_below (by kernel_rfl) (by kernel_rfl) ?_
    repeat (first | go_big_quiet_step (((go_at_call 53; exact Calls.regrown_of (s1.out _)))) | quiet_step (((go_at_call 53; exact Calls.regrown_of (s1.out _)))))
    refine wpQuiet_nil ?_
    intro _ hw'
    obtain ⟨⟨dq, osq⟩, hw''⟩ := hw'
    subst hw''
    have hq := below_regrown (w.alloc (.cells #[.int .i64 p.1, .int .i64 p.2] 34)) dq osq
    generalize Go.Sort.grow (redrawn (w.alloc (.cells #[.int .i64 p.1, .int .i64 p.2] 34)) dq) osq = wq at hq ⊢
    have hbq := below_box hq
    have hBq := hB0.below hq
    have hOq := ownP_below hown hbq
    have hGq := GrowP.of_below v hbq
    have hsq := hbq.size
    have p0 := (hBq.cell 0).trans (show _ = some (.int .i64 p.1) from rfl)
    have p1 := (hBq.cell 1).trans (show _ = some (.int .i64 p.2) from rfl)
    clear hq hbq k0 k1 hB0 hown
    by_cases h1 : p.1 + pw p.2 - 1 < x
    · have hR := hide (hOut.out (.inl h1))
      clear hOut hIn hCut hH hLL IH
      go_wp2_with fail
      go_ret
      refine ⟨_, rfl, ?_, hGq⟩
      rw [hR.out, List.append_nil]
      exact hOq
    · by_cases h2 : y < p.1
      · have hR := hide (hOut.out (.inr h2))
        clear hOut hIn hCut hH hLL IH
        go_wp2_with fail
        go_ret
        refine ⟨_, rfl, ?_, hGq⟩
        rw [hR.out, List.append_nil]
        exact hOq
      · have hno : ¬ (p.1 + pw p.2 - 1 < x ∨ y < p.1) := by omega
        by_cases h3 : x ≤ p.1
        · by_cases h4 : p.1 + pw p.2 - 1 ≤ y
          · have hR := hide (hIn.out hno ⟨h3, h4⟩)
            clear hOut hIn hCut hH hLL IH hno
            go_wp2_with (first | (at_builtin; refine wpList_app1P rfl _ _ rfl base v out rfl (ownP_below hOq (below_box (Below.refl _ _))) wq.heap.size p 1 rfl (RowP.one (by simp) (by simp) (by simp)) (by omega) (by simp; omega) ?_))
            intro v' w5 hown' hg5
            have hG := hGq.trans ((GrowP.of_below v (below_box (Below.refl _ _))).trans hg5)
            go_wp2_with fail
            go_ret
            refine ⟨_, rfl, ?_, hG⟩
            rw [hR.out]
            exact hown'
          · have h4n : ¬ p.1 + pw p.2 - 1 ≤ y := h4
            have hR := hide (hCut.out hno (fun h => by omega))
            have hp1 : p.2 < 32 := by
              rcases Int.lt_or_le p.2 32 with h | h
              · exact h
              · have e : p.2 = 32 := by omega
                rw [e, pw_32] at h1 h4
                omega
            have HH := hH.out hp1
            have hll := hLL.out hp1
            have hsz := HH.sz
            have s2 := hide (fun w => s_halves1 p.1 p.2 w hp0 hp1 ha0 ha1)
            have IA := hide (fun base v out w hb ho hl => IH.out (loP p) base v out w HH.gl (by show 33 ≤ p.2 + 1 + (f : Int); omega) hb ho hl)
            have IB := hide (fun base v out w hb ho hl => IH.out (hiP p) base v out w HH.gh (by show 33 ≤ p.2 + 1 + (f : Int); omega) hb ho hl)
            have e1 : (loP p).1 = p.1 := rfl
            have e2 : (loP p).2 = p.2 + 1 := rfl
            have e3 : (hiP p).1 = p.1 + pw (p.2 + 1) := rfl
            have e4 : (hiP p).2 = p.2 + 1 := rfl
            rw [e2] at hll
            rw [e1, e2] at IA
            rw [e3, e4] at IB
            clear hOut hIn hCut hH hLL IH hno HH e1 e2 e3 e4
            generalize hLA : rngF f (loP p) x y = RA at *
            generalize hLB : rngF f (hiP p) x y = RB at *
            clear hLA hLB
            generalize hr : p.1 + pw (p.2 + 1) = r at *
            generalize hl1 : p.2 + 1 = l1 at *
            clear hr hl1 wr1 wr2
            go_wp2_with fail
            refine (s2.out _).mono ?_
            rintro e Y ⟨rfl, hbY⟩
            have hOY := ownP_below hOq hbY
            have hGY := hGq.trans (GrowP.of_below v hbY)
            have hsY := hbY.size
            clear hOq hGq hBq p0 p1 hbY s2 s1
            go_wp2_with fail
            have hZd : Below Y.heap.size Y ((Y.alloc (.cells #[.int .i64 p.1, .int .i64 l1] 34)).alloc (.cells #[.int .i64 r, .int .i64 l1] 34)) := below_box2 (Below.refl _ _)
            have hLo : Bk ((Y.alloc (.cells #[.int .i64 p.1, .int .i64 l1] 34)).alloc (.cells #[.int .i64 r, .int .i64 l1] 34)) Y.heap.size #[.int .i64 p.1, .int .i64 l1] 34 := (Bk.new Y _ _).below (below_box (Below.refl _ _))
            have hHi : Bk ((Y.alloc (.cells #[.int .i64 p.1, .int .i64 l1] 34)).alloc (.cells #[.int .i64 r, .int .i64 l1] 34)) (Y.heap.size + 1) #[.int .i64 r, .int .i64 l1] 34 := by have := Bk.new (Y.alloc (.cells #[.int .i64 p.1, .int .i64 l1] 34)) #[.int .i64 r, .int .i64 l1] 34; simpa using this
            have hOZ := ownP_below hOY hZd
            have hGZ := hGY.trans (GrowP.of_below v hZd)
            have hsZ := hZd.size
            clear hZd hOY hGY
            generalize ((Y.alloc (.cells #[.int .i64 p.1, .int .i64 l1] 34)).alloc (.cells #[.int .i64 r, .int .i64 l1] 34)) = Z at *
            have R0 := (hLo.cell 0).trans (show _ = some (.int .i64 p.1) from rfl)
            have R1 := (hLo.cell 1).trans (show _ = some (.int .i64 l1) from rfl)
            have R2 := (hHi.cell 0).trans (show _ = some (.int .i64 r) from rfl)
            have R3 := (hHi.cell 1).trans (show _ = some (.int .i64 l1) from rfl)
            have nLo := hneN.out Y.heap.size (by omega)
            have nHi := hneN.out (Y.heap.size + 1) (by omega)
            go_region_held3 (fun w' => w'.cell? ⟨Y.heap.size, 0, none⟩ = some (.int .i64 p.1) ∧ w'.cell? ⟨Y.heap.size, 1, none⟩ = some (.int .i64 l1) ∧ w'.cell? ⟨Y.heap.size + 1, 0, none⟩ = some (.int .i64 r) ∧ w'.cell? ⟨Y.heap.size + 1, 1, none⟩ = some (.int .i64 l1))
              (first
                | go_keep
                | exact ⟨(hLo2.cell 0).trans rfl, (hLo2.cell 1).trans rfl, (hHi2.cell 0).trans rfl, (hHi2.cell 1).trans rfl⟩
                | exact ⟨(hLoN.cell 0).trans rfl, (hLoN.cell 1).trans rfl, (hHiN.cell 0).trans rfl, (hHiN.cell 1).trans rfl⟩
                | exact ⟨((hLo2.below (Below.refl _ _).drew).cell 0).trans rfl, ((hLo2.below (Below.refl _ _).drew).cell 1).trans rfl, ((hHi2.below (Below.refl _ _).drew).cell 0).trans rfl, ((hHi2.below (Below.refl _ _).drew).cell 1).trans rfl⟩
                | exact ⟨((hLoN.below (Below.refl _ _).drew).cell 0).trans rfl, ((hLoN.below (Below.refl _ _).drew).cell 1).trans rfl, ((hHiN.below (Below.refl _ _).drew).cell 0).trans rfl, ((hHiN.below (Below.refl _ _).drew).cell 1).trans rfl⟩)
              ((first
                | (go_at_call 65; refine (IB.out base vN (out ++ RA) _ (by first | exact hsN | (simp; exact hsN)) (by first | exact hON | exact ownP_below hON (Below.refl _ _).drew) (by rw [List.length_append]; omega)).mono ?_; rintro e N2 ⟨v2, rfl, hO2, hG2⟩; have hGM : GrowP Z N2 v v2 := (by first | exact hGN.trans hG2 | exact hGN.trans ((GrowP.of_below vN (Below.refl _ _).drew).trans hG2)); have hLo2 : Bk N2 Y.heap.size #[.int .i64 p.1, .int .i64 l1] 34 := hGM.bk hLo nLo; have hHi2 : Bk N2 (Y.heap.size + 1) #[.int .i64 r, .int .i64 l1] 34 := hGM.bk hHi nHi)
                | (go_at_call 65; refine (IA.out base v out _ (by first | omega | (simp; omega)) (by first | exact hOZ | exact ownP_below hOZ (Below.refl _ _).drew) (by omega)).mono ?_; rintro e N ⟨vN, rfl, hON, hGN0⟩; have hGN : GrowP Z N v vN := (by first | exact hGN0 | exact (GrowP.of_below v (Below.refl _ _).drew).trans hGN0); have hLoN : Bk N Y.heap.size #[.int .i64 p.1, .int .i64 l1] 34 := hGN.bk hLo nLo; have hHiN : Bk N (Y.heap.size + 1) #[.int .i64 r, .int .i64 l1] 34 := hGN.bk hHi nHi; have hsN : base ≤ N.heap.size := (by have := hGN.size; omega); clear hGN0)))
            have hG := hGZ.trans hGM
            clear hOZ hGZ hLo hHi R0 R1 R2 R3 IA IB
            go_wp2_with fail
            go_ret
            refine ⟨_, rfl, ?_, hG⟩
            rw [hR.out, ← List.append_assoc]
            exact hO2
        · have h3n : ¬ x ≤ p.1 := h3
          have hR := hide (hCut.out hno (fun h => by omega))
          have hp1 : p.2 < 32 := by
            rcases Int.lt_or_le p.2 32 with h | h
            · exact h
            · have e : p.2 = 32 := by omega
              rw [e, pw_32] at h1 
              omega
          have HH := hH.out hp1
          have hll := hLL.out hp1
          have hsz := HH.sz
          have s2 := hide (fun w => s_halves1 p.1 p.2 w hp0 hp1 ha0 ha1)
          have IA := hide (fun base v out w hb ho hl => IH.out (loP p) base v out w HH.gl (by show 33 ≤ p.2 + 1 + (f : Int); omega) hb ho hl)
          have IB := hide (fun base v out w hb ho hl => IH.out (hiP p) base v out w HH.gh (by show 33 ≤ p.2 + 1 + (f : Int); omega) hb ho hl)
          have e1 : (loP p).1 = p.1 := rfl
          have e2 : (loP p).2 = p.2 + 1 := rfl
          have e3 : (hiP p).1 = p.1 + pw (p.2 + 1) := rfl
          have e4 : (hiP p).2 = p.2 + 1 := rfl
          rw [e2] at hll
          rw [e1, e2] at IA
          rw [e3, e4] at IB
          clear hOut hIn hCut hH hLL IH hno HH e1 e2 e3 e4
          generalize hLA : rngF f (loP p) x y = RA at *
          generalize hLB : rngF f (hiP p) x y = RB at *
          clear hLA hLB
          generalize hr : p.1 + pw (p.2 + 1) = r at *
          generalize hl1 : p.2 + 1 = l1 at *
          clear hr hl1 wr1 wr2
          go_wp2_with fail
          refine (s2.out _).mono ?_
          rintro e Y ⟨rfl, hbY⟩
          have hOY := ownP_below hOq hbY
          have hGY := hGq.trans (GrowP.of_below v hbY)
          have hsY := hbY.size
          clear hOq hGq hBq p0 p1 hbY s2 s1
          go_wp2_with fail
          have hZd : Below Y.heap.size Y ((Y.alloc (.cells #[.int .i64 p.1, .int .i64 l1] 34)).alloc (.cells #[.int .i64 r, .int .i64 l1] 34)) := below_box2 (Below.refl _ _)
          have hLo : Bk ((Y.alloc (.cells #[.int .i64 p.1, .int .i64 l1] 34)).alloc (.cells #[.int .i64 r, .int .i64 l1] 34)) Y.heap.size #[.int .i64 p.1, .int .i64 l1] 34 := (Bk.new Y _ _).below (below_box (Below.refl _ _))
          have hHi : Bk ((Y.alloc (.cells #[.int .i64 p.1, .int .i64 l1] 34)).alloc (.cells #[.int .i64 r, .int .i64 l1] 34)) (Y.heap.size + 1) #[.int .i64 r, .int .i64 l1] 34 := by have := Bk.new (Y.alloc (.cells #[.int .i64 p.1, .int .i64 l1] 34)) #[.int .i64 r, .int .i64 l1] 34; simpa using this
          have hOZ := ownP_below hOY hZd
          have hGZ := hGY.trans (GrowP.of_below v hZd)
          have hsZ := hZd.size
          clear hZd hOY hGY
          generalize ((Y.alloc (.cells #[.int .i64 p.1, .int .i64 l1] 34)).alloc (.cells #[.int .i64 r, .int .i64 l1] 34)) = Z at *
          have R0 := (hLo.cell 0).trans (show _ = some (.int .i64 p.1) from rfl)
          have R1 := (hLo.cell 1).trans (show _ = some (.int .i64 l1) from rfl)
          have R2 := (hHi.cell 0).trans (show _ = some (.int .i64 r) from rfl)
          have R3 := (hHi.cell 1).trans (show _ = some (.int .i64 l1) from rfl)
          have nLo := hneN.out Y.heap.size (by omega)
          have nHi := hneN.out (Y.heap.size + 1) (by omega)
          go_region_held3 (fun w' => w'.cell? ⟨Y.heap.size, 0, none⟩ = some (.int .i64 p.1) ∧ w'.cell? ⟨Y.heap.size, 1, none⟩ = some (.int .i64 l1) ∧ w'.cell? ⟨Y.heap.size + 1, 0, none⟩ = some (.int .i64 r) ∧ w'.cell? ⟨Y.heap.size + 1, 1, none⟩ = some (.int .i64 l1))
            (first
              | go_keep
              | exact ⟨(hLo2.cell 0).trans rfl, (hLo2.cell 1).trans rfl, (hHi2.cell 0).trans rfl, (hHi2.cell 1).trans rfl⟩
              | exact ⟨(hLoN.cell 0).trans rfl, (hLoN.cell 1).trans rfl, (hHiN.cell 0).trans rfl, (hHiN.cell 1).trans rfl⟩
              | exact ⟨((hLo2.below (Below.refl _ _).drew).cell 0).trans rfl, ((hLo2.below (Below.refl _ _).drew).cell 1).trans rfl, ((hHi2.below (Below.refl _ _).drew).cell 0).trans rfl, ((hHi2.below (Below.refl _ _).drew).cell 1).trans rfl⟩
              | exact ⟨((hLoN.below (Below.refl _ _).drew).cell 0).trans rfl, ((hLoN.below (Below.refl _ _).drew).cell 1).trans rfl, ((hHiN.below (Below.refl _ _).drew).cell 0).trans rfl, ((hHiN.below (Below.refl _ _).drew).cell 1).trans rfl⟩)
            ((first
              | (go_at_call 65; refine (IB.out base vN (out ++ RA) _ (by first | exact hsN | (simp; exact hsN)) (by first | exact hON | exact ownP_below hON (Below.refl _ _).drew) (by rw [List.length_append]; omega)).mono ?_; rintro e N2 ⟨v2, rfl, hO2, hG2⟩; have hGM : GrowP Z N2 v v2 := (by first | exact hGN.trans hG2 | exact hGN.trans ((GrowP.of_below vN (Below.refl _ _).drew).trans hG2)); have hLo2 : Bk N2 Y.heap.size #[.int .i64 p.1, .int .i64 l1] 34 := hGM.bk hLo nLo; have hHi2 : Bk N2 (Y.heap.size + 1) #[.int .i64 r, .int .i64 l1] 34 := hGM.bk hHi nHi)
              | (go_at_call 65; refine (IA.out base v out _ (by first | omega | (simp; omega)) (by first | exact hOZ | exact ownP_below hOZ (Below.refl _ _).drew) (by omega)).mono ?_; rintro e N ⟨vN, rfl, hON, hGN0⟩; have hGN : GrowP Z N v vN := (by first | exact hGN0 | exact (GrowP.of_below v (Below.refl _ _).drew).trans hGN0); have hLoN : Bk N Y.heap.size #[.int .i64 p.1, .int .i64 l1] 34 := hGN.bk hLo nLo; have hHiN : Bk N (Y.heap.size + 1) #[.int .i64 r, .int .i64 l1] 34 := hGN.bk hHi nHi; have hsN : base ≤ N.heap.size := (by have := hGN.size; omega); clear hGN0)))
          have hG := hGZ.trans hGM
          clear hOZ hGZ hLo hHi R0 R1 R2 R3 IA IB
          go_wp2_with fail
          go_ret
          refine ⟨_, rfl, ?_, hG⟩
          rw [hR.out, ← List.append_assoc]
          exact hO2
set_option maxRecDepth 100000 in
set_option maxHeartbeats 800000 in
theorem s_rangeOf_yes (x y : Int) (w : World) (hx0 : 0 ≤ x) (hy1 : y ≤ 4294967295) (hxy : x ≤ y) :
    Calls Try.prog 29 #[.int .i64 x, .int .i64 y] w fun e w' => ∃ v, e = .returned (.tuple #[v, .bool true]) ∧ OwnP w.heap.size v (rngS x y) w' ∧ Below w.heap.size w w' := by
  have s1 := hide (fun w => s_addr x w)
  have s2 := hide (fun w => s_addr y w)
  rw [inB_t hx0 (by omega)] at s1
  rw [inB_t (by omega) hy1] at s2
  have s3 := hide (fun w => s_range x y hxy 33 (0, 0) w.heap.size (.slice none 0 0) [] w root_good (by decide) (Nat.le_refl _) (ownP_nil _ _) (by decide))
  have hR : Hid (rngF 33 (0, 0) x y = rngS x y) := rfl
  have hgt : ¬ y < x := by omega
  have hgt2 : decide (y < x) = false := by simp; omega
  generalize rngS x y = R at *
  go_enter Try.func29, Try.ntmps29
  go_wp2_with fail
  refine (s1.out _).mono ?_
  rintro e w1 ⟨rfl, rfl⟩
  go_wp2_with fail
  refine (s2.out _).mono ?_
  rintro e w2 ⟨rfl, rfl⟩
  go_wp2_with fail
  refine (s3.out _).mono ?_
  rintro e w3 ⟨v3, rfl, ho3, hg3⟩
  have hb3 := hg3.below (ownP_nil w2.heap.size w2) (Nat.le_refl _)
  go_wp2_with fail
  refine bodyPost_ret (v := .tuple #[v3, .bool true]) (by simp [results, Try.results29, go_sem]) rfl ⟨_, rfl, ?_, hb3⟩
  have h := ho3
  rw [hR.out] at h
  exact h
set_option maxRecDepth 100000 in
set_option maxHeartbeats 800000 in
theorem s_rangeOf_no (x y : Int) (w : World) (h : ¬ (0 ≤ x ∧ y ≤ 4294967295 ∧ x ≤ y)) :
    Calls Try.prog 29 #[.int .i64 x, .int .i64 y] w fun e w' => e = .returned (.tuple #[.slice none 0 0, .bool false]) ∧ Below w.heap.size w w' := by
  have s1 := hide (fun w => s_addr x w)
  have s2 := hide (fun w => s_addr y w)
  by_cases hx : 0 ≤ x ∧ x ≤ 4294967295
  · rw [inB_t hx.1 hx.2] at s1
    by_cases hy : 0 ≤ y ∧ y ≤ 4294967295
    · rw [inB_t hy.1 hy.2] at s2
      have hgt : y < x := by omega
      clear h hx hy
      go_enter Try.func29, Try.ntmps29
      go_wp2_with fail
      refine (s1.out _).mono ?_
      rintro e w1 ⟨rfl, rfl⟩
      go_wp2_with fail
      refine (s2.out _).mono ?_
      rintro e w2 ⟨rfl, rfl⟩
      go_wp2_with fail
      refine bodyPost_ret (v := .tuple #[.slice none 0 0, .bool false]) (by simp [results, Try.results29, go_sem]) rfl ⟨rfl, Below.refl _ _⟩
    · rw [inB_n hy] at s2
      clear h hx hy
      go_enter Try.func29, Try.ntmps29
      go_wp2_with fail
      refine (s1.out _).mono ?_
      rintro e w1 ⟨rfl, rfl⟩
      go_wp2_with fail
      refine (s2.out _).mono ?_
      rintro e w2 ⟨rfl, rfl⟩
      go_wp2_with fail
      refine bodyPost_ret (v := .tuple #[.slice none 0 0, .bool false]) (by simp [results, Try.results29, go_sem]) rfl ⟨rfl, Below.refl _ _⟩
  · rw [inB_n hx] at s1
    clear h hx
    go_enter Try.func29, Try.ntmps29
    go_wp2_with fail
    refine (s1.out _).mono ?_
    rintro e w1 ⟨rfl, rfl⟩
    go_wp2_with fail
    refine bodyPost_ret (v := .tuple #[.slice none 0 0, .bool false]) (by simp [results, Try.results29, go_sem]) rfl ⟨rfl, Below.refl _ _⟩
end Go.Proofs.Ytlflfloopomaiaa
