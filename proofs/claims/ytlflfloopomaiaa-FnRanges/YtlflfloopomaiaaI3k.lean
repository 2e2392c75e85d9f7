/- What the program's leftOf answers. -/
import Derived.Test.YtlflfloopomaiaaS3g
import Derived.Test.YtlflfloopomaiaaI3
import Derived.Test.YtlflfloopomaiaaI1c
import Derived.Test.YtlflfloopomaiaaI3j
namespace Go.Proofs.Ytlflfloopomaiaa
open Go.RowKit

theorem lo_box {w M : World} (h : Below w.heap.size w M) (n : Nat) (o : Obj) : Below w.heap.size w ((M.drewN n).alloc o) :=
  below_step (below_drewN h n) (show Below (M.drewN n).heap.size (M.drewN n) _ from below_box (Below.refl _ _))
theorem src_box {a : Option Addr} {L : List Pf} {c : Nat} {M : World} (h : SrcP a L c M) (n : Nat) (o : Obj) : SrcP a L c ((M.drewN n).alloc o) :=
  ⟨h.1.below (lo_box (Below.refl _ _) n o), h.2⟩
theorem lo_src {base : Nat} {a : Option Addr} {L : List Pf} {c : Nat} {M : World} (h : OwnP base (.slice a L.length c) L M) (n : Nat) (o : Obj) : SrcP a L c ((M.drewN n).alloc o) := by
  obtain ⟨a', c', e, hs⟩ := SrcP.own h
  simp only [Value.slice.injEq, true_and] at e
  obtain ⟨rfl, rfl⟩ := e
  exact src_box hs n o
set_option maxRecDepth 100000 in
set_option maxHeartbeats 12800000 in
theorem i_leftOf (p : Pf) (gp : gdP p) (f : Nat) : ∀ (q : Pf) (w : World), gdP q → 33 ≤ q.2 + f → f ≤ 33 →
    Calls Try.prog 70 #[.agg #[.int .i64 q.1, .int .i64 q.2], .agg #[.int .i64 p.1, .int .i64 p.2]] w fun e w' => ∃ v, e = .returned v ∧ OwnP w.heap.size v (wout f q p) w' ∧ Below w.heap.size w w' := by
  induction f with
  | zero => intro q w gq hf; have := (gdP_parts gq).2.1; omega
  | succ f ih =>
    intro q w gq hf hf33
    obtain ⟨i0, hi, hz0, hz1, hz2⟩ := info_partsP infoPrefix
    obtain ⟨hq0, hq32, ha0, ha1, _⟩ := gdP_parts gq
    have s1 := hide (fun w => i_hasPrefix3 p q w gp gq)
    have s2 := hide (fun w => i_hasPrefix3 q p w gq gp)
    have hIn := hide (wout_in (f := f) (q := q) (p := p))
    have hOut := hide (wout_out (f := f) (q := q) (p := p))
    have hCut := hide (wout_cut (f := f) (q := q) (p := p))
    have hst := hide (cov_strict gp gq)
    have hH := hide (fun h => half_of gq h)
    have hp32 := (gdP_parts gp).2.1
    have IH := hide ih
    clear ih
    have hB1 : Bk ((w.alloc (.cells #[.int .i64 q.1, .int .i64 q.2] 34)).alloc (.cells #[.int .i64 p.1, .int .i64 p.2] 34)) w.heap.size #[.int .i64 q.1, .int .i64 q.2] 34 := (Bk.new w _ _).below (below_box (Below.refl _ _))
    have hB2 : Bk ((w.alloc (.cells #[.int .i64 q.1, .int .i64 q.2] 34)).alloc (.cells #[.int .i64 p.1, .int .i64 p.2] 34)) (w.heap.size + 1) #[.int .i64 p.1, .int .i64 p.2] 34 := by have := Bk.new (w.alloc (.cells #[.int .i64 q.1, .int .i64 q.2] 34)) #[.int .i64 p.1, .int .i64 p.2] 34; simpa using this
    have hd : Below w.heap.size w ((w.alloc (.cells #[.int .i64 q.1, .int .i64 q.2] 34)).alloc (.cells #[.int .i64 p.1, .int .i64 p.2] 34)) := below_box2 (Below.refl _ _)
    generalize hcv : covP p q = cv at *
    generalize hdv : covP q p = dv at *
    clear hcv hdv
    go_enter Try.func70, Try.ntmps70
    go_wp2_with fail
    generalize ((w.alloc (.cells #[.int .i64 q.1, .int .i64 q.2] 34)).alloc (.cells #[.int .i64 p.1, .int .i64 p.2] 34)) = W1 at *
    refine (s1.out _).mono ?_
    rintro e W2 ⟨rfl, b2⟩
    have hB1 := hB1.below b2
    have hB2 := hB2.below b2
    have hd := hd.trans (b2.mono hd.size)
    have c0 := (hB1.cell 0).trans (show _ = some (.int .i64 q.1) from rfl)
    have c1 := (hB1.cell 1).trans (show _ = some (.int .i64 q.2) from rfl)
    have c2 := (hB2.cell 0).trans (show _ = some (.int .i64 p.1) from rfl)
    have c3 := (hB2.cell 1).trans (show _ = some (.int .i64 p.2) from rfl)
    clear b2
    cases cv with
    | true =>
      have hR := hide (hIn.out (by simp))
      clear hIn hOut hCut hst hH IH s2
      go_wp2_with fail
      go_ret
      refine ⟨_, rfl, ?_, hd⟩
      rw [hR.out]
      exact ownP_nil _ _
    | false =>
      go_wp2_with fail
      refine (s2.out _).mono ?_
      rintro e W3 ⟨rfl, b3⟩
      have hB1 := hB1.below b3
      have hB2 := hB2.below b3
      have hd := hd.trans (b3.mono hd.size)
      have c0 := (hB1.cell 0).trans (show _ = some (.int .i64 q.1) from rfl)
      have c1 := (hB1.cell 1).trans (show _ = some (.int .i64 q.2) from rfl)
      have hsd := hd.size
      clear b3 c2 c3
      cases dv with
      | false =>
        have hR := hide (hOut.out (by simp) (by simp))
        clear hIn hOut hCut hst hH IH
        go_wp2_with fail
        go_ret
        refine ⟨_, rfl, ?_, hd.trans ((below_box (Below.refl _ _)).mono hsd)⟩
        rw [hR.out]
        exact ownP_one hsd
      | true =>
        have hR := hide (hCut.out (by simp) (by simp))
        have hql : q.2 < 32 := by have := hst.out (by simp) (by simp); omega
        have HH := hH.out hql
        have s3 := hide (fun w => i_halves_yes q.1 q.2 w gq hql)
        have IA := hide (fun w => IH.out (loP q) w HH.gl (by show 33 ≤ q.2 + 1 + (f : Int); omega) (by omega))
        have IB := hide (fun w => IH.out (hiP q) w HH.gh (by show 33 ≤ q.2 + 1 + (f : Int); omega) (by omega))
        have hlA := Nat.le_trans (wout_len f (loP q) p) (pow33 (show f ≤ 32 by omega))
        have hlB := Nat.le_trans (wout_len f (hiP q) p) (pow33 (show f ≤ 32 by omega))
        have e1 : (loP q).1 = q.1 := rfl
        have e2 : (loP q).2 = q.2 + 1 := rfl
        have e3 : (hiP q).1 = q.1 + pw (q.2 + 1) := rfl
        have e4 : (hiP q).2 = q.2 + 1 := rfl
        rw [e1, e2] at IA
        rw [e3, e4] at IB
        clear hIn hOut hCut hst hH IH HH e1 e2 e3 e4 s1 s2
        generalize hLA : wout f (loP q) p = RA at *
        generalize hLB : wout f (hiP q) p = RB at *
        clear hLA hLB
        generalize hr : q.1 + pw (q.2 + 1) = r at *
        generalize hl1 : q.2 + 1 = l1 at *
        clear hr hl1
        go_wp2_with fail
        refine (s3.out _).mono ?_
        rintro e Y ⟨rfl, bY⟩
        have hB2 := hB2.below bY
        have hd := hd.trans (bY.mono hd.size)
        have hsY := hd.size
        clear bY hB1 c0 c1 s3
        go_wp2_with fail
        have hZd : Below Y.heap.size Y ((Y.alloc (.cells #[.int .i64 q.1, .int .i64 l1] 34)).alloc (.cells #[.int .i64 r, .int .i64 l1] 34)) := below_box2 (Below.refl _ _)
        have hLo : Bk ((Y.alloc (.cells #[.int .i64 q.1, .int .i64 l1] 34)).alloc (.cells #[.int .i64 r, .int .i64 l1] 34)) Y.heap.size #[.int .i64 q.1, .int .i64 l1] 34 := (Bk.new Y _ _).below (below_box (Below.refl _ _))
        have hHi : Bk ((Y.alloc (.cells #[.int .i64 q.1, .int .i64 l1] 34)).alloc (.cells #[.int .i64 r, .int .i64 l1] 34)) (Y.heap.size + 1) #[.int .i64 r, .int .i64 l1] 34 := by have := Bk.new (Y.alloc (.cells #[.int .i64 q.1, .int .i64 l1] 34)) #[.int .i64 r, .int .i64 l1] 34; simpa using this
        have hB2 := hB2.below hZd
        have hd := hd.trans (hZd.mono hsY)
        generalize ((Y.alloc (.cells #[.int .i64 q.1, .int .i64 l1] 34)).alloc (.cells #[.int .i64 r, .int .i64 l1] 34)) = Z at *
        have hsZ := hd.size
        have hS : ∀ w' : World, Below Z.heap.size Z w' → w'.cell? ⟨Y.heap.size, 0, none⟩ = some (.int .i64 q.1) ∧ w'.cell? ⟨Y.heap.size, 1, none⟩ = some (.int .i64 l1) ∧ w'.cell? ⟨Y.heap.size + 1, 0, none⟩ = some (.int .i64 r) ∧ w'.cell? ⟨Y.heap.size + 1, 1, none⟩ = some (.int .i64 l1) ∧ w'.cell? ⟨w.heap.size + 1, 0, none⟩ = some (.int .i64 p.1) ∧ w'.cell? ⟨w.heap.size + 1, 1, none⟩ = some (.int .i64 p.2) := fun w' h => ⟨((hLo.below h).cell 0).trans rfl, ((hLo.below h).cell 1).trans rfl, ((hHi.below h).cell 0).trans rfl, ((hHi.below h).cell 1).trans rfl, ((hB2.below h).cell 0).trans rfl, ((hB2.below h).cell 1).trans rfl⟩
        obtain ⟨R0, R1, R2, R3, R4, R5⟩ := hS Z (Below.refl _ _)
        have sC := hide (fun b c aa ab ca cb w h1 h2 h3 => i_concat b c RA RB aa ab ca cb w hlA hlB h1 h2 h3)
        clear hZd
        go_region_held3 (fun w' => w'.cell? ⟨Y.heap.size, 0, none⟩ = some (.int .i64 q.1) ∧ w'.cell? ⟨Y.heap.size, 1, none⟩ = some (.int .i64 l1) ∧ w'.cell? ⟨Y.heap.size + 1, 0, none⟩ = some (.int .i64 r) ∧ w'.cell? ⟨Y.heap.size + 1, 1, none⟩ = some (.int .i64 l1) ∧ w'.cell? ⟨w.heap.size + 1, 0, none⟩ = some (.int .i64 p.1) ∧ w'.cell? ⟨w.heap.size + 1, 1, none⟩ = some (.int .i64 p.2))
          (first | go_keep | exact hS _ hbz | exact hS _ (hMx 0 _) | exact hS _ (hMx 1 _) | exact hS _ hbM | exact hS _ hbM.drew | exact hS _ hbN | exact hS _ hbN.drew)
          ((first
            | (have hq1 := hMx; go_at_call 90; refine (sC.out _ _ _ _ _ _ _ (Bk.new _ _ _) (by first | exact hNs 0 _ | exact hNs 1 _) (by first | exact hMs 0 _ | exact hMs 1 _)).mono ?_; rintro e w3 ⟨v3, rfl, hT30, hb30⟩; have hbz : Below Z.heap.size Z w3 := (by first | exact below_step (hMx 0 _) hb30 | exact below_step (hMx 1 _) hb30); have hT3 : OwnP Z.heap.size v3 (RA ++ RB) w3 := (by first | exact ownP_base hT30 (hMx 0 _).size | exact ownP_base hT30 (hMx 1 _).size))
            | (have hq0 := hON; go_at_call 70; refine (IB.out _).mono ?_; rintro e M ⟨vM, rfl, hOM0, hbM0⟩; have hbM : Below Z.heap.size Z M := (by first | exact below_step hbN hbM0 | exact below_step hbN.drew hbM0); have hON2 : OwnP Z.heap.size (.slice aN RA.length cN) RA M := (by first | exact ownP_below hON hbM0 | exact ownP_below (ownP_below hON (Below.refl _ _).drew) hbM0); obtain ⟨aM, cM, rfl, hsM0⟩ := SrcP.own hOM0; have hMx := lo_box hbM; have hNs := lo_src hON2; have hMs := src_box hsM0; clear hOM0 hsM0)
            | (go_at_call 70; refine (IA.out _).mono ?_; rintro e N ⟨vN, rfl, hON0, hbN0⟩; have hbN : Below Z.heap.size Z N := (by first | exact hbN0 | exact (Below.refl _ _).drew.trans hbN0); have hON1 : OwnP Z.heap.size vN RA N := (by first | exact hON0 | exact ownP_base hON0 (by simp)); obtain ⟨aN, cN, rfl, _⟩ := SrcP.own hON1; have hON := hON1; clear hON0 hbN0 hON1)))
        have hdz := hd.trans (hbz.mono hd.size)
        go_wp2_with fail
        go_ret
        refine ⟨_, rfl, ?_, hdz⟩
        rw [hR.out]
        exact ownP_base hT3 hd.size
end Go.Proofs.Ytlflfloopomaiaa
