/- What the specification's l3Without answers. -/
import Derived.Test.YtlflfloopomaiaaS3
import Derived.Test.YtlflfloopomaiaaGrow3
import Derived.Deep.RegionHeld3
namespace Go.Proofs.Ytlflfloopomaiaa
open Go.RowKit

/-- 'append(a, b...)' of two lists of one's own in a region that draws its order. -/
theorem step_appP {w : World} {ops : Array Oper} {o : Oper} {a : Act} {K : Act → World → Prop} {Q : Exit → Act → World → Prop} {E : Prop} (hgd : o.guard = none) (s x : Operand)
    (ho : o.op = .call { callee := .builtin .append, args := #[s, x], argTypes := #[23, 23] })
    (base : Nat) (v : Value) (L : List Pf) (hs : a.eval s = v) (hown : OwnP base v L w) (base2 : Nat) (v2 : Value) (M : List Pf) (hx : a.eval x = v2) (hown2 : OwnP base2 v2 M w) (hlen : L.length + M.length ≤ 8589934593) (hbase : base ≤ w.heap.size)
    (h : ∀ v' w', OwnP base v' (L ++ M) w' → Below base w w' → w.grownBy w' v.ownBlock → K (a.put o.dst v') w') : if Region.wanted o (yielded ops a.tmps) = true then Oper.wp Try.prog o a w K Q else E := by
  obtain ⟨i0, hi, hz0, hz1, hz2⟩ := info_partsP infoPrefix
  have hw : Region.wanted o (yielded ops a.tmps) = true := by simp [Region.wanted, hgd]
  rw [if_pos hw]
  obtain ⟨a2, c2, rfl, hR, hsh⟩ := ownP_row hown2
  rcases hsh with ⟨rfl, rfl, rfl⟩ | ⟨g, rfl, _⟩
  · have hrun := run_append_owned_none (P := Try.prog) (w := w) base 23 o.type 34 i0 2 Try.underlying23 hi v L.length (pcells L) hown
    have hx' : a.eval x = .slice none 0 0 := hx
    unfold Oper.wp
    simp [execOp, ho, resolve, invoke, builtin, hs, hx', hrun, Result.andThen]
    exact h v w (by simpa using hown) (Below.refl _ _) ⟨rfl, rfl, rfl, Nat.le_refl _, fun _ _ _ => rfl⟩
  · refine wp_append_own w s x 23 ho base 34 i0 (.agg #[.int .i64 0, .int .i64 0]) 2 16 Try.underlying23 hi hz0 hz1 hz2 rfl (by decide) v L.length (pcells L) hs hown ⟨g, 0, none⟩ M.length c2 (pcells M) hx (pc_len M) hR.cells (pc_oneCell M) (by unfold maxLen; omega) (by omega) hbase ?_
    intro v' w' hown' hgrow _
    refine h v' w' ?_ (grown_belowP hown hgrow hbase) hgrow
    unfold OwnP
    rw [pc_app, List.length_append]
    exact hown'
/-- One prefix in a block of its own. -/
theorem ownP_one {w : World} {base : Nat} {p : Pf} (hb : base ≤ w.heap.size) : OwnP base (.slice (some ⟨w.heap.size, 0, none⟩) 1 1) [p] (w.alloc (.cells #[.int .i64 p.1, .int .i64 p.2] 34)) :=
  ⟨rfl, .inr ⟨w.heap.size, 1, #[.int .i64 p.1, .int .i64 p.2], rfl, hb, heap_alloc_new w _, Nat.le_refl _, by decide, rfl, rfl⟩⟩
theorem wout_in {f : Nat} {q p : Pf} (h : covP p q = true) : wout (f + 1) q p = [] := by rw [wout, if_pos h]
theorem wout_out {f : Nat} {q p : Pf} (h : covP p q = false) (h2 : covP q p = false) : wout (f + 1) q p = [q] := by rw [wout, if_neg (by rw [h]; simp), if_neg (by rw [h2]; simp)]
theorem wout_cut {f : Nat} {q p : Pf} (h : covP p q = false) (h2 : covP q p = true) : wout (f + 1) q p = wout f (loP q) p ++ wout f (hiP q) p := by rw [wout, if_neg (by rw [h]; simp), if_pos h2]
theorem wout_len : ∀ (f : Nat) (q p : Pf), (wout f q p).length ≤ 2 ^ f
  | 0, _, _ => by simp [wout]
  | f + 1, q, p => by
    have h1 := wout_len f (loP q) p
    have h2 := wout_len f (hiP q) p
    have h3 : 1 ≤ 2 ^ f := Nat.one_le_two_pow
    rw [Nat.pow_succ]
    unfold wout
    split
    · simp
    · split
      · rw [List.length_append]; omega
      · simp; omega
theorem pow33 {f : Nat} (h : f ≤ 32) : 2 ^ f ≤ 4294967296 := by
  have := Nat.pow_le_pow_right (n := 2) (by omega) h
  simpa using this

set_option maxRecDepth 100000 in
set_option maxHeartbeats 12800000 in
theorem s_without (p : Pf) (gp : gdP p) (f : Nat) : ∀ (q : Pf) (w : World), gdP q → 33 ≤ q.2 + f → f ≤ 33 →
    Calls Try.prog 73 #[.agg #[.int .i64 q.1, .int .i64 q.2], .agg #[.int .i64 p.1, .int .i64 p.2]] w fun e w' => ∃ v, e = .returned v ∧ OwnP w.heap.size v (wout f q p) w' ∧ Below w.heap.size w w' := by
  induction f with
  | zero => intro q w gq hf; have := (gdP_parts gq).2.1; omega
  | succ f ih =>
    intro q w gq hf hf33
    obtain ⟨i0, hi, hz0, hz1, hz2⟩ := info_partsP infoPrefix
    obtain ⟨hq0, hq32, ha0, ha1, _⟩ := gdP_parts gq
    have s1 := hide (fun w => cov_run gp gq w)
    have s2 := hide (fun w => cov_run gq gp w)
    have hIn := hide (wout_in (f := f) (q := q) (p := p))
    have hOut := hide (wout_out (f := f) (q := q) (p := p))
    have hCut := hide (wout_cut (f := f) (q := q) (p := p))
    have hst := hide (cov_strict gp gq)
    have hH := hide (fun h => half_of gq h)
    have hp32 := (gdP_parts gp).2.1
    have IH := hide ih
    clear ih
    have hB1 : Bk ((w.alloc (.cells #[.int .i64 q.1, .int .i64 q.2] 34)).alloc (.cells #[.int .i64 p.1, .int .i64 p.2] 34)) w.heap.size #[.int .i64 q.1, .int .i64 q.2] 34 := (Bk.new w _ _).below (below_box (Below.refl _ _))
    have hB2 : Bk ((w.alloc (.cells #[.int .i64 q.1, .int .i64 q.2] 34)).alloc (.cells #[.int .i64 p.1, .int .i64 p.2] 34)) (w.heap.size + 1) #[.int .i64 p.1, .int .i64 p.2] 34 := by have := Bk.new (w.alloc (.cells #[.int .i64 q.1, .int .i64 q.2] 34)) #[.int .i64 p.1, .int .i64 p.2] 34; simpa using this
    have hd : Below w.heap.size w ((w.alloc (.cells #[.int .i64 q.1, .int .i64 q.2] 34)).alloc (.cells #[.int .i64 p.1, .int .i64 p.2] 34)) := below_box2 (Below.refl _ _)
    generalize hcv : covP p q = cv at *
    generalize hdv : covP q p = dv at *
    clear hcv hdv
    go_enter Try.func73, Try.ntmps73
    go_wp2_with fail
    generalize ((w.alloc (.cells #[.int .i64 q.1, .int .i64 q.2] 34)).alloc (.cells #[.int .i64 p.1, .int .i64 p.2] 34)) = W1 at *
    refine (s1.out _).mono ?_
    rintro e W2 ⟨rfl, b2⟩
    have hB1 := hB1.below b2
    have hB2 := hB2.below b2
    have hd := hd.trans (b2.mono hd.size)
    have c0 := (hB1.cell 0).trans (show _ = some (.int .i64 q.1) from rfl)
    have c1 := (hB1.cell 1).trans (show _ = some (.int .i64 q.2) from rfl)
    have c2 := (hB2.cell 0).trans (show _ = some (.int .i64 p.1) from rfl)
    have c3 := (hB2.cell 1).trans (show _ = some (.int .i64 p.2) from rfl)
    clear b2
    cases cv with
    | true =>
      have hR := hide (hIn.out (by simp))
      clear hIn hOut hCut hst hH IH s2
      go_wp2_with fail
      go_ret
      refine ⟨_, rfl, ?_, hd⟩
      rw [hR.out]
      exact ownP_nil _ _
    | false =>
      go_wp2_with fail
      refine (s2.out _).mono ?_
      rintro e W3 ⟨rfl, b3⟩
      have hB1 := hB1.below b3
      have hB2 := hB2.below b3
      have hd := hd.trans (b3.mono hd.size)
      have c0 := (hB1.cell 0).trans (show _ = some (.int .i64 q.1) from rfl)
      have c1 := (hB1.cell 1).trans (show _ = some (.int .i64 q.2) from rfl)
      have hsd := hd.size
      clear b3 c2 c3
      cases dv with
      | false =>
        have hR := hide (hOut.out (by simp) (by simp))
        clear hIn hOut hCut hst hH IH
        go_wp2_with fail
        go_ret
        refine ⟨_, rfl, ?_, hd.trans ((below_box (Below.refl _ _)).mono hsd)⟩
        rw [hR.out]
        exact ownP_one hsd
      | true =>
        have hR := hide (hCut.out (by simp) (by simp))
        have hql : q.2 < 32 := by have := hst.out (by simp) (by simp); omega
        have HH := hH.out hql
        have s3 := hide (fun w => s_halves1 q.1 q.2 w hq0 hql ha0 ha1)
        have IA := hide (fun w => IH.out (loP q) w HH.gl (by show 33 ≤ q.2 + 1 + (f : Int); omega) (by omega))
        have IB := hide (fun w => IH.out (hiP q) w HH.gh (by show 33 ≤ q.2 + 1 + (f : Int); omega) (by omega))
        have hlA := Nat.le_trans (wout_len f (loP q) p) (pow33 (show f ≤ 32 by omega))
        have hlB := Nat.le_trans (wout_len f (hiP q) p) (pow33 (show f ≤ 32 by omega))
        have e1 : (loP q).1 = q.1 := rfl
        have e2 : (loP q).2 = q.2 + 1 := rfl
        have e3 : (hiP q).1 = q.1 + pw (q.2 + 1) := rfl
        have e4 : (hiP q).2 = q.2 + 1 := rfl
        rw [e1, e2] at IA
        rw [e3, e4] at IB
        clear hIn hOut hCut hst hH IH HH e1 e2 e3 e4 s1 s2
        generalize hLA : wout f (loP q) p = RA at *
        generalize hLB : wout f (hiP q) p = RB at *
        clear hLA hLB
        generalize hr : q.1 + pw (q.2 + 1) = r at *
        generalize hl1 : q.2 + 1 = l1 at *
        clear hr hl1
        go_wp2_with fail
        refine (s3.out _).mono ?_
        rintro e Y ⟨rfl, bY⟩
        have hB2 := hB2.below bY
        have hd := hd.trans (bY.mono hd.size)
        have hsY := hd.size
        clear bY hB1 c0 c1 s3
        go_wp2_with fail
        have hZd : Below Y.heap.size Y ((Y.alloc (.cells #[.int .i64 q.1, .int .i64 l1] 34)).alloc (.cells #[.int .i64 r, .int .i64 l1] 34)) := below_box2 (Below.refl _ _)
        have hLo : Bk ((Y.alloc (.cells #[.int .i64 q.1, .int .i64 l1] 34)).alloc (.cells #[.int .i64 r, .int .i64 l1] 34)) Y.heap.size #[.int .i64 q.1, .int .i64 l1] 34 := (Bk.new Y _ _).below (below_box (Below.refl _ _))
        have hHi : Bk ((Y.alloc (.cells #[.int .i64 q.1, .int .i64 l1] 34)).alloc (.cells #[.int .i64 r, .int .i64 l1] 34)) (Y.heap.size + 1) #[.int .i64 r, .int .i64 l1] 34 := by have := Bk.new (Y.alloc (.cells #[.int .i64 q.1, .int .i64 l1] 34)) #[.int .i64 r, .int .i64 l1] 34; simpa using this
        have hB2 := hB2.below hZd
        have hd := hd.trans (hZd.mono hsY)
        generalize ((Y.alloc (.cells #[.int .i64 q.1, .int .i64 l1] 34)).alloc (.cells #[.int .i64 r, .int .i64 l1] 34)) = Z at *
        have hsZ := hd.size
        have hS : ∀ w' : World, Below Z.heap.size Z w' → w'.cell? ⟨Y.heap.size, 0, none⟩ = some (.int .i64 q.1) ∧ w'.cell? ⟨Y.heap.size, 1, none⟩ = some (.int .i64 l1) ∧ w'.cell? ⟨Y.heap.size + 1, 0, none⟩ = some (.int .i64 r) ∧ w'.cell? ⟨Y.heap.size + 1, 1, none⟩ = some (.int .i64 l1) ∧ w'.cell? ⟨w.heap.size + 1, 0, none⟩ = some (.int .i64 p.1) ∧ w'.cell? ⟨w.heap.size + 1, 1, none⟩ = some (.int .i64 p.2) := fun w' h => ⟨((hLo.below h).cell 0).trans rfl, ((hLo.below h).cell 1).trans rfl, ((hHi.below h).cell 0).trans rfl, ((hHi.below h).cell 1).trans rfl, ((hB2.below h).cell 0).trans rfl, ((hB2.below h).cell 1).trans rfl⟩
        obtain ⟨R0, R1, R2, R3, R4, R5⟩ := hS Z (Below.refl _ _)
        clear hZd
        go_region_held3 (fun w' => w'.cell? ⟨Y.heap.size, 0, none⟩ = some (.int .i64 q.1) ∧ w'.cell? ⟨Y.heap.size, 1, none⟩ = some (.int .i64 l1) ∧ w'.cell? ⟨Y.heap.size + 1, 0, none⟩ = some (.int .i64 r) ∧ w'.cell? ⟨Y.heap.size + 1, 1, none⟩ = some (.int .i64 l1) ∧ w'.cell? ⟨w.heap.size + 1, 0, none⟩ = some (.int .i64 p.1) ∧ w'.cell? ⟨w.heap.size + 1, 1, none⟩ = some (.int .i64 p.2))
          (first | go_keep | exact hS _ hbz | exact hS _ hbM | exact hS _ hbM.drew | exact hS _ hbN | exact hS _ hbN.drew)
          ((first
            | (have hq1 := hN1; refine step_appP (by rfl) _ _ (by rfl) Z.heap.size vN RA (by rfl) (by first | exact hN1 0 | exact hN1 1) N.heap.size vM RB (by rfl) (by first | exact hM1 0 | exact hM1 1) (by omega) (by first | exact hsM | (simp; exact hsM)) ?_; intro v3 w3 hT3 hb30 _; have hb3 : Below Z.heap.size M w3 := (by first | exact hb30 | exact ((Below.refl _ _).drew.mono hsM).trans hb30); have hbz : Below Z.heap.size Z w3 := hbM.trans hb3)
            | (have hq0 := hON; go_at_call 73; refine (IB.out _).mono ?_; rintro e M ⟨vM, rfl, hOM0, hbM0⟩; have hbM : Below Z.heap.size Z M := (by first | exact below_step hbN hbM0 | exact below_step hbN.drew hbM0); have hON2 : OwnP Z.heap.size vN RA M := (by first | exact ownP_below hON hbM0 | exact ownP_below (ownP_below hON (Below.refl _ _).drew) hbM0); have hOM : OwnP N.heap.size vM RB M := (by first | exact hOM0 | exact ownP_base hOM0 (by simp)); have hN1 : ∀ n, OwnP Z.heap.size vN RA (M.drewN n) := (fun n => ownP_below hON2 (below_drewN (Below.refl _ _) n)); have hM1 : ∀ n, OwnP N.heap.size vM RB (M.drewN n) := (fun n => ownP_below hOM (below_drewN (Below.refl _ _) n)); have hsM : Z.heap.size ≤ M.heap.size := hbM.size)
            | (go_at_call 73; refine (IA.out _).mono ?_; rintro e N ⟨vN, rfl, hON0, hbN0⟩; have hbN : Below Z.heap.size Z N := (by first | exact hbN0 | exact (Below.refl _ _).drew.trans hbN0); have hON : OwnP Z.heap.size vN RA N := (by first | exact hON0 | exact ownP_base hON0 (by simp)); clear hON0 hbN0)))
        have hdz := hd.trans (hbz.mono hd.size)
        go_wp2_with fail
        go_ret
        refine ⟨_, rfl, ?_, hdz⟩
        rw [hR.out]
        exact ownP_base hT3 hd.size
end Go.Proofs.Ytlflfloopomaiaa
