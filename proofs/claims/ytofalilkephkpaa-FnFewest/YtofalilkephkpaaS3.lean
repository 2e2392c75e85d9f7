/- What the specification's functions of chapter 3 answer: goodness, putting one to a good set, the fewest. -/
import Derived.Test.YtofalilkephkpaaMem3
import Derived.Test.YtofalilkephkpaaS1b
import Derived.Test.YtofalilkephkpaaS1c
namespace Go.Proofs.Ytofalilkephkpaa
open Go.RowKit

def allGood (L : List Pf) : Bool := L.all fun p => goodB p.1 p.2
def goodL (L : List Pf) : Bool := allGood L && decide (L.length ≤ 64)
theorem allGood_iff {L : List Pf} : allGood L = true ↔ ∀ p, p ∈ L → gdP p := by unfold allGood; rw [List.all_eq_true]; rfl
theorem allGood_take {L : List Pf} {k : Nat} (h : k < L.length) (h1 : allGood (L.take k) = true) : allGood (L.take (k + 1)) = goodB (pAt L k).1 (pAt L k).2 := by
  unfold allGood at *
  rw [take_succ h, List.all_append, h1]
  simp
theorem allGood_no {L : List Pf} {k : Nat} (h : k < L.length) (hb : goodB (pAt L k).1 (pAt L k).2 = false) : goodL L = false := by
  unfold goodL
  have : allGood L = false := by
    cases hc : allGood L with
    | false => rfl
    | true =>
      have := allGood_iff.1 hc _ (pAt_mem h)
      unfold gdP at this
      rw [hb] at this
      simp at this
  rw [this]
  rfl

set_option maxRecDepth 100000 in
set_option maxHeartbeats 800000 in
theorem s_l3Good (a : Option Addr) (cap : Nat) (L : List Pf) (w : World) (hl : L.length ≤ 8589934592) (hR : RowP a L w) :
    Calls Try.prog 92 #[.slice a L.length cap] w fun e w' => e = .returned (.bool (goodL L)) ∧ Below w.heap.size w w' := by
  go_enter Try.func92, Try.ntmps92
  go_wp2_with fail
  go_loopw [7] (fun i wr => ∃ k : Nat, k ≤ L.length ∧ i = .int .i64 k ∧ Below w.heap.size w wr ∧ Hid (allGood (L.take k) = true)) (fun i _ => L.length - (intOf i).toNat)
  case atStart => exact ⟨0, Nat.zero_le _, rfl, Below.refl _ _, hide rfl⟩
  case round =>
    obtain ⟨k, hk, rfl, hb, ha⟩ := hrel
    by_cases hlt : k < L.length
    · obtain ⟨b, off, rfl, hbw, h0, h1⟩ := (hR.below hb) k hlt
      have hlt' : (k : Int) < (L.length : Int) := by omega
      have hT := hide (allGood_take hlt ha.out)
      have hN := hide (allGood_no hlt)
      have s1 := hide (fun w => s_good (pAt L k).1 (pAt L k).2 w)
      clear hR
      generalize (pAt L k).1 = qa at *
      generalize (pAt L k).2 = ql at *
      cases hg : goodB qa ql with
      | true =>
        rw [hg] at s1
        have hT := hide (hT.out.trans hg)
        clear hg hN
        go_wp2_with fail
        refine (s1.out _).mono ?_
        rintro e w1 ⟨rfl, hb1⟩
        have hb' := hb.trans ((below_box hb1).mono hb.size)
        go_wp2_with fail
        exact ⟨⟨k + 1, by omega, by go_num, hb', hT⟩, by simp [intOf]; omega⟩
      | false =>
        rw [hg] at s1
        have hN := hide (hN.out hg)
        clear hg hT
        go_wp2_with fail
        refine (s1.out _).mono ?_
        rintro e w1 ⟨rfl, hb1⟩
        have hb' := hb.trans ((below_box hb1).mono hb.size)
        go_wp2_with fail
        go_ret
        exact ⟨ret_bool hN.out.symm, hb'⟩
    · have hk' : k = L.length := by omega
      subst hk'
      have hG : Hid (goodL L = decide (L.length ≤ 64)) := by
        have := ha.out
        rw [List.take_length] at this
        show _ = _
        unfold goodL
        rw [this]
        rfl
      clear hR ha
      go_wp2_with fail
      go_ret
      exact ⟨ret_bool (by rw [hG.out]; by_cases h : L.length ≤ 64 <;> simp [h] <;> omega), hb⟩
theorem putF_any {f : Nat} {L : List Pf} {p : Pf} (h : L.any (fun q => covP q p) = true) : putF (f + 1) L p = L := by rw [putF, if_pos h]
theorem putF_pair {f : Nat} {L : List Pf} {p : Pf} (h : L.any (fun q => covP q p) = false) (h2 : L.any (pairB p) = true) : putF (f + 1) L p = putF f (L.filter (keepB p)) (parP p) := by
  rw [putF, if_neg (by rw [h]; simp), if_pos h2]
theorem putF_ins {f : Nat} {L : List Pf} {p : Pf} (h : L.any (fun q => covP q p) = false) (h2 : L.any (pairB p) = false) : putF (f + 1) L p = insP (L.filter (keepB p)) p := by
  rw [putF, if_neg (by rw [h]; simp), if_neg (by rw [h2]; simp)]
theorem any_at {f : Pf → Bool} {L : List Pf} {k : Nat} (h : k < L.length) (hf : f (pAt L k) = true) : L.any f = true := List.any_eq_true.2 ⟨_, pAt_mem h, hf⟩
theorem any_next {f : Pf → Bool} {L : List Pf} {k : Nat} (h : k < L.length) (h1 : (L.take k).any f = false) (hf : f (pAt L k) = false) : (L.take (k + 1)).any f = false := by rw [any_take f h, h1, hf]; rfl
theorem keep_cov {p q : Pf} (h : covP p q = true) : keepB p q = false ∧ pairB p q = false := by unfold keepB pairB; rw [h]; exact ⟨rfl, rfl⟩
theorem keep_sib {p q : Pf} (h : covP p q = false) (h2 : isSib p q = true) : keepB p q = false ∧ pairB p q = true := by unfold keepB pairB; rw [h, h2]; exact ⟨rfl, rfl⟩
theorem keep_yes {p q : Pf} (h : covP p q = false) (h2 : isSib p q = false) : keepB p q = true ∧ pairB p q = false := by unfold keepB pairB; rw [h, h2]; exact ⟨rfl, rfl⟩
theorem filt_next {f : Pf → Bool} {L : List Pf} {k : Nat} (h : k < L.length) (hf : f (pAt L k) = false) : (L.take (k + 1)).filter f = (L.take k).filter f := by rw [filter_take f h, hf]; simp
theorem filt_put {f : Pf → Bool} {L : List Pf} {k : Nat} (h : k < L.length) (hf : f (pAt L k) = true) : (L.take (k + 1)).filter f = (L.take k).filter f ++ [pAt L k] := by rw [filter_take f h, hf]; simp

set_option maxRecDepth 100000 in
set_option maxHeartbeats 1600000 in
/-- One of them has it: the list is handed back. -/
theorem s_put_any (base : Nat) (v : Value) (L : List Pf) (p : Pf) (w : World) (hown : OwnP base v L w) (hg : ∀ q, q ∈ L → gdP q) (gp : gdP p) (hlen : L.length ≤ 8589934592) (hany : L.any (fun q => covP q p) = true) :
    Calls Try.prog 176 #[v, .agg #[.int .i64 p.1, .int .i64 p.2]] w fun e w' => e = .returned v ∧ Below w.heap.size w w' := by
  obtain ⟨a, cap, rfl, hR, _⟩ := ownP_row hown
  have hA := hide hany
  clear hown hany
  obtain ⟨_, _, hpa0, hpa1, _⟩ := gdP_parts gp
  go_enter Try.func176, Try.ntmps176
  go_wp2_with fail
  go_loopw [15] (fun i wr => ∃ k : Nat, k ≤ L.length ∧ i = .int .i64 k ∧ Below w.heap.size w wr ∧ Bk wr w.heap.size #[.int .i64 p.1, .int .i64 p.2] 34 ∧ Hid ((L.take k).any (fun q => covP q p) = false)) (fun i _ => L.length - (intOf i).toNat)
  case atStart => exact ⟨0, Nat.zero_le _, rfl, below_box (Below.refl _ _), Bk.new w _ _, hide rfl⟩
  case round =>
    obtain ⟨k, hk, rfl, hb, hB, hn⟩ := hrel
    by_cases hlt : k < L.length
    · obtain ⟨b, off, rfl, hbw, h0, h1⟩ := (hR.below hb) k hlt
      have hlt' : (k : Int) < (L.length : Int) := by omega
      have gq := gdP_parts (hg _ (pAt_mem hlt))
      have hT := hide (any_next (f := fun q => covP q p) hlt hn.out)
      have s1 : Hid (∀ w, Calls Try.prog 102 #[.agg #[.int .i64 (pAt L k).1, .int .i64 (pAt L k).2], .agg #[.int .i64 p.1, .int .i64 p.2]] w fun e w' => e = .returned (.bool (covP (pAt L k) p)) ∧ Below w.heap.size w w') :=
        hide (fun w => s_covers (pAt L k).1 (pAt L k).2 p.1 p.2 w gq.1 gq.2.1 hpa0 hpa1)
      clear hR hg gq
      have r0 := fun o => (old1 hB.lt o 0).trans (hB.cell 0)
      have r1 := fun o => (old1 hB.lt o 1).trans (hB.cell 1)
      simp only [List.getElem?_toArray, List.getElem?_cons_zero, List.getElem?_cons_succ] at r0 r1
      have n0 : ¬ w.heap.size = wr.heap.size := by have := hB.lt; omega
      generalize hc : covP (pAt L k) p = cv at *
      have hc := hide hc
      generalize (pAt L k).1 = qa at *
      generalize (pAt L k).2 = ql at *
      cases cv with
      | false =>
        have hT2 := hide (hT.out rfl)
        clear hT
        go_wp2_with fail
        refine (s1.out _).mono ?_
        rintro e w1 ⟨rfl, hb1⟩
        have hb2 := below_box hb1
        have hb' := hb.trans (hb2.mono hb.size)
        have hB' := hB.below hb2
        go_wp2_with fail
        exact ⟨⟨k + 1, by omega, by go_num, hb', hB', hT2⟩, by simp [intOf]; omega⟩
      | true =>
        clear hT
        go_wp2_with fail
        refine (s1.out _).mono ?_
        rintro e w1 ⟨rfl, hb1⟩
        have hb' := hb.trans ((below_box hb1).mono hb.size)
        go_wp2_with fail
        go_ret
        exact ⟨rfl, hb'⟩
    · exact absurd hA.out (by
        have hk' : k = L.length := by omega
        have := hn.out
        rw [hk', List.take_length] at this
        rw [this]
        simp)

theorem sib_run {p : Pf} (gp : gdP p) (h : 0 < p.2) (w : World) :
    Calls Try.prog 103 #[.agg #[.int .i64 p.1, .int .i64 p.2]] w fun e w' => e = .returned (.agg #[.int .i64 (sibP p).1, .int .i64 (sibP p).2]) ∧ Below w.heap.size w w' := by
  obtain ⟨_, h1, h2, h3, _⟩ := gdP_parts gp
  exact s_sibling1 p.1 p.2 w (by omega) h1 h2 h3
theorem par_run {p : Pf} (gp : gdP p) (h : 0 < p.2) (w : World) :
    Calls Try.prog 177 #[.agg #[.int .i64 p.1, .int .i64 p.2]] w fun e w' => e = .returned (.agg #[.int .i64 (parP p).1, .int .i64 (parP p).2]) ∧ Below w.heap.size w w' := by
  obtain ⟨_, h1, h2, h3, _⟩ := gdP_parts gp
  exact s_parent1 p.1 p.2 w (by omega) h1 h2 h3
theorem cov_run {p q : Pf} (gp : gdP p) (gq : gdP q) (w : World) :
    Calls Try.prog 102 #[.agg #[.int .i64 p.1, .int .i64 p.2], .agg #[.int .i64 q.1, .int .i64 q.2]] w fun e w' => e = .returned (.bool (covP p q)) ∧ Below w.heap.size w w' := by
  obtain ⟨h0, h1, _⟩ := gdP_parts gp
  obtain ⟨_, _, h2, h3, _⟩ := gdP_parts gq
  exact s_covers p.1 p.2 q.1 q.2 w h0 h1 h2 h3

set_option maxRecDepth 100000 in
set_option maxHeartbeats 6400000 in
/-- None of them has it: what it has is taken out, and it is put; or the whole is put, where the sibling is there. -/
theorem s_put_no (f : Nat) (base : Nat) (v : Value) (L : List Pf) (p : Pf) (w : World) (hb0 : base ≤ w.heap.size) (hown : OwnP base v L w) (hg : ∀ q, q ∈ L → gdP q) (gp : gdP p) (hlen : L.length ≤ 8589934592) (hany : L.any (fun q => covP q p) = false)
    (IH : Hid (∀ (base : Nat) (v : Value) (L : List Pf) (p : Pf) (w : World), base ≤ w.heap.size → OwnP base v L w → (∀ q, q ∈ L → gdP q) → gdP p → p.2 < f → L.length ≤ 8589934592 →
      Calls Try.prog 176 #[v, .agg #[.int .i64 p.1, .int .i64 p.2]] w fun e w' => ∃ v', e = .returned v' ∧ OwnP base v' (putF f L p) w' ∧ Below w.heap.size w w')) (hf : p.2 < (f : Int) + 1) :
    Calls Try.prog 176 #[v, .agg #[.int .i64 p.1, .int .i64 p.2]] w fun e w' => ∃ v', e = .returned v' ∧ OwnP base v' (putF (f + 1) L p) w' ∧ Below w.heap.size w w' := by
  obtain ⟨a, cap, rfl, hR, _⟩ := ownP_row hown
  have hA := hide hany
  have hP1 := hide (fun h => putF_pair (f := f) hany h)
  have hP2 := hide (fun h => putF_ins (f := f) hany h)
  clear hown hany
  have hp2 := (gdP_parts gp).1
  have he := eqPrefix_run
  have hgu := eqPrefix_guard
  go_enter Try.func176, Try.ntmps176
  go_wp2_with fail
  go_loopw [15] (fun i wr => ∃ k : Nat, k ≤ L.length ∧ i = .int .i64 k ∧ Below w.heap.size w wr ∧ Bk wr w.heap.size #[.int .i64 p.1, .int .i64 p.2] 34) (fun i _ => L.length - (intOf i).toNat)
  case atStart => exact ⟨0, Nat.zero_le _, rfl, below_box (Below.refl _ _), Bk.new w _ _⟩
  case round =>
    obtain ⟨k, hk, rfl, hb, hB⟩ := hrel
    by_cases hlt : k < L.length
    · obtain ⟨b, off, rfl, hbw, h0, h1⟩ := (hR.below hb) k hlt
      have hlt' : (k : Int) < (L.length : Int) := by omega
      have hc : covP (pAt L k) p = false := by
        cases hc : covP (pAt L k) p with
        | false => rfl
        | true => have := any_at (f := fun q => covP q p) hlt hc; rw [hA.out] at this; simp at this
      have s1 := hide (fun w => cov_run (hg _ (pAt_mem hlt)) gp w)
      rw [hc] at s1
      clear hR hg hc IH
      have r0 := fun o => (old1 hB.lt o 0).trans (hB.cell 0)
      have r1 := fun o => (old1 hB.lt o 1).trans (hB.cell 1)
      simp only [List.getElem?_toArray, List.getElem?_cons_zero, List.getElem?_cons_succ] at r0 r1
      have n0 : ¬ w.heap.size = wr.heap.size := by have := hB.lt; omega
      generalize (pAt L k).1 = qa at *
      generalize (pAt L k).2 = ql at *
      go_wp2_with fail
      refine (s1.out _).mono ?_
      rintro e w1 ⟨rfl, hb1⟩
      have hb2 := below_box hb1
      have hb' := hb.trans (hb2.mono hb.size)
      have hB' := hB.below hb2
      go_wp2_with fail
      exact ⟨⟨k + 1, by omega, by go_num, hb', hB'⟩, by simp [intOf]; omega⟩
    · have hk' : ¬ (k : Int) < (L.length : Int) := by omega
      have hR1 := hR.below hb
      clear hR
      generalize hw1 : wr = w1 at *
      clear hw1
      go_wp2_with fail
      go_loopw [7, 8, 26] (fun r pr i wr => ∃ k : Nat, k ≤ L.length ∧ i = .int .i64 k ∧ pr = .bool ((L.take k).any (pairB p)) ∧ OwnP w1.heap.size r ((L.take k).filter (keepB p)) wr ∧ Below w1.heap.size w1 wr) (fun _ _ i _ => L.length - (intOf i).toNat)
      case atStart => exact ⟨0, Nat.zero_le _, rfl, rfl, ownP_nil _ _, Below.refl _ _⟩
      case round =>
        obtain ⟨k, hk, rfl, rfl, hown, hbr⟩ := hrel
        have hBr := hB.base hbr hB.lt
        have hsr := hbr.size
        have hFl : ((L.take k).filter (keepB p)).length ≤ L.length := Nat.le_trans (List.length_filter_le _ _) (by rw [List.length_take]; omega)
        by_cases hlt : k < L.length
        · obtain ⟨b, off, rfl, hbw, h0, h1⟩ := (hR1.below hbr) k hlt
          have hlt' : (k : Int) < (L.length : Int) := by omega
          have gq := hg _ (pAt_mem hlt)
          have s1 := hide (fun w => cov_run gp gq w)
          have s2 := hide (fun h w => sib_run gp h w)
          have hF0 := hide (filt_next (f := keepB p) hlt)
          have hF1 := hide (filt_put (f := keepB p) hlt)
          have hPT := hide (any_take (pairB p) hlt)
          have kc := hide (keep_cov (p := p) (q := pAt L k))
          have ks := hide (keep_sib (p := p) (q := pAt L k))
          have ky := hide (keep_yes (p := p) (q := pAt L k))
          have hqe : Hid (pAt L k = ((pAt L k).1, (pAt L k).2)) := rfl
          have hsb : Hid (isSib p (pAt L k) = (decide (0 < p.2) && ((pAt L k).1 == (sibP p).1 && (pAt L k).2 == (sibP p).2))) := rfl
          have r0 := fun o => (old1 hBr.lt o 0).trans (hBr.cell 0)
          have r1 := fun o => (old1 hBr.lt o 1).trans (hBr.cell 1)
          simp only [List.getElem?_toArray, List.getElem?_cons_zero, List.getElem?_cons_succ] at r0 r1
          have n0 : ¬ w.heap.size = wr.heap.size := by have := hBr.lt; omega
          clear hP1 hP2 IH hR1 hg
          generalize hcv : covP p (pAt L k) = cv at *
          generalize hsq : isSib p (pAt L k) = sv at *
          clear hcv hsq
          generalize (L.take k).any (pairB p) = pv at *
          generalize (L.take k).filter (keepB p) = F at *
          generalize (pAt L k).1 = qa at *
          generalize (pAt L k).2 = ql at *
          generalize hsa : (sibP p).1 = sa at *
          generalize hsl : (sibP p).2 = sl at *
          clear hsa hsl
          cases cv with
          | true =>
            obtain ⟨e1, e2⟩ := kc.out rfl
            have hF := hide (hF0.out e1)
            have hPv := hPT.out
            rw [e2, Bool.or_false] at hPv
            have hPv := hide hPv
            clear ks ky kc hF0 hF1 hPT s2 e1 e2
            go_wp2_with fail
            refine (s1.out _).mono ?_
            rintro e w2 ⟨rfl, hb2⟩
            have hb2' := below_box hb2
            go_wp2_with fail
            exact ⟨⟨k + 1, by omega, by go_num, (by rw [hPv.out]), (by rw [hF.out]; exact ownP_below hown hb2'), hbr.trans (hb2'.mono hsr)⟩, by simp [intOf]; omega⟩
          | false =>
            clear kc
            by_cases hp0 : 0 < p.2
            · have s2 := hide (s2.out hp0)
              have hd0 : decide (0 < p.2) = true := by simpa using hp0
              cases hv : (qa == sa && ql == sl) with
              | true =>
                have hs := hsb.out
                rw [hd0, hv] at hs
                simp only [Bool.true_and] at hs
                obtain ⟨e1, e2⟩ := ks.out rfl hs
                have hF := hide (hF0.out e1)
                have hPv := hPT.out
                rw [e2, Bool.or_true] at hPv
                have hPv2 := hide hPv
                clear ky ks hF0 hF1 hPT e1 e2 hsb hs hPv
                go_wp2_with fail
                refine (s1.out _).mono ?_
                rintro e w2 ⟨rfl, hb2⟩
                have hb2' := below_box hb2
                have hBq : Bk w2 wr.heap.size #[.int .i64 qa, .int .i64 ql] 34 := (Bk.new wr _ _).below hb2
                have hBp := hBr.below hb2'
                have hO2 := ownP_below hown hb2'
                have hbr2 := hbr.trans (hb2'.mono hsr)
                have hs2 := hb2'.size
                have p0 := (hBp.cell 0).trans (show _ = some (.int .i64 p.1) from rfl)
                have p1 := (hBp.cell 1).trans (show _ = some (.int .i64 p.2) from rfl)
                have q0 := (hBq.cell 0).trans (show _ = some (.int .i64 qa) from rfl)
                have q1 := (hBq.cell 1).trans (show _ = some (.int .i64 ql) from rfl)
                have k0 := cell_regrown p0
                have k1 := cell_regrown p1
                have k2 := cell_regrown q0
                have k3 := cell_regrown q1
                clear hb2 hb2' hown r0 r1 h0 h1
                go_wp2_with fail
                refine wp_region_quiet_below (by kernel_rfl) (by kernel_rfl) ?_
                repeat (first | go_big_quiet_step (((go_at_call 103; exact Calls.regrown_of (s2.out _)))) | quiet_step (((go_at_call 103; exact Calls.regrown_of (s2.out _)))))
                refine wpQuiet_nil ?_
                intro _ hw'
                obtain ⟨⟨dq, osq⟩, hw''⟩ := hw'
                subst hw''
                have hq := below_regrown w2 dq osq
                generalize Go.Sort.grow (redrawn w2 dq) osq = wq at hq ⊢
                have hO3 := ownP_below hO2 hq
                have hbr3 := hbr2.trans (hq.mono (by omega))
                have hBq3 := hBq.below hq
                clear hO2 hbr2 hBq hBp p0 p1 q0 q1 k0 k1 k2 k3
                go_wp2_with fail
                exact ⟨⟨k + 1, by omega, by go_num, (by rw [hPv2.out]), (by rw [hF.out]; exact hO3), hbr3⟩, by simp [intOf]; omega⟩
              | false =>
                have hs := hsb.out
                rw [hd0, hv] at hs
                simp only [Bool.true_and] at hs
                obtain ⟨e1, e2⟩ := ky.out rfl hs
                have hF := hide (hF1.out e1)
                have hPv0 := hPT.out
                rw [e2, Bool.or_false] at hPv0
                have hPv := hide hPv0
                clear ky ks hF0 hF1 hPT e1 e2 hsb hs hPv0
                go_wp2_with fail
                refine (s1.out _).mono ?_
                rintro e w2 ⟨rfl, hb2⟩
                have hb2' := below_box hb2
                have hBq : Bk w2 wr.heap.size #[.int .i64 qa, .int .i64 ql] 34 := (Bk.new wr _ _).below hb2
                have hBp := hBr.below hb2'
                have hO2 := ownP_below hown hb2'
                have hbr2 := hbr.trans (hb2'.mono hsr)
                have hs2 := hb2'.size
                have p0 := (hBp.cell 0).trans (show _ = some (.int .i64 p.1) from rfl)
                have p1 := (hBp.cell 1).trans (show _ = some (.int .i64 p.2) from rfl)
                have q0 := (hBq.cell 0).trans (show _ = some (.int .i64 qa) from rfl)
                have q1 := (hBq.cell 1).trans (show _ = some (.int .i64 ql) from rfl)
                have k0 := cell_regrown p0
                have k1 := cell_regrown p1
                have k2 := cell_regrown q0
                have k3 := cell_regrown q1
                clear hb2 hb2' hown r0 r1 h0 h1
                go_wp2_with fail
                refine wp_region_quiet_below (by kernel_rfl) (by kernel_rfl) ?_
                repeat (first | go_big_quiet_step (((go_at_call 103; exact Calls.regrown_of (s2.out _)))) | quiet_step (((go_at_call 103; exact Calls.regrown_of (s2.out _)))))
                refine wpQuiet_nil ?_
                intro _ hw'
                obtain ⟨⟨dq, osq⟩, hw''⟩ := hw'
                subst hw''
                have hq := below_regrown w2 dq osq
                generalize Go.Sort.grow (redrawn w2 dq) osq = wq at hq ⊢
                have hO3 := ownP_below hO2 hq
                have hbr3 := hbr2.trans (hq.mono (by omega))
                have hBq3 := hBq.below hq
                clear hO2 hbr2 hBq hBp p0 p1 q0 q1 k0 k1 k2 k3
                have q0 := (hBq3.cell 0).trans (show _ = some (.int .i64 qa) from rfl)
                have q1 := (hBq3.cell 1).trans (show _ = some (.int .i64 ql) from rfl)
                have hs3 := hq.size
                go_wp2_with (first | (at_builtin; refine wpList_appP rfl _ _ rfl w1.heap.size _ F rfl (ownP_below hO3 (below_box (Below.refl _ _))) (some ⟨wq.heap.size, 0, none⟩) [(qa, ql)] 1 rfl ⟨RowP.one (by simp) (by simp) (by simp), .inr ⟨_, _, rfl⟩⟩ (by simp only [List.length_cons, List.length_nil]; omega) (by simp; omega) ?_))
                intro v' w5 hown' hbe _
                have hbe2 : Below w1.heap.size w1 w5 := (hbr3.trans ((below_box (Below.refl _ _)).mono (by omega))).trans hbe
                go_wp2_with fail
                exact ⟨⟨k + 1, by omega, by go_num, (by rw [hPv.out]), (by rw [hF.out, hqe.out]; exact hown'), hbe2⟩, by simp [intOf]; omega⟩
            · have hd0 : decide (0 < p.2) = false := by simpa using hp0
              have hs := hsb.out
              rw [hd0] at hs
              simp only [Bool.false_and] at hs
              obtain ⟨e1, e2⟩ := ky.out rfl hs
              have hF := hide (hF1.out e1)
              have hPv0 := hPT.out
              rw [e2, Bool.or_false] at hPv0
              have hPv := hide hPv0
              clear ky ks hF0 hF1 hPT e1 e2 hsb hs hPv0
              go_wp2_with fail
              refine (s1.out _).mono ?_
              rintro e w2 ⟨rfl, hb2⟩
              have hb2' := below_box hb2
              have hBq : Bk w2 wr.heap.size #[.int .i64 qa, .int .i64 ql] 34 := (Bk.new wr _ _).below hb2
              have hBp := hBr.below hb2'
              have hO2 := ownP_below hown hb2'
              have hbr2 := hbr.trans (hb2'.mono hsr)
              have hs2 := hb2'.size
              have p0 := (hBp.cell 0).trans (show _ = some (.int .i64 p.1) from rfl)
              have p1 := (hBp.cell 1).trans (show _ = some (.int .i64 p.2) from rfl)
              have q0 := (hBq.cell 0).trans (show _ = some (.int .i64 qa) from rfl)
              have q1 := (hBq.cell 1).trans (show _ = some (.int .i64 ql) from rfl)
              have k0 := cell_regrown p0
              have k1 := cell_regrown p1
              have k2 := cell_regrown q0
              have k3 := cell_regrown q1
              clear hb2 hb2' hown r0 r1 h0 h1
              go_wp2_with fail
              refine wp_region_quiet_below (by kernel_rfl) (by kernel_rfl) ?_
              repeat (first | go_big_quiet_step (fail) | quiet_step (fail))
              refine wpQuiet_nil ?_
              intro _ hw'
              obtain ⟨⟨dq, osq⟩, hw''⟩ := hw'
              subst hw''
              have hq := below_regrown w2 dq osq
              generalize Go.Sort.grow (redrawn w2 dq) osq = wq at hq ⊢
              have hO3 := ownP_below hO2 hq
              have hbr3 := hbr2.trans (hq.mono (by omega))
              have hBq3 := hBq.below hq
              clear hO2 hbr2 hBq hBp p0 p1 q0 q1 k0 k1 k2 k3
              have q0 := (hBq3.cell 0).trans (show _ = some (.int .i64 qa) from rfl)
              have q1 := (hBq3.cell 1).trans (show _ = some (.int .i64 ql) from rfl)
              have hs3 := hq.size
              go_wp2_with (first | (at_builtin; refine wpList_appP rfl _ _ rfl w1.heap.size _ F rfl (ownP_below hO3 (below_box (Below.refl _ _))) (some ⟨wq.heap.size, 0, none⟩) [(qa, ql)] 1 rfl ⟨RowP.one (by simp) (by simp) (by simp), .inr ⟨_, _, rfl⟩⟩ (by simp only [List.length_cons, List.length_nil]; omega) (by simp; omega) ?_))
              intro v' w5 hown' hbe _
              have hbe2 : Below w1.heap.size w1 w5 := (hbr3.trans ((below_box (Below.refl _ _)).mono (by omega))).trans hbe
              go_wp2_with fail
              exact ⟨⟨k + 1, by omega, by go_num, (by rw [hPv.out]), (by rw [hF.out, hqe.out]; exact hown'), hbe2⟩, by simp [intOf]; omega⟩
        · have hk2 : k = L.length := by omega
          subst hk2
          rw [List.take_length] at hown hFl ⊢
          have gF : ∀ q, q ∈ L.filter (keepB p) → gdP q := fun q hq => hg q (List.mem_filter.1 hq).1
          have hpp : L.any (pairB p) = true → 0 < p.2 := by
            intro h
            obtain ⟨q, _, hq⟩ := List.any_eq_true.1 h
            unfold pairB at hq
            rw [Bool.and_eq_true, isSib_iff] at hq
            exact hq.2.1
          have hlt0 : ¬ ((L.length : Int) < (L.length : Int)) := by omega
          clear hg hR1 hA
          generalize hw2 : wr = w2 at *
          clear hw2
          generalize hpv : L.any (pairB p) = pv at *
          clear hpv
          have hP1' := hP1
          have hP2' := hP2
          generalize hF : L.filter (keepB p) = F at *
          clear hF hP1 hP2
          have p0 := (hBr.cell 0).trans (show _ = some (.int .i64 p.1) from rfl)
          have p1 := (hBr.cell 1).trans (show _ = some (.int .i64 p.2) from rfl)
          have hb12 := hb.trans (hbr.mono hb.size)
          cases pv with
          | true =>
            have hp0 := hpp rfl
            have s3 := hide (fun w => par_run gp hp0 w)
            have gpar := (par_of gp (by omega)).1
            have hpl : (parP p).2 = p.2 - 1 := rfl
            have IH2 := hide (fun v w hb ho => IH.out w1.heap.size v F (parP p) w hb ho gF gpar (by omega) (by omega))
            have hfin := hide (hP1'.out rfl)
            clear hP1' hP2' IH gF hpl gpar
            go_wp2_with fail
            refine (s3.out _).mono ?_
            rintro e w3 ⟨rfl, hb3⟩
            go_wp2_with fail
            refine (IH2.out _ _ (by have := hb3.size; omega) (ownP_below hown hb3)).mono ?_
            rintro e w4 ⟨v4, rfl, ho4, hb4⟩
            have hbz := hb12.trans ((below_step hb3 hb4).mono hb12.size)
            go_wp2_with fail
            go_ret
            refine ⟨_, rfl, ?_, hbz⟩
            rw [hfin.out]
            exact ownP_base ho4 (Nat.le_trans hb0 hb.size)
          | false =>
            have hfin := hide (hP2'.out rfl)
            clear hP1' hP2' IH hpp
            obtain ⟨ra, rc, rfl, hRF, hsh⟩ := ownP_row hown
            have hcl := cntP_le p F
            rcases hsh with ⟨rfl, rfl, rfl⟩ | ⟨g, rfl, hg1, hg2, hg3, _⟩
            · clear hcl hRF gF
              simp only [List.length_nil] at *
              go_wp2_with fail
              go_loopw [11] (fun i wr => i = .int .i64 0 ∧ Below w2.heap.size w2 wr) (fun _ _ => 0)
              case atStart => exact ⟨rfl, Below.refl _ _⟩
              case round =>
                obtain ⟨rfl, hb3⟩ := hrel
                have p0' := (hb3.cell (p := ⟨w.heap.size, 0, none⟩) hBr.lt).trans p0
                have p1' := (hb3.cell (p := ⟨w.heap.size, 1, none⟩) hBr.lt).trans p1
                have k0 := cell_regrown p0'
                have k1 := cell_regrown p1'
                go_wp2_with fail
                refine wp_region_quiet_below (by kernel_rfl) (by kernel_rfl) ?_
                repeat (first | go_big_quiet_step (fail) | quiet_step (fail))
                refine wpQuiet_nil ?_
                intro _ hw'
                obtain ⟨⟨dq, osq⟩, hw''⟩ := hw'
                subst hw''
                have hq := below_regrown wr dq osq
                generalize Go.Sort.grow (redrawn wr dq) osq = wq at hq ⊢
                have hb4 := hb3.trans (hq.mono hb3.size)
                have hs4 := hb4.size
                clear k0 k1
                have P0 := (hb4.cell (p := ⟨w.heap.size, 0, none⟩) hBr.lt).trans p0
                have P1 := (hb4.cell (p := ⟨w.heap.size, 1, none⟩) hBr.lt).trans p1
                clear p0 p1 p0' p1'
                go_wp2_with (first | (at_builtin; refine wpList_appP rfl _ _ rfl wq.heap.size _ [] rfl (ownP_nil _ _) none [] 0 rfl ⟨RowP.nil _ _, .inl ⟨rfl, rfl, rfl⟩⟩ (by decide) (Nat.le_refl _) ?_))
                intro v5 w5 ho5 hb5 _
                have ho5 : OwnP wq.heap.size v5 [] w5 := ho5
                have P0 := (hb5.cell (p := ⟨w.heap.size, 0, none⟩) (Nat.lt_of_lt_of_le hBr.lt hs4)).trans P0
                have P1 := (hb5.cell (p := ⟨w.heap.size, 1, none⟩) (Nat.lt_of_lt_of_le hBr.lt hs4)).trans P1
                have hs5 := hb5.size
                go_wp2_with (first | (at_builtin; refine wpList_appP rfl _ _ rfl wq.heap.size v5 [] rfl (ownP_below ho5 (below_box (Below.refl _ _))) (some ⟨w5.heap.size, 0, none⟩) [p] 1 rfl ⟨RowP.one (by simp) (by simp) (by simp), .inr ⟨_, _, rfl⟩⟩ (by simp) (by simp; omega) ?_))
                intro v6 w6 ho6 hb6 _
                have hb56 : Below wq.heap.size wq w6 := (hb5.trans ((below_box (Below.refl _ _)).mono hs5)).trans hb6
                have hs6 := hb56.size
                clear hb5 hb6 ho5 P0 P1
                go_wp2_with (first | (at_builtin; refine wpList_appP rfl _ _ rfl wq.heap.size v6 ([] ++ [p]) rfl ho6 none [] 0 rfl ⟨RowP.nil _ _, .inl ⟨rfl, rfl, rfl⟩⟩ (by simp only [List.nil_append, List.length_cons, List.length_nil]; omega) hs6 ?_))
                intro v7 w7 ho7 hb7 _
                have hbz := hb12.trans ((hb4.trans ((hb56.trans hb7).mono hs4)).mono hb12.size)
                go_wp2_with fail
                go_ret
                refine ⟨_, rfl, ?_, hbz⟩
                rw [hfin.out]
                exact ownP_base (by simpa [insP, cntP] using ho7) (by have := hb12.size; omega)
            · go_wp2_with fail
              go_loopw [11] (fun i wr => ∃ k : Nat, k ≤ cntP p F ∧ i = .int .i64 k ∧ Below w2.heap.size w2 wr) (fun i _ => F.length - (intOf i).toNat)
              case atStart => exact ⟨0, Nat.zero_le _, rfl, Below.refl _ _⟩
              case round =>
                obtain ⟨k, hkc, rfl, hb3⟩ := hrel
                have p0' := (hb3.cell (p := ⟨w.heap.size, 0, none⟩) hBr.lt).trans p0
                have p1' := (hb3.cell (p := ⟨w.heap.size, 1, none⟩) hBr.lt).trans p1
                by_cases hlt3 : k < F.length
                · have hlt3' : (k : Int) < (F.length : Int) := by omega
                  obtain ⟨b, off, hbo, hbw, h0, h1⟩ := (hRF.below hb3) k hlt3
                  simp only [Option.some.injEq, Addr.mk.injEq, and_true] at hbo
                  obtain ⟨rfl, rfl⟩ := hbo
                  simp only [Nat.zero_add] at h0 h1
                  have k2 := cell_regrown h0
                  have k3 := cell_regrown h1
                  have hca := cntP_at p F (0, 0) hkc hlt3
                  have s5 := hide (fun w => s_compare1 (pAt F k).1 (pAt F k).2 p.1 p.2 w)
                  by_cases hc : cmpP (pAt F k).1 (pAt F k).2 p.1 p.2 < 0
                  · have hkc2 : k < cntP p F := hca.1 (show ltP (pAt F k) p = true from decide_eq_true hc)
                    have hcd : decide (cmpP (pAt F k).1 (pAt F k).2 p.1 p.2 < 0) = true := by simpa using hc
                    clear hca hRF
                    generalize cmpP (pAt F k).1 (pAt F k).2 p.1 p.2 = r at *
                    generalize (pAt F k).1 = qa at *
                    generalize (pAt F k).2 = ql at *
                    have k0 := cell_regrown p0'
                    have k1 := cell_regrown p1'
                    go_wp2_with fail
                    refine wp_region_quiet_below (by kernel_rfl) (by kernel_rfl) ?_
                    repeat (first | go_big_quiet_step (((go_at_call 104; exact Calls.regrown_of (s5.out _)))) | quiet_step (((go_at_call 104; exact Calls.regrown_of (s5.out _)))))
                    refine wpQuiet_nil ?_
                    intro _ hw'
                    obtain ⟨⟨dq, osq⟩, hw''⟩ := hw'
                    subst hw''
                    have hq := below_regrown wr dq osq
                    generalize Go.Sort.grow (redrawn wr dq) osq = wq at hq ⊢
                    have hb4 := hb3.trans (hq.mono hb3.size)
                    have hs4 := hb4.size
                    clear k0 k1 k2 k3
                    go_wp2_with fail
                    exact ⟨⟨k + 1, by omega, by go_num, hb4⟩, by simp [intOf]; omega⟩
                  · have hkc2 : Hid (k = cntP p F) := by
                      show k = cntP p F
                      have : ¬ k < cntP p F := fun h => hc (of_decide_eq_true (show ltP (pAt F k) p = true from hca.2 h))
                      omega
                    have hcd : decide (cmpP (pAt F k).1 (pAt F k).2 p.1 p.2 < 0) = false := by simpa using hc
                    clear hca
                    generalize cmpP (pAt F k).1 (pAt F k).2 p.1 p.2 = r at *
                    generalize (pAt F k).1 = qa at *
                    generalize (pAt F k).2 = ql at *
                    have k0 := cell_regrown p0'
                    have k1 := cell_regrown p1'
                    go_wp2_with fail
                    refine wp_region_quiet_below (by kernel_rfl) (by kernel_rfl) ?_
                    repeat (first | go_big_quiet_step (((go_at_call 104; exact Calls.regrown_of (s5.out _)))) | quiet_step (((go_at_call 104; exact Calls.regrown_of (s5.out _)))))
                    refine wpQuiet_nil ?_
                    intro _ hw'
                    obtain ⟨⟨dq, osq⟩, hw''⟩ := hw'
                    subst hw''
                    have hq := below_regrown wr dq osq
                    generalize Go.Sort.grow (redrawn wr dq) osq = wq at hq ⊢
                    have hb4 := hb3.trans (hq.mono hb3.size)
                    have hs4 := hb4.size
                    clear k0 k1 k2 k3
                    have P0 := (hb4.cell (p := ⟨w.heap.size, 0, none⟩) hBr.lt).trans p0
                    have P1 := (hb4.cell (p := ⟨w.heap.size, 1, none⟩) hBr.lt).trans p1
                    have hRq := hRF.below hb4
                    have hTk : (F.take k).length = k := by rw [List.length_take]; omega
                    have hDk : (F.drop k).length = F.length - k := List.length_drop
                    have hkr : (k : Int) ≤ (rc : Int) := by omega
                    have hkF : (k : Int) ≤ (F.length : Int) := by omega
                    clear p0 p1 p0' p1' hRF h0 h1 hlt3 hlt3'
                    go_wp2_with (first | (at_builtin; refine wpList_appP rfl _ _ rfl wq.heap.size _ [] rfl (ownP_nil _ _) (some ⟨g, 0, none⟩) (F.take k) rc (by rw [hTk]; rfl) ⟨hRq.take k, .inr ⟨_, _, rfl⟩⟩ (by rw [hTk, List.length_nil]; omega) (Nat.le_refl _) ?_))
                    intro v5 w5 ho5 hb5 _
                    have ho5 : OwnP wq.heap.size v5 (F.take k) w5 := ho5
                    have P0 := (hb5.cell (p := ⟨w.heap.size, 0, none⟩) (Nat.lt_of_lt_of_le hBr.lt hs4)).trans P0
                    have P1 := (hb5.cell (p := ⟨w.heap.size, 1, none⟩) (Nat.lt_of_lt_of_le hBr.lt hs4)).trans P1
                    have hs5 := hb5.size
                    go_wp2_with (first | (at_builtin; refine wpList_appP rfl _ _ rfl wq.heap.size v5 (F.take k) rfl (ownP_below ho5 (below_box (Below.refl _ _))) (some ⟨w5.heap.size, 0, none⟩) [p] 1 rfl ⟨RowP.one (by simp) (by simp) (by simp), .inr ⟨_, _, rfl⟩⟩ (by rw [hTk, List.length_cons, List.length_nil]; omega) (by simp; omega) ?_))
                    intro v6 w6 ho6 hb6 _
                    have hb56 : Below wq.heap.size wq w6 := (hb5.trans ((below_box (Below.refl _ _)).mono hs5)).trans hb6
                    have hs6 := hb56.size
                    clear hb5 hb6 ho5 P0 P1
                    have hR6 := hRq.base (base := wq.heap.size) (by intro b' off' e; simp at e; omega) hb56
                    by_cases hrk : rc = k
                    · have hD0 : F.drop k = [] := List.eq_nil_of_length_eq_zero (by rw [hDk]; omega)
                      go_wp2_with (first | (at_builtin; refine wpList_appP rfl _ _ rfl wq.heap.size v6 (F.take k ++ [p]) rfl ho6 (some ⟨g, 0, none⟩) (F.drop k) 0 (by rw [hDk]; rfl) ⟨by rw [hD0]; exact RowP.nil _ _, .inr ⟨_, _, rfl⟩⟩ (by rw [hDk, List.length_append, hTk, List.length_cons, List.length_nil]; omega) hs6 ?_))
                      intro v7 w7 ho7 hb7 _
                      have ho8 : Hid (OwnP wq.heap.size v7 (F.take k ++ (p :: F.drop k)) w7) := hide (by first | exact ho7 | (rw [hD0]; exact ho7) | (rw [List.append_assoc] at ho7; exact ho7))
                      have hbz := hb12.trans ((hb4.trans ((hb56.trans hb7).mono hs4)).mono hb12.size)
                      go_wp2_with fail
                      go_ret
                      refine ⟨_, rfl, ?_, hbz⟩
                      rw [hfin.out]
                      unfold insP
                      rw [← hkc2.out]
                      exact ownP_base ho8.out (by have := hb12.size; omega)
                    · have hR6d := hR6.drop k
                      simp only [Nat.zero_add] at hR6d
                      go_wp2_with (first | (at_builtin; refine wpList_appP rfl _ _ rfl wq.heap.size v6 (F.take k ++ [p]) rfl ho6 (some ⟨g, k * 2, none⟩) (F.drop k) (rc - k) (by first | (rw [hDk]; rfl) | (rw [hDk]; simp [hrk])) ⟨hR6d, .inr ⟨_, _, rfl⟩⟩ (by rw [hDk, List.length_append, hTk, List.length_cons, List.length_nil]; omega) hs6 ?_))
                      intro v7 w7 ho7 hb7 _
                      have ho8 : Hid (OwnP wq.heap.size v7 (F.take k ++ (p :: F.drop k)) w7) := hide (by first | exact ho7 | (rw [hD0]; exact ho7) | (rw [List.append_assoc] at ho7; exact ho7))
                      have hbz := hb12.trans ((hb4.trans ((hb56.trans hb7).mono hs4)).mono hb12.size)
                      go_wp2_with fail
                      go_ret
                      refine ⟨_, rfl, ?_, hbz⟩
                      rw [hfin.out]
                      unfold insP
                      rw [← hkc2.out]
                      exact ownP_base ho8.out (by have := hb12.size; omega)
                · have hkc2 : Hid (k = cntP p F) := by show k = cntP p F; omega
                  have hlt3' : decide ((k : Int) < (F.length : Int)) = false := by simp; omega
                  have k0 := cell_regrown p0'
                  have k1 := cell_regrown p1'
                  go_wp2_with fail
                  refine wp_region_quiet_below (by kernel_rfl) (by kernel_rfl) ?_
                  repeat (first | go_big_quiet_step (fail) | quiet_step (fail))
                  refine wpQuiet_nil ?_
                  intro _ hw'
                  obtain ⟨⟨dq, osq⟩, hw''⟩ := hw'
                  subst hw''
                  have hq := below_regrown wr dq osq
                  generalize Go.Sort.grow (redrawn wr dq) osq = wq at hq ⊢
                  have hb4 := hb3.trans (hq.mono hb3.size)
                  have hs4 := hb4.size
                  clear k0 k1
                  have P0 := (hb4.cell (p := ⟨w.heap.size, 0, none⟩) hBr.lt).trans p0
                  have P1 := (hb4.cell (p := ⟨w.heap.size, 1, none⟩) hBr.lt).trans p1
                  have hRq := hRF.below hb4
                  have hTk : (F.take k).length = k := by rw [List.length_take]; omega
                  have hDk : (F.drop k).length = F.length - k := List.length_drop
                  have hkr : (k : Int) ≤ (rc : Int) := by omega
                  have hkF : (k : Int) ≤ (F.length : Int) := by omega
                  clear p0 p1 p0' p1' hRF hlt3'
                  go_wp2_with (first | (at_builtin; refine wpList_appP rfl _ _ rfl wq.heap.size _ [] rfl (ownP_nil _ _) (some ⟨g, 0, none⟩) (F.take k) rc (by rw [hTk]; rfl) ⟨hRq.take k, .inr ⟨_, _, rfl⟩⟩ (by rw [hTk, List.length_nil]; omega) (Nat.le_refl _) ?_))
                  intro v5 w5 ho5 hb5 _
                  have ho5 : OwnP wq.heap.size v5 (F.take k) w5 := ho5
                  have P0 := (hb5.cell (p := ⟨w.heap.size, 0, none⟩) (Nat.lt_of_lt_of_le hBr.lt hs4)).trans P0
                  have P1 := (hb5.cell (p := ⟨w.heap.size, 1, none⟩) (Nat.lt_of_lt_of_le hBr.lt hs4)).trans P1
                  have hs5 := hb5.size
                  go_wp2_with (first | (at_builtin; refine wpList_appP rfl _ _ rfl wq.heap.size v5 (F.take k) rfl (ownP_below ho5 (below_box (Below.refl _ _))) (some ⟨w5.heap.size, 0, none⟩) [p] 1 rfl ⟨RowP.one (by simp) (by simp) (by simp), .inr ⟨_, _, rfl⟩⟩ (by rw [hTk, List.length_cons, List.length_nil]; omega) (by simp; omega) ?_))
                  intro v6 w6 ho6 hb6 _
                  have hb56 : Below wq.heap.size wq w6 := (hb5.trans ((below_box (Below.refl _ _)).mono hs5)).trans hb6
                  have hs6 := hb56.size
                  clear hb5 hb6 ho5 P0 P1
                  have hR6 := hRq.base (base := wq.heap.size) (by intro b' off' e; simp at e; omega) hb56
                  by_cases hrk : rc = k
                  · have hD0 : F.drop k = [] := List.eq_nil_of_length_eq_zero (by rw [hDk]; omega)
                    go_wp2_with (first | (at_builtin; refine wpList_appP rfl _ _ rfl wq.heap.size v6 (F.take k ++ [p]) rfl ho6 (some ⟨g, 0, none⟩) (F.drop k) 0 (by rw [hDk]; rfl) ⟨by rw [hD0]; exact RowP.nil _ _, .inr ⟨_, _, rfl⟩⟩ (by rw [hDk, List.length_append, hTk, List.length_cons, List.length_nil]; omega) hs6 ?_))
                    intro v7 w7 ho7 hb7 _
                    have ho8 : Hid (OwnP wq.heap.size v7 (F.take k ++ (p :: F.drop k)) w7) := hide (by first | exact ho7 | (rw [hD0]; exact ho7) | (rw [List.append_assoc] at ho7; exact ho7))
                    have hbz := hb12.trans ((hb4.trans ((hb56.trans hb7).mono hs4)).mono hb12.size)
                    go_wp2_with fail
                    go_ret
                    refine ⟨_, rfl, ?_, hbz⟩
                    rw [hfin.out]
                    unfold insP
                    rw [← hkc2.out]
                    exact ownP_base ho8.out (by have := hb12.size; omega)
                  · have hR6d := hR6.drop k
                    simp only [Nat.zero_add] at hR6d
                    go_wp2_with (first | (at_builtin; refine wpList_appP rfl _ _ rfl wq.heap.size v6 (F.take k ++ [p]) rfl ho6 (some ⟨g, k * 2, none⟩) (F.drop k) (rc - k) (by first | (rw [hDk]; rfl) | (rw [hDk]; simp [hrk])) ⟨hR6d, .inr ⟨_, _, rfl⟩⟩ (by rw [hDk, List.length_append, hTk, List.length_cons, List.length_nil]; omega) hs6 ?_))
                    intro v7 w7 ho7 hb7 _
                    have ho8 : Hid (OwnP wq.heap.size v7 (F.take k ++ (p :: F.drop k)) w7) := hide (by first | exact ho7 | (rw [hD0]; exact ho7) | (rw [List.append_assoc] at ho7; exact ho7))
                    have hbz := hb12.trans ((hb4.trans ((hb56.trans hb7).mono hs4)).mono hb12.size)
                    go_wp2_with fail
                    go_ret
                    refine ⟨_, rfl, ?_, hbz⟩
                    rw [hfin.out]
                    unfold insP
                    rw [← hkc2.out]
                    exact ownP_base ho8.out (by have := hb12.size; omega)
end Go.Proofs.Ytofalilkephkpaa
