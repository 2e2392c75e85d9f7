/- What the specification's CountAddrs and SameAddrs answer. -/
import Derived.Test.YtofalilkephkpaaS3b
namespace Go.Proofs.Ytofalilkephkpaa
open Go.RowKit

def sumP (L : List Pf) : Int := L.foldl (fun n p => n + pw p.2) 0
theorem sum_next {L : List Pf} {k : Nat} (h : k < L.length) : sumP (L.take (k + 1)) = sumP (L.take k) + pw (pAt L k).2 := by unfold sumP; rw [foldl_take _ _ h]
theorem sum_bd0 : ∀ (L : List Pf) (n : Int), (∀ p, p ∈ L → 0 ≤ p.2) → n ≤ L.foldl (fun n p => n + pw p.2) n ∧ L.foldl (fun n p => n + pw p.2) n ≤ n + L.length * 4294967296
  | [], n, _ => by simp
  | p :: L, n, h => by
    have h1 := pw_le p.2 (h p (by simp))
    have h2 := pw_pos p.2
    obtain ⟨i1, i2⟩ := sum_bd0 L (n + pw p.2) (fun q hq => h q (by simp [hq]))
    rw [List.foldl_cons, List.length_cons]
    omega
theorem same_next {U V : List Pf} {k : Nat} (h1 : k < U.length) (h2 : k < V.length) (h : U.take k = V.take k) (he : ((pAt U k).1 == (pAt V k).1 && (pAt U k).2 == (pAt V k).2) = true) : U.take (k + 1) = V.take (k + 1) := by
  rw [take_succ h1, take_succ h2, h]
  rw [Bool.and_eq_true, beq_iff_eq, beq_iff_eq] at he
  have e : pAt U k = pAt V k := Prod.ext he.1 he.2
  rw [e]
theorem same_no {U V : List Pf} {k : Nat} (he : ((pAt U k).1 == (pAt V k).1 && (pAt U k).2 == (pAt V k).2) = false) : decide (U = V) = false := by
  rw [decide_eq_false_iff_not]
  rintro rfl
  simp at he
theorem same_len {U V : List Pf} (h : ¬ U.length = V.length) : decide (U = V) = false := by
  rw [decide_eq_false_iff_not]
  rintro rfl
  exact h rfl

set_option maxRecDepth 100000 in
set_option maxHeartbeats 1600000 in
theorem s_countAddrs (a : Option Addr) (cap : Nat) (L : List Pf) (w : World) (hl : L.length ≤ 4294967295) (hR : RowP a L w) :
    Calls Try.prog 21 #[.slice a L.length cap] w fun e w' => e = .returned (.tuple #[.int .i64 (if goodL L then sumP (fewS L) else 0), .bool (goodL L)]) ∧ Below w.heap.size w w' := by
  have s1 := hide (fun w hR => s_l3Good a cap L w (by omega) hR)
  cases hg : goodL L with
  | false =>
    rw [hg] at s1
    go_enter Try.func21, Try.ntmps21
    go_wp2_with fail
    refine (s1.out _ hR).mono ?_
    rintro e w1 ⟨rfl, hb1⟩
    go_wp2_with fail
    refine bodyPost_ret (v := .tuple #[.int .i64 0, .bool false]) (by simp [results, Try.results21, go_sem]) rfl ⟨by simp, hb1⟩
  | true =>
    obtain ⟨g1, g2⟩ := goodL_parts hg
    rw [hg] at s1
    have hif : Hid ((if true = true then sumP (fewS L) else 0) = sumP (fewS L)) := if_pos rfl
    rw [hif.out]
    have s2 := hide (fun w hR => s_few a cap L w (by omega) hR g1)
    have hU := (fewS_good g1)
    have hUl : (fewS L).length ≤ 64 := Nat.le_trans hU.2.2 g2
    have gU := hU.1.gd
    clear hg hif hU
    generalize fewS L = U at *
    go_enter Try.func21, Try.ntmps21
    go_wp2_with fail
    refine (s1.out _ hR).mono ?_
    rintro e w1 ⟨rfl, hb1⟩
    go_wp2_with fail
    refine (s2.out _ (hR.below hb1)).mono ?_
    rintro e w2 ⟨v2, rfl, ho2, hb2⟩
    obtain ⟨ua, uc, rfl, hRU, _⟩ := ownP_row ho2
    have hbw := below_step hb1 hb2
    clear ho2 hb1 hb2 s1 s2 hR
    go_wp2_with fail
    go_loopw [4, 13] (fun n i wr => ∃ k : Nat, k ≤ U.length ∧ i = .int .i64 k ∧ n = .int .i64 (sumP (U.take k)) ∧ Below w2.heap.size w2 wr) (fun _ i _ => U.length - (intOf i).toNat)
    case atStart => exact ⟨0, Nat.zero_le _, rfl, rfl, Below.refl _ _⟩
    case round =>
      obtain ⟨k, hk, rfl, rfl, hb⟩ := hrel
      by_cases hlt : k < U.length
      · obtain ⟨b, off, rfl, hbw2, h0, h1⟩ := (hRU.below hb) k hlt
        have hlt' : (k : Int) < (U.length : Int) := by omega
        have gq := gdP_parts (gU _ (pAt_mem hlt))
        have s3 := hide (fun w => s_size (pAt U k).1 (pAt U k).2 w gq.1 gq.2.1)
        have hN := hide (sum_next hlt)
        have hbd := sum_bd0 (U.take k) 0 (fun p hp => (gdP_parts (gU p (List.mem_of_mem_take hp))).1)
        have hsm : Hid (sumP (U.take k) = (U.take k).foldl (fun n p => n + pw p.2) 0) := rfl
        rw [← hsm.out] at hbd
        clear hsm
        have hkl : (U.take k).length ≤ 64 := by rw [List.length_take]; omega
        have hpp := pw_le (pAt U k).2 gq.1
        have hpp1 := pw_pos (pAt U k).2
        clear hRU gU gq
        generalize (pAt U k).1 = qa at *
        generalize (pAt U k).2 = ql at *
        generalize sumP (U.take k) = n0 at *
        have wr1 : IntKind.i64.wrap (n0 + pw ql) = n0 + pw ql := wrapk_in _ (by omega)
        go_wp2_with fail
        refine (s3.out _).mono ?_
        rintro e w5 ⟨rfl, hb5⟩
        have hb6 := below_box hb5
        go_wp2_with fail
        exact ⟨⟨k + 1, by omega, by go_num, (by rw [hN.out]), hb.trans (hb6.mono hb.size)⟩, by simp [intOf]; omega⟩
      · have hk' : k = U.length := by omega
        subst hk'
        rw [List.take_length]
        clear hRU
        go_wp2_with fail
        exact bodyPost_ret (v := .tuple #[.int .i64 (sumP U), .bool true]) (by simp [results, Try.results21, go_sem]) rfl ⟨rfl, hbw.trans (hb.mono hbw.size)⟩

set_option maxRecDepth 100000 in
set_option maxHeartbeats 3200000 in
theorem s_sameAddrs_yes (a : Option Addr) (cap : Nat) (L : List Pf) (b0 : Option Addr) (capb : Nat) (M : List Pf) (w : World) (hR : RowP a L w) (hRM : RowP b0 M w) (hg : goodL L = true) (hgm : goodL M = true) :
    Calls Try.prog 17 #[.slice a L.length cap, .slice b0 M.length capb] w fun e w' => e = .returned (.tuple #[.bool (decide (fewS L = fewS M)), .bool true]) ∧ Below w.heap.size w w' := by
  obtain ⟨g1, g2⟩ := goodL_parts hg
  obtain ⟨m1, m2⟩ := goodL_parts hgm
  have s1 := hide (fun w hR => s_l3Good a cap L w (by omega) hR)
  have s2 := hide (fun w hR => s_l3Good b0 capb M w (by omega) hR)
  rw [hg] at s1
  rw [hgm] at s2
  have s3 := hide (fun w hR => s_few a cap L w (by omega) hR g1)
  have s4 := hide (fun w hR => s_few b0 capb M w (by omega) hR m1)
  have hUl : (fewS L).length ≤ 64 := Nat.le_trans (fewS_good g1).2.2 g2
  have hVl : (fewS M).length ≤ 64 := Nat.le_trans (fewS_good m1).2.2 m2
  have hne := neqPrefix_run
  have hgu := eqPrefix_guard
  clear hg hgm g1 m1
  generalize fewS L = U at *
  generalize fewS M = V at *
  go_enter Try.func17, Try.ntmps17
  go_wp2_with fail
  refine (s1.out _ hR).mono ?_
  rintro e w1 ⟨rfl, hb1⟩
  go_wp2_with fail
  refine (s2.out _ (hRM.below hb1)).mono ?_
  rintro e w2 ⟨rfl, hb2⟩
  have hb12 := below_step hb1 hb2
  clear hb1 hb2 s1 s2
  go_wp2_with fail
  refine (s3.out _ (hR.below hb12)).mono ?_
  rintro e w3 ⟨v3, rfl, ho3, hb3⟩
  have hb13 := below_step hb12 hb3
  clear hb12 hb3 s3
  go_wp2_with fail
  refine (s4.out _ (hRM.below hb13)).mono ?_
  rintro e w4 ⟨v4, rfl, ho4, hb4⟩
  have ho3 := ownP_below ho3 hb4
  have hbw := below_step hb13 hb4
  obtain ⟨ua, uc, rfl, hRU, _⟩ := ownP_row ho3
  obtain ⟨va, vc, rfl, hRV, _⟩ := ownP_row ho4
  clear hb4 hb13 s4 ho3 ho4 hR hRM
  by_cases hUV : U.length = V.length
  · have hUVi : ((U.length : Int) != (V.length : Int)) = false := by simp [hUV]
    have hUVh := hide hUV
    clear hUV
    go_wp2_with fail
    have hUV := hUVh.out
    go_loopw [28] (fun i wr => ∃ k : Nat, k ≤ U.length ∧ i = .int .i64 k ∧ Below w4.heap.size w4 wr ∧ Hid (U.take k = V.take k)) (fun i _ => U.length - (intOf i).toNat)
    case atStart => exact ⟨0, Nat.zero_le _, rfl, Below.refl _ _, hide rfl⟩
    case round =>
      obtain ⟨k, hk, rfl, hb, hE⟩ := hrel
      by_cases hlt : k < U.length
      · obtain ⟨b, off, rfl, hbw2, h0, h1⟩ := (hRU.below hb) k hlt
        obtain ⟨b', off', rfl, hbw3, i0, i1⟩ := (hRV.below hb) k (by omega)
        have h0 := cell_regrown h0
        have h1 := cell_regrown h1
        have i0 := cell_regrown i0
        have i1 := cell_regrown i1
        have hlt' : (k : Int) < (U.length : Int) := by omega
        have hlt'' : (k : Int) < (V.length : Int) := by omega
        have hNx := hide (same_next hlt (by omega) hE.out)
        have hNo := hide (same_no (U := U) (V := V) (k := k))
        clear hRU hRV hE
        generalize pAt U k = P at *
        generalize pAt V k = Q at *
        obtain ⟨pa, pl⟩ := P
        obtain ⟨qa, ql⟩ := Q
        dsimp only at *
        cases hv : (pa == qa && pl == ql) with
        | true =>
          have hN2 := hide (hNx.out hv)
          have hv' : (!(pa == qa && pl == ql)) = false := by rw [hv]; rfl
          clear hNx hNo
          go_wp2_with fail
          refine wp_region_quiet_below (by kernel_rfl) (by kernel_rfl) ?_
          repeat (first | go_big_quiet_step (fail) | quiet_step (fail))
          refine wpQuiet_nil ?_
          intro _ hw'
          obtain ⟨⟨dq, osq⟩, hw''⟩ := hw'
          subst hw''
          have hq := below_regrown wr dq osq
          generalize Go.Sort.grow (redrawn wr dq) osq = wq at hq ⊢
          have hb4 := hb.trans (hq.mono hb.size)
          clear h0 h1 i0 i1
          go_wp2_with fail
          exact ⟨⟨k + 1, by omega, by go_num, hb4, hN2⟩, by simp [intOf]; omega⟩
        | false =>
          have hN2 : Hid (decide (U = V) = false) := hide (hNo.out hv)
          have hv' : (!(pa == qa && pl == ql)) = true := by rw [hv]; rfl
          clear hNx hNo
          go_wp2_with fail
          refine wp_region_quiet_below (by kernel_rfl) (by kernel_rfl) ?_
          repeat (first | go_big_quiet_step (fail) | quiet_step (fail))
          refine wpQuiet_nil ?_
          intro _ hw'
          obtain ⟨⟨dq, osq⟩, hw''⟩ := hw'
          subst hw''
          have hq := below_regrown wr dq osq
          generalize Go.Sort.grow (redrawn wr dq) osq = wq at hq ⊢
          have hb4 := hb.trans (hq.mono hb.size)
          clear h0 h1 i0 i1
          go_wp2_with fail
          exact bodyPost_ret (v := .tuple #[.bool false, .bool true]) (by simp [results, Try.results17, go_sem]) rfl ⟨by rw [hN2.out], hbw.trans (hb4.mono hbw.size)⟩
      · have hk' : k = U.length := by omega
        subst hk'
        have hN2 : Hid (decide (U = V) = true) := by
          have := hE.out
          rw [List.take_length, hUV, List.take_length] at this
          exact decide_eq_true this
        clear hRU hRV hE
        go_wp2_with fail
        exact bodyPost_ret (v := .tuple #[.bool true, .bool true]) (by simp [results, Try.results17, go_sem]) rfl ⟨by rw [hN2.out], hbw.trans (hb.mono hbw.size)⟩
  · have hUVi : ((U.length : Int) != (V.length : Int)) = true := by simp; omega
    have hN2 := hide (same_len hUV)
    clear hUV hRU hRV
    go_wp2_with fail
    exact bodyPost_ret (v := .tuple #[.bool false, .bool true]) (by simp [results, Try.results17, go_sem]) rfl ⟨by rw [hN2.out], hbw⟩
set_option maxRecDepth 100000 in
set_option maxHeartbeats 800000 in
theorem s_sameAddrs_no (a : Option Addr) (cap : Nat) (L : List Pf) (b0 : Option Addr) (capb : Nat) (M : List Pf) (w : World) (hl : L.length ≤ 8589934592) (hlm : M.length ≤ 8589934592) (hR : RowP a L w) (hRM : RowP b0 M w) (h : goodL L = false ∨ goodL M = false) :
    Calls Try.prog 17 #[.slice a L.length cap, .slice b0 M.length capb] w fun e w' => e = .returned (.tuple #[.bool false, .bool false]) ∧ Below w.heap.size w w' := by
  have s1 := hide (fun w hR => s_l3Good a cap L w hl hR)
  have s2 := hide (fun w hR => s_l3Good b0 capb M w hlm hR)
  cases hg : goodL L with
  | false =>
    rw [hg] at s1
    clear h
    go_enter Try.func17, Try.ntmps17
    go_wp2_with fail
    refine (s1.out _ hR).mono ?_
    rintro e w1 ⟨rfl, hb1⟩
    go_wp2_with fail
    refine bodyPost_ret (v := .tuple #[.bool false, .bool false]) (by simp [results, Try.results17, go_sem]) rfl ⟨rfl, hb1⟩
  | true =>
    have hgm : goodL M = false := by rcases h with h | h; rw [hg] at h; simp at h; exact h
    rw [hg] at s1
    rw [hgm] at s2
    clear h hgm
    go_enter Try.func17, Try.ntmps17
    go_wp2_with fail
    refine (s1.out _ hR).mono ?_
    rintro e w1 ⟨rfl, hb1⟩
    go_wp2_with fail
    refine (s2.out _ (hRM.below hb1)).mono ?_
    rintro e w2 ⟨rfl, hb2⟩
    go_wp2_with fail
    refine bodyPost_ret (v := .tuple #[.bool false, .bool false]) (by simp [results, Try.results17, go_sem]) rfl ⟨rfl, below_step hb1 hb2⟩
end Go.Proofs.Ytofalilkephkpaa
