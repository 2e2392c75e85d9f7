/- What the program's CountAddrs, SameAddrs and GoodSet, and slices.Equal, answer. -/
import Derived.Test.YtofalilkephkpaaI3g
import Derived.Test.YtofalilkephkpaaS3e
import Derived.Test.YtofalilkephkpaaPlain3e
namespace Go.Proofs.Ytofalilkephkpaa
open Go.RowKit

set_option maxRecDepth 100000 in
set_option maxHeartbeats 1600000 in
theorem i_countAddrs (a : Option Addr) (cap : Nat) (L : List Pf) (w : World) (hl : L.length ≤ 4294967295) (hR : SrcP a L cap w) :
    Calls Try.prog 20 #[.slice a L.length cap] w fun e w' => e = .returned (.tuple #[.int .i64 (if goodL L then sumP (fewS L) else 0), .bool (goodL L)]) ∧ Below w.heap.size w w' := by
  have s1 := hide (fun w hR => i_are a cap L w (by omega) hR)
  cases hg : goodL L with
  | false =>
    rw [hg] at s1
    go_enter Try.func20, Try.ntmps20
    go_wp2_with fail
    refine (s1.out _ hR.1).mono ?_
    rintro e w1 ⟨rfl, hb1⟩
    go_wp2_with fail
    refine bodyPost_ret (v := .tuple #[.int .i64 0, .bool false]) (by simp [results, Try.results20, go_sem]) rfl ⟨by simp, hb1⟩
  | true =>
    obtain ⟨g1, g2⟩ := goodL_parts hg
    rw [hg] at s1
    have hif : Hid ((if true = true then sumP (fewS L) else 0) = sumP (fewS L)) := if_pos rfl
    rw [hif.out]
    have s2 := hide (fun w hR => i_few a cap L w (by omega) hR g1)
    have hU := (fewS_good g1)
    have hUl : (fewS L).length ≤ 64 := Nat.le_trans hU.2.2 g2
    have gU := hU.1.gd
    clear hg hif hU
    generalize fewS L = U at *
    go_enter Try.func20, Try.ntmps20
    go_wp2_with fail
    refine (s1.out _ hR.1).mono ?_
    rintro e w1 ⟨rfl, hb1⟩
    go_wp2_with fail
    refine (s2.out _ ⟨hR.1.below hb1, hR.2⟩).mono ?_
    rintro e w2 ⟨v2, rfl, ho2, hb2⟩
    obtain ⟨ua, uc, rfl, hRU, _⟩ := ownP_row ho2
    have hbw := below_step hb1 hb2
    clear ho2 hb1 hb2 s1 s2 hR
    go_wp2_with fail
    go_loopw [4, 13] (fun n i wr => ∃ k : Nat, k ≤ U.length ∧ i = .int .i64 k ∧ n = .int .i64 (sumP (U.take k)) ∧ Below w2.heap.size w2 wr) (fun _ i _ => U.length - (intOf i).toNat)
    case atStart => exact ⟨0, Nat.zero_le _, rfl, rfl, Below.refl _ _⟩
    case round =>
      obtain ⟨k, hk, rfl, rfl, hb⟩ := hrel
      by_cases hlt : k < U.length
      · obtain ⟨b, off, rfl, hbw2, h0, h1⟩ := (hRU.below hb) k hlt
        have hlt' : (k : Int) < (U.length : Int) := by omega
        have gq := gdP_parts (gU _ (pAt_mem hlt))
        have s3 := hide (fun w => i_sizeOf (pAt U k).2 w gq.1 gq.2.1)
        have hN := hide (sum_next hlt)
        have hbd := sum_bd0 (U.take k) 0 (fun p hp => (gdP_parts (gU p (List.mem_of_mem_take hp))).1)
        have hsm : Hid (sumP (U.take k) = (U.take k).foldl (fun n p => n + pw p.2) 0) := rfl
        rw [← hsm.out] at hbd
        clear hsm
        have hkl : (U.take k).length ≤ 64 := by rw [List.length_take]; omega
        have hpp := pw_le (pAt U k).2 gq.1
        have hpp1 := pw_pos (pAt U k).2
        clear hRU gU gq
        generalize (pAt U k).1 = qa at *
        generalize (pAt U k).2 = ql at *
        generalize sumP (U.take k) = n0 at *
        have wr1 : IntKind.i64.wrap (n0 + pw ql) = n0 + pw ql := wrapk_in _ (by omega)
        go_wp2_with fail
        refine (s3.out _).mono ?_
        rintro e w5 ⟨rfl, rfl⟩
        have hb6 : Below wr.heap.size wr _ := below_box (Below.refl (wr.alloc (.cells #[.int .i64 qa, .int .i64 ql] 34)).heap.size _)
        go_wp2_with fail
        exact ⟨⟨k + 1, by omega, by go_num, (by rw [hN.out]), hb.trans (hb6.mono hb.size)⟩, by simp [intOf]; omega⟩
      · have hk' : k = U.length := by omega
        subst hk'
        rw [List.take_length]
        clear hRU
        go_wp2_with fail
        exact bodyPost_ret (v := .tuple #[.int .i64 (sumP U), .bool true]) (by simp [results, Try.results20, go_sem]) rfl ⟨rfl, hbw.trans (hb.mono hbw.size)⟩

set_option maxRecDepth 100000 in
set_option maxHeartbeats 3200000 in
theorem i_equal (ua : Option Addr) (uc : Nat) (U : List Pf) (va : Option Addr) (vc : Nat) (V : List Pf) (w : World) (hUl : U.length ≤ 4294967296) (hRU : RowP ua U w) (hRV : RowP va V w) :
    Calls Try.prog 90 #[.slice ua U.length uc, .slice va V.length vc] w fun e w' => e = .returned (.bool (decide (U = V))) ∧ Below w.heap.size w w' := by
  have hne := neqPrefix_run
  have hgu := eqPrefix_guard
  by_cases hUV : U.length = V.length
  · have hUVi : ((U.length : Int) != (V.length : Int)) = false := by simp [hUV]
    have hUVh := hide hUV
    clear hUV
    go_enter Try.func90, Try.ntmps90
    go_wp2_with fail
    have hUV := hUVh.out
    go_loopw [13] (fun i wr => ∃ k : Nat, k ≤ U.length ∧ i = .int .i64 k ∧ Below w.heap.size w wr ∧ Hid (U.take k = V.take k)) (fun i _ => U.length - (intOf i).toNat)
    case atStart => exact ⟨0, Nat.zero_le _, rfl, Below.refl _ _, hide rfl⟩
    case round =>
      obtain ⟨k, hk, rfl, hb, hE⟩ := hrel
      by_cases hlt : k < U.length
      · obtain ⟨b, off, rfl, hbw2, h0, h1⟩ := (hRU.below hb) k hlt
        obtain ⟨b', off', rfl, hbw3, i0, i1⟩ := (hRV.below hb) k (by omega)
        have h0 := cell_regrown h0
        have h1 := cell_regrown h1
        have i0 := cell_regrown i0
        have i1 := cell_regrown i1
        have hlt' : (k : Int) < (U.length : Int) := by omega
        have hlt'' : (k : Int) < (V.length : Int) := by omega
        have hNx := hide (same_next hlt (by omega) hE.out)
        have hNo := hide (same_no (U := U) (V := V) (k := k))
        clear hRU hRV hE
        generalize pAt U k = P at *
        generalize pAt V k = Q at *
        obtain ⟨pa, pl⟩ := P
        obtain ⟨qa, ql⟩ := Q
        dsimp only at *
        cases hv : (pa == qa && pl == ql) with
        | true =>
          have hN2 := hide (hNx.out hv)
          have hv' : (!(pa == qa && pl == ql)) = false := by rw [hv]; rfl
          clear hNx hNo
          go_wp2_with fail
          refine wp_region_quiet_below (by kernel_rfl) (by kernel_rfl) ?_
          repeat (first | go_big_quiet_step (fail) | quiet_step (fail))
          refine wpQuiet_nil ?_
          intro _ hw'
          obtain ⟨⟨dq, osq⟩, hw''⟩ := hw'
          subst hw''
          have hq := below_regrown wr dq osq
          generalize Go.Sort.grow (redrawn wr dq) osq = wq at hq ⊢
          have hb4 := hb.trans (hq.mono hb.size)
          clear h0 h1 i0 i1
          go_wp2_with fail
          exact ⟨⟨k + 1, by omega, by go_num, hb4, hN2⟩, by simp [intOf]; omega⟩
        | false =>
          have hN2 : Hid (decide (U = V) = false) := hide (hNo.out hv)
          have hv' : (!(pa == qa && pl == ql)) = true := by rw [hv]; rfl
          clear hNx hNo
          go_wp2_with fail
          refine wp_region_quiet_below (by kernel_rfl) (by kernel_rfl) ?_
          repeat (first | go_big_quiet_step (fail) | quiet_step (fail))
          refine wpQuiet_nil ?_
          intro _ hw'
          obtain ⟨⟨dq, osq⟩, hw''⟩ := hw'
          subst hw''
          have hq := below_regrown wr dq osq
          generalize Go.Sort.grow (redrawn wr dq) osq = wq at hq ⊢
          have hb4 := hb.trans (hq.mono hb.size)
          clear h0 h1 i0 i1
          go_wp2_with fail
          go_ret
          exact ⟨ret_bool hN2.out.symm, hb4⟩
      · have hk' : k = U.length := by omega
        subst hk'
        have hN2 : Hid (decide (U = V) = true) := by
          have := hE.out
          rw [List.take_length, hUV, List.take_length] at this
          exact decide_eq_true this
        clear hRU hRV hE
        go_wp2_with fail
        go_ret
        exact ⟨ret_bool hN2.out.symm, hb⟩
  · have hUVi : ((U.length : Int) != (V.length : Int)) = true := by simp; omega
    have hN2 := hide (same_len hUV)
    clear hUV hRU hRV
    go_enter Try.func90, Try.ntmps90
    go_wp2_with fail
    go_ret
    exact ⟨ret_bool hN2.out.symm, Below.refl _ _⟩
set_option maxRecDepth 100000 in
set_option maxHeartbeats 1600000 in
theorem i_sameAddrs_yes (a : Option Addr) (cap : Nat) (L : List Pf) (b0 : Option Addr) (capb : Nat) (M : List Pf) (w : World) (hR : SrcP a L cap w) (hRM : SrcP b0 M capb w) (hg : goodL L = true) (hgm : goodL M = true) :
    Calls Try.prog 16 #[.slice a L.length cap, .slice b0 M.length capb] w fun e w' => e = .returned (.tuple #[.bool (decide (fewS L = fewS M)), .bool true]) ∧ Below w.heap.size w w' := by
  obtain ⟨g1, g2⟩ := goodL_parts hg
  obtain ⟨m1, m2⟩ := goodL_parts hgm
  have s1 := hide (fun w hR => i_are a cap L w (by omega) hR)
  have s2 := hide (fun w hR => i_are b0 capb M w (by omega) hR)
  rw [hg] at s1
  rw [hgm] at s2
  have s3 := hide (fun w hR => i_few a cap L w (by omega) hR g1)
  have s4 := hide (fun w hR => i_few b0 capb M w (by omega) hR m1)
  have hUl : (fewS L).length ≤ 64 := Nat.le_trans (fewS_good g1).2.2 g2
  clear hg hgm g1 m1
  generalize fewS L = U at *
  generalize fewS M = V at *
  have s5 := hide (fun ua uc va vc w h1 h2 => i_equal ua uc U va vc V w (by omega) h1 h2)
  generalize decide (U = V) = r at *
  go_enter Try.func16, Try.ntmps16
  go_wp2_with fail
  refine (s1.out _ hR.1).mono ?_
  rintro e w1 ⟨rfl, hb1⟩
  go_wp2_with fail
  refine (s2.out _ (hRM.1.below hb1)).mono ?_
  rintro e w2 ⟨rfl, hb2⟩
  have hb12 := below_step hb1 hb2
  clear hb1 hb2 s1 s2
  go_wp2_with fail
  refine (s3.out _ ⟨hR.1.below hb12, hR.2⟩).mono ?_
  rintro e w3 ⟨v3, rfl, ho3, hb3⟩
  have hb13 := below_step hb12 hb3
  clear hb12 hb3 s3
  go_wp2_with fail
  refine (s4.out _ ⟨hRM.1.below hb13, hRM.2⟩).mono ?_
  rintro e w4 ⟨v4, rfl, ho4, hb4⟩
  have ho3 := ownP_below ho3 hb4
  have hbw := below_step hb13 hb4
  obtain ⟨ua, uc, rfl, hRU, _⟩ := ownP_row ho3
  obtain ⟨va, vc, rfl, hRV, _⟩ := ownP_row ho4
  clear hb4 hb13 s4 ho3 ho4 hR hRM
  go_wp2_with fail
  refine (s5.out _ _ _ _ _ hRU hRV).mono ?_
  rintro e w5 ⟨rfl, hb5⟩
  go_wp2_with fail
  exact bodyPost_ret (v := .tuple #[.bool r, .bool true]) (by simp [results, Try.results16, go_sem]) rfl ⟨rfl, below_step hbw hb5⟩
set_option maxRecDepth 100000 in
set_option maxHeartbeats 800000 in
theorem i_sameAddrs_no (a : Option Addr) (cap : Nat) (L : List Pf) (b0 : Option Addr) (capb : Nat) (M : List Pf) (w : World) (hl : L.length ≤ 8589934592) (hlm : M.length ≤ 8589934592) (hR : RowP a L w) (hRM : RowP b0 M w) (h : goodL L = false ∨ goodL M = false) :
    Calls Try.prog 16 #[.slice a L.length cap, .slice b0 M.length capb] w fun e w' => e = .returned (.tuple #[.bool false, .bool false]) ∧ Below w.heap.size w w' := by
  have s1 := hide (fun w hR => i_are a cap L w hl hR)
  have s2 := hide (fun w hR => i_are b0 capb M w hlm hR)
  cases hg : goodL L with
  | false =>
    rw [hg] at s1
    clear h
    go_enter Try.func16, Try.ntmps16
    go_wp2_with fail
    refine (s1.out _ hR).mono ?_
    rintro e w1 ⟨rfl, hb1⟩
    go_wp2_with fail
    refine bodyPost_ret (v := .tuple #[.bool false, .bool false]) (by simp [results, Try.results16, go_sem]) rfl ⟨rfl, hb1⟩
  | true =>
    have hgm : goodL M = false := by rcases h with h | h; rw [hg] at h; simp at h; exact h
    rw [hg] at s1
    rw [hgm] at s2
    clear h hgm
    go_enter Try.func16, Try.ntmps16
    go_wp2_with fail
    refine (s1.out _ hR).mono ?_
    rintro e w1 ⟨rfl, hb1⟩
    go_wp2_with fail
    refine (s2.out _ (hRM.below hb1)).mono ?_
    rintro e w2 ⟨rfl, hb2⟩
    go_wp2_with fail
    refine bodyPost_ret (v := .tuple #[.bool false, .bool false]) (by simp [results, Try.results16, go_sem]) rfl ⟨rfl, below_step hb1 hb2⟩
set_option maxRecDepth 100000 in
set_option maxHeartbeats 1600000 in
theorem i_goodSet (a : Option Addr) (cap : Nat) (L : List Pf) (w : World) (hl : L.length ≤ 8589934592) (hR : SrcP a L cap w) :
    Calls Try.prog 23 #[.slice a L.length cap] w fun e w' => e = .returned (.bool (goodL L && gsB L)) ∧ Below w.heap.size w w' := by
  have s1 := hide (fun w hR => i_are a cap L w hl hR)
  cases hg : goodL L with
  | false =>
    rw [hg] at s1
    go_enter Try.func23, Try.ntmps23
    go_wp2_with fail
    refine (s1.out _ hR.1).mono ?_
    rintro e w1 ⟨rfl, hb1⟩
    go_wp2_with fail
    go_ret
    exact ⟨rfl, hb1⟩
  | true =>
    obtain ⟨g1, g2⟩ := goodL_parts hg
    rw [hg] at s1
    have hE := hide (gs_self g1)
    have s3 := hide (fun w hR => i_few a cap L w (by omega) hR g1)
    have s5 := hide (fun va vc w h1 h2 => i_equal a cap L va vc (fewS L) w (by omega) h1 h2)
    rw [hE.out] at s5
    clear hg hE g1
    generalize fewS L = U at *
    generalize gsB L = r at *
    go_enter Try.func23, Try.ntmps23
    go_wp2_with fail
    refine (s1.out _ hR.1).mono ?_
    rintro e w1 ⟨rfl, hb1⟩
    go_wp2_with fail
    refine (s3.out _ ⟨hR.1.below hb1, hR.2⟩).mono ?_
    rintro e w3 ⟨v3, rfl, ho3, hb3⟩
    have hbw := below_step hb1 hb3
    have hR3 := hR.1.below hbw
    obtain ⟨ua, uc, rfl, hRU, _⟩ := ownP_row ho3
    clear hb1 hb3 ho3 hR s1 s3
    go_wp2_with fail
    refine (s5.out _ _ _ hR3 hRU).mono ?_
    rintro e w5 ⟨rfl, hb5⟩
    go_wp2_with fail
    go_ret
    exact ⟨by simp, below_step hbw hb5⟩
end Go.Proofs.Ytofalilkephkpaa
