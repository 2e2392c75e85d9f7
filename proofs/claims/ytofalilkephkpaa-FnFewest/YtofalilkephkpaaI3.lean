/- What the program's functions of chapter 3 answer: goodness, who has it, SetHas. -/
import Derived.Test.YtofalilkephkpaaS3c
import Derived.Test.YtofalilkephkpaaI1b
import Derived.Test.YtofalilkephkpaaI1c
namespace Go.Proofs.Ytofalilkephkpaa
open Go.RowKit

set_option maxRecDepth 100000 in
set_option maxHeartbeats 800000 in
theorem i_are (a : Option Addr) (cap : Nat) (L : List Pf) (w : World) (hl : L.length ≤ 8589934592) (hR : RowP a L w) :
    Calls Try.prog 89 #[.slice a L.length cap] w fun e w' => e = .returned (.bool (goodL L)) ∧ Below w.heap.size w w' := by
  by_cases h64 : 64 < L.length
  · have h64' : (64 : Int) < (L.length : Int) := by omega
    have hG : Hid (goodL L = false) := by show goodL L = false; unfold goodL; rw [decide_eq_false (by omega)]; simp
    clear hR
    go_enter Try.func89, Try.ntmps89
    go_wp2_with fail
    go_ret
    exact ⟨ret_bool hG.out.symm, Below.refl _ _⟩
  · have h64' : ¬ (64 : Int) < (L.length : Int) := by omega
    go_enter Try.func89, Try.ntmps89
    go_wp2_with fail
    go_loopw [10] (fun i wr => ∃ k : Nat, k ≤ L.length ∧ i = .int .i64 k ∧ Below w.heap.size w wr ∧ Hid (allGood (L.take k) = true)) (fun i _ => L.length - (intOf i).toNat)
    case atStart => exact ⟨0, Nat.zero_le _, rfl, Below.refl _ _, hide rfl⟩
    case round =>
      obtain ⟨k, hk, rfl, hb, ha⟩ := hrel
      by_cases hlt : k < L.length
      · obtain ⟨b, off, rfl, hbw, h0, h1⟩ := (hR.below hb) k hlt
        have hlt' : (k : Int) < (L.length : Int) := by omega
        have hT := hide (allGood_take hlt ha.out)
        have hN := hide (allGood_no hlt)
        have s1 := hide (fun w => i_good (pAt L k).1 (pAt L k).2 w)
        clear hR
        generalize (pAt L k).1 = qa at *
        generalize (pAt L k).2 = ql at *
        cases hg : goodB qa ql with
        | true =>
          rw [hg] at s1
          have hT2 := hide (hT.out.trans hg)
          clear hg hN hT
          go_wp2_with fail
          refine (s1.out _).mono ?_
          rintro e w1 ⟨rfl, hb1⟩
          have hb' := hb.trans ((below_box hb1).mono hb.size)
          go_wp2_with fail
          exact ⟨⟨k + 1, by omega, by go_num, hb', hT2⟩, by simp [intOf]; omega⟩
        | false =>
          rw [hg] at s1
          have hN2 := hide (hN.out hg)
          clear hg hT hN
          go_wp2_with fail
          refine (s1.out _).mono ?_
          rintro e w1 ⟨rfl, hb1⟩
          have hb' := hb.trans ((below_box hb1).mono hb.size)
          go_wp2_with fail
          go_ret
          exact ⟨ret_bool hN2.out.symm, hb'⟩
      · have hk' : k = L.length := by omega
        subst hk'
        have hG : Hid (goodL L = true) := by
          have := ha.out
          rw [List.take_length] at this
          show _ = _
          unfold goodL
          rw [this, decide_eq_true (show L.length ≤ 64 by omega)]
          rfl
        clear hR ha
        go_wp2_with fail
        go_ret
        exact ⟨ret_bool hG.out.symm, hb⟩
set_option maxRecDepth 100000 in
set_option maxHeartbeats 800000 in
theorem i_hasAddr3 (p : Pf) (x : Int) (w : World) (gp : gdP p) (hx0 : 0 ≤ x) (hx1 : x ≤ 4294967295) :
    Calls Try.prog 99 #[.agg #[.int .i64 p.1, .int .i64 p.2], .int .i64 x] w fun e w' => e = .returned (.bool (hasB p.1 p.2 x)) ∧ Below w.heap.size w w' := by
  have s1 := hide (fun w => i_hasAddr p.1 p.2 x w)
  have hg : goodB p.1 p.2 = true := gp
  rw [hg, inB_t hx0 hx1] at s1
  simp only [Bool.true_and] at s1
  clear hg
  generalize hasB p.1 p.2 x = r at *
  go_enter Try.func99, Try.ntmps99
  go_wp2_with fail
  refine (s1.out _).mono ?_
  rintro e w1 ⟨rfl, hb1⟩
  go_wp2_with fail
  go_ret
  exact ⟨rfl, below_box hb1⟩
set_option maxRecDepth 100000 in
set_option maxHeartbeats 800000 in
theorem i_hasPrefix3 (p q : Pf) (w : World) (gp : gdP p) (gq : gdP q) :
    Calls Try.prog 174 #[.agg #[.int .i64 p.1, .int .i64 p.2], .agg #[.int .i64 q.1, .int .i64 q.2]] w fun e w' => e = .returned (.bool (covP p q)) ∧ Below w.heap.size w w' := by
  have s1 := hide (fun w => i_prefixHas p.1 p.2 q.1 q.2 w)
  have hg : goodB p.1 p.2 = true := gp
  have hg2 : goodB q.1 q.2 = true := gq
  rw [hg, hg2] at s1
  simp only [Bool.true_and] at s1
  have e : (decide (p.2 ≤ q.2) && hasB p.1 p.2 q.1) = covP p q := rfl
  rw [e] at s1
  clear hg hg2 e
  generalize covP p q = r at *
  go_enter Try.func174, Try.ntmps174
  go_wp2_with fail
  refine (s1.out _).mono ?_
  rintro e w1 ⟨rfl, hb1⟩
  go_wp2_with fail
  go_ret
  exact ⟨rfl, below_box2 hb1⟩
set_option maxRecDepth 100000 in
set_option maxHeartbeats 1600000 in
theorem i_someAddr (a : Option Addr) (cap : Nat) (L : List Pf) (x : Int) (w : World) (hl : L.length ≤ 8589934592) (hR : RowP a L w) (hG : ∀ p, p ∈ L → gdP p) (hx0 : 0 ≤ x) (hx1 : x ≤ 4294967295) :
    Calls Try.prog 98 #[.func (.func 99) #[] #[], .slice a L.length cap, .int .i64 x] w fun e w' => e = .returned (.bool (hasL L x)) ∧ Below w.heap.size w w' := by
  go_enter Try.func98, Try.ntmps98
  go_wp2_with fail
  go_loopw [11] (fun i wr => ∃ k : Nat, k ≤ L.length ∧ i = .int .i64 k ∧ Below w.heap.size w wr ∧ Hid ((L.take k).any (fun p => hasB p.1 p.2 x) = false)) (fun i _ => L.length - (intOf i).toNat)
  case atStart => exact ⟨0, Nat.zero_le _, rfl, Below.refl _ _, hide rfl⟩
  case round =>
    obtain ⟨k, hk, rfl, hb, hn⟩ := hrel
    by_cases hlt : k < L.length
    · obtain ⟨b, off, rfl, hbw, h0, h1⟩ := (hR.below hb) k hlt
      have hlt' : (k : Int) < (L.length : Int) := by omega
      have s3 := hide (fun w => i_hasAddr3 (pAt L k) x w (hG _ (pAt_mem hlt)) hx0 hx1)
      have hT := hide (any_next (f := fun p => hasB p.1 p.2 x) hlt hn.out)
      have hY := hide (any_at (f := fun p => hasB p.1 p.2 x) hlt)
      clear hR hG
      generalize (pAt L k).1 = qa at *
      generalize (pAt L k).2 = ql at *
      cases hv : hasB qa ql x with
      | true =>
        have hY2 : Hid (hasL L x = true) := hide (hY.out hv)
        rw [hv] at s3
        clear hT hY hv
        go_wp2_with fail
        refine (s3.out _).mono ?_
        rintro e w3 ⟨rfl, hb3⟩
        go_wp2_with fail
        go_ret
        exact ⟨ret_bool hY2.out.symm, hb.trans ((below_box hb3).mono hb.size)⟩
      | false =>
        have hT2 := hide (hT.out hv)
        rw [hv] at s3
        clear hT hY hv
        go_wp2_with fail
        refine (s3.out _).mono ?_
        rintro e w3 ⟨rfl, hb3⟩
        go_wp2_with fail
        exact ⟨⟨k + 1, by omega, by go_num, hb.trans ((below_box hb3).mono hb.size), hT2⟩, by simp [intOf]; omega⟩
    · have hk' : k = L.length := by omega
      subst hk'
      have hF : Hid (hasL L x = false) := by have := hn.out; rw [List.take_length] at this; exact this
      clear hR hn
      go_wp2_with fail
      go_ret
      exact ⟨ret_bool hF.out.symm, hb⟩
set_option maxRecDepth 100000 in
set_option maxHeartbeats 1600000 in
theorem i_setHas (a : Option Addr) (cap : Nat) (L : List Pf) (x : Int) (w : World) (hl : L.length ≤ 8589934592) (hR : RowP a L w) :
    Calls Try.prog 25 #[.slice a L.length cap, .int .i64 x] w fun e w' =>
      e = .returned (.tuple #[.bool (goodL L && inB x 0 4294967295 && hasL L x), .bool (goodL L && inB x 0 4294967295)]) ∧ Below w.heap.size w w' := by
  have s1 := hide (fun w hR => i_are a cap L w hl hR)
  have s2 := hide (fun w => i_isAddr x w)
  cases hg : goodL L with
  | false =>
    rw [hg] at s1
    go_enter Try.func25, Try.ntmps25
    go_wp2_with fail
    refine (s1.out _ hR).mono ?_
    rintro e w1 ⟨rfl, hb1⟩
    go_wp2_with fail
    go_ret2
    exact ⟨rfl, hb1⟩
  | true =>
    rw [hg] at s1
    have hG : ∀ p, p ∈ L → gdP p := by
      unfold goodL at hg
      rw [Bool.and_eq_true] at hg
      exact allGood_iff.1 hg.1
    clear hg
    by_cases hx : 0 ≤ x ∧ x ≤ 4294967295
    · have s3 := hide (fun w hR => i_someAddr a cap L x w hl hR hG hx.1 hx.2)
      rw [inB_t hx.1 hx.2] at s2 ⊢
      simp only [Bool.true_and]
      clear hx hG
      generalize hasL L x = r at *
      go_enter Try.func25, Try.ntmps25
      go_wp2_with fail
      refine (s1.out _ hR).mono ?_
      rintro e w1 ⟨rfl, hb1⟩
      go_wp2_with fail
      refine (s2.out _).mono ?_
      rintro e w2 ⟨rfl, rfl⟩
      go_wp2_with fail
      refine (s3.out _ (hR.below hb1)).mono ?_
      rintro e w3 ⟨rfl, hb3⟩
      go_wp2_with fail
      go_ret2
      exact ⟨rfl, below_step hb1 hb3⟩
    · rw [inB_n hx] at s2 ⊢
      clear hx
      go_enter Try.func25, Try.ntmps25
      go_wp2_with fail
      refine (s1.out _ hR).mono ?_
      rintro e w1 ⟨rfl, hb1⟩
      go_wp2_with fail
      refine (s2.out _).mono ?_
      rintro e w2 ⟨rfl, rfl⟩
      go_wp2_with fail
      go_ret2
      exact ⟨rfl, hb1⟩
end Go.Proofs.Ytofalilkephkpaa
