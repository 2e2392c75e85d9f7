/- What the specification's SetHas answers. -/
import Derived.Test.YtofalilkephkpaaS3
namespace Go.Proofs.Ytofalilkephkpaa
open Go.RowKit

def hasL (L : List Pf) (x : Int) : Bool := L.any fun p => hasB p.1 p.2 x
set_option maxRecDepth 100000 in
set_option maxHeartbeats 1600000 in
theorem s_setHas (a : Option Addr) (cap : Nat) (L : List Pf) (x : Int) (w : World) (hl : L.length ≤ 8589934592) (hR : RowP a L w) :
    Calls Try.prog 26 #[.slice a L.length cap, .int .i64 x] w fun e w' =>
      e = .returned (.tuple #[.bool (goodL L && inB x 0 4294967295 && hasL L x), .bool (goodL L && inB x 0 4294967295)]) ∧ Below w.heap.size w w' := by
  have s1 := hide (fun w hR => s_l3Good a cap L w hl hR)
  have s2 := hide (fun w => s_addr x w)
  cases hg : goodL L with
  | false =>
    rw [hg] at s1
    go_enter Try.func26, Try.ntmps26
    go_wp2_with fail
    refine (s1.out _ hR).mono ?_
    rintro e w1 ⟨rfl, hb1⟩
    go_wp2_with fail
    go_ret2
    exact ⟨rfl, hb1⟩
  | true =>
    rw [hg] at s1
    have hG : ∀ p, p ∈ L → gdP p := by
      unfold goodL at hg
      rw [Bool.and_eq_true] at hg
      exact allGood_iff.1 hg.1
    clear hg
    by_cases hx : 0 ≤ x ∧ x ≤ 4294967295
    · have hx' := inB_t hx.1 hx.2
      rw [hx'] at s2 ⊢
      simp only [Bool.true_and]
      clear hx'
      go_enter Try.func26, Try.ntmps26
      go_wp2_with fail
      refine (s1.out _ hR).mono ?_
      rintro e w1 ⟨rfl, hb1⟩
      go_wp2_with fail
      refine (s2.out _).mono ?_
      rintro e w2 ⟨rfl, rfl⟩
      go_wp2_with fail
      go_loopw [18] (fun i wr => ∃ k : Nat, k ≤ L.length ∧ i = .int .i64 k ∧ Below w.heap.size w wr ∧ Hid ((L.take k).any (fun p => hasB p.1 p.2 x) = false)) (fun i _ => L.length - (intOf i).toNat)
      case atStart => exact ⟨0, Nat.zero_le _, rfl, hb1, hide rfl⟩
      case round =>
        obtain ⟨k, hk, rfl, hb, hn⟩ := hrel
        by_cases hlt : k < L.length
        · obtain ⟨b, off, rfl, hbw, h0, h1⟩ := (hR.below hb) k hlt
          have hlt' : (k : Int) < (L.length : Int) := by omega
          have gq := gdP_parts (hG _ (pAt_mem hlt))
          have s3 := hide (fun w => s_hasAddr1 (pAt L k).1 (pAt L k).2 x w gq.1 gq.2.1 hx.1 hx.2)
          have hT := hide (any_next (f := fun p => hasB p.1 p.2 x) hlt hn.out)
          have hY := hide (any_at (f := fun p => hasB p.1 p.2 x) hlt)
          clear hR gq hG
          generalize (pAt L k).1 = qa at *
          generalize (pAt L k).2 = ql at *
          cases hv : hasB qa ql x with
          | true =>
            have hY2 := hide (hY.out hv)
            rw [hv] at s3
            clear hT hY hv
            go_wp2_with fail
            refine (s3.out _).mono ?_
            rintro e w3 ⟨rfl, hb3⟩
            go_wp2_with fail
            have hh : hasL L x = true := hY2.out
            exact bodyPost_ret (v := .tuple #[.bool true, .bool true]) (by simp [results, Try.results26, go_sem]) rfl ⟨by rw [hh], hb.trans ((below_box hb3).mono hb.size)⟩
          | false =>
            have hT2 := hide (hT.out hv)
            rw [hv] at s3
            clear hT hY hv
            go_wp2_with fail
            refine (s3.out _).mono ?_
            rintro e w3 ⟨rfl, hb3⟩
            go_wp2_with fail
            exact ⟨⟨k + 1, by omega, by go_num, hb.trans ((below_box hb3).mono hb.size), hT2⟩, by simp [intOf]; omega⟩
        · have hk' : k = L.length := by omega
          subst hk'
          have hF : Hid (hasL L x = false) := by have := hn.out; rw [List.take_length] at this; exact this
          clear hR hn
          go_wp2_with fail
          exact bodyPost_ret (v := .tuple #[.bool false, .bool true]) (by simp [results, Try.results26, go_sem]) rfl ⟨by rw [hF.out], hb⟩
    · have hx' := inB_n hx
      rw [hx'] at s2 ⊢
      clear hx'
      go_enter Try.func26, Try.ntmps26
      go_wp2_with fail
      refine (s1.out _ hR).mono ?_
      rintro e w1 ⟨rfl, hb1⟩
      go_wp2_with fail
      refine (s2.out _).mono ?_
      rintro e w2 ⟨rfl, rfl⟩
      go_wp2_with fail
      go_ret2
      exact ⟨rfl, hb1⟩
end Go.Proofs.Ytofalilkephkpaa
