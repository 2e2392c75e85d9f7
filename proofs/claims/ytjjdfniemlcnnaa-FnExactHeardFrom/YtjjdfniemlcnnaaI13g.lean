/- GoodRib of the program. -/
import Derived.Test.YtjjdfniemlcnnaaAll8
import Derived.Test.YtjjdfniemlcnnaaSI8
import Derived.Lib.QuietBelow
namespace Go.Proofs.Ytjjdfniemlcnnaa
open Go.RowKit

set_option maxRecDepth 100000 in
set_option maxHeartbeats 3200000 in
theorem i_goodRib (ow : Int) (a : Option Addr) (n c : Nat) (U : Nat → Rc) (w : World) (hn : n ≤ 1048576) (hl : LowR n U) (hR : RowR a n U w) :
    Calls Try.prog 15 #[.agg #[.int .i64 ow, .slice a n c]] w fun e w' => e = .returned (.bool (rbB ow n U)) ∧ Below w.heap.size w w' := by
  have A := hide (fun w => i_isAsn ow w)
  have hB0 : Below w.heap.size w (w.alloc (.cells #[.int .i64 ow, .slice a n c] 24)) := below_box (Below.refl _ _)
  cases hx : inB ow 1 65535 with
  | false =>
    have hE : Hid (rbB ow n U = false) := by rw [Hid, rbB, hx]; rfl
    rw [hx] at A
    clear hl hR hx
    go_enter Try.func15, Try.ntmps15
    go_wp2_with fail
    refine (A.out _).mono ?_
    rintro e w1 ⟨rfl, rfl⟩
    go_wp2_with fail
    go_ret
    exact ⟨by rw [hE.out]; rfl, hB0⟩
  | true =>
    rw [hx] at A
    by_cases h20 : n ≤ 20
    · have h20' : ¬ ((n : Int) > 20) := by omega
      have hrb : Hid (rbB ow n U = rsB n U) := by rw [Hid, rbB, hx]; simp [h20]
      have KR := hide (fun w R => i_keptRows ow a n c U w hn R)
      have hR1 := hide (hR.below hB0)
      clear hx hR
      go_enter Try.func15, Try.ntmps15
      go_wp2_with fail
      refine (A.out _).mono ?_
      rintro e w1 ⟨rfl, rfl⟩
      go_wp2_with fail
      refine (KR.out _ hR1.out).mono ?_
      rintro e w1 ⟨v, L, rfl, hO, hK, b1⟩
      obtain ⟨va, vc, rfl, hJ, _⟩ := ownJ_row hO
      have hRV := hK.row hJ
      have hB1 := hB0.trans (b1.mono hB0.size)
      have hLn := hK.1
      rw [hLn]
      clear hO hK hJ b1 KR hR1 hB0 A hLn
      go_wp2_with fail
      go_loopw [20] (fun y wr => ∃ k : Nat, y = .int .i64 k ∧ k ≤ n ∧ Hid (∀ i, i < k → rwB U i = true) ∧ Below w1.heap.size w1 wr) (fun y _ => n - (intOf y).toNat)
      case atStart => exact ⟨0, rfl, Nat.zero_le _, fun i hi => absurd hi (by omega), Below.refl _ _⟩
      case round =>
        obtain ⟨k, rfl, hk, hall, hb⟩ := hrel
        by_cases hlt : k < n
        · obtain ⟨b, off, a0, c0, rfl, hbw, u0, u1, u2, ht⟩ := hRV k hlt
          replace u0 := (hb.cell (p := ⟨b, off + k * 3, none⟩) hbw).trans u0
          replace u1 := (hb.cell (p := ⟨b, off + k * 3 + 1, none⟩) hbw).trans u1
          replace u2 := (hb.cell (p := ⟨b, off + k * 3 + 2, none⟩) hbw).trans u2
          have hlt' : (k : Int) < (n : Int) := by omega
          obtain ⟨l1, l2⟩ := hl k hlt
          have hyes := hide (fun e => rs_next (U := U) hall.out e)
          have hno : Hid (rwB U k = false → rbB ow n U = false) := fun e => hrb.out.trans (rs_no (m := n) (U := U) hlt e)
          have bX : Below wr.heap.size wr (wr.alloc (.cells #[.int .i64 (U k).ad, .int .i64 (U k).ln, .slice a0 (U k).n c0] 71)) := below_box (Below.refl _ _)
          have dX := hide (hb.trans (bX.mono hb.size))
          have hT := hide (ht.below dX.out)
          have MX := hide (Mut.new wr #[.int .i64 (U k).ad, .int .i64 (U k).ln, .slice a0 (U k).n c0] 71)
          have hof : rwB U k = (goodB (U k).ad (U k).ln && (decide (0 < (U k).n) && (osB (U k).n (U k).T && ltR U k))) := rfl
          have GPc := hide (fun w => i_isGoodM (U k).ad (U k).ln w)
          have GOc := hide (fun w R => i_goodOffers a0 (U k).n c0 (U k).T w l1 (lowO_of l2) R)
          have hgp : Hid (∀ i, i < k → goodB (U i).ad (U i).ln = true) := fun i hi => rw_good (hall.out i hi)
          clear l1 l2 hall bX ht hl hrb
          cases hp : goodB (U k).ad (U k).ln with
          | false =>
            rw [hp] at GPc
            have hN := hide (hno.out (by rw [hof]; rw [hp]; rfl))
            clear hyes hno hof hRV hgp
            generalize U k = t at *
            go_wp2_with fail
            generalize wr.alloc (.cells #[.int .i64 t.ad, .int .i64 t.ln, .slice a0 t.n c0] 71) = wx at *
            refine (GPc.out _).mono ?_
            rintro e w2 ⟨rfl, b2⟩
            have MX2 := MX.out.below b2
            have hT2 := hT.out.below b2
            have d2 := dX.out.trans (b2.mono dX.out.size)
            clear b2 MX hT GPc dX
            go_wp2_with fail
            go_ret
            exact ⟨by rw [hN.out]; rfl, hB1.trans (d2.mono hB1.size)⟩
          | true =>
            rw [hp] at GPc
            by_cases hz : (U k).n = 0
            · have hz2 : ((((U k).n : Nat) : Int) == 0) = true := by rw [hz]; rfl
              have hz3 : decide (0 < (U k).n) = false := by rw [hz]; rfl
              clear hz
              have hN := hide (hno.out (by rw [hof]; rw [hz3]; simp))
              clear hyes hno hof hRV hgp
              generalize U k = t at *
              go_wp2_with fail
              generalize wr.alloc (.cells #[.int .i64 t.ad, .int .i64 t.ln, .slice a0 t.n c0] 71) = wx at *
              refine (GPc.out _).mono ?_
              rintro e w2 ⟨rfl, b2⟩
              have MX2 := MX.out.below b2
              have hT2 := hT.out.below b2
              have d2 := dX.out.trans (b2.mono dX.out.size)
              clear b2 MX hT GPc dX
              have k2 := MX2.2.1 2 _ rfl
              go_wp2_with fail
              go_ret
              exact ⟨by rw [hN.out]; rfl, hB1.trans (d2.mono hB1.size)⟩
            · have hz2 : ((((U k).n : Nat) : Int) == 0) = false := by simp; omega
              have hz3 : decide (0 < (U k).n) = true := by simp; omega
              cases hg : osB (U k).n (U k).T with
              | false =>
                rw [hg] at GOc
                have hN := hide (hno.out (by rw [hof]; rw [hg]; simp))
                clear hyes hno hof hRV hgp
                generalize U k = t at *
                go_wp2_with fail
                generalize wr.alloc (.cells #[.int .i64 t.ad, .int .i64 t.ln, .slice a0 t.n c0] 71) = wx at *
                refine (GPc.out _).mono ?_
                rintro e w2 ⟨rfl, b2⟩
                have MX2 := MX.out.below b2
                have hT2 := hT.out.below b2
                have d2 := dX.out.trans (b2.mono dX.out.size)
                clear b2 MX hT GPc dX
                have k2 := MX2.2.1 2 _ rfl
                go_wp2_with fail
                refine (GOc.out _ hT2).mono ?_
                rintro e w3 ⟨rfl, b3⟩
                have MX3 := MX2.below b3
                have d3 := d2.trans (b3.mono d2.size)
                clear b3 MX2 hT2 GOc k2
                go_wp2_with fail
                go_ret
                exact ⟨by rw [hN.out]; rfl, hB1.trans (d3.mono hB1.size)⟩
              | true =>
                rw [hg] at GOc
                rw [hp, hz3, hg] at hof
                simp only [Bool.true_and] at hof
                by_cases hk0 : k = 0
                · subst hk0
                  have hN := hide (hyes.out (by rw [hof]; exact ltR_zero U))
                  simp only [Nat.zero_mul, Nat.add_zero] at u0 u1 u2
                  clear hyes hno hof hRV hgp
                  generalize U 0 = t at *
                  go_wp2_with fail
                  generalize wr.alloc (.cells #[.int .i64 t.ad, .int .i64 t.ln, .slice a0 t.n c0] 71) = wx at *
                  refine (GPc.out _).mono ?_
                  rintro e w2 ⟨rfl, b2⟩
                  have MX2 := MX.out.below b2
                  have hT2 := hT.out.below b2
                  have d2 := dX.out.trans (b2.mono dX.out.size)
                  clear b2 MX hT GPc dX
                  have k2 := MX2.2.1 2 _ rfl
                  go_wp2_with fail
                  refine (GOc.out _ hT2).mono ?_
                  rintro e w3 ⟨rfl, b3⟩
                  have MX3 := MX2.below b3
                  have d3 := d2.trans (b3.mono d2.size)
                  clear b3 MX2 hT2 GOc k2
                  clear MX3
                  go_wp2_with fail
                  refine wp_region_quiet_below (by kernel_rfl) (by kernel_rfl) ?_
                  repeat (first | go_big_quiet_step (fail) | quiet_step (fail))
                  refine wpQuiet_nil ?_
                  intro _ hw'
                  obtain ⟨⟨dq, osq⟩, hw''⟩ := hw'
                  subst hw''
                  have hq := below_regrown w3 dq osq
                  generalize Go.Sort.grow (redrawn w3 dq) osq = wq at hq ⊢
                  have hbq := d3.trans (hq.mono d3.size)
                  clear hq
                  go_wp2_with fail
                  exact ⟨⟨1, by go_num, by omega, hN.out, hbq⟩, by simp [intOf]; omega⟩
                · obtain ⟨m, rfl⟩ : ∃ m, k = m + 1 := ⟨k - 1, by omega⟩
                  obtain ⟨b', off', _, _, hbo, _, q0, q1, _⟩ := hRV m (by omega)
                  simp only [Option.some.injEq, Addr.mk.injEq, and_true] at hbo
                  obtain ⟨rfl, rfl⟩ := hbo
                  have q0 := hide q0
                  have q1 := hide q1
                  have hm1 : ((m + 1 : Nat) : Int) - 1 = (m : Int) := by omega
                  have hm2 : (m : Int) < (n : Int) := by omega
                  have hm3 : ((m + 1 : Nat) : Int) > 0 := by omega
                  have CPc := hide (fun w => i_isAhead (U m).ad (U m).ln (U (m + 1)).ad (U (m + 1)).ln w (hgp.out m (by omega)) hp)
                  rw [ltR_succ] at hof
                  cases hr : decide (cmpP (U m).ad (U m).ln (U (m + 1)).ad (U (m + 1)).ln < 0) with
                  | true =>
                    have hN := hide (hyes.out (hof.trans hr))
                    rw [hr] at CPc
                    clear hyes hno hof hRV hk0 hr hgp hp
                    generalize (U m).ad = am at *
                    generalize (U m).ln = lm at *
                    generalize U (m + 1) = t at *
                    go_wp2_with fail
                    generalize wr.alloc (.cells #[.int .i64 t.ad, .int .i64 t.ln, .slice a0 t.n c0] 71) = wx at *
                    refine (GPc.out _).mono ?_
                    rintro e w2 ⟨rfl, b2⟩
                    have MX2 := MX.out.below b2
                    have hT2 := hT.out.below b2
                    have d2 := dX.out.trans (b2.mono dX.out.size)
                    clear b2 MX hT GPc dX
                    have k2 := MX2.2.1 2 _ rfl
                    go_wp2_with fail
                    refine (GOc.out _ hT2).mono ?_
                    rintro e w3 ⟨rfl, b3⟩
                    have MX3 := MX2.below b3
                    have d3 := d2.trans (b3.mono d2.size)
                    clear b3 MX2 hT2 GOc k2
                    have s0 := cell_regrown ((d3.cell (p := ⟨b, off + m * 3, none⟩) hbw).trans q0.out)
                    have s1 := cell_regrown ((d3.cell (p := ⟨b, off + m * 3 + 1, none⟩) hbw).trans q1.out)
                    have k0 := cell_regrown (MX3.2.1 0 _ rfl)
                    have k1 := cell_regrown (MX3.2.1 1 _ rfl)
                    clear u0 u1 u2 MX3
                    go_wp2_with fail
                    refine wp_region_quiet_below (by kernel_rfl) (by kernel_rfl) ?_
                    repeat (first | go_big_quiet_step ((go_at_call 40; exact Calls.regrown_of (CPc.out _))) | quiet_step ((go_at_call 40; exact Calls.regrown_of (CPc.out _))))
                    refine wpQuiet_nil ?_
                    intro _ hw'
                    obtain ⟨⟨dq, osq⟩, hw''⟩ := hw'
                    subst hw''
                    have hq := below_regrown w3 dq osq
                    generalize Go.Sort.grow (redrawn w3 dq) osq = wq at hq ⊢
                    have hbq := d3.trans (hq.mono d3.size)
                    clear hq
                    go_wp2_with fail
                    exact ⟨⟨m + 1 + 1, by go_num, by omega, hN.out, hbq⟩, by simp [intOf]; omega⟩
                  | false =>
                    have hN := hide (hno.out (hof.trans hr))
                    rw [hr] at CPc
                    clear hyes hno hof hRV hk0 hr hgp hp
                    generalize (U m).ad = am at *
                    generalize (U m).ln = lm at *
                    generalize U (m + 1) = t at *
                    go_wp2_with fail
                    generalize wr.alloc (.cells #[.int .i64 t.ad, .int .i64 t.ln, .slice a0 t.n c0] 71) = wx at *
                    refine (GPc.out _).mono ?_
                    rintro e w2 ⟨rfl, b2⟩
                    have MX2 := MX.out.below b2
                    have hT2 := hT.out.below b2
                    have d2 := dX.out.trans (b2.mono dX.out.size)
                    clear b2 MX hT GPc dX
                    have k2 := MX2.2.1 2 _ rfl
                    go_wp2_with fail
                    refine (GOc.out _ hT2).mono ?_
                    rintro e w3 ⟨rfl, b3⟩
                    have MX3 := MX2.below b3
                    have d3 := d2.trans (b3.mono d2.size)
                    clear b3 MX2 hT2 GOc k2
                    have s0 := cell_regrown ((d3.cell (p := ⟨b, off + m * 3, none⟩) hbw).trans q0.out)
                    have s1 := cell_regrown ((d3.cell (p := ⟨b, off + m * 3 + 1, none⟩) hbw).trans q1.out)
                    have k0 := cell_regrown (MX3.2.1 0 _ rfl)
                    have k1 := cell_regrown (MX3.2.1 1 _ rfl)
                    clear u0 u1 u2 MX3
                    go_wp2_with fail
                    refine wp_region_quiet_below (by kernel_rfl) (by kernel_rfl) ?_
                    repeat (first | go_big_quiet_step ((go_at_call 40; exact Calls.regrown_of (CPc.out _))) | quiet_step ((go_at_call 40; exact Calls.regrown_of (CPc.out _))))
                    refine wpQuiet_nil ?_
                    intro _ hw'
                    obtain ⟨⟨dq, osq⟩, hw''⟩ := hw'
                    subst hw''
                    have hq := below_regrown w3 dq osq
                    generalize Go.Sort.grow (redrawn w3 dq) osq = wq at hq ⊢
                    have hbq := d3.trans (hq.mono d3.size)
                    clear hq
                    go_wp2_with fail
                    go_ret
                    exact ⟨by rw [hN.out]; rfl, hB1.trans (hbq.mono hB1.size)⟩
        · have hlt' : ¬ (k : Int) < (n : Int) := by omega
          obtain rfl : k = n := by omega
          have hE : Hid (rbB ow k U = true) := hrb.out.trans (rs_all hall.out)
          clear hall hRV hl hrb
          go_wp2_with fail
          go_ret
          exact ⟨by rw [hE.out]; rfl, hB1.trans (hb.mono hB1.size)⟩
    · have h20' : (n : Int) > 20 := by omega
      have hE : Hid (rbB ow n U = false) := by rw [Hid, rbB, hx]; simp [h20]
      clear hl hR hx h20
      go_enter Try.func15, Try.ntmps15
      go_wp2_with fail
      refine (A.out _).mono ?_
      rintro e w1 ⟨rfl, rfl⟩
      go_wp2_with fail
      go_ret
      exact ⟨by rw [hE.out]; rfl, hB0⟩
end Go.Proofs.Ytjjdfniemlcnnaa
