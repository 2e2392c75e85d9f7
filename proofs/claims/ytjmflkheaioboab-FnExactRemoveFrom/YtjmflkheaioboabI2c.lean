/- What the program's functions of chapter 2 answer: whether nodes are a good trie. -/
import Derived.Test.YtjmflkheaioboabMem2
import Derived.Test.YtjmflkheaioboabI2
namespace Go.Proofs.Ytjmflkheaioboab
open Go.RowKit

set_option maxHeartbeats 400000 in
theorem i_nodeHalves (z o v : Int) (h : Bool) (w : World) :
    Calls Try.prog 70 #[.agg #[.int .i64 z, .int .i64 o, .bool h, .int .i64 v]] w fun e w' => e = .returned (.agg #[.int .i64 z, .int .i64 o]) ∧ Below w.heap.size w w' := by
  go_enter Try.func70, Try.ntmps70
  go_wp2_with fail
  refine bodyPost_ret (v := .agg #[.int .i64 z, .int .i64 o]) (by simp [results, Try.results70, go_sem]) rfl ⟨rfl, ?_⟩
  exact below_box2 (Below.refl _ _)

set_option maxHeartbeats 400000 in
theorem i_isLeaf (z o v : Int) (h : Bool) (w : World) :
    Calls Try.prog 72 #[.agg #[.int .i64 z, .int .i64 o, .bool h, .int .i64 v]] w fun e w' => e = .returned (.bool (z == 0 && o == 0)) ∧ Below w.heap.size w w' := by
  have s1 := hide (fun w => i_nodeHalves z o v h w)
  have q1 := eqHalves_run z o 0 0
  have q2 := eqHalves_guard
  go_enter Try.func72, Try.ntmps72
  go_wp2_with fail
  refine (s1.out _).mono ?_
  rintro e w1 ⟨rfl, hb1⟩
  go_wp2_with fail
  go_ret
  exact ⟨rfl, below_box hb1⟩

theorem ents_y {n : Nat} {T : Nat → Nd} (ha : (List.range n).all (ndOk T) = true) : entsB n T = decide ((manyTo T n : Int) ≤ 30) := by
  unfold entsB
  rw [ha, Bool.true_and]
  congr 1
  simp
  omega
set_option maxRecDepth 100000 in
set_option maxHeartbeats 1600000 in
theorem i_goodEntries (a0 : Option Addr) (len cap : Nat) (T : Nat → Nd) (w : World) (hl : len ≤ 1048576) (hE : RowT a0 len T w) :
    Calls Try.prog 57 #[.slice a0 len cap] w fun e w' => e = .returned (.bool (entsB len T)) ∧ Below w.heap.size w w' := by
  go_enter Try.func57, Try.ntmps57
  go_wp2_with fail
  go_loopw [3, 4, 5, 8] (fun m _ _ i wr => ∃ k : Nat, k ≤ len ∧ i = .int .i64 k ∧ m = .int .i64 (manyTo T k) ∧ Below w.heap.size w wr ∧ (List.range k).all (ndOk T) = true) (fun _ _ _ i _ => len - (intOf i).toNat)
  case atStart => exact ⟨0, Nat.zero_le _, rfl, rfl, Below.refl _ _, rfl⟩
  case round =>
    obtain ⟨k, hk, rfl, rfl, hb, hall⟩ := hrel
    by_cases hlt : k < len
    · obtain ⟨b, off, rfl, hbw, h0, h1, h2, h3⟩ := (hE.below hb) k hlt
      have hlt' : (k : Int) < (len : Int) := by omega
      have hmk := manyTo_le T k
      have s1 := hide (fun w => i_value (T k).v w)
      have s2 := hide (fun w => i_isLeaf (T k).z (T k).o (T k).v (T k).h w)
      have hok : ndOk T k = (((T k).h || (T k).v == 0) && inB (T k).v 0 1000000 && (k == 0 || !((T k).z == 0) || !((T k).o == 0) || (T k).h)) := rfl
      have hm1 : manyTo T (k + 1) = manyTo T k + (if (T k).h then 1 else 0) := rfl
      have hfin := hide (entsB_no (T := T) (n := len) hlt)
      have hnext := hide (ents_next (T := T) hall)
      have hkz : (k == 0) = decide (k = 0) := rfl
      generalize manyTo T k = m0 at *
      generalize (T k).z = z at *
      generalize (T k).o = o at *
      generalize (T k).h = h at *
      generalize (T k).v = v at *
      clear hE hall
      cases h with
      | true =>
        rw [if_pos rfl] at hm1
        have hM := hide hm1
        clear hm1 hkz
        cases hv : inB v 0 1000000 with
        | false =>
          rw [hv] at s1
          rw [hv] at hok
          have hok1 : ndOk T k = false := by rw [hok]; simp
          have hN := hide (hfin.out hok1)
          clear hok hok1 hnext hfin
          go_wp2_with fail
          refine (s1.out _).mono ?_
          rintro e w1 ⟨rfl, rfl⟩
          go_wp2_with fail
          go_ret
          exact ⟨ret_bool hN.out.symm, hb.trans ((below_box (Below.refl _ _)).mono hb.size)⟩
        | true =>
          rw [hv] at s1
          rw [hv] at hok
          by_cases hz : k = 0
          · subst hz
            simp only [Nat.zero_mul, Nat.add_zero] at h0 h1 h2 h3
            have hok1 : ndOk T 0 = true := by rw [hok]; simp
            have hN := hide (hnext.out hok1)
            clear hok hok1 hnext hfin
            go_wp2_with fail
            refine (s1.out _).mono ?_
            rintro e w1 ⟨rfl, rfl⟩
            go_wp2_with fail
            exact ⟨⟨0 + 1, by omega, by go_num, by rw [hM.out]; go_num, hb.trans ((below_box (Below.refl _ _)).mono hb.size), hN.out⟩, by simp [intOf]; omega⟩
          · have hk0 : (0 : Int) < (k : Int) := by omega
            cases hlf : (z == 0 && o == 0) with
            | false =>
              rw [hlf] at s2
              have hok1 : ndOk T k = true := by rw [hok]; simp
              have hN := hide (hnext.out hok1)
              clear hok hok1 hnext hfin
              go_wp2_with fail
              refine (s1.out _).mono ?_
              rintro e w1 ⟨rfl, rfl⟩
              go_wp2_with fail
              refine (s2.out _).mono ?_
              rintro e w2 ⟨rfl, hb2⟩
              obtain ⟨hc, hf⟩ := bcell hb2
              go_wp2_with fail
              exact ⟨⟨k + 1, by omega, by go_num, by rw [hM.out]; go_num, hb.trans ((below_box hb2).mono hb.size), hN.out⟩, by simp [intOf]; omega⟩
            | true =>
              rw [hlf] at s2
              have hok1 : ndOk T k = true := by rw [hok]; simp
              have hN := hide (hnext.out hok1)
              clear hok hok1 hnext hfin
              go_wp2_with fail
              refine (s1.out _).mono ?_
              rintro e w1 ⟨rfl, rfl⟩
              go_wp2_with fail
              refine (s2.out _).mono ?_
              rintro e w2 ⟨rfl, hb2⟩
              obtain ⟨hc, hf⟩ := bcell hb2
              go_wp2_with fail
              exact ⟨⟨k + 1, by omega, by go_num, by rw [hM.out]; go_num, hb.trans ((below_box hb2).mono hb.size), hN.out⟩, by simp [intOf]; omega⟩
      | false =>
        rw [if_neg (by simp)] at hm1
        have hM := hide hm1
        clear hm1 hkz
        by_cases hv0 : v = 0
        · subst hv0
          have hv : inB (0 : Int) 0 1000000 = true := by decide
          rw [hv] at s1
          rw [hv] at hok
          by_cases hz : k = 0
          · subst hz
            simp only [Nat.zero_mul, Nat.add_zero] at h0 h1 h2 h3
            have hok1 : ndOk T 0 = true := by rw [hok]; simp
            have hN := hide (hnext.out hok1)
            clear hok hok1 hnext hfin
            go_wp2_with fail
            refine (s1.out _).mono ?_
            rintro e w1 ⟨rfl, rfl⟩
            go_wp2_with fail
            exact ⟨⟨0 + 1, by omega, by go_num, by rw [hM.out]; go_num, hb.trans ((below_box (Below.refl _ _)).mono hb.size), hN.out⟩, by simp [intOf]; omega⟩
          · have hk0 : (0 : Int) < (k : Int) := by omega
            have hkf : (k == 0) = false := by simpa using hz
            rw [hkf] at hok
            cases hlf : (z == 0 && o == 0) with
            | false =>
              rw [hlf] at s2
              have hok1 : ndOk T k = true := by rw [hok]; cases hz0 : (z == 0) <;> cases ho0 : (o == 0) <;> simp_all
              have hN := hide (hnext.out hok1)
              clear hok hok1 hnext hfin
              go_wp2_with fail
              refine (s1.out _).mono ?_
              rintro e w1 ⟨rfl, rfl⟩
              go_wp2_with fail
              refine (s2.out _).mono ?_
              rintro e w2 ⟨rfl, hb2⟩
              obtain ⟨hc, hf⟩ := bcell hb2
              go_wp2_with fail
              exact ⟨⟨k + 1, by omega, by go_num, by rw [hM.out]; go_num, hb.trans ((below_box hb2).mono hb.size), hN.out⟩, by simp [intOf]; omega⟩
            | true =>
              rw [hlf] at s2
              have hok1 : ndOk T k = false := by rw [hok]; cases hz0 : (z == 0) <;> cases ho0 : (o == 0) <;> simp_all
              have hN := hide (hfin.out hok1)
              clear hok hok1 hnext hfin
              go_wp2_with fail
              refine (s1.out _).mono ?_
              rintro e w1 ⟨rfl, rfl⟩
              go_wp2_with fail
              refine (s2.out _).mono ?_
              rintro e w2 ⟨rfl, hb2⟩
              obtain ⟨hc, hf⟩ := bcell hb2
              go_wp2_with fail
              go_ret
              exact ⟨ret_bool hN.out.symm, hb.trans ((below_box hb2).mono hb.size)⟩
        · have hvf : (v == 0) = false := by simpa using hv0
          have hvn : (v != 0) = true := by simpa using hv0
          rw [hvf] at hok
          have hok1 : ndOk T k = false := by rw [hok]; simp
          have hN := hide (hfin.out hok1)
          clear hok hok1 hnext hfin
          go_wp2_with fail
          go_ret
          exact ⟨ret_bool hN.out.symm, hb.trans ((below_box (Below.refl _ _)).mono hb.size)⟩
    · have hk' : k = len := by omega
      subst hk'
      have hF := hide (ents_y hall)
      have hmk := manyTo_le T k
      clear hE hall
      go_wp2_with fail
      go_ret
      exact ⟨ret_bool hF.out.symm, hb⟩
end Go.Proofs.Ytjmflkheaioboab
