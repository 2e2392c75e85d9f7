/- The law on sameAddrs: the program answers as the specification. -/
import Derived.Test.YtlflfloopomaiaaI3h
import Derived.Test.YtlflfloopomaiaaS3e
import Derived.Test.YtlflfloopomaiaaSz3
namespace Go.Proofs.Ytlflfloopomaiaa
open Go.RowKit

set_option maxRecDepth 100000 in
set_option maxHeartbeats 1600000 in
theorem w_sameAddrs_law (r0 r1 : Bool) (a0 : Option Addr) (len cap : Nat) (f0 f1 : Nat → Int) (b0 : Option Addr) (lenb capb : Nat) (h0 h1 : Nat → Int) (w : World) (ha : len ≤ 1048576) (hb : len + lenb ≤ 1048576) (Ra : RowPrefix a0 len f0 f1 w) (Rb : RowPrefix b0 lenb h0 h1 w)
    (S1 : Hid (∀ (a ca b cb : Nat) (w : World), RowPrefix (some ⟨a, 0, none⟩) len f0 f1 w → RowPrefix (some ⟨b, 0, none⟩) lenb h0 h1 w → Calls Try.prog 15 #[.slice (some ⟨a, 0, none⟩) len ca, .slice (some ⟨b, 0, none⟩) lenb cb] w fun e w' => e = .returned (.tuple #[.bool r0, .bool r1]) ∧ Below w.heap.size w w'))
    (I1 : Hid (∀ (a ca b cb : Nat) (w : World), RowPrefix (some ⟨a, 0, none⟩) len f0 f1 w → RowPrefix (some ⟨b, 0, none⟩) lenb h0 h1 w → Calls Try.prog 14 #[.slice (some ⟨a, 0, none⟩) len ca, .slice (some ⟨b, 0, none⟩) lenb cb] w fun e w' => e = .returned (.tuple #[.bool r0, .bool r1]) ∧ Below w.heap.size w w')) :
    Calls Try.prog 7 #[.slice a0 len cap, .slice b0 lenb capb] w fun e w' => e = .returned (.bool true) ∧ Below w.heap.size w w' := by
  have hsza := hide (fun w => w_szPrefixS a0 len cap w (Nat.le_trans ha (by decide)))
  rw [if_pos ha] at hsza
  have hlta : ¬ (1048576 - (len : Int) < 0) := by omega
  have hszb := hide (fun w => w_szPrefixSr b0 lenb capb (1048576 - (len : Int)) w (by omega) (by omega) (by omega))
  have hltb : ¬ (1048576 - (len : Int) - (lenb : Int) < 0) := by omega
  have Ta := hide (fun w hR => w_toPrefixS a0 len cap f0 f1 w (by omega) hR)
  have Tb := hide (fun w hR => w_toPrefixS b0 lenb capb h0 h1 w (by omega) hR)
  have Ea := hide (fun a a' cap cap' w hR hR' => w_eqPrefixS a a' len cap cap' f0 f1 w (by omega) hR hR')
  have Eb := hide (fun a a' cap cap' w hR hR' => w_eqPrefixS a a' lenb cap cap' h0 h1 w (by omega) hR hR')
  have k0 : (r0 != r0) = false := by simp
  have k1 : (r1 != r1) = false := by simp
  have d0 : Below w.heap.size w w := Below.refl _ _
  go_enter Try.func7, Try.ntmps7
  go_wp2_with fail
  refine (hsza.out _).mono ?_
  rintro e w_ ⟨rfl, hw_⟩
  rw [hw_]
  clear hw_ w_
  go_wp2_with fail
  refine (hszb.out _).mono ?_
  rintro e w_ ⟨rfl, hw_⟩
  rw [hw_]
  clear hw_ w_
  go_wp2_with fail
  refine (Ta.out _ (Ra.below d0)).mono ?_
  rintro e w1 ⟨rfl, b1, o1⟩
  have d1 := d0.trans (b1.mono d0.size)
  clear b1
  go_wp2_with fail
  refine (Tb.out _ (Rb.below d1)).mono ?_
  rintro e w2 ⟨rfl, b2, o2⟩
  have d2 := d1.trans (b2.mono d1.size)
  have o1 := o1.below b2
  clear b2
  go_wp2_with fail
  refine (S1.out _ _ _ _ _ o1.row o2.row).mono ?_
  rintro e w3 ⟨rfl, b3⟩
  have d3 := d2.trans (b3.mono d2.size)
  clear b3 o1 o2
  go_wp2_with fail
  refine (Ta.out _ (Ra.below d3)).mono ?_
  rintro e w4 ⟨rfl, b4, o4⟩
  have d4 := d3.trans (b4.mono d3.size)
  clear b4
  go_wp2_with fail
  refine (Tb.out _ (Rb.below d4)).mono ?_
  rintro e w5 ⟨rfl, b5, o5⟩
  have d5 := d4.trans (b5.mono d4.size)
  have o4 := o4.below b5
  clear b5
  go_wp2_with fail
  refine (I1.out _ _ _ _ _ o4.row o5.row).mono ?_
  rintro e w6 ⟨rfl, b6⟩
  have d6 := d5.trans (b6.mono d5.size)
  have o4 := o4.below b6
  have o5 := o5.below b6
  clear b6
  go_wp2_with fail
  refine (Ta.out _ (Ra.below d6)).mono ?_
  rintro e w7 ⟨rfl, b7, o7⟩
  have d7 := d6.trans (b7.mono d6.size)
  have o4 := o4.below b7
  have o5 := o5.below b7
  clear b7
  go_wp2_with fail
  refine (Ea.out _ _ _ _ _ o4.row o7.row).mono ?_
  rintro e w8 ⟨rfl, b8⟩
  have d8 := d7.trans (b8.mono d7.size)
  have o5 := o5.below b8
  clear b8 o4 o7
  go_wp2_with fail
  refine (Tb.out _ (Rb.below d8)).mono ?_
  rintro e w9 ⟨rfl, b9, o9⟩
  have d9 := d8.trans (b9.mono d8.size)
  have o5 := o5.below b9
  clear b9
  go_wp2_with fail
  refine (Eb.out _ _ _ _ _ o5.row o9.row).mono ?_
  rintro e w10 ⟨rfl, b10⟩
  have d10 := d9.trans (b10.mono d9.size)
  go_wp2_with fail
  go_ret
  exact ⟨rfl, d10⟩
set_option maxRecDepth 100000 in
set_option maxHeartbeats 800000 in
theorem w_sameAddrs_over (a0 : Option Addr) (len cap : Nat) (b0 : Option Addr) (lenb capb : Nat) (w : World) (hl : len ≤ maxLen) (hlb : lenb ≤ maxLen) (h : ¬ len + lenb ≤ 1048576) :
    Calls Try.prog 7 #[.slice a0 len cap, .slice b0 lenb capb] w fun e w' => e = .returned (.bool true) ∧ Below w.heap.size w w' := by
  have hsza := hide (fun w => w_szPrefixS a0 len cap w hl)
  by_cases ha : len ≤ 1048576
  · rw [if_pos ha] at hsza
    have hlta : ¬ (1048576 - (len : Int) < 0) := by omega
    have hszb := hide (fun w => w_szPrefixSo b0 lenb capb (1048576 - (len : Int)) w hlb (by omega) (by omega) (by omega))
    go_enter Try.func7, Try.ntmps7
    go_wp2_with fail
    refine (hsza.out _).mono ?_
    rintro e w_ ⟨rfl, hw_⟩
    rw [hw_]
    clear hw_ w_
    go_wp2_with fail
    refine (hszb.out _).mono ?_
    rintro e w_ ⟨rfl, hw_⟩
    rw [hw_]
    clear hw_ w_
    go_wp2_with fail
    go_ret
    exact ⟨rfl, Below.refl _ _⟩
  · rw [if_neg ha] at hsza
    go_enter Try.func7, Try.ntmps7
    go_wp2_with fail
    refine (hsza.out _).mono ?_
    rintro e w_ ⟨rfl, hw_⟩
    rw [hw_]
    clear hw_ w_
    go_wp2_with fail
    go_ret
    exact ⟨rfl, Below.refl _ _⟩
theorem w_sameAddrs (a0 : Option Addr) (len cap : Nat) (f0 f1 : Nat → Int) (b0 : Option Addr) (lenb capb : Nat) (h0 h1 : Nat → Int) (w : World) (hl : len ≤ maxLen) (Ra : RowPrefix a0 len f0 f1 w) (hlb : lenb ≤ maxLen) (Rb : RowPrefix b0 lenb h0 h1 w) :
    Calls Try.prog 7 #[.slice a0 len cap, .slice b0 lenb capb] w fun e w' => e = .returned (.bool true) ∧ Below w.heap.size w w' := by
  by_cases h : len + lenb ≤ 1048576
  · have e := listOf_len len f0 f1
    have e2 := listOf_len lenb h0 h1
    by_cases hg : goodL (listOf len f0 f1) = true ∧ goodL (listOf lenb h0 h1) = true
    · refine w_sameAddrs_law (decide (fewS (listOf len f0 f1) = fewS (listOf lenb h0 h1))) true a0 len cap f0 f1 b0 lenb capb h0 h1 w (by omega) h Ra Rb (fun a ca b cb w r1 r2 => ?_) (fun a ca b cb w r1 r2 => ?_)
      · have k := s_sameAddrs_yes (some ⟨a, 0, none⟩) ca (listOf len f0 f1) (some ⟨b, 0, none⟩) cb (listOf lenb h0 h1) w (RowP.of r1) (RowP.of r2) hg.1 hg.2
        rw [e, e2] at k
        exact k
      · have k := i_sameAddrs_yes (some ⟨a, 0, none⟩) ca (listOf len f0 f1) (some ⟨b, 0, none⟩) cb (listOf lenb h0 h1) w ⟨RowP.of r1, .inr ⟨_, _, rfl⟩⟩ ⟨RowP.of r2, .inr ⟨_, _, rfl⟩⟩ hg.1 hg.2
        rw [e, e2] at k
        exact k
    · have hg2 : goodL (listOf len f0 f1) = false ∨ goodL (listOf lenb h0 h1) = false := by
        cases hx1 : goodL (listOf len f0 f1) with
        | false => exact .inl rfl
        | true =>
          cases hx2 : goodL (listOf lenb h0 h1) with
          | false => exact .inr rfl
          | true => exact absurd ⟨hx1, hx2⟩ hg
      refine w_sameAddrs_law false false a0 len cap f0 f1 b0 lenb capb h0 h1 w (by omega) h Ra Rb (fun a ca b cb w r1 r2 => ?_) (fun a ca b cb w r1 r2 => ?_)
      · have k := s_sameAddrs_no (some ⟨a, 0, none⟩) ca (listOf len f0 f1) (some ⟨b, 0, none⟩) cb (listOf lenb h0 h1) w (by omega) (by omega) (RowP.of r1) (RowP.of r2) hg2
        rw [e, e2] at k
        exact k
      · have k := i_sameAddrs_no (some ⟨a, 0, none⟩) ca (listOf len f0 f1) (some ⟨b, 0, none⟩) cb (listOf lenb h0 h1) w (by omega) (by omega) (RowP.of r1) (RowP.of r2) hg2
        rw [e, e2] at k
        exact k
  · exact w_sameAddrs_over a0 len cap b0 lenb capb w hl hlb h
end Go.Proofs.Ytlflfloopomaiaa
