/- The law on LookUp: the program answers as the specification. -/
import Derived.Test.YtjmflkheaioboabI2g
import Derived.Test.YtjmflkheaioboabS2e
namespace Go.Proofs.Ytjmflkheaioboab
open Go.RowKit

set_option maxRecDepth 100000 in
set_option maxHeartbeats 800000 in
theorem w_lookUp (a0 : Option Addr) (len cap : Nat) (f0 f1 : Nat → Int) (f2 : Nat → Bool) (f3 : Nat → Int) (x : Int) (w : World) (hl : len ≤ maxLen) (hR : RowTrieNode a0 len f0 f1 f2 f3 w) :
    Calls Try.prog 7 #[.slice a0 len cap, .int .i64 x] w fun e w' => e = .returned (.bool true) ∧ Below w.heap.size w w' := by
  have hsz := hide (fun w => w_szTrieNodeS a0 len cap w hl)
  by_cases h : len ≤ 1048576
  · rw [if_pos h] at hsz
    have hlt : ¬ (1048576 - (len : Int) < 0) := by omega
    have T := hide (fun w hR => w_toTrieNodeS a0 len cap f0 f1 f2 f3 w h hR)
    have S1 := hide (fun a cap w (hR : RowTrieNode a len f0 f1 f2 f3 w) => s_lookUp a len cap (fun i => ⟨f0 i, f1 i, f2 i, f3 i⟩) x w h (RowT.of hR))
    have I1 := hide (fun a cap w (hR : RowTrieNode a len f0 f1 f2 f3 w) => i_lookUp a len cap (fun i => ⟨f0 i, f1 i, f2 i, f3 i⟩) x w h (RowT.of hR))
    have E := hide (fun a a' cap cap' w hR hR' => w_eqTrieNodeS a a' len cap cap' f0 f1 f2 f3 w h hR hR')
    generalize lookA (fun i => ⟨f0 i, f1 i, f2 i, f3 i⟩) len x = r at S1 I1
    obtain ⟨r1, r2, r3⟩ := r
    simp only [tup3] at S1 I1
    have n1 : (r1 != r1) = false := by simp
    have n2 : (r2 != r2) = false := by simp
    have n3 : (r3 != r3) = false := by simp
    go_enter Try.func7, Try.ntmps7
    go_wp2_with fail
    refine (hsz.out _).mono ?_
    rintro e w0 ⟨rfl, rfl⟩
    go_wp2_with fail
    refine (T.out _ hR).mono ?_
    rintro e w1 ⟨rfl, b1, o1⟩
    go_wp2_with fail
    refine (S1.out _ _ _ o1.row).mono ?_
    rintro e w2 ⟨rfl, b2⟩
    have d2 := b1.trans (b2.mono b1.size)
    clear b1 b2 o1
    go_wp2_with fail
    refine (T.out _ (hR.below d2)).mono ?_
    rintro e w3 ⟨rfl, b3, o3⟩
    have d3 := d2.trans (b3.mono d2.size)
    clear b3
    go_wp2_with fail
    refine (I1.out _ _ _ o3.row).mono ?_
    rintro e w4 ⟨rfl, b4⟩
    have d4 := d3.trans (b4.mono d3.size)
    have o3 := o3.below b4
    clear b4
    go_wp2_with fail
    refine (T.out _ (hR.below d4)).mono ?_
    rintro e w5 ⟨rfl, b5, o5⟩
    have d5 := d4.trans (b5.mono d4.size)
    have o3 := o3.below b5
    clear b5
    go_wp2_with fail
    refine (E.out _ _ _ _ _ o3.row o5.row).mono ?_
    rintro e w6 ⟨rfl, b6⟩
    have d6 := d5.trans (b6.mono d5.size)
    go_wp2_with fail
    go_ret
    exact ⟨rfl, d6⟩
  · rw [if_neg h] at hsz
    go_enter Try.func7, Try.ntmps7
    go_wp2_with fail
    refine (hsz.out _).mono ?_
    rintro e w0 ⟨rfl, rfl⟩
    go_wp2_with fail
    go_ret
    exact ⟨rfl, Below.refl _ _⟩
end Go.Proofs.Ytjmflkheaioboab
