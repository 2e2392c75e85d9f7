/- The laws of chapter 2, walked out of what the program's functions answer. -/
import Derived.Test.YtjmflkheaioboabS2
import Derived.Test.YtjmflkheaioboabFlatTrieNode
namespace Go.Proofs.Ytjmflkheaioboab
open Go.RowKit

set_option maxRecDepth 100000 in
set_option maxHeartbeats 800000 in
theorem w_goodTable_of (hI : Hid (∀ (a0 : Option Addr) (len cap : Nat) (f0 f1 f2 : Nat → Int) (w : World), len ≤ 1048576 → RowEntry a0 len f0 f1 f2 w →
      Calls Try.prog 14 #[.slice a0 len cap] w fun e w' => e = .returned (.bool (tabB f0 f1 f2 len)) ∧ Below w.heap.size w w'))
    (a0 : Option Addr) (len cap : Nat) (f0 f1 f2 : Nat → Int) (w : World) (hl : len ≤ maxLen) (hR : RowEntry a0 len f0 f1 f2 w) :
    Calls Try.prog 3 #[.slice a0 len cap] w fun e w' => e = .returned (.bool true) ∧ Below w.heap.size w w' := by
  have hsz := hide (fun w => w_szEntryS a0 len cap w hl)
  by_cases h : len ≤ 1048576
  · rw [if_pos h] at hsz
    have hlt : ¬ (1048576 - (len : Int) < 0) := by omega
    have T := hide (fun w hR => w_toEntryS a0 len cap f0 f1 f2 w h hR)
    have S1 := hide (fun a cap w hR => s_goodTable a len cap f0 f1 f2 w h hR)
    have I1 := hide (fun a cap w hR => hI.out a len cap f0 f1 f2 w h hR)
    have E := hide (fun a a' cap cap' w hR hR' => w_eqEntryS a a' len cap cap' f0 f1 f2 w h hR hR')
    clear hI
    generalize tabB f0 f1 f2 len = r at S1 I1
    go_enter Try.func3, Try.ntmps3
    go_wp2_with fail
    refine (hsz.out _).mono ?_
    rintro e w0 ⟨rfl, rfl⟩
    go_wp2_with fail
    refine (T.out _ hR).mono ?_
    rintro e w1 ⟨rfl, b1, o1⟩
    go_wp2_with fail
    refine (S1.out _ _ _ o1.row).mono ?_
    rintro e w2 ⟨rfl, b2⟩
    have d2 := b1.trans (b2.mono b1.size)
    clear b1 b2 o1
    go_wp2_with fail
    refine (T.out _ (hR.below d2)).mono ?_
    rintro e w3 ⟨rfl, b3, o3⟩
    have d3 := d2.trans (b3.mono d2.size)
    clear b3
    go_wp2_with fail
    refine (I1.out _ _ _ o3.row).mono ?_
    rintro e w4 ⟨rfl, b4⟩
    have d4 := d3.trans (b4.mono d3.size)
    have o3 := o3.below b4
    clear b4
    go_wp2_with fail
    refine (T.out _ (hR.below d4)).mono ?_
    rintro e w5 ⟨rfl, b5, o5⟩
    have d5 := d4.trans (b5.mono d4.size)
    have o3 := o3.below b5
    clear b5
    go_wp2_with fail
    refine (E.out _ _ _ _ _ o3.row o5.row).mono ?_
    rintro e w6 ⟨rfl, b6⟩
    have d6 := d5.trans (b6.mono d5.size)
    go_wp2_with fail
    go_ret
    exact ⟨rfl, d6⟩
  · rw [if_neg h] at hsz
    go_enter Try.func3, Try.ntmps3
    go_wp2_with fail
    refine (hsz.out _).mono ?_
    rintro e w0 ⟨rfl, rfl⟩
    go_wp2_with fail
    go_ret
    exact ⟨rfl, Below.refl _ _⟩
end Go.Proofs.Ytjmflkheaioboab
