/- What the program's GoodTrie answers. -/
import Derived.Test.YtjmflkheaioboabI2d
namespace Go.Proofs.Ytjmflkheaioboab
open Go.RowKit

set_option maxRecDepth 100000 in
set_option maxHeartbeats 800000 in
theorem i_goodTrie (a0 : Option Addr) (len cap : Nat) (T : Nat → Nd) (w : World) (hl : len ≤ 1048576) (hE : RowT a0 len T w) :
    Calls Try.prog 28 #[.slice a0 len cap] w fun e w' => e = .returned (.bool (trieB len T)) ∧ Below w.heap.size w w' := by
  by_cases h0 : len = 0
  · rw [trieB_n (by omega)]
    subst h0
    clear hE
    go_enter Try.func28, Try.ntmps28
    go_wp2_with fail
    go_ret
    exact ⟨rfl, Below.refl _ _⟩
  · have h0b : ((len : Int) == 0) = false := by simp; omega
    by_cases h2 : len ≤ 2000
    · rw [trieB_in (by omega) h2]
      have h2' : ¬ ((len : Int) > 2000) := by omega
      have s1 := hide (fun w hE => i_isTree a0 len cap T w hl hE)
      have s2 := hide (fun w hE => i_goodEntries a0 len cap T w hl hE)
      cases ht : treeB len T with
      | false =>
        rw [ht] at s1
        go_enter Try.func28, Try.ntmps28
        go_wp2_with fail
        refine (s1.out _ hE).mono ?_
        rintro e w1 ⟨rfl, hb1⟩
        go_wp2_with fail
        go_ret
        exact ⟨rfl, hb1⟩
      | true =>
        rw [ht] at s1
        rw [Bool.true_and]
        generalize entsB len T = r at *
        go_enter Try.func28, Try.ntmps28
        go_wp2_with fail
        refine (s1.out _ hE).mono ?_
        rintro e w1 ⟨rfl, hb1⟩
        go_wp2_with fail
        refine (s2.out _ (hE.below hb1)).mono ?_
        rintro e w2 ⟨rfl, hb2⟩
        go_wp2_with fail
        go_ret
        exact ⟨rfl, below_step hb1 hb2⟩
    · rw [trieB_n (by omega)]
      have h2' : (len : Int) > 2000 := by omega
      clear hE
      go_enter Try.func28, Try.ntmps28
      go_wp2_with fail
      go_ret
      exact ⟨rfl, Below.refl _ _⟩
end Go.Proofs.Ytjmflkheaioboab
