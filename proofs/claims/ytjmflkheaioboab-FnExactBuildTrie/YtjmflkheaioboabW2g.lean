/- The law on BuildTrie: the program answers as the specification. -/
import Derived.Test.YtjmflkheaioboabW2f
import Derived.Test.YtjmflkheaioboabI2i
namespace Go.Proofs.Ytjmflkheaioboab
open Go.RowKit

theorem w_buildTrie (a0 : Option Addr) (len cap : Nat) (f0 f1 f2 : Nat → Int) (w : World) (hl : len ≤ maxLen) (hR : RowEntry a0 len f0 f1 f2 w) :
    Calls Try.prog 5 #[.slice a0 len cap] w fun e w' => e = .returned (.bool true) ∧ Below w.heap.size w w' := by
  by_cases h : len ≤ 1048576
  · cases ht : tabB f0 f1 f2 len with
    | true =>
      obtain ⟨h30, hF⟩ := tab_facts ht
      obtain ⟨_, h2, h3⟩ := build_ok f0 f1 f2 len (fun i hi => (hF i hi).1) len (Nat.le_refl _)
      refine w_buildTrie_yes a0 len cap f0 f1 f2 (buildTo f0 f1 f2 len).length (fun i => (nAt (buildTo f0 f1 f2 len) i).z) (fun i => (nAt (buildTo f0 f1 f2 len) i).o) (fun i => (nAt (buildTo f0 f1 f2 len) i).h) (fun i => (nAt (buildTo f0 f1 f2 len) i).v) w h (by omega) hR ?_ ?_
      · refine hide fun a cap w hE => (s_buildTrie_yes a len cap f0 f1 f2 w h hE ht).mono ?_
        rintro e w' ⟨v', rfl, ho, hb⟩
        obtain ⟨g, c, rfl, h1, h2⟩ := ownT_shape ho h2
        exact ⟨g, c, rfl, h1, ownT_out ho h2, hb⟩
      · refine hide fun a cap w hE => (i_buildTrie_yes a len cap f0 f1 f2 w h hE ht).mono ?_
        rintro e w' ⟨v', rfl, ho, hb⟩
        obtain ⟨g, c, rfl, h1, h2⟩ := ownT_shape ho h2
        exact ⟨g, c, rfl, h1, ownT_out ho h2, hb⟩
    | false => exact w_buildTrie_no a0 len cap f0 f1 f2 w h hR (hide fun a cap w hE => s_buildTrie_no a len cap f0 f1 f2 w h hE ht) (hide fun a cap w hE => i_buildTrie_no a len cap f0 f1 f2 w h hE ht)
  · exact w_buildTrie_over a0 len cap w hl h
end Go.Proofs.Ytjmflkheaioboab
