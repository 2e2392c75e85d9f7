/- The law on TrieEntries: the program answers as the specification. -/
import Derived.Test.YtjmflkheaioboabW2k
import Derived.Test.YtjmflkheaioboabI2l
namespace Go.Proofs.Ytjmflkheaioboab
open Go.RowKit

theorem w_trieEntries (a0 : Option Addr) (len cap : Nat) (f0 f1 : Nat → Int) (f2 : Nat → Bool) (f3 : Nat → Int) (w : World) (hl : len ≤ maxLen) (hR : RowTrieNode a0 len f0 f1 f2 f3 w) :
    Calls Try.prog 8 #[.slice a0 len cap] w fun e w' => e = .returned (.bool true) ∧ Below w.heap.size w w' := by
  by_cases h : len ≤ 1048576
  · obtain ⟨T, hT⟩ : ∃ T : Nat → Nd, T = fun i => ⟨f0 i, f1 i, f2 i, f3 i⟩ := ⟨_, rfl⟩
    have hr : ∀ {a : Option Addr} {w : World}, RowTrieNode a len f0 f1 f2 f3 w → RowT a len T w := by intro a w h; rw [hT]; exact RowT.of h
    cases hg : trieB len T with
    | false => exact w_trieEntries_no false a0 len cap f0 f1 f2 f3 w h hR (hide fun a cap w hE => (s_trieEntries_no a len cap T w h (hr hE) hg).mono fun e w' k => ⟨none, 0, k⟩) (hide fun a cap w hE => (i_trieEntries_no a len cap T w h (hr hE) hg).mono fun e w' k => ⟨none, 0, k⟩)
    | true =>
      obtain ⟨_, _, h30⟩ := all_facts hg
      by_cases h0 : allE T = []
      · refine w_trieEntries_no true a0 len cap f0 f1 f2 f3 w h hR ?_ ?_
        · refine hide fun a cap w hE => (s_trieEntries_yes a len cap T w h (hr hE) hg).mono ?_
          rintro e w' ⟨v', rfl, ho, hb⟩
          obtain ⟨a, c, rfl, _, _⟩ := ownE_row ho
          exact ⟨a, c, by rw [h0]; rfl, hb⟩
        · refine hide fun a cap w hE => (i_trieEntries_yes a len cap T w h (hr hE) hg).mono ?_
          rintro e w' ⟨v', rfl, ho, hb⟩
          obtain ⟨a, c, rfl, _, _⟩ := ownE_row ho
          exact ⟨a, c, by rw [h0]; rfl, hb⟩
      · refine w_trieEntries_yes a0 len cap f0 f1 f2 f3 (allE T).length (fun i => (eAt (allE T) i).1) (fun i => (eAt (allE T) i).2.1) (fun i => (eAt (allE T) i).2.2) w h (by omega) hR ?_ ?_
        · refine hide fun a cap w hE => (s_trieEntries_yes a len cap T w h (hr hE) hg).mono ?_
          rintro e w' ⟨v', rfl, ho, hb⟩
          obtain ⟨g, c, rfl, h1, h2⟩ := ownE_shape ho h0
          exact ⟨g, c, rfl, h1, ownE_out ho h2, hb⟩
        · refine hide fun a cap w hE => (i_trieEntries_yes a len cap T w h (hr hE) hg).mono ?_
          rintro e w' ⟨v', rfl, ho, hb⟩
          obtain ⟨g, c, rfl, h1, h2⟩ := ownE_shape ho h0
          exact ⟨g, c, rfl, h1, ownE_out ho h2, hb⟩
  · exact w_trieEntries_over a0 len cap w hl h
end Go.Proofs.Ytjmflkheaioboab
