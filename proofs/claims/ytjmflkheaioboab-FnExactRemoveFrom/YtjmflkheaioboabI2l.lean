/- What the program's TrieEntries answers. -/
import Derived.Test.YtjmflkheaioboabI2k
import Derived.Test.YtjmflkheaioboabI2e
import Derived.Test.YtjmflkheaioboabS2i
namespace Go.Proofs.Ytjmflkheaioboab
open Go.RowKit

set_option maxRecDepth 100000 in
set_option maxHeartbeats 800000 in
theorem i_trieEntries_yes (a0 : Option Addr) (len cap : Nat) (T : Nat → Nd) (w : World) (hl : len ≤ 1048576) (hE : RowT a0 len T w) (hg : trieB len T = true) :
    Calls Try.prog 32 #[.slice a0 len cap] w fun e w' => ∃ v', e = .returned (.tuple #[v', .bool true]) ∧ OwnE w.heap.size v' (allE T) w' ∧ Below w.heap.size w w' := by
  have s1 := hide (fun w hE => i_goodTrie a0 len cap T w hl hE)
  obtain ⟨⟨hn1, hn2⟩, htr, hen⟩ := trieB_parts hg
  obtain ⟨d, hD⟩ := deep_of htr
  have s2 := hide (fun w hr => i_ents a0 len cap T d hD (nn_of htr) (nd_of hen) 33 0 0 0 w hr hn1 hD.root (by omega) good00)
  rw [hg] at s1
  clear hg htr hen hD
  go_enter Try.func32, Try.ntmps32
  go_wp2_with fail
  refine (s1.out _ hE).mono ?_
  rintro e w1 ⟨rfl, hb1⟩
  have hs := hb1.size
  go_wp2_with fail
  refine (s2.out _ (hE.below hb1)).mono ?_
  rintro e w2 ⟨v', rfl, ho, hb2⟩
  go_wp2_with fail
  refine bodyPost_ret (v := .tuple #[v', .bool true]) (by simp [results, Try.results32, go_sem]) rfl ⟨_, rfl, ownE_base ho hs, hb1.trans (hb2.mono hs)⟩
set_option maxRecDepth 100000 in
set_option maxHeartbeats 800000 in
theorem i_trieEntries_no (a0 : Option Addr) (len cap : Nat) (T : Nat → Nd) (w : World) (hl : len ≤ 1048576) (hE : RowT a0 len T w) (hg : trieB len T = false) :
    Calls Try.prog 32 #[.slice a0 len cap] w fun e w' => e = .returned (.tuple #[.slice none 0 0, .bool false]) ∧ Below w.heap.size w w' := by
  have s1 := hide (fun w hE => i_goodTrie a0 len cap T w hl hE)
  rw [hg] at s1
  go_enter Try.func32, Try.ntmps32
  go_wp2_with fail
  refine (s1.out _ hE).mono ?_
  rintro e w1 ⟨rfl, hb1⟩
  go_wp2_with fail
  refine bodyPost_ret (v := .tuple #[.slice none 0 0, .bool false]) (by simp [results, Try.results32, go_sem]) rfl ⟨rfl, hb1⟩
end Go.Proofs.Ytjmflkheaioboab
