/- What the specification's TrieEntries answers. -/
import Derived.Test.YtjmflkheaioboabS2h
namespace Go.Proofs.Ytjmflkheaioboab
open Go.RowKit

theorem nn_of {n : Nat} {T : Nat → Nd} (h : treeB n T = true) : ∀ k, k < n → 0 ≤ (T k).z ∧ 0 ≤ (T k).o := by
  intro k hk
  obtain ⟨h1, h2⟩ := tree_half h hk
  omega
theorem nd_of {n : Nat} {T : Nat → Nd} (h : entsB n T = true) : ∀ k, k < n → ndOk T k = true := by
  unfold entsB at h
  simp only [Bool.and_eq_true, List.all_eq_true, List.mem_range] at h
  exact h.1
set_option maxRecDepth 100000 in
set_option maxHeartbeats 800000 in
theorem s_trieEntries_yes (a0 : Option Addr) (len cap : Nat) (T : Nat → Nd) (w : World) (hl : len ≤ 1048576) (hE : RowT a0 len T w) (hg : trieB len T = true) :
    Calls Try.prog 31 #[.slice a0 len cap] w fun e w' => ∃ v', e = .returned (.tuple #[v', .bool true]) ∧ OwnE w.heap.size v' (allE T) w' ∧ Below w.heap.size w w' := by
  have s1 := hide (fun w hE => s_goodTrie a0 len cap T w hl hE)
  obtain ⟨⟨hn1, hn2⟩, htr, hen⟩ := trieB_parts hg
  obtain ⟨d, hD⟩ := deep_of htr
  have s2 := hide (fun base hab v w hb ho hr => s_walk a0 len cap T d base hab hD (nn_of htr) 33 0 0 0 [] v w hb ho hr hn1 hD.root (by omega) good00 (by decide))
  rw [hg] at s1
  clear hg htr hen hD
  go_enter Try.func31, Try.ntmps31
  go_wp2_with fail
  refine (s1.out _ hE).mono ?_
  rintro e w1 ⟨rfl, hb1⟩
  have hs := hb1.size
  go_wp2_with fail
  refine (s2.out w1.heap.size (fun b off e => by obtain ⟨b', off', e', hlt, _⟩ := (hE.below hb1) 0 hn1; rw [e] at e'; simp at e'; omega) _ _ (Nat.le_refl _) (ownE_nil _ _) (hE.below hb1)).mono ?_
  rintro e w2 ⟨v', rfl, ho, hb2, _⟩
  go_wp2_with fail
  refine bodyPost_ret (v := .tuple #[v', .bool true]) (by simp [results, Try.results31, go_sem]) rfl ⟨_, rfl, ownE_base ho hs, hb1.trans (hb2.mono hs)⟩
set_option maxRecDepth 100000 in
set_option maxHeartbeats 800000 in
theorem s_trieEntries_no (a0 : Option Addr) (len cap : Nat) (T : Nat → Nd) (w : World) (hl : len ≤ 1048576) (hE : RowT a0 len T w) (hg : trieB len T = false) :
    Calls Try.prog 31 #[.slice a0 len cap] w fun e w' => e = .returned (.tuple #[.slice none 0 0, .bool false]) ∧ Below w.heap.size w w' := by
  have s1 := hide (fun w hE => s_goodTrie a0 len cap T w hl hE)
  rw [hg] at s1
  go_enter Try.func31, Try.ntmps31
  go_wp2_with fail
  refine (s1.out _ hE).mono ?_
  rintro e w1 ⟨rfl, hb1⟩
  go_wp2_with fail
  refine bodyPost_ret (v := .tuple #[.slice none 0 0, .bool false]) (by simp [results, Try.results31, go_sem]) rfl ⟨rfl, hb1⟩
end Go.Proofs.Ytjmflkheaioboab
