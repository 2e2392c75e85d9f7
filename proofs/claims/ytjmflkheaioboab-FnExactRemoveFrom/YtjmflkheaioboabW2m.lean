/- The law on RemoveFrom: the program answers as the specification. -/
import Derived.Test.YtjmflkheaioboabW2i
import Derived.Test.YtjmflkheaioboabI2m
namespace Go.Proofs.Ytjmflkheaioboab
open Go.RowKit

theorem remT_len {n : Nat} {T : Nat → Nd} (hg : trieB n T = true) (a l : Int) : 0 < (remT a l T).length ∧ (remT a l T).length ≤ 1048576 := by
  obtain ⟨f1, f2, f3⟩ := all_facts hg
  obtain ⟨g1, g2, g3⟩ := rest_facts (a := a) (l := l) f1 f2 f3
  obtain ⟨h30, hF⟩ := tab_facts (tab_list g1 g2 g3)
  obtain ⟨_, h2, h3⟩ := build_ok (fun i => (eAt (restE a l (allE T)) i).1) _ (fun i => (eAt (restE a l (allE T)) i).2.2) _ (fun i hi => (hF i hi).1) _ (Nat.le_refl _)
  unfold remT
  omega
theorem w_removeFrom (a0 : Option Addr) (len cap : Nat) (f0 f1 : Nat → Int) (f2 : Nat → Bool) (f3 : Nat → Int) (pa pl : Int) (w : World) (hl : len ≤ maxLen) (hR : RowTrieNode a0 len f0 f1 f2 f3 w) :
    Calls Try.prog 10 #[.slice a0 len cap, .agg #[.int .i64 pa, .int .i64 pl]] w fun e w' => e = .returned (.bool true) ∧ Below w.heap.size w w' := by
  by_cases h : len ≤ 1048576
  · obtain ⟨T, hT⟩ : ∃ T : Nat → Nd, T = fun i => ⟨f0 i, f1 i, f2 i, f3 i⟩ := ⟨_, rfl⟩
    have hr : ∀ {a : Option Addr} {w : World}, RowTrieNode a len f0 f1 f2 f3 w → RowT a len T w := by intro a w h; rw [hT]; exact RowT.of h
    cases hg : trieB len T with
    | false => exact w_removeFrom_no a0 len cap f0 f1 f2 f3 pa pl w h hR (hide fun a cap w hE => s_removeFrom_no1 a len cap T pa pl w h (hr hE) (.inl hg)) (hide fun a cap w hE => i_removeFrom_no1 a len cap T pa pl w h (hr hE) hg)
    | true =>
      obtain ⟨_, hok, h30⟩ := all_facts hg
      cases hp : goodB pa pl with
      | false => exact w_removeFrom_no a0 len cap f0 f1 f2 f3 pa pl w h hR (hide fun a cap w hE => s_removeFrom_no1 a len cap T pa pl w h (hr hE) (.inr hp)) (hide fun a cap w hE => i_removeFrom_no2 a len cap T pa pl w h (hr hE) hg (found_bad hok hp))
      | true =>
        cases hfd : foundTo pa pl (allE T) (allE T).length with
        | false => exact w_removeFrom_no a0 len cap f0 f1 f2 f3 pa pl w h hR (hide fun a cap w hE => s_removeFrom_no2 a len cap T pa pl w h (hr hE) hg hp hfd) (hide fun a cap w hE => i_removeFrom_no2 a len cap T pa pl w h (hr hE) hg hfd)
        | true =>
          obtain ⟨hr1, hr2⟩ := remT_len hg pa pl
          refine w_removeFrom_yes a0 len cap f0 f1 f2 f3 pa pl (remT pa pl T).length (fun i => (nAt (remT pa pl T) i).z) (fun i => (nAt (remT pa pl T) i).o) (fun i => (nAt (remT pa pl T) i).h) (fun i => (nAt (remT pa pl T) i).v) w h hr2 hR ?_ ?_
          · refine hide fun a cap w hE => (s_removeFrom_yes a len cap T pa pl w h (hr hE) hg hp hfd).mono ?_
            rintro e w' ⟨v', rfl, ho, hb⟩
            obtain ⟨g, c, rfl, h1, h3⟩ := ownT_shape ho hr1
            exact ⟨g, c, rfl, h1, ownT_out ho h3, hb⟩
          · refine hide fun a cap w hE => (i_removeFrom_yes a len cap T pa pl w h (hr hE) hg hfd).mono ?_
            rintro e w' ⟨v', rfl, ho, hb⟩
            obtain ⟨g, c, rfl, h1, h3⟩ := ownT_shape ho hr1
            exact ⟨g, c, rfl, h1, ownT_out ho h3, hb⟩
  · exact w_removeFrom_over a0 len cap pa pl w hl h
end Go.Proofs.Ytjmflkheaioboab
