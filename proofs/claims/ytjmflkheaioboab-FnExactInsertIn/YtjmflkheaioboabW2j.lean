/- The law on InsertIn: the program answers as the specification. -/
import Derived.Test.YtjmflkheaioboabW2h
import Derived.Test.YtjmflkheaioboabI2j
import Derived.Test.YtjmflkheaioboabS2g
namespace Go.Proofs.Ytjmflkheaioboab
open Go.RowKit

theorem row_ts {a : Option Addr} {ts : List Nd} {f0 f1 f3 : Nat → Int} {f2 : Nat → Bool} {w : World} (hf : ∀ i, i < ts.length → nAt ts i = ⟨f0 i, f1 i, f2 i, f3 i⟩) (h : RowTrieNode a ts.length f0 f1 f2 f3 w) : RowT a ts.length (nAt ts) w := by
  intro i hi
  rw [hf i hi]
  exact h i hi
def listT (f0 f1 : Nat → Int) (f2 : Nat → Bool) (f3 : Nat → Int) (n : Nat) : List Nd := (List.range n).map fun i => ⟨f0 i, f1 i, f2 i, f3 i⟩
theorem listT_len (f0 f1 : Nat → Int) (f2 : Nat → Bool) (f3 : Nat → Int) (n : Nat) : (listT f0 f1 f2 f3 n).length = n := by simp [listT]
theorem listT_at (f0 f1 : Nat → Int) (f2 : Nat → Bool) (f3 : Nat → Int) (n i : Nat) (h : i < n) : nAt (listT f0 f1 f2 f3 n) i = ⟨f0 i, f1 i, f2 i, f3 i⟩ := by
  unfold nAt listT
  rw [List.getD_eq_getElem?_getD, List.getElem?_map, List.getElem?_range h]
  rfl

theorem w_insertIn_ts (ts : List Nd) (a0 : Option Addr) (cap : Nat) (f0 f1 : Nat → Int) (f2 : Nat → Bool) (f3 : Nat → Int) (pa pl val : Int) (w : World) (h : ts.length ≤ 1048576) (hf : ∀ i, i < ts.length → nAt ts i = ⟨f0 i, f1 i, f2 i, f3 i⟩) (hR : RowTrieNode a0 ts.length f0 f1 f2 f3 w) :
    Calls Try.prog 9 #[.slice a0 ts.length cap, .agg #[.int .i64 pa, .int .i64 pl], .int .i64 val] w fun e w' => e = .returned (.bool true) ∧ Below w.heap.size w w' := by
  cases hg : trieB ts.length (nAt ts) with
  | false => exact w_insertIn_no a0 ts.length cap f0 f1 f2 f3 pa pl val w h hR (hide fun a cap w hE => s_insertIn_no1 a ts.length cap (nAt ts) pa pl val w h (row_ts hf hE) (.inl hg)) (hide fun a cap w hE => i_insertIn_no1 a ts.length cap (nAt ts) pa pl val w h (row_ts hf hE) (.inl hg))
  | true =>
    cases hp : goodB pa pl with
    | false => exact w_insertIn_no a0 ts.length cap f0 f1 f2 f3 pa pl val w h hR (hide fun a cap w hE => s_insertIn_no1 a ts.length cap (nAt ts) pa pl val w h (row_ts hf hE) (.inr hp)) (hide fun a cap w hE => i_insertIn_no1 a ts.length cap (nAt ts) pa pl val w h (row_ts hf hE) (.inr hp))
    | true =>
      obtain ⟨⟨hn1, hn2⟩, htr, _⟩ := trieB_parts hg
      have hlen := insT_len (ok_of_tree htr) hn1 pa pl.toNat val
      obtain ⟨⟨hl0, hl1⟩, _⟩ := goodB_iff.1 hp
      cases h2 : trieB (insT pa pl.toNat val ts).length (nAt (insT pa pl.toNat val ts)) with
      | false =>
        refine w_insertIn_no a0 ts.length cap f0 f1 f2 f3 pa pl val w h hR ?_ ?_
        · refine hide fun a cap w hE => ?_
          obtain ⟨b, off, rfl, _⟩ := hE 0 hn1
          exact s_insertIn_no2 b off cap ts pa pl val w h (row_ts hf hE) hg hp h2
        · refine hide fun a cap w hE => ?_
          obtain ⟨b, off, rfl, _⟩ := hE 0 hn1
          exact i_insertIn_no2 b off cap ts pa pl val w h (row_ts hf hE) hg hp h2
      | true =>
        refine w_insertIn_yes a0 ts.length cap f0 f1 f2 f3 pa pl val (insT pa pl.toNat val ts).length (fun i => (nAt (insT pa pl.toNat val ts) i).z) (fun i => (nAt (insT pa pl.toNat val ts) i).o) (fun i => (nAt (insT pa pl.toNat val ts) i).h) (fun i => (nAt (insT pa pl.toNat val ts) i).v) w h (by omega) hR ?_ ?_
        · refine hide fun a cap w hE => ?_
          obtain ⟨b, off, rfl, _⟩ := hE 0 hn1
          refine (s_insertIn_yes b off cap ts pa pl val w h (row_ts hf hE) hg hp h2).mono ?_
          rintro e w' ⟨v', rfl, ho, hb⟩
          obtain ⟨g, c, rfl, h1, h3⟩ := ownT_shape ho (by omega)
          exact ⟨g, c, rfl, h1, ownT_out ho h3, hb⟩
        · refine hide fun a cap w hE => ?_
          obtain ⟨b, off, rfl, _⟩ := hE 0 hn1
          refine (i_insertIn_yes b off cap ts pa pl val w h (row_ts hf hE) hg hp h2).mono ?_
          rintro e w' ⟨v', rfl, ho, hb⟩
          obtain ⟨g, c, rfl, h1, h3⟩ := ownT_shape ho (by omega)
          exact ⟨g, c, rfl, h1, ownT_out ho h3, hb⟩
theorem w_insertIn (a0 : Option Addr) (len cap : Nat) (f0 f1 : Nat → Int) (f2 : Nat → Bool) (f3 : Nat → Int) (pa pl val : Int) (w : World) (hl : len ≤ maxLen) (hR : RowTrieNode a0 len f0 f1 f2 f3 w) :
    Calls Try.prog 9 #[.slice a0 len cap, .agg #[.int .i64 pa, .int .i64 pl], .int .i64 val] w fun e w' => e = .returned (.bool true) ∧ Below w.heap.size w w' := by
  by_cases h : len ≤ 1048576
  · have hlen := listT_len f0 f1 f2 f3 len
    have := w_insertIn_ts (listT f0 f1 f2 f3 len) a0 cap f0 f1 f2 f3 pa pl val w (by rw [hlen]; exact h) (by rw [hlen]; exact fun i hi => listT_at f0 f1 f2 f3 len i hi) (by rw [hlen]; exact hR)
    rwa [hlen] at this
  · exact w_insertIn_over a0 len cap pa pl val w hl h
end Go.Proofs.Ytjmflkheaioboab
