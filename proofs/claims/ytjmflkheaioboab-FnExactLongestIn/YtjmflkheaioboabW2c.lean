/- The law on LongestIn: the program answers as the specification. -/
import Derived.Test.YtjmflkheaioboabI2b
namespace Go.Proofs.Ytjmflkheaioboab
open Go.RowKit

theorem longA_form (f0 f1 f2 : Nat → Int) (n : Nat) (x : Int) : ∃ (a l v : Int) (g : Bool), longA f0 f1 f2 n x = .tuple #[.agg #[.int .i64 a, .int .i64 l, .int .i64 v], .bool g] := by
  unfold longA
  split
  · exact longV_form _ _ _ _
  · exact ⟨_, _, _, _, rfl⟩
set_option maxRecDepth 100000 in
set_option maxHeartbeats 800000 in
theorem w_longestIn (a0 : Option Addr) (len cap : Nat) (f0 f1 f2 : Nat → Int) (x : Int) (w : World) (hl : len ≤ maxLen) (hR : RowEntry a0 len f0 f1 f2 w) :
    Calls Try.prog 4 #[.slice a0 len cap, .int .i64 x] w fun e w' => e = .returned (.bool true) ∧ Below w.heap.size w w' := by
  have hsz := hide (fun w => w_szEntryS a0 len cap w hl)
  by_cases h : len ≤ 1048576
  · rw [if_pos h] at hsz
    have hlt : ¬ (1048576 - (len : Int) < 0) := by omega
    have T := hide (fun w hR => w_toEntryS a0 len cap f0 f1 f2 w h hR)
    have S1 := hide (fun a cap w hR => s_longest a len cap f0 f1 f2 x w h hR)
    have I1 := hide (fun a cap w hR => i_longest a len cap f0 f1 f2 x w h hR)
    have E := hide (fun a a' cap cap' w hR hR' => w_eqEntryS a a' len cap cap' f0 f1 f2 w h hR hR')
    obtain ⟨y0, y1, y2, g, hv⟩ := longA_form f0 f1 f2 len x
    rw [hv] at S1 I1
    clear hv
    have E1 := hide (fun w => w_eqEntry y0 y1 y2 w)
    have hg : (g != g) = false := by simp
    go_enter Try.func4, Try.ntmps4
    go_wp2_with fail
    refine (hsz.out _).mono ?_
    rintro e w0 ⟨rfl, rfl⟩
    go_wp2_with fail
    refine (T.out _ hR).mono ?_
    rintro e w1 ⟨rfl, b1, o1⟩
    go_wp2_with fail
    refine (S1.out _ _ _ o1.row).mono ?_
    rintro e w2 ⟨rfl, b2⟩
    have d2 := b1.trans (b2.mono b1.size)
    have hR2 := fun o => (hR.below d2).below (below_box (Below.refl (w2.alloc o).heap.size (w2.alloc o)))
    clear b1 b2 o1
    go_wp2_with fail
    have T3 := T.out _ (hR2 (.cells #[.int .i64 y0, .int .i64 y1, .int .i64 y2] 32))
    refine T3.mono ?_
    clear T3
    rintro e w3 ⟨rfl, b3, o3⟩
    have c3 := (Cell3.new w2 y0 y1 y2 32).below b3
    have hs3 : (w2.alloc (.cells #[.int .i64 y0, .int .i64 y1, .int .i64 y2] 32)).heap.size = w2.heap.size + 1 := by simp
    rw [hs3] at o3
    have d3 := d2.trans ((below_box b3).mono d2.size)
    clear b3 d2
    go_wp2_with fail
    refine (I1.out _ _ _ o3.row).mono ?_
    rintro e w4 ⟨rfl, b4⟩
    have d4 := d3.trans (b4.mono d3.size)
    have o3 := o3.below b4
    have c3 := (c3.below b4).alloc (.cells #[.int .i64 y0, .int .i64 y1, .int .i64 y2] 32)
    obtain ⟨_, ⟨c0, c1, c2⟩, _⟩ := c3
    clear b4 d3
    go_wp2_with fail
    refine (E1.out _).mono ?_
    rintro e w5 ⟨rfl, b5⟩
    have d5 := d4.trans ((below_box b5).mono d4.size)
    have o3 := o3.below (below_box b5)
    clear b5 d4 c0 c1 c2
    go_wp2_with fail
    refine (T.out _ (hR.below d5)).mono ?_
    rintro e w6 ⟨rfl, b6, o6⟩
    have d6 := d5.trans (b6.mono d5.size)
    have o3 := o3.below b6
    clear b6 d5
    go_wp2_with fail
    refine (E.out _ _ _ _ _ o3.row o6.row).mono ?_
    rintro e w7 ⟨rfl, b7⟩
    have d7 := d6.trans (b7.mono d6.size)
    go_wp2_with fail
    go_ret
    exact ⟨rfl, d7⟩
  · rw [if_neg h] at hsz
    go_enter Try.func4, Try.ntmps4
    go_wp2_with fail
    refine (hsz.out _).mono ?_
    rintro e w0 ⟨rfl, rfl⟩
    go_wp2_with fail
    go_ret
    exact ⟨rfl, Below.refl _ _⟩
end Go.Proofs.Ytjmflkheaioboab
