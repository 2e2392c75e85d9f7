/- The law on IsValleyFree: the program answers as the specification. -/
import Derived.Test.YtnpmkckkfbddpaaI11d
import Derived.Test.YtnpmkckkfbddpaaS11d
import Derived.Test.YtnpmkckkfbddpaaFlatInt
namespace Go.Proofs.Ytnpmkckkfbddpaa
open Go.RowKit Go.Maps
set_option maxRecDepth 100000 in
set_option maxHeartbeats 3200000 in
theorem w_isValleyFree (u : Int) (ra : Option Addr) (n rc : Nat) (f0 f1 f2 : Nat → Int) (pa : Option Addr) (pn pc : Nat) (pf : Nat → Int) (w : World) (hn : n ≤ maxLen) (hA : RowRel ra n f0 f1 f2 w) (hp : pn ≤ maxLen) (hP : RowInt pa pn pf w) (hpx : ∀ i, i < pn → W64 (pf i)) :
    Calls Try.prog 5 #[.int .i64 u, .slice ra n rc, .slice pa pn pc] w fun e w' => e = .returned (.bool true) ∧ Below w.heap.size w w' := by
  have SZ := hide (fun w => w_szRelS ra n rc w hn)
  unfold maxLen at hp
  by_cases hgl : pn ≤ 1048576
  · have hgl' : ¬ (pn : Int) > 1048576 := by omega
    have TI := hide (fun w R => w_toIntS pa pn pc pf w hgl R)
    have EI := hide (fun a a' c c' w R Q => w_eqIntS a a' pn c c' pf w (by omega) R Q)
    by_cases hs : n ≤ 1048576
    · rw [if_pos hs] at SZ
      have hlt : ¬ (1048576 - (n : Int) < 0) := by omega
      have TA := hide (fun w R => w_toRelS ra n rc f0 f1 f2 w hs R)
      have SG := hide (fun ra rc hc pa w R P => s_isValleyFree u ra n rc f0 f1 f2 pa pn pn pf w hs hc R hgl (Nat.le_refl _) P)
      have IG := hide (fun ra rc pa w R P => i_isValleyFree u ra n rc f0 f1 f2 pa pn pn pf w hs hpx R hgl (Nat.le_refl _) P)
      have EA := hide (fun a a' c c' w R Q => w_eqRelS a a' n c c' f0 f1 f2 w hs R Q)
      generalize vf0 u n f0 f1 f2 pn pf = r0 at SG IG
      have kr0 : (r0 != r0) = false := by simp
      generalize vf1 u n f0 f1 f2 pn pf = r1 at SG IG
      have kr1 : (r1 != r1) = false := by simp
      clear hn hs
      go_enter Try.func5, Try.ntmps5
      go_wp2_with fail
      refine (SZ.out _).mono ?_
      rintro e w1 ⟨rfl, hw1⟩
      rw [hw1]; clear hw1 w1
      go_wp2_with fail
      refine (TA.out _ hA).mono ?_
      rintro e w1 ⟨rfl, b1, o1⟩
      have d1 := b1
      go_wp2_with fail
      refine (TI.out _ (hP.below d1)).mono ?_
      rintro e w2 ⟨rfl, b2, i2⟩
      have d2 := d1.trans (b2.mono d1.size)
      replace o1 := o1.below b2
      go_wp2_with fail
      refine (SG.out _ _ (Nat.le_refl _) _ _ o1.row i2.row).mono ?_
      rintro e w3 ⟨rfl, b3⟩
      have d3 := d2.trans (b3.mono d2.size)
      clear b1 b2 b3 d1 d2 o1 i2
      go_wp2_with fail
      refine (TA.out _ (hA.below d3)).mono ?_
      rintro e w4 ⟨rfl, b4, o4⟩
      have d4 := d3.trans (b4.mono d3.size)
      clear b4 d3
      generalize w3.heap.size = q4 at *
      go_wp2_with fail
      refine (TI.out _ (hP.below d4)).mono ?_
      rintro e w5 ⟨rfl, b5, i5⟩
      have d5 := d4.trans (b5.mono d4.size)
      replace o4 := o4.below b5
      clear b5 d4
      generalize w4.heap.size = q5 at *
      go_wp2_with fail
      refine (IG.out _ _ _ _ o4.row i5.row).mono ?_
      rintro e w6 ⟨rfl, b6⟩
      have d6 := d5.trans (b6.mono d5.size)
      replace o4 := o4.below b6
      replace i5 := i5.below b6
      clear b6 d5
      go_wp2_with fail
      refine (TA.out _ (hA.below d6)).mono ?_
      rintro e w7 ⟨rfl, b7, o7⟩
      have d7 := d6.trans (b7.mono d6.size)
      replace o4 := o4.below b7
      replace i5 := i5.below b7
      clear b7 d6
      go_wp2_with fail
      refine (EA.out _ _ _ _ _ o4.row o7.row).mono ?_
      rintro e w8 ⟨rfl, b8⟩
      have d8 := d7.trans (b8.mono d7.size)
      replace i5 := i5.below b8
      clear b8 d7 o4 o7
      go_wp2_with fail
      refine (TI.out _ (hP.below d8)).mono ?_
      rintro e w9 ⟨rfl, b9, i9⟩
      have d9 := d8.trans (b9.mono d8.size)
      replace i5 := i5.below b9
      clear b9 d8
      go_wp2_with fail
      refine (EI.out _ _ _ _ _ i5.row i9.row).mono ?_
      rintro e wG ⟨rfl, bG⟩
      have d8 := d9.trans (bG.mono d9.size)
      go_wp2_with fail
      go_ret
      exact ⟨rfl, d8⟩
    · rw [if_neg hs] at SZ
      clear hs hn
      go_enter Try.func5, Try.ntmps5
      go_wp2_with fail
      refine (SZ.out _).mono ?_
      rintro e w1 ⟨rfl, hw1⟩
      rw [hw1]; clear hw1 w1
      go_wp2_with fail
      go_ret
      exact ⟨rfl, Below.refl _ _⟩
  · have hgl' : (pn : Int) > 1048576 := by omega
    go_enter Try.func5, Try.ntmps5
    go_wp2_with fail
    go_ret
    exact ⟨rfl, Below.refl _ _⟩
end Go.Proofs.Ytnpmkckkfbddpaa
