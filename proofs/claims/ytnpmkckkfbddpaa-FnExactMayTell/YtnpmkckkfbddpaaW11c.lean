/- The law on MayTell: the program answers as the specification. -/
import Derived.Test.YtnpmkckkfbddpaaI11c
import Derived.Test.YtnpmkckkfbddpaaS11b
namespace Go.Proofs.Ytnpmkckkfbddpaa
open Go.RowKit Go.Maps
set_option maxRecDepth 100000 in
set_option maxHeartbeats 3200000 in
theorem w_mayTell (u : Int) (ra : Option Addr) (n rc : Nat) (f0 f1 f2 : Nat → Int) (a b x : Int) (w : World) (hn : n ≤ maxLen) (hA : RowRel ra n f0 f1 f2 w) (ha : W64 a) (hb : W64 b) (hx : W64 x) :
    Calls Try.prog 6 #[.int .i64 u, .slice ra n rc, .int .i64 a, .int .i64 b, .int .i64 x] w fun e w' => e = .returned (.bool true) ∧ Below w.heap.size w w' := by
  have SZ := hide (fun w => w_szRelS ra n rc w hn)
  by_cases hs : n ≤ 1048576
  · rw [if_pos hs] at SZ
    have hlt : ¬ (1048576 - (n : Int) < 0) := by omega
    have TA := hide (fun w R => w_toRelS ra n rc f0 f1 f2 w hs R)
    have SG := hide (fun ra rc hc w R => s_mayTell u ra n rc f0 f1 f2 a b x w hs hc R)
    have IG := hide (fun ra rc w R => i_mayTell u ra n rc f0 f1 f2 a b x w hs ha hb hx R)
    have EA := hide (fun a a' c c' w R Q => w_eqRelS a a' n c c' f0 f1 f2 w hs R Q)
    generalize mt0 u n f0 f1 f2 a b x = r0 at SG IG
    have kr0 : (r0 != r0) = false := by simp
    generalize mt1 u n f0 f1 f2 a b x = r1 at SG IG
    have kr1 : (r1 != r1) = false := by simp
    clear hn hs
    go_enter Try.func6, Try.ntmps6
    go_wp2_with fail
    refine (SZ.out _).mono ?_
    rintro e w1 ⟨rfl, hw1⟩
    rw [hw1]; clear hw1 w1
    go_wp2_with fail
    refine (TA.out _ hA).mono ?_
    rintro e w1 ⟨rfl, b1, o1⟩
    have d1 := b1
    go_wp2_with fail
    refine (SG.out _ _ (Nat.le_refl _) _ o1.row).mono ?_
    rintro e w3 ⟨rfl, b3⟩
    have d3 := d1.trans (b3.mono d1.size)
    clear b1 b3 d1 o1
    go_wp2_with fail
    refine (TA.out _ (hA.below d3)).mono ?_
    rintro e w4 ⟨rfl, b4, o4⟩
    have d4 := d3.trans (b4.mono d3.size)
    clear b4 d3
    generalize w3.heap.size = q4 at *
    go_wp2_with fail
    refine (IG.out _ _ _ o4.row).mono ?_
    rintro e w6 ⟨rfl, b6⟩
    have d6 := d4.trans (b6.mono d4.size)
    replace o4 := o4.below b6
    clear b6 d4
    go_wp2_with fail
    refine (TA.out _ (hA.below d6)).mono ?_
    rintro e w7 ⟨rfl, b7, o7⟩
    have d7 := d6.trans (b7.mono d6.size)
    replace o4 := o4.below b7
    clear b7 d6
    go_wp2_with fail
    refine (EA.out _ _ _ _ _ o4.row o7.row).mono ?_
    rintro e w8 ⟨rfl, b8⟩
    have d8 := d7.trans (b8.mono d7.size)
    go_wp2_with fail
    go_ret
    exact ⟨rfl, d8⟩
  · rw [if_neg hs] at SZ
    clear hs hn
    go_enter Try.func6, Try.ntmps6
    go_wp2_with fail
    refine (SZ.out _).mono ?_
    rintro e w1 ⟨rfl, hw1⟩
    rw [hw1]; clear hw1 w1
    go_wp2_with fail
    go_ret
    exact ⟨rfl, Below.refl _ _⟩
end Go.Proofs.Ytnpmkckkfbddpaa
