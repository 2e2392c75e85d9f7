/- The law on rangeOf, walked out of what the specification's and the program's functions answer. -/
import Derived.Test.YtlflfloopomaiaaW3k
import Derived.Test.YtlflfloopomaiaaW0
import Derived.Test.YtlflfloopomaiaaFlatPrefix
import Derived.Test.YtlflfloopomaiaaS3d
import Derived.Test.YtlflfloopomaiaaI3b
namespace Go.Proofs.Ytlflfloopomaiaa
open Go.RowKit

set_option maxRecDepth 100000 in
set_option maxHeartbeats 6400000 in
theorem w_rangeOf_full (fl : Bool) (x : Int) (y : Int) (n : Nat) (F0 F1 : Nat → Int) (w : World) (hn : n ≤ 4294967296)
    (hS : Hid (∀  (w : World), Calls Try.prog 29 #[.int .i64 x, .int .i64 y] w fun e w' => ∃ g c, e = .returned (.tuple #[.slice (some ⟨g, 0, none⟩) n c, .bool fl]) ∧ w.heap.size ≤ g ∧ OutPrefix g n n F0 F1 w' ∧ Below w.heap.size w w'))
    (hI : Hid (∀  (w : World), Calls Try.prog 28 #[.int .i64 x, .int .i64 y] w fun e w' => ∃ g c, e = .returned (.tuple #[.slice (some ⟨g, 0, none⟩) n c, .bool fl]) ∧ w.heap.size ≤ g ∧ OutPrefix g n n F0 F1 w' ∧ Below w.heap.size w w')) :
    Calls Try.prog 9 #[.int .i64 x, .int .i64 y] w fun e w' => e = .returned (.bool true) ∧ Below w.heap.size w w' := by
  have k4 : (fl != fl) = false := by simp
  have E := hide (fun a a' cap cap' w hR hR' => w_eqPrefixS a a' n cap cap' F0 F1 w hn hR hR')
  have MG := hide (fun c cap w hO => w_markPrefixS c n cap F0 F1 1 w hn (by omega) (by omega) hO)
  have HG := hide (fun a cap w hR => w_heldPrefixS a n cap 1 w hn (by omega) (by omega) hR)
  have k2 : ¬ (1 + 2 * (n : Int) < 0) := by omega
  have k3 : ((1 + 2 * (n : Int)) != (1 + 2 * (n : Int))) = false := by simp
  have d0 : Below w.heap.size w w := Below.refl _ _
  go_enter Try.func9, Try.ntmps9
  go_wp2_with fail
  refine (hS.out _).mono ?_
  rintro e W1 ⟨gs, cs, rfl, hs, Os, bb⟩
  have hs0 : w.heap.size ≤ gs := Nat.le_trans d0.size hs
  have zs : gs < W1.heap.size := Os.1
  have d1 := d0.trans (bb.mono d0.size)
  clear bb
  go_wp2_with fail
  refine (hI.out _).mono ?_
  rintro e W2 ⟨gg, cg, rfl, hg, Og, bb⟩
  have hg0 : w.heap.size ≤ gg := Nat.le_trans d1.size hg
  have zg : gg < W2.heap.size := Og.1
  have d2 := d1.trans (bb.mono d1.size)
  have Os := Os.below bb
  clear bb
  go_wp2_with fail
  refine (E.out _ _ _ _ _ Og.row Os.row).mono ?_
  rintro e W3 ⟨rfl, bb⟩
  have d3 := d2.trans (bb.mono d2.size)
  have Os := Os.below bb
  have Og := Og.below bb
  clear bb
  go_wp2_with fail
  refine (MG.out _ _ _ Og).mono ?_
  rintro e W4 ⟨rfl, yy, Om⟩
  have d4 := d3.trans (only_base3 yy hg0 Og.1)
  have Os := Os.only yy (by omega)
  clear yy Og
  go_wp2_with fail
  refine (HG.out _ _ _ Om.row).mono ?_
  rintro e w_ ⟨rfl, hw_⟩
  rw [hw_]
  clear hw_ w_
  go_wp2_with fail
  refine (hI.out _).mono ?_
  rintro e W5 ⟨gh, ch, rfl, hh, Oh, bb⟩
  have hh0 : w.heap.size ≤ gh := Nat.le_trans d4.size hh
  have zh : gh < W5.heap.size := Oh.1
  have d5 := d4.trans (bb.mono d4.size)
  have Os := Os.below bb
  have Om := Om.below bb
  clear bb
  go_wp2_with fail
  refine (E.out _ _ _ _ _ Oh.row Os.row).mono ?_
  rintro e W6 ⟨rfl, bb⟩
  have d6 := d5.trans (bb.mono d5.size)
  have Os := Os.below bb
  have Om := Om.below bb
  have Oh := Oh.below bb
  clear bb
  go_wp2_with fail
  refine (HG.out _ _ _ Om.row).mono ?_
  rintro e w_ ⟨rfl, hw_⟩
  rw [hw_]
  clear hw_ w_
  go_wp2_with fail
  go_ret
  exact ⟨rfl, d6⟩
set_option maxRecDepth 100000 in
set_option maxHeartbeats 6400000 in
theorem w_rangeOf_nil (fl : Bool) (x : Int) (y : Int) (w : World)
    (hS : Hid (∀  (w : World), Calls Try.prog 29 #[.int .i64 x, .int .i64 y] w fun e w' => ∃ ga gc, e = .returned (.tuple #[.slice ga 0 gc, .bool fl]) ∧ Below w.heap.size w w'))
    (hI : Hid (∀  (w : World), Calls Try.prog 28 #[.int .i64 x, .int .i64 y] w fun e w' => ∃ ga gc, e = .returned (.tuple #[.slice ga 0 gc, .bool fl]) ∧ Below w.heap.size w w')) :
    Calls Try.prog 9 #[.int .i64 x, .int .i64 y] w fun e w' => e = .returned (.bool true) ∧ Below w.heap.size w w' := by
  have k4 : (fl != fl) = false := by simp
  have hnone : ∀ a w, RowPrefix a 0 (fun _ => 0) (fun _ => 0) w := fun _ _ i hi => absurd hi (Nat.not_lt_zero _)
  have hnone1 : ∀ a w, RowPrefix a 0 (fun i => 1 + 2 * (i : Int) + 0) (fun i => 1 + 2 * (i : Int) + 1) w := fun _ _ i hi => absurd hi (Nat.not_lt_zero _)
  have E := hide (fun a a' c c' w => w_eqPrefixS a a' 0 c c' (fun _ => 0) (fun _ => 0) w (by omega) (hnone a w) (hnone a' w))
  have MG := hide (fun a c w => w_markPrefixS_nil a c 1 w)
  have HG := hide (fun a c w => w_heldPrefixS a 0 c 1 w (by omega) (by omega) (by omega) (hnone1 a w))
  clear hnone hnone1
  simp only [Int.natCast_zero, Int.mul_zero, Int.add_zero] at HG
  have d0 : Below w.heap.size w w := Below.refl _ _
  go_enter Try.func9, Try.ntmps9
  go_wp2_with fail
  refine (hS.out _).mono ?_
  rintro e W1 ⟨gas, gcs, rfl, bb⟩
  have d1 := d0.trans (bb.mono d0.size)
  clear bb
  go_wp2_with fail
  refine (hI.out _).mono ?_
  rintro e W2 ⟨gag, gcg, rfl, bb⟩
  have d2 := d1.trans (bb.mono d1.size)
  clear bb
  go_wp2_with fail
  refine (E.out _ _ _ _ _).mono ?_
  rintro e W3 ⟨rfl, bb⟩
  have d3 := d2.trans (bb.mono d2.size)
  clear bb
  go_wp2_with fail
  refine (MG.out _ _ _).mono ?_
  rintro e w_ ⟨rfl, hw_⟩
  rw [hw_]
  clear hw_ w_
  go_wp2_with fail
  refine (HG.out _ _ _).mono ?_
  rintro e w_ ⟨rfl, hw_⟩
  rw [hw_]
  clear hw_ w_
  go_wp2_with fail
  refine (hI.out _).mono ?_
  rintro e W4 ⟨gah, gch, rfl, bb⟩
  have d4 := d3.trans (bb.mono d3.size)
  clear bb
  go_wp2_with fail
  refine (E.out _ _ _ _ _).mono ?_
  rintro e W5 ⟨rfl, bb⟩
  have d5 := d4.trans (bb.mono d4.size)
  clear bb
  go_wp2_with fail
  refine (HG.out _ _ _).mono ?_
  rintro e w_ ⟨rfl, hw_⟩
  rw [hw_]
  clear hw_ w_
  go_wp2_with fail
  go_ret
  exact ⟨rfl, d5⟩
theorem w_rangeOf_law (fl : Bool) (x y : Int) (R : List Pf) (w : World) (hn : R.length ≤ 4294967296)
    (hS : ∀ w, Calls Try.prog 29 #[.int .i64 x, .int .i64 y] w (AnsP fl R w)) (hI : ∀ w, Calls Try.prog 28 #[.int .i64 x, .int .i64 y] w (AnsP fl R w)) :
    Calls Try.prog 9 #[.int .i64 x, .int .i64 y] w fun e w' => e = .returned (.bool true) ∧ Below w.heap.size w w' := by
  by_cases h : R = []
  · subst h
    exact w_rangeOf_nil fl x y w (fun w => (hS w).mono fun _ _ h => h.nil) (fun w => (hI w).mono fun _ _ h => h.nil)
  · exact w_rangeOf_full fl x y R.length _ _ w hn (fun w => (hS w).mono fun _ _ k => k.full h) (fun w => (hI w).mono fun _ _ k => k.full h)
theorem w_rangeOf (x y : Int) (w : World) :
    Calls Try.prog 9 #[.int .i64 x, .int .i64 y] w fun e w' => e = .returned (.bool true) ∧ Below w.heap.size w w' := by
  by_cases h : 0 ≤ x ∧ y ≤ 4294967295 ∧ x ≤ y
  · exact w_rangeOf_law true x y (rngS x y) w (gs_len (rngS_good h.1 h.2.1 h.2.2).1) (fun w => s_rangeOf_yes x y w h.1 h.2.1 h.2.2) (fun w => i_rangeOf_yes x y w h.1 h.2.1 h.2.2)
  · exact w_rangeOf_law false x y [] w (by decide) (fun w => (s_rangeOf_no x y w h).mono fun _ _ k => AnsP.zero w k) (fun w => (i_rangeOf_no x y w h).mono fun _ _ k => AnsP.zero w k)
end Go.Proofs.Ytlflfloopomaiaa
