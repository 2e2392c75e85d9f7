/- The law on CutAll: the program answers as the specification. -/
import Derived.Test.YtoeephmdklmpfaaI5c
import Derived.Test.YtoeephmdklmpfaaS5c
import Derived.Test.YtoeephmdklmpfaaLaw5
namespace Go.Proofs.Ytoeephmdklmpfaa
open Go.RowKit

set_option maxRecDepth 100000 in
set_option maxHeartbeats 6400000 in
theorem w_cutAll_law (s X : ByteArray) (C : Int) (r : Bool) (L : List Ms) (w : World) (hs : s.size ≤ 1048576) (hL : L.length ≤ 1048576)
    (S : Hid (∀ w, Calls Try.prog 26 #[.string s] w fun e w' => ∃ v, e = .returned (.tuple #[v, .string X, .int .i64 C, .bool r]) ∧ OwnM w.heap.size v L w' ∧ Below w.heap.size w w'))
    (I : Hid (∀ w, Calls Try.prog 27 #[.string s] w fun e w' => ∃ v, e = .returned (.tuple #[v, .string X, .int .i64 C, .bool r]) ∧ OwnM w.heap.size v L w' ∧ Below w.heap.size w w')) :
    Calls Try.prog 6 #[.string s] w fun e w' => e = .returned (.bool true) ∧ Below w.heap.size w w' := by
  have E := hide (fun a a' cap cap' w hR hR' => w_eqM a a' cap cap' L w (by omega) hR hR')
  have M := hide (show ∀ a c cap w, WrM a c L w → Calls Try.prog 29 #[.slice a L.length cap, .int .i64 1] w fun e w' => e = .returned (.int .i64 (1 + 2 * (L.length : Int))) ∧ OnM c L w w' ∧ WrM a c (mkM 1 L.length) w' from fun a c cap w h => w_markM a c cap L 1 w (by omega) (by omega) (by omega) h)
  have HD := hide (show ∀ a cap w, RowM a (mkM 1 L.length) w → Calls Try.prog 30 #[.slice a L.length cap, .int .i64 1] w fun e w' => e = .returned (.int .i64 (1 + 2 * (L.length : Int))) ∧ Below w.heap.size w w' from fun a cap w h => w_heldM a L.length cap 1 w (by omega) (by omega) (by omega) h)
  have k2 : ¬ (1 + 2 * (L.length : Int) < 0) := by omega
  have k3 : ((1 + 2 * (L.length : Int)) != (1 + 2 * (L.length : Int))) = false := by simp
  have k0 : (r != r) = false := by simp
  have k1 : (C != C) = false := by simp
  have hsz : ¬ ((s.size : Int) > 1048576) := by omega
  have d0 : Below w.heap.size w w := Below.refl _ _
  go_enter Try.func6, Try.ntmps6
  go_wp2_with fail
  refine (S.out _).mono ?_
  rintro e W1 ⟨vs, rfl, ho, bb⟩
  obtain ⟨ads, cps, bs, rfl, hs, Os⟩ := WrM.own ho
  clear ho
  have zs : L ≠ [] → bs < W1.heap.size := fun h => (Os.1 h).2
  have hs0 : L ≠ [] → w.heap.size ≤ bs := fun h => Nat.le_trans d0.size (hs h)
  have d1 := d0.trans (bb.mono d0.size)
  have y1 := bb.size
  clear bb
  go_wp2_with fail
  refine (I.out _).mono ?_
  rintro e W2 ⟨vg, rfl, ho, bb⟩
  obtain ⟨adg, cpg, bg, rfl, hg, Og⟩ := WrM.own ho
  clear ho
  have zg : L ≠ [] → bg < W2.heap.size := fun h => (Og.1 h).2
  have hg0 : L ≠ [] → w.heap.size ≤ bg := fun h => Nat.le_trans d1.size (hg h)
  have d2 := d1.trans (bb.mono d1.size)
  have y2 := bb.size
  have Os := Os.below bb
  clear bb
  go_wp2_with fail
  refine (E.out _ _ _ _ _ Og.row Os.row).mono ?_
  rintro e W3 ⟨rfl, bb⟩
  have d3 := d2.trans (bb.mono d2.size)
  have y3 := bb.size
  have Os := Os.below bb
  have Og := Og.below bb
  clear bb
  go_wp2_with fail
  refine (M.out _ _ _ _ Og).mono ?_
  rintro e W4 ⟨rfl, yy, Om⟩
  have bb := yy.base (base := w.heap.size) hg0 d3.size
  have d4 := d3.trans bb
  have y4 := bb.size
  clear bb
  have Os := Os.on yy (fun h1 h2 => by have := zs h1; have := hg h2; omega)
  clear yy Og
  go_wp2_with fail
  refine (HD.out _ _ _ Om.row).mono ?_
  rintro e W5 ⟨rfl, bb⟩
  have d5 := d4.trans (bb.mono d4.size)
  have y5 := bb.size
  have Os := Os.below bb
  have Om := Om.below bb
  clear bb
  go_wp2_with fail
  refine (I.out _).mono ?_
  rintro e W6 ⟨vh, rfl, ho, bb⟩
  obtain ⟨adh, cph, bh, rfl, hh, Oh⟩ := WrM.own ho
  clear ho
  have zh : L ≠ [] → bh < W6.heap.size := fun h => (Oh.1 h).2
  have hh0 : L ≠ [] → w.heap.size ≤ bh := fun h => Nat.le_trans d5.size (hh h)
  have d6 := d5.trans (bb.mono d5.size)
  have y6 := bb.size
  have Os := Os.below bb
  have Om := Om.below bb
  clear bb
  go_wp2_with fail
  refine (E.out _ _ _ _ _ Oh.row Os.row).mono ?_
  rintro e W7 ⟨rfl, bb⟩
  have d7 := d6.trans (bb.mono d6.size)
  have y7 := bb.size
  have Os := Os.below bb
  have Om := Om.below bb
  have Oh := Oh.below bb
  clear bb
  go_wp2_with fail
  refine (HD.out _ _ _ Om.row).mono ?_
  rintro e W8 ⟨rfl, bb⟩
  have d8 := d7.trans (bb.mono d7.size)
  have y8 := bb.size
  have Os := Os.below bb
  have Om := Om.below bb
  have Oh := Oh.below bb
  clear bb
  go_wp2_with fail
  go_ret
  exact ⟨rfl, d8⟩
theorem w_cutAll (s : ByteArray) (w : World) (hs : s.size ≤ maxLen) :
    Calls Try.prog 6 #[.string s] w fun e w' => e = .returned (.bool true) ∧ Below w.heap.size w w' := by
  by_cases h : s.size ≤ 1048576
  · exact w_cutAll_law s (caR s) (caC s) (caF s) (caL s) w h (by have := caL_len s; omega) (fun w => s_cutAll s w hs) (fun w => i_cutAll s w hs)
  · have h' : (s.size : Int) > 1048576 := by omega
    go_enter Try.func6, Try.ntmps6
    go_wp2_with fail
    go_ret
    exact ⟨rfl, Below.refl _ _⟩
end Go.Proofs.Ytoeephmdklmpfaa
