/- The law on cutPrefix, walked out of what the specification's and the program's functions answer. -/
import Derived.Test.YtlflfloopomaiaaW3k
import Derived.Test.YtlflfloopomaiaaW0
import Derived.Test.YtlflfloopomaiaaFlatPrefix
import Derived.Test.YtlflfloopomaiaaS3i
import Derived.Test.YtlflfloopomaiaaI3l
namespace Go.Proofs.Ytlflfloopomaiaa
open Go.RowKit

set_option maxRecDepth 100000 in
set_option maxHeartbeats 6400000 in
theorem w_cutPrefix_full (fl : Bool) (a0 : Option Addr) (len cap : Nat) (f0 f1 : Nat → Int) (pa pl : Int) (n : Nat) (F0 F1 : Nat → Int) (w : World) (ha : len ≤ 1048576) (hn : n ≤ 4294967296) (Ra : RowPrefix a0 len f0 f1 w)
    (hS : Hid (∀ (a ca : Nat) (w : World), RowPrefix (some ⟨a, 0, none⟩) len f0 f1 w → Calls Try.prog 32 #[.slice (some ⟨a, 0, none⟩) len ca, .agg #[.int .i64 pa, .int .i64 pl]] w fun e w' => ∃ g c, e = .returned (.tuple #[.slice (some ⟨g, 0, none⟩) n c, .bool fl]) ∧ w.heap.size ≤ g ∧ OutPrefix g n n F0 F1 w' ∧ Below w.heap.size w w'))
    (hI : Hid (∀ (a ca : Nat) (w : World), RowPrefix (some ⟨a, 0, none⟩) len f0 f1 w → Calls Try.prog 31 #[.slice (some ⟨a, 0, none⟩) len ca, .agg #[.int .i64 pa, .int .i64 pl]] w fun e w' => ∃ g c, e = .returned (.tuple #[.slice (some ⟨g, 0, none⟩) n c, .bool fl]) ∧ w.heap.size ≤ g ∧ OutPrefix g n n F0 F1 w' ∧ Below w.heap.size w w')) :
    Calls Try.prog 8 #[.slice a0 len cap, .agg #[.int .i64 pa, .int .i64 pl]] w fun e w' => e = .returned (.bool true) ∧ Below w.heap.size w w' := by
  have hsza := hide (fun w => w_szPrefixS a0 len cap w (Nat.le_trans ha (by decide)))
  rw [if_pos ha] at hsza
  have hlta : ¬ (1048576 - (len : Int) < 0) := by omega
  have Ta := hide (fun w hR => w_toPrefixS a0 len cap f0 f1 w (by omega) hR)
  have Ea := hide (fun a a' cap cap' w hR hR' => w_eqPrefixS a a' len cap cap' f0 f1 w (by omega) hR hR')
  have Ma := hide (fun c cap w hO => w_markPrefixS c len cap f0 f1 1 w (by omega) (by omega) (by omega) hO)
  have k1 : ¬ (1 + 2 * (len : Int) < 0) := by omega
  have PP := hide (fun w => w_toPrefix pa pl w)
  have k4 : (fl != fl) = false := by simp
  have E := hide (fun a a' cap cap' w hR hR' => w_eqPrefixS a a' n cap cap' F0 F1 w hn hR hR')
  have MG := hide (fun c cap w hO => w_markPrefixS c n cap F0 F1 1 w hn (by omega) (by omega) hO)
  have HG := hide (fun a cap w hR => w_heldPrefixS a n cap 1 w hn (by omega) (by omega) hR)
  have k2 : ¬ (1 + 2 * (n : Int) < 0) := by omega
  have k3 : ((1 + 2 * (n : Int)) != (1 + 2 * (n : Int))) = false := by simp
  have hBP : Bk (w.alloc (.cells #[.int .i64 pa, .int .i64 pl] 58)) w.heap.size #[.int .i64 pa, .int .i64 pl] 58 := Bk.new w _ _
  have d1 : Below w.heap.size w (w.alloc (.cells #[.int .i64 pa, .int .i64 pl] 58)) := below_box (Below.refl _ _)
  go_enter Try.func8, Try.ntmps8
  go_wp2_with fail
  generalize w.alloc (.cells #[.int .i64 pa, .int .i64 pl] 58) = W1 at *
  refine (hsza.out _).mono ?_
  rintro e w_ ⟨rfl, hw_⟩
  rw [hw_]
  clear hw_ w_
  go_wp2_with fail
  have q0 := (hBP.cell 0).trans (show _ = some (.int .i64 pa) from rfl)
  have q1 := (hBP.cell 1).trans (show _ = some (.int .i64 pl) from rfl)
  have hlt := hBP.lt
  have dZ : Below W1.heap.size W1 W1 := Below.refl _ _
  have hRz := Ra.below d1
  go_region_held3 (fun w' => w'.cell? ⟨w.heap.size, 0, none⟩ = some (.int .i64 pa) ∧ w'.cell? ⟨w.heap.size, 1, none⟩ = some (.int .i64 pl)) (first | go_keep | exact ⟨(bb.cell (p := ⟨w.heap.size, 0, none⟩) hlt).trans q0, (bb.cell (p := ⟨w.heap.size, 1, none⟩) hlt).trans q1⟩ | exact ⟨(bb.drew.cell (p := ⟨w.heap.size, 0, none⟩) hlt).trans q0, (bb.drew.cell (p := ⟨w.heap.size, 1, none⟩) hlt).trans q1⟩ | exact ⟨(dP.cell (p := ⟨w.heap.size, 0, none⟩) hlt).trans q0, (dP.cell (p := ⟨w.heap.size, 1, none⟩) hlt).trans q1⟩ | exact ⟨(dP.drew.cell (p := ⟨w.heap.size, 0, none⟩) hlt).trans q0, (dP.drew.cell (p := ⟨w.heap.size, 1, none⟩) hlt).trans q1⟩ | exact ⟨(dT.cell (p := ⟨w.heap.size, 0, none⟩) hlt).trans q0, (dT.cell (p := ⟨w.heap.size, 1, none⟩) hlt).trans q1⟩ | exact ⟨(dT.drew.cell (p := ⟨w.heap.size, 0, none⟩) hlt).trans q0, (dT.drew.cell (p := ⟨w.heap.size, 1, none⟩) hlt).trans q1⟩ | exact ⟨(dZ.cell (p := ⟨w.heap.size, 0, none⟩) hlt).trans q0, (dZ.cell (p := ⟨w.heap.size, 1, none⟩) hlt).trans q1⟩ | exact ⟨(dZ.drew.cell (p := ⟨w.heap.size, 0, none⟩) hlt).trans q0, (dZ.drew.cell (p := ⟨w.heap.size, 1, none⟩) hlt).trans q1⟩) ((first | (go_at_call 39; refine (Ta.out _ (hRz.below (by first | exact dP | exact dP.drew | exact dZ | exact dZ.drew))).mono ?_; rintro e wT ⟨rfl, bT, oT⟩; have dT : Below W1.heap.size W1 wT := (by first | exact below_step dP bT | exact below_step dP.drew bT | exact below_step dZ bT | exact below_step dZ.drew bT)) | (go_at_call 43; refine (PP.out _).mono ?_; rintro e wP ⟨rfl, bP⟩; have dP : Below W1.heap.size W1 wP := (by first | exact below_step dT bP | exact below_step dT.drew bP | exact below_step dZ bP | exact below_step dZ.drew bP)) | (go_at_call 32; refine (hS.out _ _ _ (by first | exact oT.row | exact (oT.below (Below.refl _ _).drew).row | exact (oT.below bP).row | exact (oT.below ((Below.refl _ _).drew.trans bP)).row | exact (oT.below (bP.drew)).row | exact (oT.below (((Below.refl _ _).drew.trans bP).drew)).row)).mono ?_; rintro e W2 ⟨gs, cs, rfl, hsx, Os, bx⟩; have bb : Below W1.heap.size W1 W2 := (by first | exact below_step dP bx | exact below_step dP.drew bx | exact below_step dT bx | exact below_step dT.drew bx); have hs : W1.heap.size ≤ gs := (by first | exact Nat.le_trans dP.size hsx | exact Nat.le_trans dP.drew.size hsx | exact Nat.le_trans dT.size hsx | exact Nat.le_trans dT.drew.size hsx))))
  all_goals clear q0 q1 hlt dZ hRz dT dP bT bP oT bx hsx
  have hs0 : w.heap.size ≤ gs := Nat.le_trans d1.size hs
  have zs : gs < W2.heap.size := Os.1
  have vs : w.heap.size < gs := Nat.lt_of_lt_of_le hBP.lt hs
  have d2 := d1.trans (bb.mono d1.size)
  have hBP := hBP.below bb
  clear bb
  go_wp2_with fail
  refine (Ta.out _ (Ra.below d2)).mono ?_
  rintro e W3 ⟨rfl, bb, xa⟩
  have zxa := xa.1
  have yxa := d2.size
  have vxa := hBP.lt
  have d3 := d2.trans (bb.mono d2.size)
  have hBP := hBP.below bb
  have Os := Os.below bb
  clear bb
  have q0 := (hBP.cell 0).trans (show _ = some (.int .i64 pa) from rfl)
  have q1 := (hBP.cell 1).trans (show _ = some (.int .i64 pl) from rfl)
  go_wp2_with fail
  refine (PP.out _).mono ?_
  rintro e W4 ⟨rfl, bb⟩
  have yP := bb.size
  have d4 := d3.trans (bb.mono d3.size)
  have hBP := hBP.below bb
  have Os := Os.below bb
  have xa := xa.below bb
  clear bb
  clear q0 q1
  go_wp2_with fail
  refine (hI.out _ _ _ xa.row).mono ?_
  rintro e W5 ⟨gg, cg, rfl, hg, Og, bb⟩
  have hg0 : w.heap.size ≤ gg := Nat.le_trans d4.size hg
  have zg : gg < W5.heap.size := Og.1
  have vg : w.heap.size < gg := Nat.lt_of_lt_of_le hBP.lt hg
  have d5 := d4.trans (bb.mono d4.size)
  have hBP := hBP.below bb
  have Os := Os.below bb
  have xa := xa.below bb
  clear bb
  go_wp2_with fail
  refine (E.out _ _ _ _ _ Og.row Os.row).mono ?_
  rintro e W6 ⟨rfl, bb⟩
  have d6 := d5.trans (bb.mono d5.size)
  have hBP := hBP.below bb
  have Os := Os.below bb
  have xa := xa.below bb
  have Og := Og.below bb
  clear bb
  go_wp2_with fail
  refine (Ta.out _ (Ra.below d6)).mono ?_
  rintro e W7 ⟨rfl, bb, ta⟩
  have zta := ta.1
  have yta := d6.size
  have vta := hBP.lt
  have d7 := d6.trans (bb.mono d6.size)
  have hBP := hBP.below bb
  have Os := Os.below bb
  have xa := xa.below bb
  have Og := Og.below bb
  clear bb
  go_wp2_with fail
  refine (Ea.out _ _ _ _ _ xa.row ta.row).mono ?_
  rintro e W8 ⟨rfl, bb⟩
  have d8 := d7.trans (bb.mono d7.size)
  have hBP := hBP.below bb
  have Os := Os.below bb
  have xa := xa.below bb
  have Og := Og.below bb
  have ta := ta.below bb
  clear bb
  clear ta
  go_wp2_with fail
  refine (Ma.out _ _ _ xa).mono ?_
  rintro e W9 ⟨rfl, yy, _⟩
  have d9 := d8.trans (only_base3 yy (by omega) xa.1)
  have hBP : Bk W9 w.heap.size #[.int .i64 pa, .int .i64 pl] 58 := (yy.2.2.2.2 _ hBP.lt (by omega)).trans hBP
  have Os := Os.only yy (by omega)
  have Og := Og.only yy (by omega)
  clear yy xa
  go_wp2_with fail
  refine (E.out _ _ _ _ _ Og.row Os.row).mono ?_
  rintro e W10 ⟨rfl, bb⟩
  have d10 := d9.trans (bb.mono d9.size)
  have hBP := hBP.below bb
  have Os := Os.below bb
  have Og := Og.below bb
  clear bb
  go_wp2_with fail
  refine (MG.out _ _ _ Og).mono ?_
  rintro e W11 ⟨rfl, yy, Om⟩
  have d11 := d10.trans (only_base3 yy hg0 Og.1)
  have hBP : Bk W11 w.heap.size #[.int .i64 pa, .int .i64 pl] 58 := (yy.2.2.2.2 _ hBP.lt (by omega)).trans hBP
  have Os := Os.only yy (by omega)
  clear yy Og
  go_wp2_with fail
  refine (HG.out _ _ _ Om.row).mono ?_
  rintro e w_ ⟨rfl, hw_⟩
  rw [hw_]
  clear hw_ w_
  go_wp2_with fail
  have q0 := (hBP.cell 0).trans (show _ = some (.int .i64 pa) from rfl)
  have q1 := (hBP.cell 1).trans (show _ = some (.int .i64 pl) from rfl)
  have hlt := hBP.lt
  have dZ : Below W11.heap.size W11 W11 := Below.refl _ _
  have hRz := Ra.below d11
  go_region_held3 (fun w' => w'.cell? ⟨w.heap.size, 0, none⟩ = some (.int .i64 pa) ∧ w'.cell? ⟨w.heap.size, 1, none⟩ = some (.int .i64 pl)) (first | go_keep | exact ⟨(bb.cell (p := ⟨w.heap.size, 0, none⟩) hlt).trans q0, (bb.cell (p := ⟨w.heap.size, 1, none⟩) hlt).trans q1⟩ | exact ⟨(bb.drew.cell (p := ⟨w.heap.size, 0, none⟩) hlt).trans q0, (bb.drew.cell (p := ⟨w.heap.size, 1, none⟩) hlt).trans q1⟩ | exact ⟨(dP.cell (p := ⟨w.heap.size, 0, none⟩) hlt).trans q0, (dP.cell (p := ⟨w.heap.size, 1, none⟩) hlt).trans q1⟩ | exact ⟨(dP.drew.cell (p := ⟨w.heap.size, 0, none⟩) hlt).trans q0, (dP.drew.cell (p := ⟨w.heap.size, 1, none⟩) hlt).trans q1⟩ | exact ⟨(dT.cell (p := ⟨w.heap.size, 0, none⟩) hlt).trans q0, (dT.cell (p := ⟨w.heap.size, 1, none⟩) hlt).trans q1⟩ | exact ⟨(dT.drew.cell (p := ⟨w.heap.size, 0, none⟩) hlt).trans q0, (dT.drew.cell (p := ⟨w.heap.size, 1, none⟩) hlt).trans q1⟩ | exact ⟨(dZ.cell (p := ⟨w.heap.size, 0, none⟩) hlt).trans q0, (dZ.cell (p := ⟨w.heap.size, 1, none⟩) hlt).trans q1⟩ | exact ⟨(dZ.drew.cell (p := ⟨w.heap.size, 0, none⟩) hlt).trans q0, (dZ.drew.cell (p := ⟨w.heap.size, 1, none⟩) hlt).trans q1⟩) ((first | (go_at_call 39; refine (Ta.out _ (hRz.below (by first | exact dP | exact dP.drew | exact dZ | exact dZ.drew))).mono ?_; rintro e wT ⟨rfl, bT, oT⟩; have dT : Below W11.heap.size W11 wT := (by first | exact below_step dP bT | exact below_step dP.drew bT | exact below_step dZ bT | exact below_step dZ.drew bT)) | (go_at_call 43; refine (PP.out _).mono ?_; rintro e wP ⟨rfl, bP⟩; have dP : Below W11.heap.size W11 wP := (by first | exact below_step dT bP | exact below_step dT.drew bP | exact below_step dZ bP | exact below_step dZ.drew bP)) | (go_at_call 31; refine (hI.out _ _ _ (by first | exact oT.row | exact (oT.below (Below.refl _ _).drew).row | exact (oT.below bP).row | exact (oT.below ((Below.refl _ _).drew.trans bP)).row | exact (oT.below (bP.drew)).row | exact (oT.below (((Below.refl _ _).drew.trans bP).drew)).row)).mono ?_; rintro e W12 ⟨gh, ch, rfl, hhx, Oh, bx⟩; have bb : Below W11.heap.size W11 W12 := (by first | exact below_step dP bx | exact below_step dP.drew bx | exact below_step dT bx | exact below_step dT.drew bx); have hh : W11.heap.size ≤ gh := (by first | exact Nat.le_trans dP.size hhx | exact Nat.le_trans dP.drew.size hhx | exact Nat.le_trans dT.size hhx | exact Nat.le_trans dT.drew.size hhx))))
  all_goals clear q0 q1 hlt dZ hRz dT dP bT bP oT bx hhx
  have hh0 : w.heap.size ≤ gh := Nat.le_trans d11.size hh
  have zh : gh < W12.heap.size := Oh.1
  have vh : w.heap.size < gh := Nat.lt_of_lt_of_le hBP.lt hh
  have d12 := d11.trans (bb.mono d11.size)
  have hBP := hBP.below bb
  have Os := Os.below bb
  have Om := Om.below bb
  clear bb
  go_wp2_with fail
  refine (E.out _ _ _ _ _ Oh.row Os.row).mono ?_
  rintro e W13 ⟨rfl, bb⟩
  have d13 := d12.trans (bb.mono d12.size)
  have hBP := hBP.below bb
  have Os := Os.below bb
  have Om := Om.below bb
  have Oh := Oh.below bb
  clear bb
  go_wp2_with fail
  refine (HG.out _ _ _ Om.row).mono ?_
  rintro e w_ ⟨rfl, hw_⟩
  rw [hw_]
  clear hw_ w_
  go_wp2_with fail
  go_ret
  exact ⟨rfl, d13⟩
set_option maxRecDepth 100000 in
set_option maxHeartbeats 6400000 in
theorem w_cutPrefix_nil (fl : Bool) (a0 : Option Addr) (len cap : Nat) (f0 f1 : Nat → Int) (pa pl : Int) (w : World) (ha : len ≤ 1048576) (Ra : RowPrefix a0 len f0 f1 w)
    (hS : Hid (∀ (a ca : Nat) (w : World), RowPrefix (some ⟨a, 0, none⟩) len f0 f1 w → Calls Try.prog 32 #[.slice (some ⟨a, 0, none⟩) len ca, .agg #[.int .i64 pa, .int .i64 pl]] w fun e w' => ∃ ga gc, e = .returned (.tuple #[.slice ga 0 gc, .bool fl]) ∧ Below w.heap.size w w'))
    (hI : Hid (∀ (a ca : Nat) (w : World), RowPrefix (some ⟨a, 0, none⟩) len f0 f1 w → Calls Try.prog 31 #[.slice (some ⟨a, 0, none⟩) len ca, .agg #[.int .i64 pa, .int .i64 pl]] w fun e w' => ∃ ga gc, e = .returned (.tuple #[.slice ga 0 gc, .bool fl]) ∧ Below w.heap.size w w')) :
    Calls Try.prog 8 #[.slice a0 len cap, .agg #[.int .i64 pa, .int .i64 pl]] w fun e w' => e = .returned (.bool true) ∧ Below w.heap.size w w' := by
  have hsza := hide (fun w => w_szPrefixS a0 len cap w (Nat.le_trans ha (by decide)))
  rw [if_pos ha] at hsza
  have hlta : ¬ (1048576 - (len : Int) < 0) := by omega
  have Ta := hide (fun w hR => w_toPrefixS a0 len cap f0 f1 w (by omega) hR)
  have Ea := hide (fun a a' cap cap' w hR hR' => w_eqPrefixS a a' len cap cap' f0 f1 w (by omega) hR hR')
  have Ma := hide (fun c cap w hO => w_markPrefixS c len cap f0 f1 1 w (by omega) (by omega) (by omega) hO)
  have k1 : ¬ (1 + 2 * (len : Int) < 0) := by omega
  have PP := hide (fun w => w_toPrefix pa pl w)
  have k4 : (fl != fl) = false := by simp
  have hnone : ∀ a w, RowPrefix a 0 (fun _ => 0) (fun _ => 0) w := fun _ _ i hi => absurd hi (Nat.not_lt_zero _)
  have hnone1 : ∀ a w, RowPrefix a 0 (fun i => 1 + 2 * (i : Int) + 0) (fun i => 1 + 2 * (i : Int) + 1) w := fun _ _ i hi => absurd hi (Nat.not_lt_zero _)
  have E := hide (fun a a' c c' w => w_eqPrefixS a a' 0 c c' (fun _ => 0) (fun _ => 0) w (by omega) (hnone a w) (hnone a' w))
  have MG := hide (fun a c w => w_markPrefixS_nil a c 1 w)
  have HG := hide (fun a c w => w_heldPrefixS a 0 c 1 w (by omega) (by omega) (by omega) (hnone1 a w))
  clear hnone hnone1
  simp only [Int.natCast_zero, Int.mul_zero, Int.add_zero] at HG
  have hBP : Bk (w.alloc (.cells #[.int .i64 pa, .int .i64 pl] 58)) w.heap.size #[.int .i64 pa, .int .i64 pl] 58 := Bk.new w _ _
  have d1 : Below w.heap.size w (w.alloc (.cells #[.int .i64 pa, .int .i64 pl] 58)) := below_box (Below.refl _ _)
  go_enter Try.func8, Try.ntmps8
  go_wp2_with fail
  generalize w.alloc (.cells #[.int .i64 pa, .int .i64 pl] 58) = W1 at *
  refine (hsza.out _).mono ?_
  rintro e w_ ⟨rfl, hw_⟩
  rw [hw_]
  clear hw_ w_
  go_wp2_with fail
  have q0 := (hBP.cell 0).trans (show _ = some (.int .i64 pa) from rfl)
  have q1 := (hBP.cell 1).trans (show _ = some (.int .i64 pl) from rfl)
  have hlt := hBP.lt
  have dZ : Below W1.heap.size W1 W1 := Below.refl _ _
  have hRz := Ra.below d1
  go_region_held3 (fun w' => w'.cell? ⟨w.heap.size, 0, none⟩ = some (.int .i64 pa) ∧ w'.cell? ⟨w.heap.size, 1, none⟩ = some (.int .i64 pl)) (first | go_keep | exact ⟨(bb.cell (p := ⟨w.heap.size, 0, none⟩) hlt).trans q0, (bb.cell (p := ⟨w.heap.size, 1, none⟩) hlt).trans q1⟩ | exact ⟨(bb.drew.cell (p := ⟨w.heap.size, 0, none⟩) hlt).trans q0, (bb.drew.cell (p := ⟨w.heap.size, 1, none⟩) hlt).trans q1⟩ | exact ⟨(dP.cell (p := ⟨w.heap.size, 0, none⟩) hlt).trans q0, (dP.cell (p := ⟨w.heap.size, 1, none⟩) hlt).trans q1⟩ | exact ⟨(dP.drew.cell (p := ⟨w.heap.size, 0, none⟩) hlt).trans q0, (dP.drew.cell (p := ⟨w.heap.size, 1, none⟩) hlt).trans q1⟩ | exact ⟨(dT.cell (p := ⟨w.heap.size, 0, none⟩) hlt).trans q0, (dT.cell (p := ⟨w.heap.size, 1, none⟩) hlt).trans q1⟩ | exact ⟨(dT.drew.cell (p := ⟨w.heap.size, 0, none⟩) hlt).trans q0, (dT.drew.cell (p := ⟨w.heap.size, 1, none⟩) hlt).trans q1⟩ | exact ⟨(dZ.cell (p := ⟨w.heap.size, 0, none⟩) hlt).trans q0, (dZ.cell (p := ⟨w.heap.size, 1, none⟩) hlt).trans q1⟩ | exact ⟨(dZ.drew.cell (p := ⟨w.heap.size, 0, none⟩) hlt).trans q0, (dZ.drew.cell (p := ⟨w.heap.size, 1, none⟩) hlt).trans q1⟩) ((first | (go_at_call 39; refine (Ta.out _ (hRz.below (by first | exact dP | exact dP.drew | exact dZ | exact dZ.drew))).mono ?_; rintro e wT ⟨rfl, bT, oT⟩; have dT : Below W1.heap.size W1 wT := (by first | exact below_step dP bT | exact below_step dP.drew bT | exact below_step dZ bT | exact below_step dZ.drew bT)) | (go_at_call 43; refine (PP.out _).mono ?_; rintro e wP ⟨rfl, bP⟩; have dP : Below W1.heap.size W1 wP := (by first | exact below_step dT bP | exact below_step dT.drew bP | exact below_step dZ bP | exact below_step dZ.drew bP)) | (go_at_call 32; refine (hS.out _ _ _ (by first | exact oT.row | exact (oT.below (Below.refl _ _).drew).row | exact (oT.below bP).row | exact (oT.below ((Below.refl _ _).drew.trans bP)).row | exact (oT.below (bP.drew)).row | exact (oT.below (((Below.refl _ _).drew.trans bP).drew)).row)).mono ?_; rintro e W2 ⟨gas, gcs, rfl, bx⟩; have bb : Below W1.heap.size W1 W2 := (by first | exact below_step dP bx | exact below_step dP.drew bx | exact below_step dT bx | exact below_step dT.drew bx))))
  all_goals clear q0 q1 hlt dZ hRz dT dP bT bP oT bx
  have d2 := d1.trans (bb.mono d1.size)
  have hBP := hBP.below bb
  clear bb
  go_wp2_with fail
  refine (Ta.out _ (Ra.below d2)).mono ?_
  rintro e W3 ⟨rfl, bb, xa⟩
  have zxa := xa.1
  have yxa := d2.size
  have vxa := hBP.lt
  have d3 := d2.trans (bb.mono d2.size)
  have hBP := hBP.below bb
  clear bb
  have q0 := (hBP.cell 0).trans (show _ = some (.int .i64 pa) from rfl)
  have q1 := (hBP.cell 1).trans (show _ = some (.int .i64 pl) from rfl)
  go_wp2_with fail
  refine (PP.out _).mono ?_
  rintro e W4 ⟨rfl, bb⟩
  have yP := bb.size
  have d4 := d3.trans (bb.mono d3.size)
  have hBP := hBP.below bb
  have xa := xa.below bb
  clear bb
  clear q0 q1
  go_wp2_with fail
  refine (hI.out _ _ _ xa.row).mono ?_
  rintro e W5 ⟨gag, gcg, rfl, bb⟩
  have d5 := d4.trans (bb.mono d4.size)
  have hBP := hBP.below bb
  have xa := xa.below bb
  clear bb
  go_wp2_with fail
  refine (E.out _ _ _ _ _).mono ?_
  rintro e W6 ⟨rfl, bb⟩
  have d6 := d5.trans (bb.mono d5.size)
  have hBP := hBP.below bb
  have xa := xa.below bb
  clear bb
  go_wp2_with fail
  refine (Ta.out _ (Ra.below d6)).mono ?_
  rintro e W7 ⟨rfl, bb, ta⟩
  have zta := ta.1
  have yta := d6.size
  have vta := hBP.lt
  have d7 := d6.trans (bb.mono d6.size)
  have hBP := hBP.below bb
  have xa := xa.below bb
  clear bb
  go_wp2_with fail
  refine (Ea.out _ _ _ _ _ xa.row ta.row).mono ?_
  rintro e W8 ⟨rfl, bb⟩
  have d8 := d7.trans (bb.mono d7.size)
  have hBP := hBP.below bb
  have xa := xa.below bb
  have ta := ta.below bb
  clear bb
  clear ta
  go_wp2_with fail
  refine (Ma.out _ _ _ xa).mono ?_
  rintro e W9 ⟨rfl, yy, _⟩
  have d9 := d8.trans (only_base3 yy (by omega) xa.1)
  have hBP : Bk W9 w.heap.size #[.int .i64 pa, .int .i64 pl] 58 := (yy.2.2.2.2 _ hBP.lt (by omega)).trans hBP
  clear yy xa
  go_wp2_with fail
  refine (E.out _ _ _ _ _).mono ?_
  rintro e W10 ⟨rfl, bb⟩
  have d10 := d9.trans (bb.mono d9.size)
  have hBP := hBP.below bb
  clear bb
  go_wp2_with fail
  refine (MG.out _ _ _).mono ?_
  rintro e w_ ⟨rfl, hw_⟩
  rw [hw_]
  clear hw_ w_
  go_wp2_with fail
  refine (HG.out _ _ _).mono ?_
  rintro e w_ ⟨rfl, hw_⟩
  rw [hw_]
  clear hw_ w_
  go_wp2_with fail
  have q0 := (hBP.cell 0).trans (show _ = some (.int .i64 pa) from rfl)
  have q1 := (hBP.cell 1).trans (show _ = some (.int .i64 pl) from rfl)
  have hlt := hBP.lt
  have dZ : Below W10.heap.size W10 W10 := Below.refl _ _
  have hRz := Ra.below d10
  go_region_held3 (fun w' => w'.cell? ⟨w.heap.size, 0, none⟩ = some (.int .i64 pa) ∧ w'.cell? ⟨w.heap.size, 1, none⟩ = some (.int .i64 pl)) (first | go_keep | exact ⟨(bb.cell (p := ⟨w.heap.size, 0, none⟩) hlt).trans q0, (bb.cell (p := ⟨w.heap.size, 1, none⟩) hlt).trans q1⟩ | exact ⟨(bb.drew.cell (p := ⟨w.heap.size, 0, none⟩) hlt).trans q0, (bb.drew.cell (p := ⟨w.heap.size, 1, none⟩) hlt).trans q1⟩ | exact ⟨(dP.cell (p := ⟨w.heap.size, 0, none⟩) hlt).trans q0, (dP.cell (p := ⟨w.heap.size, 1, none⟩) hlt).trans q1⟩ | exact ⟨(dP.drew.cell (p := ⟨w.heap.size, 0, none⟩) hlt).trans q0, (dP.drew.cell (p := ⟨w.heap.size, 1, none⟩) hlt).trans q1⟩ | exact ⟨(dT.cell (p := ⟨w.heap.size, 0, none⟩) hlt).trans q0, (dT.cell (p := ⟨w.heap.size, 1, none⟩) hlt).trans q1⟩ | exact ⟨(dT.drew.cell (p := ⟨w.heap.size, 0, none⟩) hlt).trans q0, (dT.drew.cell (p := ⟨w.heap.size, 1, none⟩) hlt).trans q1⟩ | exact ⟨(dZ.cell (p := ⟨w.heap.size, 0, none⟩) hlt).trans q0, (dZ.cell (p := ⟨w.heap.size, 1, none⟩) hlt).trans q1⟩ | exact ⟨(dZ.drew.cell (p := ⟨w.heap.size, 0, none⟩) hlt).trans q0, (dZ.drew.cell (p := ⟨w.heap.size, 1, none⟩) hlt).trans q1⟩) ((first | (go_at_call 39; refine (Ta.out _ (hRz.below (by first | exact dP | exact dP.drew | exact dZ | exact dZ.drew))).mono ?_; rintro e wT ⟨rfl, bT, oT⟩; have dT : Below W10.heap.size W10 wT := (by first | exact below_step dP bT | exact below_step dP.drew bT | exact below_step dZ bT | exact below_step dZ.drew bT)) | (go_at_call 43; refine (PP.out _).mono ?_; rintro e wP ⟨rfl, bP⟩; have dP : Below W10.heap.size W10 wP := (by first | exact below_step dT bP | exact below_step dT.drew bP | exact below_step dZ bP | exact below_step dZ.drew bP)) | (go_at_call 31; refine (hI.out _ _ _ (by first | exact oT.row | exact (oT.below (Below.refl _ _).drew).row | exact (oT.below bP).row | exact (oT.below ((Below.refl _ _).drew.trans bP)).row | exact (oT.below (bP.drew)).row | exact (oT.below (((Below.refl _ _).drew.trans bP).drew)).row)).mono ?_; rintro e W11 ⟨gah, gch, rfl, bx⟩; have bb : Below W10.heap.size W10 W11 := (by first | exact below_step dP bx | exact below_step dP.drew bx | exact below_step dT bx | exact below_step dT.drew bx))))
  all_goals clear q0 q1 hlt dZ hRz dT dP bT bP oT bx
  have d11 := d10.trans (bb.mono d10.size)
  have hBP := hBP.below bb
  clear bb
  go_wp2_with fail
  refine (E.out _ _ _ _ _).mono ?_
  rintro e W12 ⟨rfl, bb⟩
  have d12 := d11.trans (bb.mono d11.size)
  have hBP := hBP.below bb
  clear bb
  go_wp2_with fail
  refine (HG.out _ _ _).mono ?_
  rintro e w_ ⟨rfl, hw_⟩
  rw [hw_]
  clear hw_ w_
  go_wp2_with fail
  go_ret
  exact ⟨rfl, d12⟩
set_option maxRecDepth 100000 in
set_option maxHeartbeats 800000 in
theorem w_cutPrefix_over (a0 : Option Addr) (len cap : Nat) (pa pl : Int) (w : World) (hl : len ≤ maxLen) (h : ¬ len ≤ 1048576) :
    Calls Try.prog 8 #[.slice a0 len cap, .agg #[.int .i64 pa, .int .i64 pl]] w fun e w' => e = .returned (.bool true) ∧ Below w.heap.size w w' := by
  have hsz := hide (fun w => w_szPrefixS a0 len cap w hl)
  rw [if_neg h] at hsz
  go_enter Try.func8, Try.ntmps8
  go_wp2_with fail
  refine (hsz.out _).mono ?_
  rintro e w0 ⟨rfl, rfl⟩
  go_wp2_with fail
  go_ret
  exact ⟨rfl, below_box (Below.refl _ _)⟩
theorem w_cutPrefix_law (fl : Bool) (a0 : Option Addr) (len cap : Nat) (f0 f1 : Nat → Int) (pa pl : Int) (R : List Pf) (w : World) (ha : len ≤ 1048576) (hn : R.length ≤ 4294967296) (Ra : RowPrefix a0 len f0 f1 w)
    (hS : ∀ (a ca : Nat) (w : World), RowPrefix (some ⟨a, 0, none⟩) len f0 f1 w → Calls Try.prog 32 #[.slice (some ⟨a, 0, none⟩) len ca, .agg #[.int .i64 pa, .int .i64 pl]] w (AnsP fl R w)) (hI : ∀ (a ca : Nat) (w : World), RowPrefix (some ⟨a, 0, none⟩) len f0 f1 w → Calls Try.prog 31 #[.slice (some ⟨a, 0, none⟩) len ca, .agg #[.int .i64 pa, .int .i64 pl]] w (AnsP fl R w)) :
    Calls Try.prog 8 #[.slice a0 len cap, .agg #[.int .i64 pa, .int .i64 pl]] w fun e w' => e = .returned (.bool true) ∧ Below w.heap.size w w' := by
  by_cases h : R = []
  · subst h
    exact w_cutPrefix_nil fl a0 len cap f0 f1 pa pl w ha Ra (fun a c w r => (hS a c w r).mono fun _ _ h => h.nil) (fun a c w r => (hI a c w r).mono fun _ _ h => h.nil)
  · exact w_cutPrefix_full fl a0 len cap f0 f1 pa pl R.length _ _ w ha hn Ra (fun a c w r => (hS a c w r).mono fun _ _ k => k.full h) (fun a c w r => (hI a c w r).mono fun _ _ k => k.full h)
theorem w_cutPrefix (a0 : Option Addr) (len cap : Nat) (f0 f1 : Nat → Int) (pa pl : Int) (w : World) (hl : len ≤ maxLen) (Ra : RowPrefix a0 len f0 f1 w) :
    Calls Try.prog 8 #[.slice a0 len cap, .agg #[.int .i64 pa, .int .i64 pl]] w fun e w' => e = .returned (.bool true) ∧ Below w.heap.size w w' := by
  by_cases h : len ≤ 1048576
  · have e := listOf_len len f0 f1
    by_cases hg : goodL (listOf len f0 f1) = true ∧ goodB pa pl = true
    · refine w_cutPrefix_law (decide ((cutS (fewS (listOf len f0 f1)) (pa, pl)).length ≤ 64)) a0 len cap f0 f1 pa pl (if (cutS (fewS (listOf len f0 f1)) (pa, pl)).length ≤ 64 then cutS (fewS (listOf len f0 f1)) (pa, pl) else []) w h (by split <;> first | omega | decide) Ra (fun a c w r => ?_) (fun a c w r => ?_)
      · have k := s_cutPrefix_yes (some ⟨a, 0, none⟩) c (listOf len f0 f1) (pa, pl) w (RowP.of r) hg.1 hg.2
        rw [e] at k
        exact k
      · have k := i_cutPrefix_yes (some ⟨a, 0, none⟩) c (listOf len f0 f1) (pa, pl) w ⟨RowP.of r, .inr ⟨_, _, rfl⟩⟩ hg.1 hg.2
        rw [e] at k
        exact k
    · have hg2 : goodL (listOf len f0 f1) = false ∨ goodB pa pl = false := by
        cases hx1 : goodL (listOf len f0 f1) with
        | false => exact .inl rfl
        | true =>
          cases hx2 : goodB pa pl with
          | false => exact .inr rfl
          | true => exact absurd ⟨hx1, hx2⟩ hg
      refine w_cutPrefix_law false a0 len cap f0 f1 pa pl [] w h (by decide) Ra (fun a c w r => ?_) (fun a c w r => ?_)
      · have k := s_cutPrefix_no (some ⟨a, 0, none⟩) c (listOf len f0 f1) pa pl w (by omega) (RowP.of r) hg2
        rw [e] at k
        exact k.mono fun _ _ k => AnsP.zero w k
      · have k := i_cutPrefix_no (some ⟨a, 0, none⟩) c (listOf len f0 f1) pa pl w (by omega) (RowP.of r) hg2
        rw [e] at k
        exact k.mono fun _ _ k => AnsP.zero w k
  · exact w_cutPrefix_over a0 len cap pa pl w hl h
end Go.Proofs.Ytlflfloopomaiaa
