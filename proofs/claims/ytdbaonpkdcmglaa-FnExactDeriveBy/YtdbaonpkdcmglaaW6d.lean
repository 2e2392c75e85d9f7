/- The law on deriveBy, walked out of what the specification's and the program's functions answer. -/
import Derived.Test.YtdbaonpkdcmglaaW6k
import Derived.Test.YtdbaonpkdcmglaaD6
namespace Go.Proofs.Ytdbaonpkdcmglaa
open Go.RowKit

set_option maxRecDepth 100000 in
set_option maxHeartbeats 6400000 in
theorem w_deriveBy_full (fl : Bool) (a0 : Option Addr) (len cap : Nat) (f0 f1 : Nat → Int) (x : Int) (n : Nat) (F0 F1 : Nat → Int) (w : World) (ha : len ≤ 1048576) (hn : n ≤ 1048576) (Ra : RowReCell a0 len f0 f1 w)
    (hS : Hid (∀ (a ca : Nat) (w : World), len ≤ ca → RowReCell (some ⟨a, 0, none⟩) len f0 f1 w → Calls Try.prog 27 #[.slice (some ⟨a, 0, none⟩) len ca, .int .i64 x] w fun e w' => ∃ g c, e = .returned (.tuple #[.slice (some ⟨g, 0, none⟩) n c, .bool fl]) ∧ w.heap.size ≤ g ∧ OutReCell g n n F0 F1 w' ∧ Below w.heap.size w w'))
    (hI : Hid (∀ (a ca : Nat) (w : World), len ≤ ca → RowReCell (some ⟨a, 0, none⟩) len f0 f1 w → Calls Try.prog 28 #[.slice (some ⟨a, 0, none⟩) len ca, .int .i64 x] w fun e w' => ∃ g c, e = .returned (.tuple #[.slice (some ⟨g, 0, none⟩) n c, .bool fl]) ∧ w.heap.size ≤ g ∧ OutReCell g n n F0 F1 w' ∧ Below w.heap.size w w')) :
    Calls Try.prog 7 #[.slice a0 len cap, .int .i64 x] w fun e w' => e = .returned (.bool true) ∧ Below w.heap.size w w' := by
  have hsza := hide (fun w => w_szReCellS a0 len cap w (Nat.le_trans ha (by decide)))
  rw [if_pos ha] at hsza
  have hlta : ¬ (1048576 - (len : Int) < 0) := by omega
  have Ta := hide (fun w hR => w_toReCellS a0 len cap f0 f1 w (by omega) hR)
  have Ea := hide (fun a a' cap cap' w hR hR' => w_eqReCellS a a' len cap cap' f0 f1 w (by omega) hR hR')
  have Ma := hide (fun c cap w hO => w_markReCellS c len cap f0 f1 1 w (by omega) (by omega) (by omega) hO)
  have k1 : ¬ (1 + 2 * (len : Int) < 0) := by omega
  have k4 : (fl != fl) = false := by simp
  have E := hide (fun a a' cap cap' w hR hR' => w_eqReCellS a a' n cap cap' F0 F1 w hn hR hR')
  have MG := hide (fun c cap w hO => w_markReCellS c n cap F0 F1 1 w hn (by omega) (by omega) hO)
  have HG := hide (fun a cap w hR => w_heldReCellS a n cap 1 w hn (by omega) (by omega) hR)
  have k2 : ¬ (1 + 2 * (n : Int) < 0) := by omega
  have k3 : ((1 + 2 * (n : Int)) != (1 + 2 * (n : Int))) = false := by simp
  have d0 : Below w.heap.size w w := Below.refl _ _
  go_enter Try.func7, Try.ntmps7
  go_wp2_with fail
  refine (hsza.out _).mono ?_
  rintro e w_ ⟨rfl, hw_⟩
  rw [hw_]
  clear hw_ w_
  go_wp2_with fail
  refine (Ta.out _ (Ra.below d0)).mono ?_
  rintro e W1 ⟨rfl, bb, ra⟩
  have zra := ra.1
  have yra := d0.size
  have d1 := d0.trans (bb.mono d0.size)
  clear bb
  go_wp2_with fail
  refine (hS.out _ _ _ (Nat.le_refl _) ra.row).mono ?_
  rintro e W2 ⟨gs, cs, rfl, hs, Os, bb⟩
  have hs0 : w.heap.size ≤ gs := Nat.le_trans d1.size hs
  have zs : gs < W2.heap.size := Os.1
  have d2 := d1.trans (bb.mono d1.size)
  have ra := ra.below bb
  clear bb
  go_wp2_with fail
  clear ra
  refine (Ta.out _ (Ra.below d2)).mono ?_
  rintro e W3 ⟨rfl, bb, xa⟩
  have zxa := xa.1
  have yxa := d2.size
  have d3 := d2.trans (bb.mono d2.size)
  have Os := Os.below bb
  clear bb
  go_wp2_with fail
  refine (hI.out _ _ _ (Nat.le_refl _) xa.row).mono ?_
  rintro e W4 ⟨gg, cg, rfl, hg, Og, bb⟩
  have hg0 : w.heap.size ≤ gg := Nat.le_trans d3.size hg
  have zg : gg < W4.heap.size := Og.1
  have d4 := d3.trans (bb.mono d3.size)
  have Os := Os.below bb
  have xa := xa.below bb
  clear bb
  go_wp2_with fail
  refine (E.out _ _ _ _ _ Og.row Os.row).mono ?_
  rintro e W5 ⟨rfl, bb⟩
  have d5 := d4.trans (bb.mono d4.size)
  have Os := Os.below bb
  have xa := xa.below bb
  have Og := Og.below bb
  clear bb
  go_wp2_with fail
  refine (Ta.out _ (Ra.below d5)).mono ?_
  rintro e W6 ⟨rfl, bb, ta⟩
  have zta := ta.1
  have yta := d5.size
  have d6 := d5.trans (bb.mono d5.size)
  have Os := Os.below bb
  have xa := xa.below bb
  have Og := Og.below bb
  clear bb
  go_wp2_with fail
  refine (Ea.out _ _ _ _ _ xa.row ta.row).mono ?_
  rintro e W7 ⟨rfl, bb⟩
  have d7 := d6.trans (bb.mono d6.size)
  have Os := Os.below bb
  have xa := xa.below bb
  have Og := Og.below bb
  have ta := ta.below bb
  clear bb
  clear ta
  go_wp2_with fail
  refine (Ma.out _ _ _ xa).mono ?_
  rintro e W8 ⟨rfl, yy, _⟩
  have d8 := d7.trans (only_base6 yy (by omega) xa.1)
  have Os := Os.only yy (by omega)
  have Og := Og.only yy (by omega)
  clear yy xa
  go_wp2_with fail
  refine (E.out _ _ _ _ _ Og.row Os.row).mono ?_
  rintro e W9 ⟨rfl, bb⟩
  have d9 := d8.trans (bb.mono d8.size)
  have Os := Os.below bb
  have Og := Og.below bb
  clear bb
  go_wp2_with fail
  refine (MG.out _ _ _ Og).mono ?_
  rintro e W10 ⟨rfl, yy, Om⟩
  have d10 := d9.trans (only_base6 yy hg0 Og.1)
  have Os := Os.only yy (by omega)
  clear yy Og
  go_wp2_with fail
  refine (HG.out _ _ _ Om.row).mono ?_
  rintro e w_ ⟨rfl, hw_⟩
  rw [hw_]
  clear hw_ w_
  go_wp2_with fail
  refine (Ta.out _ (Ra.below d10)).mono ?_
  rintro e W11 ⟨rfl, bb, ua⟩
  have zua := ua.1
  have yua := d10.size
  have d11 := d10.trans (bb.mono d10.size)
  have Os := Os.below bb
  have Om := Om.below bb
  clear bb
  go_wp2_with fail
  refine (hI.out _ _ _ (Nat.le_refl _) ua.row).mono ?_
  rintro e W12 ⟨gh, ch, rfl, hh, Oh, bb⟩
  have hh0 : w.heap.size ≤ gh := Nat.le_trans d11.size hh
  have zh : gh < W12.heap.size := Oh.1
  have d12 := d11.trans (bb.mono d11.size)
  have Os := Os.below bb
  have Om := Om.below bb
  have ua := ua.below bb
  clear bb
  go_wp2_with fail
  refine (E.out _ _ _ _ _ Oh.row Os.row).mono ?_
  rintro e W13 ⟨rfl, bb⟩
  have d13 := d12.trans (bb.mono d12.size)
  have Os := Os.below bb
  have Om := Om.below bb
  have ua := ua.below bb
  have Oh := Oh.below bb
  clear bb
  go_wp2_with fail
  refine (HG.out _ _ _ Om.row).mono ?_
  rintro e w_ ⟨rfl, hw_⟩
  rw [hw_]
  clear hw_ w_
  go_wp2_with fail
  go_ret
  exact ⟨rfl, d13⟩
set_option maxRecDepth 100000 in
set_option maxHeartbeats 6400000 in
theorem w_deriveBy_nil (fl : Bool) (a0 : Option Addr) (len cap : Nat) (f0 f1 : Nat → Int) (x : Int) (w : World) (ha : len ≤ 1048576) (Ra : RowReCell a0 len f0 f1 w)
    (hS : Hid (∀ (a ca : Nat) (w : World), len ≤ ca → RowReCell (some ⟨a, 0, none⟩) len f0 f1 w → Calls Try.prog 27 #[.slice (some ⟨a, 0, none⟩) len ca, .int .i64 x] w fun e w' => ∃ ga gc, e = .returned (.tuple #[.slice ga 0 gc, .bool fl]) ∧ Below w.heap.size w w'))
    (hI : Hid (∀ (a ca : Nat) (w : World), len ≤ ca → RowReCell (some ⟨a, 0, none⟩) len f0 f1 w → Calls Try.prog 28 #[.slice (some ⟨a, 0, none⟩) len ca, .int .i64 x] w fun e w' => ∃ ga gc, e = .returned (.tuple #[.slice ga 0 gc, .bool fl]) ∧ Below w.heap.size w w')) :
    Calls Try.prog 7 #[.slice a0 len cap, .int .i64 x] w fun e w' => e = .returned (.bool true) ∧ Below w.heap.size w w' := by
  have hsza := hide (fun w => w_szReCellS a0 len cap w (Nat.le_trans ha (by decide)))
  rw [if_pos ha] at hsza
  have hlta : ¬ (1048576 - (len : Int) < 0) := by omega
  have Ta := hide (fun w hR => w_toReCellS a0 len cap f0 f1 w (by omega) hR)
  have Ea := hide (fun a a' cap cap' w hR hR' => w_eqReCellS a a' len cap cap' f0 f1 w (by omega) hR hR')
  have Ma := hide (fun c cap w hO => w_markReCellS c len cap f0 f1 1 w (by omega) (by omega) (by omega) hO)
  have k1 : ¬ (1 + 2 * (len : Int) < 0) := by omega
  have k4 : (fl != fl) = false := by simp
  have hnone : ∀ a w, RowReCell a 0 (fun _ => 0) (fun _ => 0) w := fun _ _ i hi => absurd hi (Nat.not_lt_zero _)
  have hnone1 : ∀ a w, RowReCell a 0 (fun i => 1 + 2 * (i : Int) + 0) (fun i => 1 + 2 * (i : Int) + 1) w := fun _ _ i hi => absurd hi (Nat.not_lt_zero _)
  have E := hide (fun a a' c c' w => w_eqReCellS a a' 0 c c' (fun _ => 0) (fun _ => 0) w (by omega) (hnone a w) (hnone a' w))
  have MG := hide (fun a c w => w_markReCellS_nil a c 1 w)
  have HG := hide (fun a c w => w_heldReCellS a 0 c 1 w (by omega) (by omega) (by omega) (hnone1 a w))
  clear hnone hnone1
  simp only [Int.natCast_zero, Int.mul_zero, Int.add_zero] at HG
  have d0 : Below w.heap.size w w := Below.refl _ _
  go_enter Try.func7, Try.ntmps7
  go_wp2_with fail
  refine (hsza.out _).mono ?_
  rintro e w_ ⟨rfl, hw_⟩
  rw [hw_]
  clear hw_ w_
  go_wp2_with fail
  refine (Ta.out _ (Ra.below d0)).mono ?_
  rintro e W1 ⟨rfl, bb, ra⟩
  have zra := ra.1
  have yra := d0.size
  have d1 := d0.trans (bb.mono d0.size)
  clear bb
  go_wp2_with fail
  refine (hS.out _ _ _ (Nat.le_refl _) ra.row).mono ?_
  rintro e W2 ⟨gas, gcs, rfl, bb⟩
  have d2 := d1.trans (bb.mono d1.size)
  have ra := ra.below bb
  clear bb
  go_wp2_with fail
  clear ra
  refine (Ta.out _ (Ra.below d2)).mono ?_
  rintro e W3 ⟨rfl, bb, xa⟩
  have zxa := xa.1
  have yxa := d2.size
  have d3 := d2.trans (bb.mono d2.size)
  clear bb
  go_wp2_with fail
  refine (hI.out _ _ _ (Nat.le_refl _) xa.row).mono ?_
  rintro e W4 ⟨gag, gcg, rfl, bb⟩
  have d4 := d3.trans (bb.mono d3.size)
  have xa := xa.below bb
  clear bb
  go_wp2_with fail
  refine (E.out _ _ _ _ _).mono ?_
  rintro e W5 ⟨rfl, bb⟩
  have d5 := d4.trans (bb.mono d4.size)
  have xa := xa.below bb
  clear bb
  go_wp2_with fail
  refine (Ta.out _ (Ra.below d5)).mono ?_
  rintro e W6 ⟨rfl, bb, ta⟩
  have zta := ta.1
  have yta := d5.size
  have d6 := d5.trans (bb.mono d5.size)
  have xa := xa.below bb
  clear bb
  go_wp2_with fail
  refine (Ea.out _ _ _ _ _ xa.row ta.row).mono ?_
  rintro e W7 ⟨rfl, bb⟩
  have d7 := d6.trans (bb.mono d6.size)
  have xa := xa.below bb
  have ta := ta.below bb
  clear bb
  clear ta
  go_wp2_with fail
  refine (Ma.out _ _ _ xa).mono ?_
  rintro e W8 ⟨rfl, yy, _⟩
  have d8 := d7.trans (only_base6 yy (by omega) xa.1)
  clear yy xa
  go_wp2_with fail
  refine (E.out _ _ _ _ _).mono ?_
  rintro e W9 ⟨rfl, bb⟩
  have d9 := d8.trans (bb.mono d8.size)
  clear bb
  go_wp2_with fail
  refine (MG.out _ _ _).mono ?_
  rintro e w_ ⟨rfl, hw_⟩
  rw [hw_]
  clear hw_ w_
  go_wp2_with fail
  refine (HG.out _ _ _).mono ?_
  rintro e w_ ⟨rfl, hw_⟩
  rw [hw_]
  clear hw_ w_
  go_wp2_with fail
  refine (Ta.out _ (Ra.below d9)).mono ?_
  rintro e W10 ⟨rfl, bb, ua⟩
  have zua := ua.1
  have yua := d9.size
  have d10 := d9.trans (bb.mono d9.size)
  clear bb
  go_wp2_with fail
  refine (hI.out _ _ _ (Nat.le_refl _) ua.row).mono ?_
  rintro e W11 ⟨gah, gch, rfl, bb⟩
  have d11 := d10.trans (bb.mono d10.size)
  have ua := ua.below bb
  clear bb
  go_wp2_with fail
  refine (E.out _ _ _ _ _).mono ?_
  rintro e W12 ⟨rfl, bb⟩
  have d12 := d11.trans (bb.mono d11.size)
  have ua := ua.below bb
  clear bb
  go_wp2_with fail
  refine (HG.out _ _ _).mono ?_
  rintro e w_ ⟨rfl, hw_⟩
  rw [hw_]
  clear hw_ w_
  go_wp2_with fail
  go_ret
  exact ⟨rfl, d12⟩
set_option maxRecDepth 100000 in
set_option maxHeartbeats 800000 in
theorem w_deriveBy_over (a0 : Option Addr) (len cap : Nat) (x : Int) (w : World) (hl : len ≤ maxLen) (h : ¬ len ≤ 1048576) :
    Calls Try.prog 7 #[.slice a0 len cap, .int .i64 x] w fun e w' => e = .returned (.bool true) ∧ Below w.heap.size w w' := by
  have hsz := hide (fun w => w_szReCellS a0 len cap w hl)
  rw [if_neg h] at hsz
  go_enter Try.func7, Try.ntmps7
  go_wp2_with fail
  refine (hsz.out _).mono ?_
  rintro e w0 ⟨rfl, rfl⟩
  go_wp2_with fail
  go_ret
  exact ⟨rfl, Below.refl _ _⟩
theorem w_deriveBy_law (fl : Bool) (a0 : Option Addr) (len cap : Nat) (f0 f1 : Nat → Int) (x : Int) (R : List Cl) (w : World) (ha : len ≤ 1048576) (hn : R.length ≤ 1048576) (Ra : RowReCell a0 len f0 f1 w)
    (hS : ∀ (a ca : Nat) (w : World), len ≤ ca → RowReCell (some ⟨a, 0, none⟩) len f0 f1 w → Calls Try.prog 27 #[.slice (some ⟨a, 0, none⟩) len ca, .int .i64 x] w (AnsQ fl R w)) (hI : ∀ (a ca : Nat) (w : World), len ≤ ca → RowReCell (some ⟨a, 0, none⟩) len f0 f1 w → Calls Try.prog 28 #[.slice (some ⟨a, 0, none⟩) len ca, .int .i64 x] w (AnsQ fl R w)) :
    Calls Try.prog 7 #[.slice a0 len cap, .int .i64 x] w fun e w' => e = .returned (.bool true) ∧ Below w.heap.size w w' := by
  by_cases h : R = []
  · subst h
    exact w_deriveBy_nil fl a0 len cap f0 f1 x w ha Ra (fun a c w q r => (hS a c w q r).mono fun _ _ h => h.nil) (fun a c w q r => (hI a c w q r).mono fun _ _ h => h.nil)
  · exact w_deriveBy_full fl a0 len cap f0 f1 x R.length _ _ w ha hn Ra (fun a c w q r => (hS a c w q r).mono fun _ _ k => k.full h) (fun a c w q r => (hI a c w q r).mono fun _ _ k => k.full h)
theorem w_deriveBy (a0 : Option Addr) (len cap : Nat) (f0 f1 : Nat → Int) (x : Int) (w : World) (hl : len ≤ maxLen) (Ra : RowReCell a0 len f0 f1 w) :
    Calls Try.prog 7 #[.slice a0 len cap, .int .i64 x] w fun e w' => e = .returned (.bool true) ∧ Below w.heap.size w w' := by
  by_cases h : len ≤ 1048576
  · have e := listQ_len len f0 f1
    refine w_deriveBy_law (drF (listQ len f0 f1) x) a0 len cap f0 f1 x (drA (listQ len f0 f1) x) w h (Nat.le_trans (drA_len _ _) (by decide)) Ra (fun a ca w q r => ?_) (fun a ca w q r => ?_)
    · have k := s_deriveBy a 0 ca (listQ len f0 f1) x w (by omega) (RowQ.of r)
      rw [e] at k
      exact k
    · have k := i_deriveBy (some ⟨a, 0, none⟩) ca (listQ len f0 f1) x w (by omega) (by omega) (RowQ.of r)
      rw [e] at k
      exact k
  · exact w_deriveBy_over a0 len cap x w hl h
end Go.Proofs.Ytdbaonpkdcmglaa
