/- The law on meetSets, walked out of what the specification's and the program's functions answer. -/
import Derived.Test.YtlflfloopomaiaaW3k
import Derived.Test.YtlflfloopomaiaaW0
import Derived.Test.YtlflfloopomaiaaFlatPrefix
import Derived.Test.YtlflfloopomaiaaSz3
import Derived.Test.YtlflfloopomaiaaS3h
import Derived.Test.YtlflfloopomaiaaI3i
namespace Go.Proofs.Ytlflfloopomaiaa
open Go.RowKit

set_option maxRecDepth 100000 in
set_option maxHeartbeats 6400000 in
theorem w_meetSets_full (fl : Bool) (a0 : Option Addr) (len cap : Nat) (f0 f1 : Nat → Int) (b0 : Option Addr) (lenb capb : Nat) (h0 h1 : Nat → Int) (n : Nat) (F0 F1 : Nat → Int) (w : World) (ha : len ≤ 1048576) (hb : len + lenb ≤ 1048576) (hn : n ≤ 4294967296) (Ra : RowPrefix a0 len f0 f1 w) (Rb : RowPrefix b0 lenb h0 h1 w)
    (hS : Hid (∀ (a ca : Nat) (b cb : Nat) (w : World), RowPrefix (some ⟨a, 0, none⟩) len f0 f1 w → RowPrefix (some ⟨b, 0, none⟩) lenb h0 h1 w → Calls Try.prog 35 #[.slice (some ⟨a, 0, none⟩) len ca, .slice (some ⟨b, 0, none⟩) lenb cb] w fun e w' => ∃ g c, e = .returned (.tuple #[.slice (some ⟨g, 0, none⟩) n c, .bool fl]) ∧ w.heap.size ≤ g ∧ OutPrefix g n n F0 F1 w' ∧ Below w.heap.size w w'))
    (hI : Hid (∀ (a ca : Nat) (b cb : Nat) (w : World), RowPrefix (some ⟨a, 0, none⟩) len f0 f1 w → RowPrefix (some ⟨b, 0, none⟩) lenb h0 h1 w → Calls Try.prog 34 #[.slice (some ⟨a, 0, none⟩) len ca, .slice (some ⟨b, 0, none⟩) lenb cb] w fun e w' => ∃ g c, e = .returned (.tuple #[.slice (some ⟨g, 0, none⟩) n c, .bool fl]) ∧ w.heap.size ≤ g ∧ OutPrefix g n n F0 F1 w' ∧ Below w.heap.size w w')) :
    Calls Try.prog 12 #[.slice a0 len cap, .slice b0 lenb capb] w fun e w' => e = .returned (.bool true) ∧ Below w.heap.size w w' := by
  have hsza := hide (fun w => w_szPrefixS a0 len cap w (Nat.le_trans ha (by decide)))
  rw [if_pos ha] at hsza
  have hlta : ¬ (1048576 - (len : Int) < 0) := by omega
  have Ta := hide (fun w hR => w_toPrefixS a0 len cap f0 f1 w (by omega) hR)
  have Ea := hide (fun a a' cap cap' w hR hR' => w_eqPrefixS a a' len cap cap' f0 f1 w (by omega) hR hR')
  have hszb := hide (fun w => w_szPrefixSr b0 lenb capb (1048576 - (len : Int)) w (by omega) (by omega) (by omega))
  have hltb : ¬ (1048576 - (len : Int) - (lenb : Int) < 0) := by omega
  have Tb := hide (fun w hR => w_toPrefixS b0 lenb capb h0 h1 w (by omega) hR)
  have Eb := hide (fun a a' cap cap' w hR hR' => w_eqPrefixS a a' lenb cap cap' h0 h1 w (by omega) hR hR')
  have Ma := hide (fun c cap w hO => w_markPrefixS c len cap f0 f1 1 w (by omega) (by omega) (by omega) hO)
  have k1 : ¬ (1 + 2 * (len : Int) < 0) := by omega
  have Mb := hide (fun c cap w hO => w_markPrefixS c lenb cap h0 h1 (1 + 2 * (len : Int)) w (by omega) (by omega) (by omega) hO)
  have k1b : ¬ (1 + 2 * (len : Int) + 2 * (lenb : Int) < 0) := by omega
  have k4 : (fl != fl) = false := by simp
  have E := hide (fun a a' cap cap' w hR hR' => w_eqPrefixS a a' n cap cap' F0 F1 w hn hR hR')
  have MG := hide (fun c cap w hO => w_markPrefixS c n cap F0 F1 1 w hn (by omega) (by omega) hO)
  have HG := hide (fun a cap w hR => w_heldPrefixS a n cap 1 w hn (by omega) (by omega) hR)
  have k2 : ¬ (1 + 2 * (n : Int) < 0) := by omega
  have k3 : ((1 + 2 * (n : Int)) != (1 + 2 * (n : Int))) = false := by simp
  have d0 : Below w.heap.size w w := Below.refl _ _
  go_enter Try.func12, Try.ntmps12
  go_wp2_with fail
  refine (hsza.out _).mono ?_
  rintro e w_ ⟨rfl, hw_⟩
  rw [hw_]
  clear hw_ w_
  go_wp2_with fail
  refine (hszb.out _).mono ?_
  rintro e w_ ⟨rfl, hw_⟩
  rw [hw_]
  clear hw_ w_
  go_wp2_with fail
  refine (Ta.out _ (Ra.below d0)).mono ?_
  rintro e W1 ⟨rfl, bb, ra⟩
  have zra := ra.1
  have yra := d0.size
  have d1 := d0.trans (bb.mono d0.size)
  clear bb
  go_wp2_with fail
  refine (Tb.out _ (Rb.below d1)).mono ?_
  rintro e W2 ⟨rfl, bb, rb⟩
  have zrb := rb.1
  have yrb := d1.size
  have d2 := d1.trans (bb.mono d1.size)
  have ra := ra.below bb
  clear bb
  go_wp2_with fail
  refine (hS.out _ _ _ _ _ ra.row rb.row).mono ?_
  rintro e W3 ⟨gs, cs, rfl, hs, Os, bb⟩
  have hs0 : w.heap.size ≤ gs := Nat.le_trans d2.size hs
  have zs : gs < W3.heap.size := Os.1
  have d3 := d2.trans (bb.mono d2.size)
  have ra := ra.below bb
  have rb := rb.below bb
  clear bb
  go_wp2_with fail
  clear ra rb
  refine (Ta.out _ (Ra.below d3)).mono ?_
  rintro e W4 ⟨rfl, bb, xa⟩
  have zxa := xa.1
  have yxa := d3.size
  have d4 := d3.trans (bb.mono d3.size)
  have Os := Os.below bb
  clear bb
  go_wp2_with fail
  refine (Tb.out _ (Rb.below d4)).mono ?_
  rintro e W5 ⟨rfl, bb, xb⟩
  have zxb := xb.1
  have yxb := d4.size
  have d5 := d4.trans (bb.mono d4.size)
  have Os := Os.below bb
  have xa := xa.below bb
  clear bb
  go_wp2_with fail
  refine (hI.out _ _ _ _ _ xa.row xb.row).mono ?_
  rintro e W6 ⟨gg, cg, rfl, hg, Og, bb⟩
  have hg0 : w.heap.size ≤ gg := Nat.le_trans d5.size hg
  have zg : gg < W6.heap.size := Og.1
  have d6 := d5.trans (bb.mono d5.size)
  have Os := Os.below bb
  have xa := xa.below bb
  have xb := xb.below bb
  clear bb
  go_wp2_with fail
  refine (E.out _ _ _ _ _ Og.row Os.row).mono ?_
  rintro e W7 ⟨rfl, bb⟩
  have d7 := d6.trans (bb.mono d6.size)
  have Os := Os.below bb
  have xa := xa.below bb
  have xb := xb.below bb
  have Og := Og.below bb
  clear bb
  go_wp2_with fail
  refine (Ta.out _ (Ra.below d7)).mono ?_
  rintro e W8 ⟨rfl, bb, ta⟩
  have zta := ta.1
  have yta := d7.size
  have d8 := d7.trans (bb.mono d7.size)
  have Os := Os.below bb
  have xa := xa.below bb
  have xb := xb.below bb
  have Og := Og.below bb
  clear bb
  go_wp2_with fail
  refine (Ea.out _ _ _ _ _ xa.row ta.row).mono ?_
  rintro e W9 ⟨rfl, bb⟩
  have d9 := d8.trans (bb.mono d8.size)
  have Os := Os.below bb
  have xa := xa.below bb
  have xb := xb.below bb
  have Og := Og.below bb
  have ta := ta.below bb
  clear bb
  clear ta
  go_wp2_with fail
  refine (Tb.out _ (Rb.below d9)).mono ?_
  rintro e W10 ⟨rfl, bb, tb⟩
  have ztb := tb.1
  have ytb := d9.size
  have d10 := d9.trans (bb.mono d9.size)
  have Os := Os.below bb
  have xa := xa.below bb
  have xb := xb.below bb
  have Og := Og.below bb
  clear bb
  go_wp2_with fail
  refine (Eb.out _ _ _ _ _ xb.row tb.row).mono ?_
  rintro e W11 ⟨rfl, bb⟩
  have d11 := d10.trans (bb.mono d10.size)
  have Os := Os.below bb
  have xa := xa.below bb
  have xb := xb.below bb
  have Og := Og.below bb
  have tb := tb.below bb
  clear bb
  clear tb
  go_wp2_with fail
  refine (Ma.out _ _ _ xa).mono ?_
  rintro e W12 ⟨rfl, yy, _⟩
  have d12 := d11.trans (only_base3 yy (by omega) xa.1)
  have Os := Os.only yy (by omega)
  have xb := xb.only yy (by omega)
  have Og := Og.only yy (by omega)
  clear yy xa
  go_wp2_with fail
  refine (Mb.out _ _ _ xb).mono ?_
  rintro e W13 ⟨rfl, yy, _⟩
  have d13 := d12.trans (only_base3 yy (by omega) xb.1)
  have Os := Os.only yy (by omega)
  have Og := Og.only yy (by omega)
  clear yy xb
  go_wp2_with fail
  refine (E.out _ _ _ _ _ Og.row Os.row).mono ?_
  rintro e W14 ⟨rfl, bb⟩
  have d14 := d13.trans (bb.mono d13.size)
  have Os := Os.below bb
  have Og := Og.below bb
  clear bb
  go_wp2_with fail
  refine (MG.out _ _ _ Og).mono ?_
  rintro e W15 ⟨rfl, yy, Om⟩
  have d15 := d14.trans (only_base3 yy hg0 Og.1)
  have Os := Os.only yy (by omega)
  clear yy Og
  go_wp2_with fail
  refine (HG.out _ _ _ Om.row).mono ?_
  rintro e w_ ⟨rfl, hw_⟩
  rw [hw_]
  clear hw_ w_
  go_wp2_with fail
  refine (Ta.out _ (Ra.below d15)).mono ?_
  rintro e W16 ⟨rfl, bb, ua⟩
  have zua := ua.1
  have yua := d15.size
  have d16 := d15.trans (bb.mono d15.size)
  have Os := Os.below bb
  have Om := Om.below bb
  clear bb
  go_wp2_with fail
  refine (Tb.out _ (Rb.below d16)).mono ?_
  rintro e W17 ⟨rfl, bb, ub⟩
  have zub := ub.1
  have yub := d16.size
  have d17 := d16.trans (bb.mono d16.size)
  have Os := Os.below bb
  have Om := Om.below bb
  have ua := ua.below bb
  clear bb
  go_wp2_with fail
  refine (hI.out _ _ _ _ _ ua.row ub.row).mono ?_
  rintro e W18 ⟨gh, ch, rfl, hh, Oh, bb⟩
  have hh0 : w.heap.size ≤ gh := Nat.le_trans d17.size hh
  have zh : gh < W18.heap.size := Oh.1
  have d18 := d17.trans (bb.mono d17.size)
  have Os := Os.below bb
  have Om := Om.below bb
  have ua := ua.below bb
  have ub := ub.below bb
  clear bb
  go_wp2_with fail
  refine (E.out _ _ _ _ _ Oh.row Os.row).mono ?_
  rintro e W19 ⟨rfl, bb⟩
  have d19 := d18.trans (bb.mono d18.size)
  have Os := Os.below bb
  have Om := Om.below bb
  have ua := ua.below bb
  have ub := ub.below bb
  have Oh := Oh.below bb
  clear bb
  go_wp2_with fail
  refine (HG.out _ _ _ Om.row).mono ?_
  rintro e w_ ⟨rfl, hw_⟩
  rw [hw_]
  clear hw_ w_
  go_wp2_with fail
  go_ret
  exact ⟨rfl, d19⟩
set_option maxRecDepth 100000 in
set_option maxHeartbeats 6400000 in
theorem w_meetSets_nil (fl : Bool) (a0 : Option Addr) (len cap : Nat) (f0 f1 : Nat → Int) (b0 : Option Addr) (lenb capb : Nat) (h0 h1 : Nat → Int) (w : World) (ha : len ≤ 1048576) (hb : len + lenb ≤ 1048576) (Ra : RowPrefix a0 len f0 f1 w) (Rb : RowPrefix b0 lenb h0 h1 w)
    (hS : Hid (∀ (a ca : Nat) (b cb : Nat) (w : World), RowPrefix (some ⟨a, 0, none⟩) len f0 f1 w → RowPrefix (some ⟨b, 0, none⟩) lenb h0 h1 w → Calls Try.prog 35 #[.slice (some ⟨a, 0, none⟩) len ca, .slice (some ⟨b, 0, none⟩) lenb cb] w fun e w' => ∃ ga gc, e = .returned (.tuple #[.slice ga 0 gc, .bool fl]) ∧ Below w.heap.size w w'))
    (hI : Hid (∀ (a ca : Nat) (b cb : Nat) (w : World), RowPrefix (some ⟨a, 0, none⟩) len f0 f1 w → RowPrefix (some ⟨b, 0, none⟩) lenb h0 h1 w → Calls Try.prog 34 #[.slice (some ⟨a, 0, none⟩) len ca, .slice (some ⟨b, 0, none⟩) lenb cb] w fun e w' => ∃ ga gc, e = .returned (.tuple #[.slice ga 0 gc, .bool fl]) ∧ Below w.heap.size w w')) :
    Calls Try.prog 12 #[.slice a0 len cap, .slice b0 lenb capb] w fun e w' => e = .returned (.bool true) ∧ Below w.heap.size w w' := by
  have hsza := hide (fun w => w_szPrefixS a0 len cap w (Nat.le_trans ha (by decide)))
  rw [if_pos ha] at hsza
  have hlta : ¬ (1048576 - (len : Int) < 0) := by omega
  have Ta := hide (fun w hR => w_toPrefixS a0 len cap f0 f1 w (by omega) hR)
  have Ea := hide (fun a a' cap cap' w hR hR' => w_eqPrefixS a a' len cap cap' f0 f1 w (by omega) hR hR')
  have hszb := hide (fun w => w_szPrefixSr b0 lenb capb (1048576 - (len : Int)) w (by omega) (by omega) (by omega))
  have hltb : ¬ (1048576 - (len : Int) - (lenb : Int) < 0) := by omega
  have Tb := hide (fun w hR => w_toPrefixS b0 lenb capb h0 h1 w (by omega) hR)
  have Eb := hide (fun a a' cap cap' w hR hR' => w_eqPrefixS a a' lenb cap cap' h0 h1 w (by omega) hR hR')
  have Ma := hide (fun c cap w hO => w_markPrefixS c len cap f0 f1 1 w (by omega) (by omega) (by omega) hO)
  have k1 : ¬ (1 + 2 * (len : Int) < 0) := by omega
  have Mb := hide (fun c cap w hO => w_markPrefixS c lenb cap h0 h1 (1 + 2 * (len : Int)) w (by omega) (by omega) (by omega) hO)
  have k1b : ¬ (1 + 2 * (len : Int) + 2 * (lenb : Int) < 0) := by omega
  have k4 : (fl != fl) = false := by simp
  have hnone : ∀ a w, RowPrefix a 0 (fun _ => 0) (fun _ => 0) w := fun _ _ i hi => absurd hi (Nat.not_lt_zero _)
  have hnone1 : ∀ a w, RowPrefix a 0 (fun i => 1 + 2 * (i : Int) + 0) (fun i => 1 + 2 * (i : Int) + 1) w := fun _ _ i hi => absurd hi (Nat.not_lt_zero _)
  have E := hide (fun a a' c c' w => w_eqPrefixS a a' 0 c c' (fun _ => 0) (fun _ => 0) w (by omega) (hnone a w) (hnone a' w))
  have MG := hide (fun a c w => w_markPrefixS_nil a c 1 w)
  have HG := hide (fun a c w => w_heldPrefixS a 0 c 1 w (by omega) (by omega) (by omega) (hnone1 a w))
  clear hnone hnone1
  simp only [Int.natCast_zero, Int.mul_zero, Int.add_zero] at HG
  have d0 : Below w.heap.size w w := Below.refl _ _
  go_enter Try.func12, Try.ntmps12
  go_wp2_with fail
  refine (hsza.out _).mono ?_
  rintro e w_ ⟨rfl, hw_⟩
  rw [hw_]
  clear hw_ w_
  go_wp2_with fail
  refine (hszb.out _).mono ?_
  rintro e w_ ⟨rfl, hw_⟩
  rw [hw_]
  clear hw_ w_
  go_wp2_with fail
  refine (Ta.out _ (Ra.below d0)).mono ?_
  rintro e W1 ⟨rfl, bb, ra⟩
  have zra := ra.1
  have yra := d0.size
  have d1 := d0.trans (bb.mono d0.size)
  clear bb
  go_wp2_with fail
  refine (Tb.out _ (Rb.below d1)).mono ?_
  rintro e W2 ⟨rfl, bb, rb⟩
  have zrb := rb.1
  have yrb := d1.size
  have d2 := d1.trans (bb.mono d1.size)
  have ra := ra.below bb
  clear bb
  go_wp2_with fail
  refine (hS.out _ _ _ _ _ ra.row rb.row).mono ?_
  rintro e W3 ⟨gas, gcs, rfl, bb⟩
  have d3 := d2.trans (bb.mono d2.size)
  have ra := ra.below bb
  have rb := rb.below bb
  clear bb
  go_wp2_with fail
  clear ra rb
  refine (Ta.out _ (Ra.below d3)).mono ?_
  rintro e W4 ⟨rfl, bb, xa⟩
  have zxa := xa.1
  have yxa := d3.size
  have d4 := d3.trans (bb.mono d3.size)
  clear bb
  go_wp2_with fail
  refine (Tb.out _ (Rb.below d4)).mono ?_
  rintro e W5 ⟨rfl, bb, xb⟩
  have zxb := xb.1
  have yxb := d4.size
  have d5 := d4.trans (bb.mono d4.size)
  have xa := xa.below bb
  clear bb
  go_wp2_with fail
  refine (hI.out _ _ _ _ _ xa.row xb.row).mono ?_
  rintro e W6 ⟨gag, gcg, rfl, bb⟩
  have d6 := d5.trans (bb.mono d5.size)
  have xa := xa.below bb
  have xb := xb.below bb
  clear bb
  go_wp2_with fail
  refine (E.out _ _ _ _ _).mono ?_
  rintro e W7 ⟨rfl, bb⟩
  have d7 := d6.trans (bb.mono d6.size)
  have xa := xa.below bb
  have xb := xb.below bb
  clear bb
  go_wp2_with fail
  refine (Ta.out _ (Ra.below d7)).mono ?_
  rintro e W8 ⟨rfl, bb, ta⟩
  have zta := ta.1
  have yta := d7.size
  have d8 := d7.trans (bb.mono d7.size)
  have xa := xa.below bb
  have xb := xb.below bb
  clear bb
  go_wp2_with fail
  refine (Ea.out _ _ _ _ _ xa.row ta.row).mono ?_
  rintro e W9 ⟨rfl, bb⟩
  have d9 := d8.trans (bb.mono d8.size)
  have xa := xa.below bb
  have xb := xb.below bb
  have ta := ta.below bb
  clear bb
  clear ta
  go_wp2_with fail
  refine (Tb.out _ (Rb.below d9)).mono ?_
  rintro e W10 ⟨rfl, bb, tb⟩
  have ztb := tb.1
  have ytb := d9.size
  have d10 := d9.trans (bb.mono d9.size)
  have xa := xa.below bb
  have xb := xb.below bb
  clear bb
  go_wp2_with fail
  refine (Eb.out _ _ _ _ _ xb.row tb.row).mono ?_
  rintro e W11 ⟨rfl, bb⟩
  have d11 := d10.trans (bb.mono d10.size)
  have xa := xa.below bb
  have xb := xb.below bb
  have tb := tb.below bb
  clear bb
  clear tb
  go_wp2_with fail
  refine (Ma.out _ _ _ xa).mono ?_
  rintro e W12 ⟨rfl, yy, _⟩
  have d12 := d11.trans (only_base3 yy (by omega) xa.1)
  have xb := xb.only yy (by omega)
  clear yy xa
  go_wp2_with fail
  refine (Mb.out _ _ _ xb).mono ?_
  rintro e W13 ⟨rfl, yy, _⟩
  have d13 := d12.trans (only_base3 yy (by omega) xb.1)
  clear yy xb
  go_wp2_with fail
  refine (E.out _ _ _ _ _).mono ?_
  rintro e W14 ⟨rfl, bb⟩
  have d14 := d13.trans (bb.mono d13.size)
  clear bb
  go_wp2_with fail
  refine (MG.out _ _ _).mono ?_
  rintro e w_ ⟨rfl, hw_⟩
  rw [hw_]
  clear hw_ w_
  go_wp2_with fail
  refine (HG.out _ _ _).mono ?_
  rintro e w_ ⟨rfl, hw_⟩
  rw [hw_]
  clear hw_ w_
  go_wp2_with fail
  refine (Ta.out _ (Ra.below d14)).mono ?_
  rintro e W15 ⟨rfl, bb, ua⟩
  have zua := ua.1
  have yua := d14.size
  have d15 := d14.trans (bb.mono d14.size)
  clear bb
  go_wp2_with fail
  refine (Tb.out _ (Rb.below d15)).mono ?_
  rintro e W16 ⟨rfl, bb, ub⟩
  have zub := ub.1
  have yub := d15.size
  have d16 := d15.trans (bb.mono d15.size)
  have ua := ua.below bb
  clear bb
  go_wp2_with fail
  refine (hI.out _ _ _ _ _ ua.row ub.row).mono ?_
  rintro e W17 ⟨gah, gch, rfl, bb⟩
  have d17 := d16.trans (bb.mono d16.size)
  have ua := ua.below bb
  have ub := ub.below bb
  clear bb
  go_wp2_with fail
  refine (E.out _ _ _ _ _).mono ?_
  rintro e W18 ⟨rfl, bb⟩
  have d18 := d17.trans (bb.mono d17.size)
  have ua := ua.below bb
  have ub := ub.below bb
  clear bb
  go_wp2_with fail
  refine (HG.out _ _ _).mono ?_
  rintro e w_ ⟨rfl, hw_⟩
  rw [hw_]
  clear hw_ w_
  go_wp2_with fail
  go_ret
  exact ⟨rfl, d18⟩
set_option maxRecDepth 100000 in
set_option maxHeartbeats 800000 in
theorem w_meetSets_over (a0 : Option Addr) (len cap : Nat) (b0 : Option Addr) (lenb capb : Nat) (w : World) (hl : len ≤ maxLen) (hlb : lenb ≤ maxLen) (h : ¬ len + lenb ≤ 1048576) :
    Calls Try.prog 12 #[.slice a0 len cap, .slice b0 lenb capb] w fun e w' => e = .returned (.bool true) ∧ Below w.heap.size w w' := by
  have hsza := hide (fun w => w_szPrefixS a0 len cap w hl)
  by_cases ha : len ≤ 1048576
  · rw [if_pos ha] at hsza
    have hlta : ¬ (1048576 - (len : Int) < 0) := by omega
    have hszb := hide (fun w => w_szPrefixSo b0 lenb capb (1048576 - (len : Int)) w hlb (by omega) (by omega) (by omega))
    go_enter Try.func12, Try.ntmps12
    go_wp2_with fail
    refine (hsza.out _).mono ?_
    rintro e w_ ⟨rfl, hw_⟩
    rw [hw_]
    clear hw_ w_
    go_wp2_with fail
    refine (hszb.out _).mono ?_
    rintro e w_ ⟨rfl, hw_⟩
    rw [hw_]
    clear hw_ w_
    go_wp2_with fail
    go_ret
    exact ⟨rfl, Below.refl _ _⟩
  · rw [if_neg ha] at hsza
    go_enter Try.func12, Try.ntmps12
    go_wp2_with fail
    refine (hsza.out _).mono ?_
    rintro e w_ ⟨rfl, hw_⟩
    rw [hw_]
    clear hw_ w_
    go_wp2_with fail
    go_ret
    exact ⟨rfl, Below.refl _ _⟩
theorem w_meetSets_law (fl : Bool) (a0 : Option Addr) (len cap : Nat) (f0 f1 : Nat → Int) (b0 : Option Addr) (lenb capb : Nat) (h0 h1 : Nat → Int) (R : List Pf) (w : World) (ha : len ≤ 1048576) (hb : len + lenb ≤ 1048576) (hn : R.length ≤ 4294967296) (Ra : RowPrefix a0 len f0 f1 w) (Rb : RowPrefix b0 lenb h0 h1 w)
    (hS : ∀ (a ca : Nat) (b cb : Nat) (w : World), RowPrefix (some ⟨a, 0, none⟩) len f0 f1 w → RowPrefix (some ⟨b, 0, none⟩) lenb h0 h1 w → Calls Try.prog 35 #[.slice (some ⟨a, 0, none⟩) len ca, .slice (some ⟨b, 0, none⟩) lenb cb] w (AnsP fl R w)) (hI : ∀ (a ca : Nat) (b cb : Nat) (w : World), RowPrefix (some ⟨a, 0, none⟩) len f0 f1 w → RowPrefix (some ⟨b, 0, none⟩) lenb h0 h1 w → Calls Try.prog 34 #[.slice (some ⟨a, 0, none⟩) len ca, .slice (some ⟨b, 0, none⟩) lenb cb] w (AnsP fl R w)) :
    Calls Try.prog 12 #[.slice a0 len cap, .slice b0 lenb capb] w fun e w' => e = .returned (.bool true) ∧ Below w.heap.size w w' := by
  by_cases h : R = []
  · subst h
    exact w_meetSets_nil fl a0 len cap f0 f1 b0 lenb capb h0 h1 w ha hb Ra Rb (fun a c b d w r s => (hS a c b d w r s).mono fun _ _ h => h.nil) (fun a c b d w r s => (hI a c b d w r s).mono fun _ _ h => h.nil)
  · exact w_meetSets_full fl a0 len cap f0 f1 b0 lenb capb h0 h1 R.length _ _ w ha hb hn Ra Rb (fun a c b d w r s => (hS a c b d w r s).mono fun _ _ k => k.full h) (fun a c b d w r s => (hI a c b d w r s).mono fun _ _ k => k.full h)
theorem w_meetSets (a0 : Option Addr) (len cap : Nat) (f0 f1 : Nat → Int) (b0 : Option Addr) (lenb capb : Nat) (h0 h1 : Nat → Int) (w : World) (hl : len ≤ maxLen) (Ra : RowPrefix a0 len f0 f1 w) (hlb : lenb ≤ maxLen) (Rb : RowPrefix b0 lenb h0 h1 w) :
    Calls Try.prog 12 #[.slice a0 len cap, .slice b0 lenb capb] w fun e w' => e = .returned (.bool true) ∧ Below w.heap.size w w' := by
  by_cases h : len + lenb ≤ 1048576
  · have e := listOf_len len f0 f1
    have e2 := listOf_len lenb h0 h1
    by_cases hg : goodL (listOf len f0 f1) = true ∧ goodL (listOf lenb h0 h1) = true
    · refine w_meetSets_law (decide ((meetS (listOf len f0 f1) (listOf lenb h0 h1)).length ≤ 64)) a0 len cap f0 f1 b0 lenb capb h0 h1 (if (meetS (listOf len f0 f1) (listOf lenb h0 h1)).length ≤ 64 then meetS (listOf len f0 f1) (listOf lenb h0 h1) else []) w (by omega) h (by split <;> first | omega | decide) Ra Rb (fun a ca b cb w r1 r2 => ?_) (fun a ca b cb w r1 r2 => ?_)
      · have k := s_meetSets_yes (some ⟨a, 0, none⟩) ca (listOf len f0 f1) (some ⟨b, 0, none⟩) cb (listOf lenb h0 h1) w (RowP.of r1) (RowP.of r2) hg.1 hg.2
        rw [e, e2] at k
        exact k
      · have k := i_meetSets_yes (some ⟨a, 0, none⟩) ca (listOf len f0 f1) (some ⟨b, 0, none⟩) cb (listOf lenb h0 h1) w (RowP.of r1) (RowP.of r2) hg.1 hg.2
        rw [e, e2] at k
        exact k
    · have hg2 : goodL (listOf len f0 f1) = false ∨ goodL (listOf lenb h0 h1) = false := by
        cases hx1 : goodL (listOf len f0 f1) with
        | false => exact .inl rfl
        | true =>
          cases hx2 : goodL (listOf lenb h0 h1) with
          | false => exact .inr rfl
          | true => exact absurd ⟨hx1, hx2⟩ hg
      refine w_meetSets_law false a0 len cap f0 f1 b0 lenb capb h0 h1 [] w (by omega) h (by decide) Ra Rb (fun a ca b cb w r1 r2 => ?_) (fun a ca b cb w r1 r2 => ?_)
      · have k := s_meetSets_no (some ⟨a, 0, none⟩) ca (listOf len f0 f1) (some ⟨b, 0, none⟩) cb (listOf lenb h0 h1) w (by omega) (by omega) (RowP.of r1) (RowP.of r2) hg2
        rw [e, e2] at k
        exact k.mono fun _ _ k => AnsP.zero w k
      · have k := i_meetSets_no (some ⟨a, 0, none⟩) ca (listOf len f0 f1) (some ⟨b, 0, none⟩) cb (listOf lenb h0 h1) w (by omega) (by omega) (RowP.of r1) (RowP.of r2) hg2
        rw [e, e2] at k
        exact k.mono fun _ _ k => AnsP.zero w k
  · exact w_meetSets_over a0 len cap b0 lenb capb w hl hlb h
end Go.Proofs.Ytlflfloopomaiaa
