/- Laws whose answer is a list of nodes of its own, walked out of what the specification's and the program's functions answer. -/
import Derived.Test.YtjmflkheaioboabIns2
import Derived.Test.YtjmflkheaioboabFlatEntry
namespace Go.Proofs.Ytjmflkheaioboab
open Go.RowKit

theorem ownT_out {w : World} {base g cap : Nat} {ts : List Nd} (h : OwnT base (.slice (some ⟨g, 0, none⟩) ts.length cap) ts w) (hg : g < w.heap.size) :
    OutTrieNode g ts.length ts.length (fun i => (nAt ts i).z) (fun i => (nAt ts i).o) (fun i => (nAt ts i).h) (fun i => (nAt ts i).v) w := by
  refine ⟨hg, fun i hi => ?_⟩
  obtain ⟨⟨h0, h1, h2, h3⟩, hf⟩ := ownT_at h hi
  exact ⟨⟨_, _, _, _, h0, h1, h2, h3, fun _ => ⟨rfl, rfl, rfl, rfl⟩⟩, hf _, hf _, hf _, hf _⟩
theorem OutTrieNode.only {c d n k : Nat} {f0 f1 : Nat → Int} {f2 : Nat → Bool} {f3 : Nat → Int} {w w' : World} (h : OutTrieNode c n k f0 f1 f2 f3 w) (ho : Only d w w') (hn : c ≠ d) : OutTrieNode c n k f0 f1 f2 f3 w' := by
  have hc := fun o => ho.cell (o := o) h.1 hn
  have hf := fun o => ho.frozen (o := o) h.1 hn
  refine ⟨Nat.lt_of_lt_of_le h.1 ho.2.2.2.1, fun i hi => ?_⟩
  obtain ⟨⟨x0, x1, x2, x3, h0, h1, h2, h3, hk⟩, g0, g1, g2, g3⟩ := h.2 i hi
  exact ⟨⟨x0, x1, x2, x3, (hc _).trans h0, (hc _).trans h1, (hc _).trans h2, (hc _).trans h3, hk⟩, (hf _).trans g0, (hf _).trans g1, (hf _).trans g2, (hf _).trans g3⟩
theorem only_base {c base : Nat} {w w' : World} (ho : Only c w w') (hb : base ≤ c) (hc : c < w.heap.size) : Below base w w' := (ho.below (Nat.le_of_lt hc)).mono hb

set_option maxHeartbeats 400000 in
theorem w_markTrieNodeS_nil (k0 : Int) (w : World) : Calls Try.prog 23 #[.slice none 0 0, .int .i64 k0] w fun e w' => e = .returned (.int .i64 k0) ∧ w' = w := by
  go_enter Try.func23, Try.ntmps23
  go_wp2_with fail
  go_loop [1, 5] (fun kk i => kk = .int .i64 k0 ∧ i = .int .i64 0) (fun _ i => 0 - (intOf i).toNat)
  case atStart => exact ⟨rfl, rfl⟩
  case round =>
    obtain ⟨rfl, rfl⟩ := hrel
    go_wp2_with fail
    go_ret
    exact ⟨rfl, rfl⟩

set_option maxRecDepth 100000 in
set_option maxHeartbeats 3200000 in
theorem w_buildTrie_yes (a0 : Option Addr) (len cap : Nat) (f0 f1 f2 : Nat → Int)  (n : Nat) (F0 F1 : Nat → Int) (F2 : Nat → Bool) (F3 : Nat → Int) (w : World) (h : len ≤ 1048576) (hn : n ≤ 1048576) (hR : RowEntry a0 len f0 f1 f2 w)
    (hS : Hid (∀ a cap w, RowEntry a len f0 f1 f2 w → Calls Try.prog 19 #[.slice a len cap] w fun e w' => ∃ g c, e = .returned (.tuple #[.slice (some ⟨g, 0, none⟩) n c, .bool true]) ∧ w.heap.size ≤ g ∧ OutTrieNode g n n F0 F1 F2 F3 w' ∧ Below w.heap.size w w'))
    (hI : Hid (∀ a cap w, RowEntry a len f0 f1 f2 w → Calls Try.prog 20 #[.slice a len cap] w fun e w' => ∃ g c, e = .returned (.tuple #[.slice (some ⟨g, 0, none⟩) n c, .bool true]) ∧ w.heap.size ≤ g ∧ OutTrieNode g n n F0 F1 F2 F3 w' ∧ Below w.heap.size w w')) :
    Calls Try.prog 5 #[.slice a0 len cap] w fun e w' => e = .returned (.bool true) ∧ Below w.heap.size w w' := by
  have hsz := hide (fun w => w_szEntryS a0 len cap w (Nat.le_trans h (by decide)))
  rw [if_pos h] at hsz
  have hlt : ¬ (1048576 - (len : Int) < 0) := by omega
  have T := hide (fun w hR => w_toEntryS a0 len cap f0 f1 f2 w h hR)
  have EA := hide (fun a a' cap cap' w hR hR' => w_eqEntryS a a' len cap cap' f0 f1 f2 w h hR hR')
  have E := hide (fun a a' cap cap' w hR hR' => w_eqTrieNodeS a a' n cap cap' F0 F1 F2 F3 w hn hR hR')
  have MA := hide (fun c cap w hO => w_markEntryS c len cap f0 f1 f2 1 w h (by omega) (by omega) hO)
  have MG := hide (fun c cap w hO => w_markTrieNodeS c n cap F0 F1 F2 F3 1 w hn (by omega) (by omega) hO)
  have HG := hide (fun a cap w hR => w_heldTrieNodeS a n cap 1 w hn (by omega) (by omega) hR)
  have k1 : ¬ (1 + 3 * (len : Int) < 0) := by omega
  have k2 : ¬ (1 + 4 * (n : Int) < 0) := by omega
  have k3 : ((1 + 4 * (n : Int)) != (1 + 4 * (n : Int))) = false := by simp
  go_enter Try.func5, Try.ntmps5
  go_wp2_with fail
  refine (hsz.out _).mono ?_
  rintro e w0 ⟨rfl, rfl⟩
  go_wp2_with fail
  refine (T.out _ hR).mono ?_
  rintro e w1 ⟨rfl, b1, o1⟩
  go_wp2_with fail
  refine (hS.out _ _ _ o1.row).mono ?_
  rintro e w2 ⟨gs, cs, rfl, hgs, Os, b2⟩
  have hgs0 : w0.heap.size ≤ gs := Nat.le_trans b1.size hgs
  have hgs1 : gs < w2.heap.size := Os.1
  have d2 := b1.trans (b2.mono b1.size)
  clear b1 b2 o1
  go_wp2_with fail
  refine (T.out _ (hR.below d2)).mono ?_
  rintro e w3 ⟨rfl, b3, o3⟩
  have Os := Os.below b3
  have d3 := d2.trans (b3.mono d2.size)
  have hc3 : w0.heap.size ≤ w2.heap.size := d2.size
  have hz3 : w2.heap.size < w3.heap.size := o3.1
  clear b3
  go_wp2_with fail
  refine (hI.out _ _ _ o3.row).mono ?_
  rintro e w4 ⟨gg, cg, rfl, hgg, Og, b4⟩
  have d4 := d3.trans (b4.mono d3.size)
  have o3 := o3.below b4
  have Os := Os.below b4
  have hgg0 : w0.heap.size ≤ gg := by omega
  have hgg1 : gg < w4.heap.size := Og.1
  have hz4 := b4.size
  clear b4
  go_wp2_with fail
  refine (E.out _ _ _ _ _ Og.row Os.row).mono ?_
  rintro e w5 ⟨rfl, b5⟩
  have d5 := d4.trans (b5.mono d4.size)
  have o3 := o3.below b5
  have Os := Os.below b5
  have Og := Og.below b5
  clear b5
  go_wp2_with fail
  refine (T.out _ (hR.below d5)).mono ?_
  rintro e w6 ⟨rfl, b6, o6⟩
  have d6 := d5.trans (b6.mono d5.size)
  have o3 := o3.below b6
  have Os := Os.below b6
  have Og := Og.below b6
  clear b6
  go_wp2_with fail
  refine (EA.out _ _ _ _ _ o3.row o6.row).mono ?_
  rintro e w7 ⟨rfl, b7⟩
  have d7 := d6.trans (b7.mono d6.size)
  have o3 := o3.below b7
  have Os := Os.below b7
  have Og := Og.below b7
  clear b7 o6
  go_wp2_with fail
  refine (MA.out _ _ _ o3).mono ?_
  rintro e w8 ⟨rfl, y8, _⟩
  have d8 := d7.trans (only_base y8 hc3 o3.1)
  have Os := Os.only y8 (by omega)
  have Og := Og.only y8 (by omega)
  clear y8 o3
  go_wp2_with fail
  refine (E.out _ _ _ _ _ Og.row Os.row).mono ?_
  rintro e w9 ⟨rfl, b9⟩
  have d9 := d8.trans (b9.mono d8.size)
  have Os := Os.below b9
  have Og := Og.below b9
  clear b9
  go_wp2_with fail
  refine (MG.out _ _ _ Og).mono ?_
  rintro e w10 ⟨rfl, y10, Og'⟩
  have d10 := d9.trans (only_base y10 hgg0 Og.1)
  have Os := Os.only y10 (by omega)
  clear y10 Og
  go_wp2_with fail
  refine (HG.out _ _ _ Og'.row).mono ?_
  rintro e w11 ⟨rfl, rfl⟩
  go_wp2_with fail
  refine (T.out _ (hR.below d10)).mono ?_
  rintro e w12 ⟨rfl, b12, o12⟩
  have d12 := d10.trans (b12.mono d10.size)
  have Os := Os.below b12
  have Og' := Og'.below b12
  clear b12
  go_wp2_with fail
  refine (hI.out _ _ _ o12.row).mono ?_
  rintro e w13 ⟨gh, ch, rfl, hgh, Oh, b13⟩
  have d13 := d12.trans (b13.mono d12.size)
  have Os := Os.below b13
  have Og' := Og'.below b13
  clear b13
  go_wp2_with fail
  refine (E.out _ _ _ _ _ Oh.row Os.row).mono ?_
  rintro e w14 ⟨rfl, b14⟩
  have d14 := d13.trans (b14.mono d13.size)
  have Og' := Og'.below b14
  clear b14
  go_wp2_with fail
  refine (HG.out _ _ _ Og'.row).mono ?_
  rintro e w15 ⟨rfl, rfl⟩
  go_wp2_with fail
  go_ret
  exact ⟨rfl, d14⟩

set_option maxRecDepth 100000 in
set_option maxHeartbeats 3200000 in
theorem w_buildTrie_no (a0 : Option Addr) (len cap : Nat) (f0 f1 f2 : Nat → Int)  (w : World) (h : len ≤ 1048576) (hR : RowEntry a0 len f0 f1 f2 w)
    (hS : Hid (∀ a cap w, RowEntry a len f0 f1 f2 w → Calls Try.prog 19 #[.slice a len cap] w fun e w' => e = .returned (.tuple #[.slice none 0 0, .bool false]) ∧ Below w.heap.size w w'))
    (hI : Hid (∀ a cap w, RowEntry a len f0 f1 f2 w → Calls Try.prog 20 #[.slice a len cap] w fun e w' => e = .returned (.tuple #[.slice none 0 0, .bool false]) ∧ Below w.heap.size w w')) :
    Calls Try.prog 5 #[.slice a0 len cap] w fun e w' => e = .returned (.bool true) ∧ Below w.heap.size w w' := by
  have hsz := hide (fun w => w_szEntryS a0 len cap w (Nat.le_trans h (by decide)))
  rw [if_pos h] at hsz
  have hlt : ¬ (1048576 - (len : Int) < 0) := by omega
  have T := hide (fun w hR => w_toEntryS a0 len cap f0 f1 f2 w h hR)
  have EA := hide (fun a a' cap cap' w hR hR' => w_eqEntryS a a' len cap cap' f0 f1 f2 w h hR hR')
  have hnone : ∀ w, RowTrieNode none 0 (fun _ => 0) (fun _ => 0) (fun _ => false) (fun _ => 0) w := fun w i hi => absurd hi (Nat.not_lt_zero _)
  have hnone1 : ∀ w, RowTrieNode none 0 (fun i => 1 + 4 * (i : Int) + 0) (fun i => 1 + 4 * (i : Int) + 1) (fun i => ((1 + 4 * (i : Int) + 2) % 3 == 0)) (fun i => 1 + 4 * (i : Int) + 3) w := fun w i hi => absurd hi (Nat.not_lt_zero _)
  have E := hide (fun w => w_eqTrieNodeS none none 0 0 0 (fun _ => 0) (fun _ => 0) (fun _ => false) (fun _ => 0) w (by omega) (hnone w) (hnone w))
  have MA := hide (fun c cap w hO => w_markEntryS c len cap f0 f1 f2 1 w h (by omega) (by omega) hO)
  have MG := hide (fun w => w_markTrieNodeS_nil 1 w)
  have HG := hide (fun w => w_heldTrieNodeS none 0 0 1 w (by omega) (by omega) (by omega) (hnone1 w))
  clear hnone hnone1
  simp only [Int.natCast_zero, Int.mul_zero, Int.add_zero] at HG
  have k1 : ¬ (1 + 3 * (len : Int) < 0) := by omega
  go_enter Try.func5, Try.ntmps5
  go_wp2_with fail
  refine (hsz.out _).mono ?_
  rintro e w0 ⟨rfl, rfl⟩
  go_wp2_with fail
  refine (T.out _ hR).mono ?_
  rintro e w1 ⟨rfl, b1, o1⟩
  go_wp2_with fail
  refine (hS.out _ _ _ o1.row).mono ?_
  rintro e w2 ⟨rfl, b2⟩
  have d2 := b1.trans (b2.mono b1.size)
  clear b1 b2 o1
  go_wp2_with fail
  refine (T.out _ (hR.below d2)).mono ?_
  rintro e w3 ⟨rfl, b3, o3⟩
  have d3 := d2.trans (b3.mono d2.size)
  have hc3 : w0.heap.size ≤ w2.heap.size := d2.size
  clear b3
  go_wp2_with fail
  refine (hI.out _ _ _ o3.row).mono ?_
  rintro e w4 ⟨rfl, b4⟩
  have d4 := d3.trans (b4.mono d3.size)
  have o3 := o3.below b4
  clear b4
  go_wp2_with fail
  refine (E.out _).mono ?_
  rintro e w5 ⟨rfl, b5⟩
  have d5 := d4.trans (b5.mono d4.size)
  have o3 := o3.below b5
  clear b5
  go_wp2_with fail
  refine (T.out _ (hR.below d5)).mono ?_
  rintro e w6 ⟨rfl, b6, o6⟩
  have d6 := d5.trans (b6.mono d5.size)
  have o3 := o3.below b6
  clear b6
  go_wp2_with fail
  refine (EA.out _ _ _ _ _ o3.row o6.row).mono ?_
  rintro e w7 ⟨rfl, b7⟩
  have d7 := d6.trans (b7.mono d6.size)
  have o3 := o3.below b7
  clear b7 o6
  go_wp2_with fail
  refine (MA.out _ _ _ o3).mono ?_
  rintro e w8 ⟨rfl, y8, _⟩
  have d8 := d7.trans (only_base y8 hc3 o3.1)
  clear y8 o3
  go_wp2_with fail
  refine (E.out _).mono ?_
  rintro e w9 ⟨rfl, b9⟩
  have d9 := d8.trans (b9.mono d8.size)
  clear b9
  go_wp2_with fail
  refine (MG.out _).mono ?_
  rintro e w10 ⟨rfl, rfl⟩
  go_wp2_with fail
  refine (HG.out _).mono ?_
  rintro e w11 ⟨rfl, rfl⟩
  go_wp2_with fail
  refine (T.out _ (hR.below d9)).mono ?_
  rintro e w12 ⟨rfl, b12, o12⟩
  have d12 := d9.trans (b12.mono d9.size)
  clear b12
  go_wp2_with fail
  refine (hI.out _ _ _ o12.row).mono ?_
  rintro e w13 ⟨rfl, b13⟩
  have d13 := d12.trans (b13.mono d12.size)
  clear b13
  go_wp2_with fail
  refine (E.out _).mono ?_
  rintro e w14 ⟨rfl, b14⟩
  have d14 := d13.trans (b14.mono d13.size)
  clear b14
  go_wp2_with fail
  refine (HG.out _).mono ?_
  rintro e w15 ⟨rfl, rfl⟩
  go_wp2_with fail
  go_ret
  exact ⟨rfl, d14⟩

set_option maxRecDepth 100000 in
set_option maxHeartbeats 800000 in
theorem w_buildTrie_over (a0 : Option Addr) (len cap : Nat)  (w : World) (hl : len ≤ maxLen) (h : ¬ len ≤ 1048576) :
    Calls Try.prog 5 #[.slice a0 len cap] w fun e w' => e = .returned (.bool true) ∧ Below w.heap.size w w' := by
  have hsz := hide (fun w => w_szEntryS a0 len cap w hl)
  rw [if_neg h] at hsz
  go_enter Try.func5, Try.ntmps5
  go_wp2_with fail
  refine (hsz.out _).mono ?_
  rintro e w0 ⟨rfl, rfl⟩
  go_wp2_with fail
  go_ret
  exact ⟨rfl, Below.refl _ _⟩
end Go.Proofs.Ytjmflkheaioboab
