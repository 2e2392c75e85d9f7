/- The law on takesEmpty: the program answers as the specification. -/
import Derived.Test.YtdbaonpkdcmglaaS6d
namespace Go.Proofs.Ytdbaonpkdcmglaa
open Go.RowKit

set_option maxRecDepth 100000 in
set_option maxHeartbeats 1600000 in
theorem w_takesEmpty (a0 : Option Addr) (len cap : Nat) (f0 f1 : Nat → Int) (w : World) (hl : len ≤ maxLen) (hR : RowReCell a0 len f0 f1 w) :
    Calls Try.prog 4 #[.slice a0 len cap] w fun e w' => e = .returned (.bool true) ∧ Below w.heap.size w w' := by
  have hsz := hide (fun w => w_szReCellS a0 len cap w hl)
  by_cases h : len ≤ 1048576
  · rw [if_pos h] at hsz
    have hlt : ¬ (1048576 - (len : Int) < 0) := by omega
    have T := hide (fun w hR => w_toReCellS a0 len cap f0 f1 w h hR)
    have S1 := hide (fun (a : Nat) cap w (hR : RowReCell (some ⟨a, 0, none⟩) len f0 f1 w) => s_takesEmpty a 0 cap (listQ len f0 f1) w (by rw [listQ_len]; omega) (RowQ.of hR))
    have I1 := hide (fun (a : Nat) cap w (hc : len ≤ cap) (hR : RowReCell (some ⟨a, 0, none⟩) len f0 f1 w) => i_takesEmpty (some ⟨a, 0, none⟩) cap (listQ len f0 f1) w (by rw [listQ_len]; omega) (by rw [listQ_len]; exact hc) (RowQ.of hR))
    rw [listQ_len] at S1 I1
    have E := hide (fun a a' cap cap' w hR hR' => w_eqReCellS a a' len cap cap' f0 f1 w (by omega) hR hR')
    generalize rgB (listQ len f0 f1) = r1 at S1 I1
    generalize teA (listQ len f0 f1) = r0 at S1 I1
    have k0 : (r0 != r0) = false := by simp
    have k1 : (r1 != r1) = false := by simp
    go_enter Try.func4, Try.ntmps4
    go_wp2_with fail
    refine (hsz.out _).mono ?_
    rintro e w0 ⟨rfl, rfl⟩
    go_wp2_with fail
    refine (T.out _ hR).mono ?_
    rintro e w1 ⟨rfl, b1, o1⟩
    go_wp2_with fail
    refine (S1.out _ _ _ o1.row).mono ?_
    rintro e w2 ⟨rfl, b2⟩
    have d2 := b1.trans (b2.mono b1.size)
    clear b1 b2 o1
    go_wp2_with fail
    refine (T.out _ (hR.below d2)).mono ?_
    rintro e w3 ⟨rfl, b3, o3⟩
    have d3 := d2.trans (b3.mono d2.size)
    clear b3
    go_wp2_with fail
    refine (I1.out _ _ _ (Nat.le_refl _) o3.row).mono ?_
    rintro e w4 ⟨rfl, b4⟩
    have d4 := d3.trans (b4.mono d3.size)
    have o3 := o3.below b4
    clear b4
    go_wp2_with fail
    refine (T.out _ (hR.below d4)).mono ?_
    rintro e w5 ⟨rfl, b5, o5⟩
    have d5 := d4.trans (b5.mono d4.size)
    have o3 := o3.below b5
    clear b5
    go_wp2_with fail
    refine (E.out _ _ _ _ _ o3.row o5.row).mono ?_
    rintro e w6 ⟨rfl, b6⟩
    have d6 := d5.trans (b6.mono d5.size)
    go_wp2_with fail
    go_ret
    exact ⟨rfl, d6⟩
  · rw [if_neg h] at hsz
    go_enter Try.func4, Try.ntmps4
    go_wp2_with fail
    refine (hsz.out _).mono ?_
    rintro e w0 ⟨rfl, rfl⟩
    go_wp2_with fail
    go_ret
    exact ⟨rfl, Below.refl _ _⟩
end Go.Proofs.Ytdbaonpkdcmglaa
