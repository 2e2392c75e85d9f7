/- The law on MatchPath: the program answers as the specification. -/
import Derived.Test.YtocgghhlfmgndaaI6mc
import Derived.Test.YtocgghhlfmgndaaFlatInt
namespace Go.Proofs.Ytocgghhlfmgndaa
open Go.RowKit

def listJ (n : Nat) (g : Nat → Int) : List Int := (List.range n).map g
theorem listJ_len (n : Nat) (g : Nat → Int) : (listJ n g).length = n := by simp [listJ]
theorem RowN.ofJ {a : Option Addr} {n : Nat} {g : Nat → Int} {w : World} (h : RowInt a n g w) : RowN .i64 a (listJ n g) w := by
  intro i hi
  rw [listJ_len] at hi
  obtain ⟨b, off, e, hb, h0⟩ := h i hi
  refine ⟨b, off, e, hb, ?_⟩
  rw [h0, show (listJ n g).getD i 0 = g i by simp [listJ, List.getD_eq_getElem?_getD, hi]]
set_option maxRecDepth 100000 in
set_option maxHeartbeats 1600000 in
theorem w_matchPath (a0 : Option Addr) (len cap : Nat) (f0 f1 : Nat → Int) (p0 : Option Addr) (plen pcap : Nat) (g : Nat → Int) (w : World) (hl : len ≤ maxLen) (hR : RowReCell a0 len f0 f1 w) (_hp : plen ≤ maxLen) (hP : RowInt p0 plen g w) :
    Calls Try.prog 7 #[.slice a0 len cap, .slice p0 plen pcap] w fun e w' => e = .returned (.bool true) ∧ Below w.heap.size w w' := by
  by_cases h0 : plen ≤ 1048576
  · have hp0 : ¬ ((plen : Int) > 1048576) := by omega
    have hsz := hide (fun w => w_szReCellS a0 len cap w hl)
    by_cases h : len ≤ 1048576
    · rw [if_pos h] at hsz
      have hlt : ¬ (1048576 - (len : Int) < 0) := by omega
      have T := hide (fun w hR => w_toReCellS a0 len cap f0 f1 w h hR)
      have TP := hide (fun w hR => w_toIntS p0 plen pcap g w h0 hR)
      obtain ⟨r0, hr0⟩ := mp_some (listQ len f0 f1) (listJ plen g)
      have S1 := hide (fun (a : Nat) cap (b : Nat) cp w (hR : RowReCell (some ⟨a, 0, none⟩) len f0 f1 w) (hP : RowInt (some ⟨b, 0, none⟩) plen g w) => s_matchPath a 0 cap (listQ len f0 f1) (some ⟨b, 0, none⟩) cp (listJ plen g) r0 w (by rw [listQ_len]; omega) (by rw [listJ_len]; omega) hr0 (RowQ.of hR) (RowN.ofJ hP))
      have I1 := hide (fun (a : Nat) cap (b : Nat) cp w (hc : len ≤ cap) (hR : RowReCell (some ⟨a, 0, none⟩) len f0 f1 w) (hP : RowInt (some ⟨b, 0, none⟩) plen g w) => i_matchPath (some ⟨a, 0, none⟩) cap (listQ len f0 f1) (some ⟨b, 0, none⟩) cp (listJ plen g) r0 w (by rw [listQ_len]; omega) (by rw [listQ_len]; exact hc) (by rw [listJ_len]; omega) hr0 (RowQ.of hR) (RowN.ofJ hP))
      rw [listQ_len, listJ_len] at S1 I1
      have E := hide (fun a a' cap cap' w hR hR' => w_eqReCellS a a' len cap cap' f0 f1 w (by omega) hR hR')
      have EP := hide (fun a a' cap cap' w hR hR' => w_eqIntS a a' plen cap cap' g w (by omega) hR hR')
      generalize (rgB (listQ len f0 f1) && gpB (listJ plen g)) = r1 at S1 I1
      have k0 : (r0 != r0) = false := by simp
      have k1 : (r1 != r1) = false := by simp
      clear hr0 hl h h0
      go_enter Try.func7, Try.ntmps7
      go_wp2_with fail
      refine (hsz.out _).mono ?_
      rintro e w0 ⟨rfl, rfl⟩
      go_wp2_with fail
      refine (T.out _ hR).mono ?_
      rintro e w1 ⟨rfl, b1, o1⟩
      go_wp2_with fail
      refine (TP.out _ (hP.below b1)).mono ?_
      rintro e w2 ⟨rfl, b2, q2⟩
      have d2 := b1.trans (b2.mono b1.size)
      have o1 := o1.below b2
      clear b1 b2
      go_wp2_with fail
      refine (S1.out _ _ _ _ _ o1.row q2.row).mono ?_
      rintro e w3 ⟨rfl, b3⟩
      have d3 := d2.trans (b3.mono d2.size)
      clear b3 o1 q2
      go_wp2_with fail
      refine (T.out _ (hR.below d3)).mono ?_
      rintro e w4 ⟨rfl, b4, o4⟩
      have d4 := d3.trans (b4.mono d3.size)
      clear b4
      go_wp2_with fail
      refine (TP.out _ (hP.below d4)).mono ?_
      rintro e w5 ⟨rfl, b5, q5⟩
      have d5 := d4.trans (b5.mono d4.size)
      have o4 := o4.below b5
      clear b5
      go_wp2_with fail
      refine (I1.out _ _ _ _ _ (Nat.le_refl _) o4.row q5.row).mono ?_
      rintro e w6 ⟨rfl, b6⟩
      have d6 := d5.trans (b6.mono d5.size)
      have o4 := o4.below b6
      have q5 := q5.below b6
      clear b6
      go_wp2_with fail
      refine (T.out _ (hR.below d6)).mono ?_
      rintro e w7 ⟨rfl, b7, o7⟩
      have d7 := d6.trans (b7.mono d6.size)
      have o4 := o4.below b7
      have q5 := q5.below b7
      clear b7
      go_wp2_with fail
      refine (E.out _ _ _ _ _ o4.row o7.row).mono ?_
      rintro e w8 ⟨rfl, b8⟩
      have d8 := d7.trans (b8.mono d7.size)
      have q5 := q5.below b8
      clear b8 o4 o7
      go_wp2_with fail
      refine (TP.out _ (hP.below d8)).mono ?_
      rintro e w9 ⟨rfl, b9, q9⟩
      have d9 := d8.trans (b9.mono d8.size)
      have q5 := q5.below b9
      clear b9
      go_wp2_with fail
      refine (EP.out _ _ _ _ _ q5.row q9.row).mono ?_
      rintro e w10 ⟨rfl, b10⟩
      have d10 := d9.trans (b10.mono d9.size)
      go_wp2_with fail
      go_ret
      exact ⟨rfl, d10⟩
    · rw [if_neg h] at hsz
      clear h hl h0
      go_enter Try.func7, Try.ntmps7
      go_wp2_with fail
      refine (hsz.out _).mono ?_
      rintro e w0 ⟨rfl, rfl⟩
      go_wp2_with fail
      go_ret
      exact ⟨rfl, Below.refl _ _⟩
  · have hp0 : (plen : Int) > 1048576 := by omega
    clear h0
    go_enter Try.func7, Try.ntmps7
    go_wp2_with fail
    go_ret
    exact ⟨rfl, Below.refl _ _⟩
end Go.Proofs.Ytocgghhlfmgndaa
