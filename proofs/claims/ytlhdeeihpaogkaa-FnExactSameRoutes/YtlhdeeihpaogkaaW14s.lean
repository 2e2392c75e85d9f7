/- The law on SameRoutes: the program answers as the specification. -/
import Derived.Test.YtlhdeeihpaogkaaLawG2
import Derived.Test.YtlhdeeihpaogkaaS14s
import Derived.Test.YtlhdeeihpaogkaaI14s
namespace Go.Proofs.Ytlhdeeihpaogkaa
open Go.RowKit

set_option maxRecDepth 100000 in
set_option maxHeartbeats 3200000 in
theorem w_sameRoutes (a : Option Addr) (n c : Nat) (T : Nat → Ro) (a' : Option Addr) (n' c' : Nat) (T' : Nat → Ro) (w : World) (hn : n ≤ maxLen) (hx : MaxG n T) (hR : RowG a n T w) (hn' : n' ≤ maxLen) (hx' : MaxG n' T') (hR' : RowG a' n' T' w) :
    Calls Try.prog 4 #[.slice a n c, .slice a' n' c'] w fun e w' => e = .returned (.bool true) ∧ Below w.heap.size w w' := by
  have SZ := hide (fun w R => w_szRouteS a n c T 1048576 w hn hx (by omega) (by omega) R)
  by_cases hs : (n : Int) + (totG T n : Int) ≤ 1048576
  · rw [if_pos hs] at SZ
    have hlt : ¬ (1048576 - (n : Int) - (totG T n : Int) < 0) := by omega
    have hn1 : n ≤ 1048576 := by omega
    have hl : LowG n T := lowG_of (by omega)
    have SZ' := hide (fun w R => w_szRouteS a' n' c' T' (1048576 - (n : Int) - (totG T n : Int)) w hn' hx' (by omega) (by omega) R)
    by_cases hs' : (n' : Int) + (totG T' n' : Int) ≤ 1048576 - (n : Int) - (totG T n : Int)
    · rw [if_pos hs'] at SZ'
      have hlt' : ¬ (1048576 - (n : Int) - (totG T n : Int) - (n' : Int) - (totG T' n' : Int) < 0) := by omega
      have hn1' : n' ≤ 1048576 := by omega
      have hl' : LowG n' T' := lowG_of (by omega)
      have TP := hide (fun w R => w_toRouteS a n c T w hn1 hl R)
      have TP' := hide (fun w R => w_toRouteS a' n' c' T' w hn1' hl' R)
      have SG := hide (fun a c a' c' w R R' => s_sameRoutes a n c T a' n' c' T' w hn1 hl hn1' hl' R R')
      have IG := hide (fun a c a' c' w R R' => i_sameRoutes a n c T a' n' c' T' w hn1 hl hn1' hl' R R')
      have E := hide (fun a a' c c' w R Q => w_eqRouteS a a' n c c' T w hn1 hl R Q)
      have E' := hide (fun a a' c c' w R Q => w_eqRouteS a a' n' c c' T' w hn1' hl' R Q)
      generalize sroB n T n' T' = r0 at SG IG
      generalize soB n T n' T' = r1 at SG IG
      have k0 : (r0 != r0) = false := by simp
      have k1 : (r1 != r1) = false := by simp
      generalize totG T n = q at *
      generalize totG T' n' = q' at *
      clear hn hx hs hn1 hl hn' hx' hs' hn1' hl'
      go_enter Try.func4, Try.ntmps4
      go_wp2_with fail
      refine (SZ.out _ hR).mono ?_
      rintro e w0 ⟨rfl, d0⟩
      go_wp2_with fail
      refine (SZ'.out _ (hR'.below d0)).mono ?_
      rintro e w1 ⟨rfl, b1⟩
      have d1 := d0.trans (b1.mono d0.size)
      clear b1 d0 SZ SZ'
      go_wp2_with fail
      refine (TP.out _ (hR.below d1)).mono ?_
      rintro e w2 ⟨rfl, ⟨X1, Y1, o1⟩, _, b2⟩
      have d2 := d1.trans (b2.mono d1.size)
      clear b2 d1
      go_wp2_with fail
      refine (TP'.out _ (hR'.below d2)).mono ?_
      rintro e w3 ⟨rfl, ⟨X2, Y2, o2⟩, _, b3⟩
      have d3 := d2.trans (b3.mono d2.size)
      replace o1 := o1.below b3
      clear b3 d2
      go_wp2_with fail
      refine (SG.out _ _ _ _ _ o1.row o2.row).mono ?_
      rintro e w4 ⟨rfl, b4⟩
      have d4 := d3.trans (b4.mono d3.size)
      clear b4 d3
      go_wp2_with fail
      clear o1 o2
      refine (TP.out _ (hR.below d4)).mono ?_
      rintro e w5 ⟨rfl, ⟨X3, Y3, o3⟩, _, b5⟩
      have d5 := d4.trans (b5.mono d4.size)
      clear b5 d4
      go_wp2_with fail
      refine (TP'.out _ (hR'.below d5)).mono ?_
      rintro e w6 ⟨rfl, ⟨X4, Y4, o4⟩, _, b6⟩
      have d6 := d5.trans (b6.mono d5.size)
      replace o3 := o3.below b6
      clear b6 d5
      go_wp2_with fail
      refine (IG.out _ _ _ _ _ o3.row o4.row).mono ?_
      rintro e w7 ⟨rfl, b7⟩
      have d7 := d6.trans (b7.mono d6.size)
      replace o3 := o3.below b7
      replace o4 := o4.below b7
      clear b7 d6
      go_wp2_with fail
      refine (TP.out _ (hR.below d7)).mono ?_
      rintro e w8 ⟨rfl, ⟨X5, Y5, o5⟩, _, b8⟩
      have d8 := d7.trans (b8.mono d7.size)
      replace o3 := o3.below b8
      replace o4 := o4.below b8
      clear b8 d7
      go_wp2_with fail
      refine (E.out _ _ _ _ _ o3.row o5.row).mono ?_
      rintro e w9 ⟨rfl, b9⟩
      have d9 := d8.trans (b9.mono d8.size)
      replace o4 := o4.below b9
      clear b9 d8
      go_wp2_with fail
      clear o3 o5
      refine (TP'.out _ (hR'.below d9)).mono ?_
      rintro e w10 ⟨rfl, ⟨X6, Y6, o6⟩, _, b10⟩
      have d10 := d9.trans (b10.mono d9.size)
      replace o4 := o4.below b10
      clear b10 d9
      go_wp2_with fail
      refine (E'.out _ _ _ _ _ o4.row o6.row).mono ?_
      rintro e w11 ⟨rfl, b11⟩
      have d11 := d10.trans (b11.mono d10.size)
      clear b11 d10
      go_wp2_with fail
      go_ret
      exact ⟨rfl, d11⟩
    · rw [if_neg hs'] at SZ'
      clear hs hn hx hs' hn' hx'
      go_enter Try.func4, Try.ntmps4
      go_wp2_with fail
      refine (SZ.out _ hR).mono ?_
      rintro e w0 ⟨rfl, d0⟩
      go_wp2_with fail
      refine (SZ'.out _ (hR'.below d0)).mono ?_
      rintro e w1 ⟨rfl, b1⟩
      have d1 := d0.trans (b1.mono d0.size)
      go_wp2_with fail
      go_ret
      exact ⟨rfl, d1⟩
  · rw [if_neg hs] at SZ
    clear hs hn hx hn' hx'
    go_enter Try.func4, Try.ntmps4
    go_wp2_with fail
    refine (SZ.out _ hR).mono ?_
    rintro e w0 ⟨rfl, d0⟩
    go_wp2_with fail
    go_ret
    exact ⟨rfl, d0⟩
end Go.Proofs.Ytlhdeeihpaogkaa
