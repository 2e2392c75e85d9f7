/- The law on GoodRoutes: the program answers as the specification. -/
import Derived.Test.YtlhdeeihpaogkaaLawG2
import Derived.Test.YtlhdeeihpaogkaaS14g
import Derived.Test.YtlhdeeihpaogkaaI14g
namespace Go.Proofs.Ytlhdeeihpaogkaa
open Go.RowKit

set_option maxRecDepth 100000 in
set_option maxHeartbeats 3200000 in
theorem w_goodRoutes (a : Option Addr) (n c : Nat) (T : Nat → Ro) (w : World) (hn : n ≤ maxLen) (hx : MaxG n T) (hR : RowG a n T w) :
    Calls Try.prog 3 #[.slice a n c] w fun e w' => e = .returned (.bool true) ∧ Below w.heap.size w w' := by
  have SZ := hide (fun w R => w_szRouteS a n c T 1048576 w hn hx (by omega) (by omega) R)
  by_cases hs : (n : Int) + (totG T n : Int) ≤ 1048576
  · rw [if_pos hs] at SZ
    have hlt : ¬ (1048576 - (n : Int) - (totG T n : Int) < 0) := by omega
    have hn1 : n ≤ 1048576 := by omega
    have hl : LowG n T := lowG_of (by omega)
    have TP := hide (fun w R => w_toRouteS a n c T w hn1 hl R)
    have SG := hide (fun a c w R => s_goodRoutes a n c T w hn1 hl R)
    have IG := hide (fun a c w R => i_goodRoutes a n c T w hn1 hl R)
    have E := hide (fun a a' c c' w R Q => w_eqRouteS a a' n c c' T w hn1 hl R Q)
    generalize gtB n T = r0 at SG IG
    have k0 : (r0 != r0) = false := by simp
    generalize totG T n = q at *
    clear hn hx hs hn1 hl
    go_enter Try.func3, Try.ntmps3
    go_wp2_with fail
    refine (SZ.out _ hR).mono ?_
    rintro e w0 ⟨rfl, d0⟩
    go_wp2_with fail
    refine (TP.out _ (hR.below d0)).mono ?_
    rintro e w1 ⟨rfl, ⟨X1, Y1, o1⟩, _, b1⟩
    have d1 := d0.trans (b1.mono d0.size)
    clear b1 d0
    go_wp2_with fail
    refine (SG.out _ _ _ o1.row).mono ?_
    rintro e w2 ⟨rfl, b2⟩
    have d2 := d1.trans (b2.mono d1.size)
    clear b2 o1 d1
    go_wp2_with fail
    refine (TP.out _ (hR.below d2)).mono ?_
    rintro e w3 ⟨rfl, ⟨X3, Y3, o3⟩, _, b3⟩
    have d3 := d2.trans (b3.mono d2.size)
    clear b3 d2
    go_wp2_with fail
    refine (IG.out _ _ _ o3.row).mono ?_
    rintro e w4 ⟨rfl, b4⟩
    have d4 := d3.trans (b4.mono d3.size)
    have o3 := o3.below b4
    clear b4 d3
    go_wp2_with fail
    refine (TP.out _ (hR.below d4)).mono ?_
    rintro e w5 ⟨rfl, ⟨X5, Y5, o5⟩, _, b5⟩
    have d5 := d4.trans (b5.mono d4.size)
    have o3 := o3.below b5
    clear b5 d4
    go_wp2_with fail
    refine (E.out _ _ _ _ _ o3.row o5.row).mono ?_
    rintro e w6 ⟨rfl, b6⟩
    have d6 := d5.trans (b6.mono d5.size)
    go_wp2_with fail
    go_ret
    exact ⟨rfl, d6⟩
  · rw [if_neg hs] at SZ
    clear hs hn hx
    go_enter Try.func3, Try.ntmps3
    go_wp2_with fail
    refine (SZ.out _ hR).mono ?_
    rintro e w0 ⟨rfl, d0⟩
    go_wp2_with fail
    go_ret
    exact ⟨rfl, d0⟩
end Go.Proofs.Ytlhdeeihpaogkaa
