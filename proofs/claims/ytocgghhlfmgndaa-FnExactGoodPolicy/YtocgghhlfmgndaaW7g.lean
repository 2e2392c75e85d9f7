/- The law on GoodPolicy: the program answers as the specification. -/
import Derived.Test.YtocgghhlfmgndaaLawP
import Derived.Test.YtocgghhlfmgndaaGP7
import Derived.Deep.RegionHeld3
namespace Go.Proofs.Ytocgghhlfmgndaa
open Go.RowKit

set_option maxRecDepth 100000 in
set_option maxHeartbeats 6400000 in
theorem w_goodPolicy (a : Option Addr) (n c : Nat) (acc : Bool) (T : Nat → Tc) (w : World) (hn : n ≤ maxLen) (hx : MaxT n T) (hR : RowT a n T w) :
    Calls Try.prog 4 #[.agg #[.slice a n c, .bool acc]] w fun e w' => e = .returned (.bool true) ∧ Below w.heap.size w w' := by
  have SZ := hide (fun w R => w_szPolicy a n c acc T 1048576 w hn hx (by omega) (by omega) R)
  have M := Mut.new w #[.slice a n c, .bool acc] 40
  have d0 : Below w.heap.size w (w.alloc (.cells #[.slice a n c, .bool acc] 40)) := below_box (Below.refl _ _)
  by_cases hs : (n : Int) + (totT T n : Int) ≤ 1048576
  · rw [if_pos hs] at SZ
    have hlt : ¬ (1048576 - (n : Int) - (totT T n : Int) < 0) := by omega
    have hn1 : n ≤ 1048576 := by omega
    have hl : LowT n T := lowT_of (by omega)
    have TP := hide (fun w R => w_toPolicy a n c acc T w hn1 hl R)
    have SG := hide (fun a c w R => s_goodPolicy a n c acc T w hn1 hl R)
    have IG := hide (fun a c w R => i_goodPolicy a n c acc T w hn1 hl R)
    have E := hide (fun a a' c c' w R Q => w_eqPolicy a a' n c c' acc T w hn1 hl R Q)
    generalize plB n T = r at SG IG
    have k0 : (r != r) = false := by simp
    generalize totT T n = q at *
    clear hn hx hs hn1 hl
    go_enter Try.func4, Try.ntmps4
    go_wp2_with fail
    generalize w.alloc (.cells #[.slice a n c, .bool acc] 40) = w1 at *
    refine (SZ.out _ (hR.below d0)).mono ?_
    rintro e w2 ⟨rfl, b2⟩
    have d2 := d0.trans (b2.mono d0.size)
    have M := M.below b2
    clear b2 d0
    have u0 := M.2.1 0 _ rfl
    have u1 := M.2.1 1 _ rfl
    go_wp2_with fail
    refine (TP.out _ (hR.below d2)).mono ?_
    rintro e w3 ⟨xs, rfl, hxs, RO, FC, b3⟩
    have d3 := d2.trans (b3.mono d2.size)
    have M := M.below b3
    clear b3 d2 u0 u1 FC
    go_wp2_with fail
    refine (SG.out _ _ _ RO.row).mono ?_
    rintro e w4 ⟨rfl, b4⟩
    have d4 := d3.trans (b4.mono d3.size)
    have M := M.below b4
    clear b4 d3 RO hxs
    have u0 := M.2.1 0 _ rfl
    have u1 := M.2.1 1 _ rfl
    go_wp2_with fail
    refine (TP.out _ (hR.below d4)).mono ?_
    rintro e w5 ⟨x, rfl, hx5, RO, FC, b5⟩
    have d5 := d4.trans (b5.mono d4.size)
    have M := M.below b5
    clear b5 d4 u0 u1 FC
    go_wp2_with fail
    have bB : Below w5.heap.size w5 (w5.alloc (.cells #[.slice (some ⟨x, 0, none⟩) n n, .bool acc] 45)) := below_box (Below.refl _ _)
    have N := Mut.new w5 #[.slice (some ⟨x, 0, none⟩) n n, .bool acc] 45
    have d6 := d5.trans (bB.mono d5.size)
    have M := M.below bB
    have RO := RO.below bB
    clear bB d5
    generalize w5.alloc (.cells #[.slice (some ⟨x, 0, none⟩) n n, .bool acc] 45) = w6 at *
    generalize w5.heap.size = bx at *
    refine (IG.out _ _ _ RO.row).mono ?_
    rintro e w7 ⟨rfl, b7⟩
    have d7 := d6.trans (b7.mono d6.size)
    have M := M.below b7
    have N := N.below b7
    have RO := RO.below b7
    clear b7 d6
    go_wp2_with fail
    have hS := fun (w' : World) (h : Below w7.heap.size w7 w') => And.intro ((M.below h).2.1 0 _ rfl) (And.intro ((M.below h).2.1 1 _ rfl) (And.intro ((N.below h).2.1 0 _ rfl) ((N.below h).2.1 1 _ rfl)))
    have dZ : Below w7.heap.size w7 w7 := Below.refl _ _
    have R0 := hR.below d7
    go_region_held3 (fun w' => w'.cell? ⟨w.heap.size, 0, none⟩ = some (.slice a n c) ∧ w'.cell? ⟨w.heap.size, 1, none⟩ = some (.bool acc) ∧ w'.cell? ⟨bx, 0, none⟩ = some (.slice (some ⟨x, 0, none⟩) n n) ∧ w'.cell? ⟨bx, 1, none⟩ = some (.bool acc))
      (first | exact hS _ dE | exact hS _ dE.drew | exact hS _ dT | exact hS _ dT.drew | exact hS _ dZ | exact hS _ dZ.drew | go_keep)
      ((first
        | (go_at_call 17; refine (TP.out _ (R0.below (by first | exact dZ | exact dZ.drew))).mono ?_; rintro e wT ⟨x2, rfl, _, PO, _, bT⟩; have dT : Below w7.heap.size w7 wT := (by first | exact below_step dZ bT | exact below_step dZ.drew bT))
        | (go_at_call 19; refine (E.out _ _ _ _ _ (by first | exact (RO.below dT).row | exact (RO.below dT.drew).row) (by first | exact PO.row | exact (PO.below (Below.refl _ _).drew).row)).mono ?_; rintro e wE ⟨rfl, bE⟩; have dE : Below w7.heap.size w7 wE := (by first | exact below_step dT bE | exact below_step dT.drew bE))))
    all_goals
      have d8 := d7.trans (dE.mono d7.size)
      go_wp2_with fail
      go_ret
      exact ⟨rfl, d8⟩
  · rw [if_neg hs] at SZ
    clear hs hn hx
    go_enter Try.func4, Try.ntmps4
    go_wp2_with fail
    refine (SZ.out _ (hR.below d0)).mono ?_
    rintro e w2 ⟨rfl, b2⟩
    go_wp2_with fail
    go_ret
    exact ⟨rfl, d0.trans (b2.mono d0.size)⟩
end Go.Proofs.Ytocgghhlfmgndaa
