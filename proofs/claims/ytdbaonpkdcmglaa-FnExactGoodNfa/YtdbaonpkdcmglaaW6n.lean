/- The law on GoodNfa: the program answers as the specification. -/
import Derived.Test.YtdbaonpkdcmglaaLaw6n
import Derived.Test.YtdbaonpkdcmglaaI6n
import Derived.Test.YtdbaonpkdcmglaaS6n
import Derived.Deep.RegionHeld3
namespace Go.Proofs.Ytdbaonpkdcmglaa
open Go.RowKit

set_option maxRecDepth 100000 in
set_option maxHeartbeats 6400000 in
theorem w_goodNfa_law (s st en : Int) (a0 : Option Addr) (len cp0 : Nat) (f0 f1 : Nat → Int) (f2 f3 : Nat → Bool) (f4 : Nat → Int) (r : Bool) (w : World) (hK : len ≤ maxLen) (R0 : RowNfaEdge a0 len f0 f1 f2 f3 f4 w)
    (SS : Hid (len ≤ 1048576 → ∀ (c cap : Nat) (w : World), RowNfaEdge (some ⟨c, 0, none⟩) len f0 f1 f2 f3 f4 w → Calls Try.prog 35 #[.agg #[.int .i64 s, .int .i64 st, .int .i64 en, .slice (some ⟨c, 0, none⟩) len cap]] w fun e w' => e = .returned (.bool r) ∧ Below w.heap.size w w'))
    (II : Hid (len ≤ 1048576 → ∀ (c cap : Nat) (w : World), RowNfaEdge (some ⟨c, 0, none⟩) len f0 f1 f2 f3 f4 w → Calls Try.prog 37 #[.agg #[.int .i64 s, .int .i64 st, .int .i64 en, .slice (some ⟨c, 0, none⟩) len cap]] w fun e w' => e = .returned (.bool r) ∧ Below w.heap.size w w')) :
    Calls Try.prog 9 #[.agg #[.int .i64 s, .int .i64 st, .int .i64 en, .slice a0 len cp0]] w fun e w' => e = .returned (.bool true) ∧ Below w.heap.size w w' := by
  have k0 : (r != r) = false := by simp
  have SZ := hide (fun w => w_szNfa s st en a0 len cp0 w hK)
  have bb : Below w.heap.size w (w.alloc (.cells #[.int .i64 s, .int .i64 st, .int .i64 en, .slice a0 len cp0] 50)) := below_box (Below.refl _ _)
  have M0 := Mut.new w #[.int .i64 s, .int .i64 st, .int .i64 en, .slice a0 len cp0] 50
  by_cases hL : len ≤ 1048576
  · rw [if_pos hL] at SZ
    have szn : ¬ (1048576 - (len : Int) < 0) := by omega
    have T := hide (fun w hR => w_toNfa s st en a0 len cp0 f0 f1 f2 f3 f4 w hL hR)
    have E0 := hide (fun a a' cap cap' w hR hR' => w_eqNfa s st en a a' len cap cap' f0 f1 f2 f3 f4 w hL hR hR')
    have S := hide (SS.out hL)
    have I := hide (II.out hL)
    clear SS II hK hL
    go_enter Try.func9, Try.ntmps9
    go_wp2_with fail
    generalize hWW : w.alloc (.cells #[.int .i64 s, .int .i64 st, .int .i64 en, .slice a0 len cp0] 50) = W1 at *
    clear hWW
    refine (SZ.out _).mono ?_
    rintro e W2 ⟨rfl, b2⟩
    have d2 := bb.trans (b2.mono bb.size)
    replace M0 := M0.below b2
    clear b2 bb SZ
    have u0 := M0.2.1 0 _ rfl
    have u1 := M0.2.1 1 _ rfl
    have u2 := M0.2.1 2 _ rfl
    have u3 := M0.2.1 3 _ rfl
    go_wp2_with fail
    clear u0 u1 u2 u3
    refine (T.out _ (R0.below d2)).mono ?_
    rintro e W3 ⟨q, rfl, hq, Oq, b3⟩
    have d3 := d2.trans (b3.mono d2.size)
    replace M0 := M0.below b3
    clear b3
    go_wp2_with fail
    refine (S.out _ _ _ Oq.row).mono ?_
    rintro e W4 ⟨rfl, b4⟩
    have d4 := d3.trans (b4.mono d3.size)
    replace M0 := M0.below b4
    clear b4 Oq
    have u0 := M0.2.1 0 _ rfl
    have u1 := M0.2.1 1 _ rfl
    have u2 := M0.2.1 2 _ rfl
    have u3 := M0.2.1 3 _ rfl
    go_wp2_with fail
    clear u0 u1 u2 u3
    refine (T.out _ (R0.below d4)).mono ?_
    rintro e W5 ⟨x, rfl, hx, Ox, b5⟩
    have d5 := d4.trans (b5.mono d4.size)
    replace M0 := M0.below b5
    clear b5
    have bb : Below W5.heap.size W5 (W5.alloc (.cells #[.int .i64 s, .int .i64 st, .int .i64 en, .slice (some ⟨x, 0, none⟩) len len] 43)) := below_box (Below.refl _ _)
    have BX := Mut.new W5 #[.int .i64 s, .int .i64 st, .int .i64 en, .slice (some ⟨x, 0, none⟩) len len] 43
    have d6 := d5.trans (bb.mono d5.size)
    replace M0 := M0.below bb
    replace Ox := Ox.below bb
    clear bb
    go_wp2_with fail
    generalize hWW : W5.alloc (.cells #[.int .i64 s, .int .i64 st, .int .i64 en, .slice (some ⟨x, 0, none⟩) len len] 43) = W6 at *
    clear hWW
    refine (I.out _ _ _ Ox.row).mono ?_
    rintro e W7 ⟨rfl, b7⟩
    have d7 := d6.trans (b7.mono d6.size)
    replace M0 := M0.below b7
    replace Ox := Ox.below b7
    replace BX := BX.below b7
    clear b7
    go_wp2_with fail
    have R0z := R0.below d7
    have hS : ∀ w' : World, Below W7.heap.size W7 w' → w'.cell? ⟨w.heap.size, 0, none⟩ = some (.int .i64 s) ∧ w'.cell? ⟨w.heap.size, 1, none⟩ = some (.int .i64 st) ∧ w'.cell? ⟨w.heap.size, 2, none⟩ = some (.int .i64 en) ∧ w'.cell? ⟨w.heap.size, 3, none⟩ = some (.slice a0 len cp0) ∧ w'.cell? ⟨W5.heap.size, 0, none⟩ = some (.int .i64 s) ∧ w'.cell? ⟨W5.heap.size, 1, none⟩ = some (.int .i64 st) ∧ w'.cell? ⟨W5.heap.size, 2, none⟩ = some (.int .i64 en) ∧ w'.cell? ⟨W5.heap.size, 3, none⟩ = some (.slice (some ⟨x, 0, none⟩) len len) := fun w' h => ⟨(M0.below h).2.1 0 _ rfl, (M0.below h).2.1 1 _ rfl, (M0.below h).2.1 2 _ rfl, (M0.below h).2.1 3 _ rfl, (BX.below h).2.1 0 _ rfl, (BX.below h).2.1 1 _ rfl, (BX.below h).2.1 2 _ rfl, (BX.below h).2.1 3 _ rfl⟩
    obtain ⟨Q0, Q1, Q2, Q3, Q4, Q5, Q6, Q7⟩ := hS W7 (Below.refl _ _)
    go_region_held3 (fun w' => w'.cell? ⟨w.heap.size, 0, none⟩ = some (.int .i64 s) ∧ w'.cell? ⟨w.heap.size, 1, none⟩ = some (.int .i64 st) ∧ w'.cell? ⟨w.heap.size, 2, none⟩ = some (.int .i64 en) ∧ w'.cell? ⟨w.heap.size, 3, none⟩ = some (.slice a0 len cp0) ∧ w'.cell? ⟨W5.heap.size, 0, none⟩ = some (.int .i64 s) ∧ w'.cell? ⟨W5.heap.size, 1, none⟩ = some (.int .i64 st) ∧ w'.cell? ⟨W5.heap.size, 2, none⟩ = some (.int .i64 en) ∧ w'.cell? ⟨W5.heap.size, 3, none⟩ = some (.slice (some ⟨x, 0, none⟩) len len))
      (first | exact hS _ (Below.refl _ _) | exact hS _ (Below.refl _ _).drew | exact hS _ dE | exact hS _ dE.drew | exact hS _ dT | exact hS _ dT.drew | go_keep)
      ((first
        | (have hq0 := dT; go_at_call 31; refine (E0.out _ _ _ _ _ (by first | exact (Ox.below dT).row | exact (Ox.below dT.drew).row) (by first | exact Px.row | exact (Px.below (Below.refl _ _).drew).row)).mono ?_; rintro e W8 ⟨rfl, bE⟩; have dE : Below W7.heap.size W7 W8 := (by first | exact below_step dT bE | exact below_step dT.drew bE))
        | (go_at_call 36; refine (T.out _ (by first | exact R0z | exact R0z.below (Below.refl _ _).drew)).mono ?_; rintro e wT ⟨x2, rfl, _, Px, bT⟩; have dT : Below W7.heap.size W7 wT := (by first | exact bT | exact (Below.refl _ _).drew.trans bT))))
    have d8 := d7.trans (dE.mono d7.size)
    go_wp2_with fail
    go_ret
    exact ⟨rfl, d8⟩
  · rw [if_neg hL] at SZ
    go_enter Try.func9, Try.ntmps9
    go_wp2_with fail
    refine (SZ.out _).mono ?_
    rintro e W2 ⟨rfl, b2⟩
    go_wp2_with fail
    go_ret
    exact ⟨rfl, below_box b2⟩
theorem w_goodNfa (s st en : Int) (a0 : Option Addr) (len cp0 : Nat) (f0 f1 : Nat → Int) (f2 f3 : Nat → Bool) (f4 : Nat → Int) (w : World) (hK : len ≤ maxLen) (R0 : RowNfaEdge a0 len f0 f1 f2 f3 f4 w) :
    Calls Try.prog 9 #[.agg #[.int .i64 s, .int .i64 st, .int .i64 en, .slice a0 len cp0]] w fun e w' => e = .returned (.bool true) ∧ Below w.heap.size w w' := by
  have e := listG_len len f0 f1 f2 f3 f4
  refine w_goodNfa_law s st en a0 len cp0 f0 f1 f2 f3 f4 (gnB s st en (listG len f0 f1 f2 f3 f4)) w hK R0 (fun h c cap w hR => ?_) (fun h c cap w hR => ?_)
  · have k := s_goodNfa s st en (some ⟨c, 0, none⟩) cap (listG len f0 f1 f2 f3 f4) w (by omega) (RowG.of hR)
    rw [e] at k
    exact k
  · have k := i_goodNfa s st en (some ⟨c, 0, none⟩) cap (listG len f0 f1 f2 f3 f4) w (by omega) (RowG.of hR)
    rw [e] at k
    exact k
end Go.Proofs.Ytdbaonpkdcmglaa
