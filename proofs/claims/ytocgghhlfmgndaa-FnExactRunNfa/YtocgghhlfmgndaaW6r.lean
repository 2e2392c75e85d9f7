/- The law on RunNfa: the program answers as the specification. -/
import Derived.Test.YtocgghhlfmgndaaLaw6n
import Derived.Test.YtocgghhlfmgndaaI6ra
import Derived.Test.YtocgghhlfmgndaaS6rd
import Derived.Test.YtocgghhlfmgndaaFlatInt
import Derived.Deep.RegionHeld3
namespace Go.Proofs.Ytocgghhlfmgndaa
open Go.RowKit

set_option maxRecDepth 100000 in
set_option maxHeartbeats 6400000 in
theorem w_runNfa_law (s st en : Int) (a0 : Option Addr) (len cp0 : Nat) (f0 f1 : Nat → Int) (f2 f3 : Nat → Bool) (f4 : Nat → Int) (p0 : Option Addr) (plen pcap : Nat) (g : Nat → Int) (r0 : Bool) (r1 : Int) (r2 : Bool) (w : World) (hK : len ≤ maxLen) (hP : plen ≤ 1048576) (R0 : RowNfaEdge a0 len f0 f1 f2 f3 f4 w) (RP : RowInt p0 plen g w)
    (SS : Hid (len ≤ 1048576 → ∀ (c cap d e : Nat) (w : World), RowNfaEdge (some ⟨c, 0, none⟩) len f0 f1 f2 f3 f4 w → RowInt (some ⟨d, 0, none⟩) plen g w → Calls Try.prog 37 #[.agg #[.int .i64 s, .int .i64 st, .int .i64 en, .slice (some ⟨c, 0, none⟩) len cap], .slice (some ⟨d, 0, none⟩) plen e] w fun e w' => e = .returned (.tuple #[.bool r0, .int .i64 r1, .bool r2]) ∧ Below w.heap.size w w'))
    (II : Hid (len ≤ 1048576 → ∀ (c cap d e : Nat) (w : World), RowNfaEdge (some ⟨c, 0, none⟩) len f0 f1 f2 f3 f4 w → RowInt (some ⟨d, 0, none⟩) plen g w → Calls Try.prog 39 #[.agg #[.int .i64 s, .int .i64 st, .int .i64 en, .slice (some ⟨c, 0, none⟩) len cap], .slice (some ⟨d, 0, none⟩) plen e] w fun e w' => e = .returned (.tuple #[.bool r0, .int .i64 r1, .bool r2]) ∧ Below w.heap.size w w')) :
    Calls Try.prog 8 #[.agg #[.int .i64 s, .int .i64 st, .int .i64 en, .slice a0 len cp0], .slice p0 plen pcap] w fun e w' => e = .returned (.bool true) ∧ Below w.heap.size w w' := by
  have k0 : (r0 != r0) = false := by simp
  have k1 : (r1 != r1) = false := by simp
  have k2 : (r2 != r2) = false := by simp
  have hP' : ¬ ((plen : Int) > 1048576) := by omega
  have SZ := hide (fun w => w_szNfa s st en a0 len cp0 w hK)
  have bb : Below w.heap.size w (w.alloc (.cells #[.int .i64 s, .int .i64 st, .int .i64 en, .slice a0 len cp0] 73)) := below_box (Below.refl _ _)
  have M0 := Mut.new w #[.int .i64 s, .int .i64 st, .int .i64 en, .slice a0 len cp0] 73
  by_cases hL : len ≤ 1048576
  · rw [if_pos hL] at SZ
    have szn : ¬ (1048576 - (len : Int) < 0) := by omega
    have T := hide (fun w hR => w_toNfa s st en a0 len cp0 f0 f1 f2 f3 f4 w hL hR)
    have TP := hide (fun w hR => w_toIntS p0 plen pcap g w hP hR)
    have E0 := hide (fun a a' cap cap' w hR hR' => w_eqNfa s st en a a' len cap cap' f0 f1 f2 f3 f4 w hL hR hR')
    have EP := hide (fun a a' cap cap' w hR hR' => w_eqIntS a a' plen cap cap' g w (by omega) hR hR')
    have S := hide (SS.out hL)
    have I := hide (II.out hL)
    clear SS II hK hL
    go_enter Try.func8, Try.ntmps8
    go_wp2_with fail
    generalize hWW : w.alloc (.cells #[.int .i64 s, .int .i64 st, .int .i64 en, .slice a0 len cp0] 73) = W1 at *
    clear hWW
    refine (SZ.out _).mono ?_
    rintro e W2 ⟨rfl, b2⟩
    have d2 := bb.trans (b2.mono bb.size)
    replace M0 := M0.below b2
    clear b2 bb SZ
    have u0 := M0.2.1 0 _ rfl
    have u1 := M0.2.1 1 _ rfl
    have u2 := M0.2.1 2 _ rfl
    have u3 := M0.2.1 3 _ rfl
    go_wp2_with fail
    clear u0 u1 u2 u3
    refine (T.out _ (R0.below d2)).mono ?_
    rintro e W3 ⟨q, rfl, hq, Oq, b3⟩
    have d3 := d2.trans (b3.mono d2.size)
    replace M0 := M0.below b3
    clear b3
    go_wp2_with fail
    refine (TP.out _ (RP.below d3)).mono ?_
    rintro e W4 ⟨rfl, b4, Op⟩
    have d4 := d3.trans (b4.mono d3.size)
    replace M0 := M0.below b4
    replace Oq := Oq.below b4
    clear b4
    go_wp2_with fail
    refine (S.out _ _ _ _ _ Oq.row Op.row).mono ?_
    rintro e W5 ⟨rfl, b5⟩
    have d5 := d4.trans (b5.mono d4.size)
    replace M0 := M0.below b5
    clear b5 Oq Op
    have u0 := M0.2.1 0 _ rfl
    have u1 := M0.2.1 1 _ rfl
    have u2 := M0.2.1 2 _ rfl
    have u3 := M0.2.1 3 _ rfl
    go_wp2_with fail
    clear u0 u1 u2 u3
    refine (T.out _ (R0.below d5)).mono ?_
    rintro e W6 ⟨x, rfl, hx, Ox, b6⟩
    have d6 := d5.trans (b6.mono d5.size)
    replace M0 := M0.below b6
    clear b6
    have bb : Below W6.heap.size W6 (W6.alloc (.cells #[.int .i64 s, .int .i64 st, .int .i64 en, .slice (some ⟨x, 0, none⟩) len len] 79)) := below_box (Below.refl _ _)
    have BX := Mut.new W6 #[.int .i64 s, .int .i64 st, .int .i64 en, .slice (some ⟨x, 0, none⟩) len len] 79
    have d7 := d6.trans (bb.mono d6.size)
    replace M0 := M0.below bb
    replace Ox := Ox.below bb
    clear bb
    go_wp2_with fail
    generalize hWW : W6.alloc (.cells #[.int .i64 s, .int .i64 st, .int .i64 en, .slice (some ⟨x, 0, none⟩) len len] 79) = W7 at *
    clear hWW
    generalize W6.heap.size = bx at *
    refine (TP.out _ (RP.below d7)).mono ?_
    rintro e W8 ⟨rfl, b8, Oy⟩
    have d8 := d7.trans (b8.mono d7.size)
    replace M0 := M0.below b8
    replace Ox := Ox.below b8
    replace BX := BX.below b8
    clear b8
    generalize W7.heap.size = by0 at *
    have v0 := BX.2.1 0 _ rfl
    have v1 := BX.2.1 1 _ rfl
    have v2 := BX.2.1 2 _ rfl
    have v3 := BX.2.1 3 _ rfl
    go_wp2_with fail
    clear v0 v1 v2 v3
    refine (I.out _ _ _ _ _ Ox.row Oy.row).mono ?_
    rintro e W9 ⟨rfl, b9⟩
    have d9 := d8.trans (b9.mono d8.size)
    replace M0 := M0.below b9
    replace Ox := Ox.below b9
    replace Oy := Oy.below b9
    replace BX := BX.below b9
    clear b9
    go_wp2_with fail
    have R0z := R0.below d9
    have hS : ∀ w' : World, Below W9.heap.size W9 w' → w'.cell? ⟨w.heap.size, 0, none⟩ = some (.int .i64 s) ∧ w'.cell? ⟨w.heap.size, 1, none⟩ = some (.int .i64 st) ∧ w'.cell? ⟨w.heap.size, 2, none⟩ = some (.int .i64 en) ∧ w'.cell? ⟨w.heap.size, 3, none⟩ = some (.slice a0 len cp0) ∧ w'.cell? ⟨bx, 0, none⟩ = some (.int .i64 s) ∧ w'.cell? ⟨bx, 1, none⟩ = some (.int .i64 st) ∧ w'.cell? ⟨bx, 2, none⟩ = some (.int .i64 en) ∧ w'.cell? ⟨bx, 3, none⟩ = some (.slice (some ⟨x, 0, none⟩) len len) := fun w' h => ⟨(M0.below h).2.1 0 _ rfl, (M0.below h).2.1 1 _ rfl, (M0.below h).2.1 2 _ rfl, (M0.below h).2.1 3 _ rfl, (BX.below h).2.1 0 _ rfl, (BX.below h).2.1 1 _ rfl, (BX.below h).2.1 2 _ rfl, (BX.below h).2.1 3 _ rfl⟩
    obtain ⟨Q0, Q1, Q2, Q3, Q4, Q5, Q6, Q7⟩ := hS W9 (Below.refl _ _)
    go_region_held3 (fun w' => w'.cell? ⟨w.heap.size, 0, none⟩ = some (.int .i64 s) ∧ w'.cell? ⟨w.heap.size, 1, none⟩ = some (.int .i64 st) ∧ w'.cell? ⟨w.heap.size, 2, none⟩ = some (.int .i64 en) ∧ w'.cell? ⟨w.heap.size, 3, none⟩ = some (.slice a0 len cp0) ∧ w'.cell? ⟨bx, 0, none⟩ = some (.int .i64 s) ∧ w'.cell? ⟨bx, 1, none⟩ = some (.int .i64 st) ∧ w'.cell? ⟨bx, 2, none⟩ = some (.int .i64 en) ∧ w'.cell? ⟨bx, 3, none⟩ = some (.slice (some ⟨x, 0, none⟩) len len))
      (first | exact hS _ (Below.refl _ _) | exact hS _ (Below.refl _ _).drew | exact hS _ dE | exact hS _ dE.drew | exact hS _ dT | exact hS _ dT.drew | go_keep)
      ((first
        | (have hq0 := dT; go_at_call 40; refine (E0.out _ _ _ _ _ (by first | exact (Ox.below dT).row | exact (Ox.below dT.drew).row) (by first | exact Px.row | exact (Px.below (Below.refl _ _).drew).row)).mono ?_; rintro e W10 ⟨rfl, bE⟩; have dE : Below W9.heap.size W9 W10 := (by first | exact below_step dT bE | exact below_step dT.drew bE))
        | (go_at_call 38; refine (T.out _ (by first | exact R0z | exact R0z.below (Below.refl _ _).drew)).mono ?_; rintro e wT ⟨x2, rfl, _, Px, bT⟩; have dT : Below W9.heap.size W9 wT := (by first | exact bT | exact (Below.refl _ _).drew.trans bT))))
    have d10 := d9.trans (dE.mono d9.size)
    have RPz := hide (RP.below d10)
    have Oyz := hide (Oy.below dE)
    go_wp2_with fail
    refine (TP.out _ RPz.out).mono ?_
    rintro e W11 ⟨rfl, b11, Oz⟩
    have d11 := d10.trans (b11.mono d10.size)
    replace Oyz := hide (Oyz.out.below b11)
    clear b11
    go_wp2_with fail
    refine (EP.out _ _ _ _ _ Oyz.out.row Oz.row).mono ?_
    rintro e W12 ⟨rfl, b12⟩
    have d12 := d11.trans (b12.mono d11.size)
    go_wp2_with fail
    go_ret
    exact ⟨rfl, d12⟩
  · rw [if_neg hL] at SZ
    clear hL hK
    go_enter Try.func8, Try.ntmps8
    go_wp2_with fail
    refine (SZ.out _).mono ?_
    rintro e W2 ⟨rfl, b2⟩
    go_wp2_with fail
    go_ret
    exact ⟨rfl, below_box b2⟩
set_option maxRecDepth 100000 in
set_option maxHeartbeats 800000 in
theorem w_runNfa_over (s st en : Int) (a0 : Option Addr) (len cp0 : Nat) (p0 : Option Addr) (plen pcap : Nat) (w : World) (h : ¬ plen ≤ 1048576) :
    Calls Try.prog 8 #[.agg #[.int .i64 s, .int .i64 st, .int .i64 en, .slice a0 len cp0], .slice p0 plen pcap] w fun e w' => e = .returned (.bool true) ∧ Below w.heap.size w w' := by
  have hP' : (plen : Int) > 1048576 := by omega
  clear h
  go_enter Try.func8, Try.ntmps8
  go_wp2_with fail
  go_ret
  exact ⟨rfl, below_box (Below.refl _ _)⟩
def listI (n : Nat) (g : Nat → Int) : List Int := (List.range n).map g
theorem listI_len (n : Nat) (g : Nat → Int) : (listI n g).length = n := by simp [listI]
theorem RowN.ofI {a : Option Addr} {n : Nat} {g : Nat → Int} {w : World} (h : RowInt a n g w) : RowN .i64 a (listI n g) w := by
  intro i hi
  rw [listI_len] at hi
  obtain ⟨b, off, e, hb, h0⟩ := h i hi
  refine ⟨b, off, e, hb, ?_⟩
  rw [h0, show (listI n g).getD i 0 = g i by simp [listI, List.getD_eq_getElem?_getD, hi]]
theorem w_runNfa (s st en : Int) (a0 : Option Addr) (len cp0 : Nat) (f0 f1 : Nat → Int) (f2 f3 : Nat → Bool) (f4 : Nat → Int) (p0 : Option Addr) (plen pcap : Nat) (g : Nat → Int) (w : World) (hK : len ≤ maxLen) (R0 : RowNfaEdge a0 len f0 f1 f2 f3 f4 w) (_hP : plen ≤ maxLen) (RP : RowInt p0 plen g w) :
    Calls Try.prog 8 #[.agg #[.int .i64 s, .int .i64 st, .int .i64 en, .slice a0 len cp0], .slice p0 plen pcap] w fun e w' => e = .returned (.bool true) ∧ Below w.heap.size w w' := by
  by_cases h : plen ≤ 1048576
  · have e := listG_len len f0 f1 f2 f3 f4
    have e' := listI_len plen g
    refine w_runNfa_law s st en a0 len cp0 f0 f1 f2 f3 f4 p0 plen pcap g (rnB s st en (listG len f0 f1 f2 f3 f4) (listI plen g)) (rnM s st en (listG len f0 f1 f2 f3 f4) (listI plen g)) (rnG s st en (listG len f0 f1 f2 f3 f4) (listI plen g)) w hK h R0 RP (fun h1 c cap d e w hR hQ => ?_) (fun h1 c cap d e w hR hQ => ?_)
    · have k := s_runNfa s st en (some ⟨c, 0, none⟩) cap (listG len f0 f1 f2 f3 f4) (some ⟨d, 0, none⟩) e (listI plen g) w (by omega) (by omega) (RowG.of hR) (RowN.ofI hQ)
      rw [listG_len, listI_len] at k
      exact k
    · have k := i_runNfa s st en (some ⟨c, 0, none⟩) cap (listG len f0 f1 f2 f3 f4) (some ⟨d, 0, none⟩) e (listI plen g) w (by omega) (by omega) (RowG.of hR) (RowN.ofI hQ)
      rw [listG_len, listI_len] at k
      exact k
  · exact w_runNfa_over s st en a0 len cp0 p0 plen pcap w h
end Go.Proofs.Ytocgghhlfmgndaa
