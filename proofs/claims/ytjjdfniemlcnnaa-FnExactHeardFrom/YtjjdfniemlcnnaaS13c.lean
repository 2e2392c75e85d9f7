/- l13BestAt of the specification. -/
import Derived.Test.YtjjdfniemlcnnaaS13a
import Derived.Test.YtjjdfniemlcnnaaS13b
import Derived.Deep.RegionHeld3
namespace Go.Proofs.Ytjjdfniemlcnnaa
open Go.RowKit

set_option maxRecDepth 100000 in
set_option maxHeartbeats 3200000 in
theorem s_l13BestAt (ow : Int) (a : Option Addr) (n c : Nat) (U : Nat → Rc) (pa pl : Int) (w00 w : World) (hn : n ≤ 1048576) (hl : LowR n U) (hR : RowRS a n U w00) (hbb : Below w00.heap.size w00 w) :
    Calls Try.prog 49 #[.agg #[.int .i64 ow, .slice a n c], .agg #[.int .i64 pa, .int .i64 pl]] w fun e w' => ∃ q : Oe, e = .returned (.tuple #[.agg #[.int .i64 q.t.pe, .int .i64 q.t.o, .slice q.a0 q.t.n0 q.c0, .int .i64 q.t.nx, .int .i64 q.t.md, .int .i64 q.t.pf, .slice q.a1 q.t.n1 q.c1], .bool (baB ow n U pa pl)]) ∧ BaIs ow n U pa pl q w00 ∧ Below w.heap.size w w' := by
  have AT := hide (fun w R => s_l13At ow a n c U pa pl w hn R)
  have M1 := ((Mut.new w #[.int .i64 ow, .slice a n c] 24).alloc (.cells #[.int .i64 pa, .int .i64 pl] 52)).alloc (.cells #[.int .i64 0, .int .i64 0, .slice none 0 0, .int .i64 0, .int .i64 0, .int .i64 0, .slice none 0 0] 49)
  have M3 := Mut.new ((w.alloc (.cells #[.int .i64 ow, .slice a n c] 24)).alloc (.cells #[.int .i64 pa, .int .i64 pl] 52)) #[.int .i64 0, .int .i64 0, .slice none 0 0, .int .i64 0, .int .i64 0, .int .i64 0, .slice none 0 0] 49
  have d3 : Below w.heap.size w (((w.alloc (.cells #[.int .i64 ow, .slice a n c] 24)).alloc (.cells #[.int .i64 pa, .int .i64 pl] 52)).alloc (.cells #[.int .i64 0, .int .i64 0, .slice none 0 0, .int .i64 0, .int .i64 0, .int .i64 0, .slice none 0 0] 49)) := below_box3 (Below.refl _ _)
  simp only [World.size_alloc] at M3
  have RA := hide (hR.below (hbb.trans (d3.mono hbb.size)))
  cases hK : plK U n pa pl with
  | false =>
    have hE := hide (baIs_no (ow := ow) hK w00)
    have hb0 := hide (ba_no (ow := ow) hK).1
    rw [hK] at AT
    clear hR hK
    go_enter Try.func49, Try.ntmps49
    go_wp2_with fail
    generalize ((w.alloc (.cells #[.int .i64 ow, .slice a n c] 24)).alloc (.cells #[.int .i64 pa, .int .i64 pl] 52)).alloc (.cells #[.int .i64 0, .int .i64 0, .slice none 0 0, .int .i64 0, .int .i64 0, .int .i64 0, .slice none 0 0] 49) = W at *
    refine (AT.out _ RA.out.row).mono ?_
    rintro e w1 ⟨rfl, b1⟩
    have N := M3.below b1
    have g0 := N.2.1 0 _ rfl
    have z0 := N.2.2 0 (by simp)
    have g1 := N.2.1 1 _ rfl
    have z1 := N.2.2 1 (by simp)
    have g2 := N.2.1 2 _ rfl
    have z2 := N.2.2 2 (by simp)
    have g3 := N.2.1 3 _ rfl
    have z3 := N.2.2 3 (by simp)
    have g4 := N.2.1 4 _ rfl
    have z4 := N.2.2 4 (by simp)
    have g5 := N.2.1 5 _ rfl
    have z5 := N.2.2 5 (by simp)
    have g6 := N.2.1 6 _ rfl
    have z6 := N.2.2 6 (by simp)
    have dF := d3.trans (b1.mono d3.size)
    clear N b1 M1 M3 d3
    go_wp2_with fail
    rw [hb0.out]
    refine bodyPost_ret (v := .tuple #[.agg #[.int .i64 0, .int .i64 0, .slice none 0 0, .int .i64 0, .int .i64 0, .int .i64 0, .slice none 0 0], .bool false]) (by simp [results, Try.results49, go_sem, *]) rfl ⟨oe0, rfl, hE.out, ?_⟩
    refine Below.setCell (Below.setCell (Below.setCell (Below.setCell (Below.setCell (Below.setCell (Below.setCell (dF) ?_ _) ?_ _) ?_ _) ?_ _) ?_ _) ?_ _) ?_ _ <;> (simp; try omega)
  | true =>
    have hlt := plK_lt hK
    have hfin := hide (fun q h => baIs_yes (ow := ow) hK (q := q) (w := w00) h)
    have hb0 := hide (ba_yes (ow := ow) hK).1
    rw [hK] at AT
    obtain ⟨b, off, a0, c0, rfl, hbw, u0, u1, u2, ht⟩ := hR _ hlt
    have LB := hide (fun w hb => s_l13Best ow a0 (U (plN U n pa pl)).n c0 (U (plN U n pa pl)).T w00 w (hl _ hlt).1 ht hb)
    have hbw' : b < w.heap.size := Nat.lt_of_lt_of_le hbw hbb.size
    replace u2 := hide (((hbb.trans (d3.mono hbb.size)).cell (p := ⟨b, off + plN U n pa pl * 3 + 2, none⟩) hbw).trans u2)
    have hltW : b < (((w.alloc (.cells #[.int .i64 ow, .slice (some ⟨b, off, none⟩) n c] 24)).alloc (.cells #[.int .i64 pa, .int .i64 pl] 52)).alloc (.cells #[.int .i64 0, .int .i64 0, .slice none 0 0, .int .i64 0, .int .i64 0, .int .i64 0, .slice none 0 0] 49)).heap.size := Nat.lt_of_lt_of_le hbw' d3.size
    clear u0 u1 ht hK hR
    generalize baB ow n U pa pl = bb at *
    generalize plN U n pa pl = k at *
    have hlt' : (k : Int) < (n : Int) := by omega
    generalize U k = t at *
    go_enter Try.func49, Try.ntmps49
    go_wp2_with fail
    generalize ((w.alloc (.cells #[.int .i64 ow, .slice (some ⟨b, off, none⟩) n c] 24)).alloc (.cells #[.int .i64 pa, .int .i64 pl] 52)).alloc (.cells #[.int .i64 0, .int .i64 0, .slice none 0 0, .int .i64 0, .int .i64 0, .int .i64 0, .slice none 0 0] 49) = W at *
    refine (AT.out _ RA.out.row).mono ?_
    rintro e w1 ⟨rfl, b1⟩
    have N1 := M1.below b1
    have N3 := M3.below b1
    have v2 := (b1.cell (p := ⟨b, off + k * 3 + 2, none⟩) hltW).trans u2.out
    have dF := d3.trans (b1.mono d3.size)
    have hlt3 := N3.1
    clear b1 M1 M3 d3 u2
    have m0 := N1.2.1 0 _ rfl
    have m1 := N1.2.1 1 _ rfl
    have hltb : b < w1.heap.size := Nat.lt_of_lt_of_le hbw' dF.size
    have dG := hbb.trans (dF.mono hbb.size)
    go_wp2_with fail
    go_region_with (go_at_call 69; refine (LB.out _ (by first | exact dG | exact dG.drew)).mono ?_; rintro r w3 ⟨q, rfl, hq, b3⟩; have dA : Below w1.heap.size w1 w3 := (by first | exact b3 | exact (Below.refl _ _).drew.trans b3); have N := N3.below dA; have g0 := N.2.1 0 _ rfl; have z0 := N.2.2 0 (by simp); have g1 := N.2.1 1 _ rfl; have z1 := N.2.2 1 (by simp); have g2 := N.2.1 2 _ rfl; have z2 := N.2.2 2 (by simp); have g3 := N.2.1 3 _ rfl; have z3 := N.2.2 3 (by simp); have g4 := N.2.1 4 _ rfl; have z4 := N.2.2 4 (by simp); have g5 := N.2.1 5 _ rfl; have z5 := N.2.2 5 (by simp); have g6 := N.2.1 6 _ rfl; have z6 := N.2.2 6 (by simp); have lt3 := N.1)
    all_goals
      have dH := dF.trans (dA.mono dF.size)
      clear dA N N1 N3 m0 m1 v2 LB AT RA
      go_wp2_with fail
      rw [hb0.out]
      refine bodyPost_ret (v := .tuple #[.agg #[.int .i64 q.t.pe, .int .i64 q.t.o, .slice q.a0 q.t.n0 q.c0, .int .i64 q.t.nx, .int .i64 q.t.md, .int .i64 q.t.pf, .slice q.a1 q.t.n1 q.c1], .bool (bfB t.n t.T ow)]) (by simp [results, Try.results49, go_sem, *]) rfl ⟨q, rfl, hfin.out q hq, ?_⟩
      refine Below.setCell (Below.setCell (Below.setCell (Below.setCell (Below.setCell (Below.setCell (Below.setCell (dH) ?_ _) ?_ _) ?_ _) ?_ _) ?_ _) ?_ _) ?_ _ <;> (simp; try omega)
end Go.Proofs.Ytjjdfniemlcnnaa
