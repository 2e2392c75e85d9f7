/- The law on NewReader: the program answers as the specification. -/
import Derived.Test.YtoeephmdklmpfaaRdr5
namespace Go.Proofs.Ytoeephmdklmpfaa
open Go.RowKit

set_option maxRecDepth 100000 in
set_option maxHeartbeats 6400000 in
theorem w_newReader_law (X : ByteArray) (B : Int) (L : List Ms) (w : World) (hL : L.length ≤ 1048576)
    (S : Hid (∀ w, Calls Try.prog 31 #[] w fun e w' => ∃ v, e = .returned v ∧ AnsR X L B w v w'))
    (I : Hid (∀ w, Calls Try.prog 32 #[] w fun e w' => ∃ v, e = .returned v ∧ AnsR X L B w v w')) :
    Calls Try.prog 7 #[] w fun e w' => e = .returned (.bool true) ∧ Below w.heap.size w w' := by
  have E := hide (fun a a' cap cap' w hR hR' => w_eqReader X B a a' cap cap' L w (by omega) hR hR')
  have M := hide (fun a c cap w h => w_markReader X B a c cap L w (by omega) h)
  have HD := hide (fun a cap w h => w_heldReader X B a cap L.length w (by omega) h)
  have k2 : ¬ (1 + 2 * (L.length : Int) < 0) := by omega
  have k3 : ((1 + 2 * (L.length : Int)) != (1 + 2 * (L.length : Int))) = false := by simp
  have d0 : Below w.heap.size w w := Below.refl _ _
  go_enter Try.func7, Try.ntmps7
  go_wp2_with fail
  refine (S.out _).mono ?_
  rintro e W1 ⟨_, rfl, an⟩
  obtain ⟨ads, cps, bs, rfl, hs, Os, bb⟩ := an
  have zs : L ≠ [] → bs < W1.heap.size := fun h => (Os.1 h).2
  have hs0 : L ≠ [] → w.heap.size ≤ bs := fun h => Nat.le_trans d0.size (hs h)
  have d1 := d0.trans (bb.mono d0.size)
  have y1 := bb.size
  clear bb
  go_wp2_with fail
  have bb : Below W1.heap.size W1 (W1.alloc (.cells #[.string X, .slice ads L.length cps, .int .i64 B] 48)) := below_box (Below.refl _ _)
  have BS := Mut.new W1 #[.string X, .slice ads L.length cps, .int .i64 B] 48
  have lBS : W1.heap.size < (W1.alloc (.cells #[.string X, .slice ads L.length cps, .int .i64 B] 48)).heap.size := by simp
  have d2 := d1.trans (bb.mono d1.size)
  have y2 := bb.size
  have Os := Os.below bb
  clear bb
  generalize hWW : W1.alloc (.cells #[.string X, .slice ads L.length cps, .int .i64 B] 48) = W2 at *
  clear hWW
  refine (I.out _).mono ?_
  rintro e W3 ⟨_, rfl, an⟩
  obtain ⟨adg, cpg, bg, rfl, hg, Og, bb⟩ := an
  have zg : L ≠ [] → bg < W3.heap.size := fun h => (Og.1 h).2
  have hg0 : L ≠ [] → w.heap.size ≤ bg := fun h => Nat.le_trans d2.size (hg h)
  have d3 := d2.trans (bb.mono d2.size)
  have y3 := bb.size
  have Os := Os.below bb
  have BS := BS.below bb
  clear bb
  have v0 := ((BS.alloc (.cells #[.string X, .slice adg L.length cpg, .int .i64 B] 48))).2.1 0 _ rfl
  have v1 := ((BS.alloc (.cells #[.string X, .slice adg L.length cpg, .int .i64 B] 48))).2.1 1 _ rfl
  have v2 := ((BS.alloc (.cells #[.string X, .slice adg L.length cpg, .int .i64 B] 48))).2.1 2 _ rfl
  go_wp2_with fail
  have bb : Below W3.heap.size W3 (W3.alloc (.cells #[.string X, .slice adg L.length cpg, .int .i64 B] 48)) := below_box (Below.refl _ _)
  have BG := Mut.new W3 #[.string X, .slice adg L.length cpg, .int .i64 B] 48
  have lBG : W3.heap.size < (W3.alloc (.cells #[.string X, .slice adg L.length cpg, .int .i64 B] 48)).heap.size := by simp
  have d4 := d3.trans (bb.mono d3.size)
  have y4 := bb.size
  have Os := Os.below bb
  have BS := BS.below bb
  have Og := Og.below bb
  clear bb
  generalize hWW : W3.alloc (.cells #[.string X, .slice adg L.length cpg, .int .i64 B] 48) = W4 at *
  clear hWW
  clear v0 v1 v2
  refine (E.out _ _ _ _ _ Og.row Os.row).mono ?_
  rintro e W5 ⟨rfl, bb⟩
  have d5 := d4.trans (bb.mono d4.size)
  have y5 := bb.size
  have Os := Os.below bb
  have BS := BS.below bb
  have Og := Og.below bb
  have BG := BG.below bb
  clear bb
  have u0 := BG.2.1 0 _ rfl
  have u1 := BG.2.1 1 _ rfl
  have u2 := BG.2.1 2 _ rfl
  go_wp2_with fail
  clear u0 u1 u2
  refine (M.out _ _ _ _ Og).mono ?_
  rintro e W6 ⟨rfl, yy, Om⟩
  have bb := yy.base (base := w.heap.size) hg0 d5.size
  have d6 := d5.trans bb
  have y6 := bb.size
  clear bb
  have Os := Os.on yy (fun h1 h2 => by have := zs h1; have := hg h2; omega)
  have BS := BS.on yy (fun h => by have := hg h; omega)
  have BG := BG.on yy (fun h => by have := zg h; omega)
  clear yy
  clear Og
  have u0 := BG.2.1 0 _ rfl
  have u1 := BG.2.1 1 _ rfl
  have u2 := BG.2.1 2 _ rfl
  go_wp2_with fail
  clear u0 u1 u2
  refine (HD.out _ _ _ Om.row).mono ?_
  rintro e W7 ⟨rfl, bb⟩
  have d7 := d6.trans (bb.mono d6.size)
  have y7 := bb.size
  have Os := Os.below bb
  have BS := BS.below bb
  have BG := BG.below bb
  have Om := Om.below bb
  clear bb
  go_wp2_with fail
  refine (I.out _).mono ?_
  rintro e W8 ⟨_, rfl, an⟩
  obtain ⟨adh, cph, bh, rfl, hh, Oh, bb⟩ := an
  have zh : L ≠ [] → bh < W8.heap.size := fun h => (Oh.1 h).2
  have hh0 : L ≠ [] → w.heap.size ≤ bh := fun h => Nat.le_trans d7.size (hh h)
  have d8 := d7.trans (bb.mono d7.size)
  have y8 := bb.size
  have Os := Os.below bb
  have BS := BS.below bb
  have BG := BG.below bb
  have Om := Om.below bb
  clear bb
  have v0 := ((BS.alloc (.cells #[.string X, .slice adh L.length cph, .int .i64 B] 48))).2.1 0 _ rfl
  have v1 := ((BS.alloc (.cells #[.string X, .slice adh L.length cph, .int .i64 B] 48))).2.1 1 _ rfl
  have v2 := ((BS.alloc (.cells #[.string X, .slice adh L.length cph, .int .i64 B] 48))).2.1 2 _ rfl
  go_wp2_with fail
  have bb : Below W8.heap.size W8 (W8.alloc (.cells #[.string X, .slice adh L.length cph, .int .i64 B] 48)) := below_box (Below.refl _ _)
  have BH := Mut.new W8 #[.string X, .slice adh L.length cph, .int .i64 B] 48
  have lBH : W8.heap.size < (W8.alloc (.cells #[.string X, .slice adh L.length cph, .int .i64 B] 48)).heap.size := by simp
  have d9 := d8.trans (bb.mono d8.size)
  have y9 := bb.size
  have Os := Os.below bb
  have BS := BS.below bb
  have BG := BG.below bb
  have Om := Om.below bb
  have Oh := Oh.below bb
  clear bb
  generalize hWW : W8.alloc (.cells #[.string X, .slice adh L.length cph, .int .i64 B] 48) = W9 at *
  clear hWW
  clear v0 v1 v2
  refine (E.out _ _ _ _ _ Oh.row Os.row).mono ?_
  rintro e W10 ⟨rfl, bb⟩
  have d10 := d9.trans (bb.mono d9.size)
  have y10 := bb.size
  have Os := Os.below bb
  have BS := BS.below bb
  have BG := BG.below bb
  have Om := Om.below bb
  have Oh := Oh.below bb
  have BH := BH.below bb
  clear bb
  have u0 := BG.2.1 0 _ rfl
  have u1 := BG.2.1 1 _ rfl
  have u2 := BG.2.1 2 _ rfl
  go_wp2_with fail
  clear u0 u1 u2
  refine (HD.out _ _ _ Om.row).mono ?_
  rintro e W11 ⟨rfl, bb⟩
  have d11 := d10.trans (bb.mono d10.size)
  have y11 := bb.size
  have Os := Os.below bb
  have BS := BS.below bb
  have BG := BG.below bb
  have Om := Om.below bb
  have Oh := Oh.below bb
  have BH := BH.below bb
  clear bb
  go_wp2_with fail
  go_ret
  exact ⟨rfl, d11⟩
theorem w_newReader (w : World) : Calls Try.prog 7 #[] w fun e w' => e = .returned (.bool true) ∧ Below w.heap.size w w' :=
  w_newReader_law _ _ _ w (by decide) (fun w => s_newReader w) (fun w => i_newReader w)
end Go.Proofs.Ytoeephmdklmpfaa
