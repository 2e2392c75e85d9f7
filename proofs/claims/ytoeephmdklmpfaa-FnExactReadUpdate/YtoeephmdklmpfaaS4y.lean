/- What the specification's ReadUpdate answers, out of what its parts answer. -/
import Derived.Test.YtoeephmdklmpfaaS4o
import Derived.Test.YtoeephmdklmpfaaS4v
import Derived.Test.YtoeephmdklmpfaaEndI
namespace Go.Proofs.Ytoeephmdklmpfaa
open Go.RowKit

theorem Rd.only {w w' : World} {b c : Nat} {s : ByteArray} {L : List Int} {cd : Int} (h : Rd w b s L cd) (k : Only c w w') (hn : b ≠ c) : Rd w' b s L cd := by
  refine ⟨fun hc => ?_, fun hc => ?_⟩
  · obtain ⟨p, h1, h2, h3⟩ := h.1 hc
    exact ⟨p, h1, h2, h3.only k hn⟩
  · obtain ⟨p, h3⟩ := h.2 hc
    exact ⟨p, h3.only k hn⟩
set_option maxRecDepth 100000 in
set_option maxHeartbeats 3200000 in
theorem s_ru_out (s : ByteArray) (w : World) (hs : s.size ≤ maxLen) (h : 1000 < s.size) :
    Calls Try.prog 15 #[.string s] w fun e w' => e = .returned (ruNo 0) ∧ Below w.heap.size w w' := by
  unfold maxLen at hs
  have h1' : ((s.size : Int) > 1000) := by omega
  clear h
  go_enter Try.func15, Try.ntmps15
  go_wp2_with fail
  exact bodyPost_ret (v := ruNo 0) (by simp [ruNo, results, Try.results15, go_sem]) rfl ⟨rfl, below_box (Below.refl _ _)⟩
set_option maxRecDepth 100000 in
set_option maxHeartbeats 6400000 in
theorem s_ru_bad0 (s : ByteArray) (V0 : List Pf) (L0 : List Int) (c0 : Int) (w : World) (hs : s.size ≤ 1000) (hc : c0 ≠ 0)
    (P0 : Hid (∀ b w, Rd w b s (sbs s) 0 → Calls Try.prog 63 #[.pointer (some ⟨b, 0, none⟩)] w fun e w' => ∃ v Y, e = .returned v ∧ OwnP w.heap.size v Y w' ∧ Only b w w' ∧ Rd w' b s L0 c0 ∧ (c0 = 0 → Y = V0))) :
    Calls Try.prog 15 #[.string s] w fun e w' => e = .returned (ruNo c0) ∧ Below w.heap.size w w' := by
  have hs' : ¬ ((s.size : Int) > 1000) := by omega
  have MR := (Mut.new w #[.slice none 0 0, .int .i64 0, .slice none 0 0, .int .i64 0, .int .i64 0, .int .i64 0, .slice none 0 0, .slice none 0 0] 27).alloc (.cells #[.string s, .int .i64 0, .int .i64 0] 85)
  have MB := Mut.new (w.alloc (.cells #[.slice none 0 0, .int .i64 0, .slice none 0 0, .int .i64 0, .int .i64 0, .int .i64 0, .slice none 0 0, .slice none 0 0] 27)) #[.string s, .int .i64 0, .int .i64 0] 85
  simp only [World.size_alloc] at MB
  have R : Rd ((w.alloc (.cells #[.slice none 0 0, .int .i64 0, .slice none 0 0, .int .i64 0, .int .i64 0, .int .i64 0, .slice none 0 0, .slice none 0 0] 27)).alloc (.cells #[.string s, .int .i64 0, .int .i64 0] 85)) (w.heap.size + 1) s (sbs s) 0 := ⟨fun _ => ⟨0, Nat.zero_le _, by simp, MB⟩, fun h => absurd rfl h⟩
  have d0 : Below w.heap.size w ((w.alloc (.cells #[.slice none 0 0, .int .i64 0, .slice none 0 0, .int .i64 0, .int .i64 0, .int .i64 0, .slice none 0 0, .slice none 0 0] 27)).alloc (.cells #[.string s, .int .i64 0, .int .i64 0] 85)) := below_box2 (Below.refl _ _)
  have z0 : w.heap.size + 1 < ((w.alloc (.cells #[.slice none 0 0, .int .i64 0, .slice none 0 0, .int .i64 0, .int .i64 0, .int .i64 0, .slice none 0 0, .slice none 0 0] 27)).alloc (.cells #[.string s, .int .i64 0, .int .i64 0] 85)).heap.size := by simp
  clear MB
  go_enter Try.func15, Try.ntmps15
  go_wp2_with fail
  generalize hWW : (w.alloc (.cells #[.slice none 0 0, .int .i64 0, .slice none 0 0, .int .i64 0, .int .i64 0, .int .i64 0, .slice none 0 0, .slice none 0 0] 27)).alloc (.cells #[.string s, .int .i64 0, .int .i64 0] 85) = W0 at *
  clear hWW
  refine (P0.out _ _ R).mono ?_
  rintro e W1 ⟨x0, Y0, rfl, O0, oo, R, hY0⟩
  have hx0 : ∀ k, x0.ownBlock = some k → W0.heap.size ≤ k ∧ k < W1.heap.size := fun k e => World.ownsRow.lt O0 k e
  have MR := MR.only oo (by omega)
  have d1 := d0.trans ((oo.below (by omega)).mono (by omega))
  have y1 := oo.2.2.2.1
  obtain ⟨p0, n0, rfl, _⟩ := ownP_row O0
  clear oo d0
  have bb : Below W1.heap.size W1 (W1.alloc (.cells #[.slice p0 Y0.length n0, .int .i64 0, .slice none 0 0, .int .i64 0, .int .i64 0, .int .i64 0, .slice none 0 0, .slice none 0 0] 27)) := below_box (Below.refl _ _)
  have MU := Mut.new W1 #[.slice p0 Y0.length n0, .int .i64 0, .slice none 0 0, .int .i64 0, .int .i64 0, .int .i64 0, .slice none 0 0, .slice none 0 0] 27
  have MR := MR.below bb
  have O0 := ownP_below O0 bb
  have d2 := d1.trans (bb.mono d1.size)
  have y2 : W1.heap.size < (W1.alloc (.cells #[.slice p0 Y0.length n0, .int .i64 0, .slice none 0 0, .int .i64 0, .int .i64 0, .int .i64 0, .slice none 0 0, .slice none 0 0] 27)).heap.size := by simp
  have R := R.below bb
  clear bb
  obtain ⟨p, Mb⟩ := R.mut
  have b2 := Mb.2.1 2 _ rfl
  have m0 := MR.2.1 0 _ rfl
  have m1 := MR.2.1 1 _ rfl
  have m2 := MR.2.1 2 _ rfl
  have m3 := MR.2.1 3 _ rfl
  have m4 := MR.2.1 4 _ rfl
  have m5 := MR.2.1 5 _ rfl
  have m6 := MR.2.1 6 _ rfl
  have m7 := MR.2.1 7 _ rfl
  have f0 := MR.2.2 0 (by simp)
  have f1 := MR.2.2 1 (by simp)
  have f2 := MR.2.2 2 (by simp)
  have f3 := MR.2.2 3 (by simp)
  have f4 := MR.2.2 4 (by simp)
  have f5 := MR.2.2 5 (by simp)
  have f6 := MR.2.2 6 (by simp)
  have f7 := MR.2.2 7 (by simp)
  have hc1 : (c0 == 0) = false := by simpa using hc
  have hc2 : (c0 != 0) = true := by simpa using hc
  clear hc Mb MU O0 hx0 hY0
  go_wp2_with fail
  generalize W1.alloc (.cells #[.slice p0 Y0.length n0, .int .i64 0, .slice none 0 0, .int .i64 0, .int .i64 0, .int .i64 0, .slice none 0 0, .slice none 0 0] 27) = W2 at *
  go_region
  go_wp2_with fail
  refine bodyPost_ret (v := ruNo c0) (by simp [ruNo, results, Try.results15, go_sem, m0, m1, m2, m3, m4, m5, m6, m7]) rfl ⟨rfl, ?_⟩
  refine Below.drew ?_
  refine Below.setCell (Below.setCell (Below.setCell (Below.setCell (Below.setCell (Below.setCell (Below.setCell (Below.setCell d2 ?_ _) ?_ _) ?_ _) ?_ _) ?_ _) ?_ _) ?_ _) ?_ _ <;> exact Nat.le_refl _
set_option maxRecDepth 100000 in
set_option maxHeartbeats 6400000 in
theorem s_ru_gone (s : ByteArray) (V0 : List Pf) (L0 : List Int) (c0 : Int) (g : Bool) (w : World) (hs : s.size ≤ 1000) (hc : c0 = 0) (hL0 : L0 = [])
    (P0 : Hid (∀ b w, Rd w b s (sbs s) 0 → Calls Try.prog 63 #[.pointer (some ⟨b, 0, none⟩)] w fun e w' => ∃ v Y, e = .returned v ∧ OwnP w.heap.size v Y w' ∧ Only b w w' ∧ Rd w' b s L0 c0 ∧ (c0 = 0 → Y = V0)))
    (GU : Hid (∀ p0 n0 p1 n1 p5 n5 p7 n7 w, RowP p0 V0 w → RowN .i64 p1 [] w → RowN .i64 p5 [] w → RowP p7 [] w → Calls Try.prog 66 #[.agg #[.slice p0 V0.length n0, .int .i64 0, .slice p1 ([] : List Int).length n1, .int .i64 0, .int .i64 0, .int .i64 0, .slice p5 ([] : List Int).length n5, .slice p7 ([] : List Pf).length n7]] w fun e w' => e = .returned (.bool g) ∧ Below w.heap.size w w')) :
    Calls Try.prog 15 #[.string s] w fun e w' => (g = false → e = .returned (ruNo 3) ∧ Below w.heap.size w w') ∧ (g = true → ∃ p0 n0, e = .returned (.tuple #[.agg #[.slice p0 V0.length n0, .int .i64 0, .slice none 0 0, .int .i64 0, .int .i64 0, .int .i64 0, .slice none 0 0, .slice none 0 0], .int .i64 0, .bool true]) ∧ OwnP w.heap.size (.slice p0 V0.length n0) V0 w' ∧ Below w.heap.size w w') := by
  subst hc hL0
  have hs' : ¬ ((s.size : Int) > 1000) := by omega
  have MR := (Mut.new w #[.slice none 0 0, .int .i64 0, .slice none 0 0, .int .i64 0, .int .i64 0, .int .i64 0, .slice none 0 0, .slice none 0 0] 27).alloc (.cells #[.string s, .int .i64 0, .int .i64 0] 85)
  have MB := Mut.new (w.alloc (.cells #[.slice none 0 0, .int .i64 0, .slice none 0 0, .int .i64 0, .int .i64 0, .int .i64 0, .slice none 0 0, .slice none 0 0] 27)) #[.string s, .int .i64 0, .int .i64 0] 85
  simp only [World.size_alloc] at MB
  have R : Rd ((w.alloc (.cells #[.slice none 0 0, .int .i64 0, .slice none 0 0, .int .i64 0, .int .i64 0, .int .i64 0, .slice none 0 0, .slice none 0 0] 27)).alloc (.cells #[.string s, .int .i64 0, .int .i64 0] 85)) (w.heap.size + 1) s (sbs s) 0 := ⟨fun _ => ⟨0, Nat.zero_le _, by simp, MB⟩, fun h => absurd rfl h⟩
  have d0 : Below w.heap.size w ((w.alloc (.cells #[.slice none 0 0, .int .i64 0, .slice none 0 0, .int .i64 0, .int .i64 0, .int .i64 0, .slice none 0 0, .slice none 0 0] 27)).alloc (.cells #[.string s, .int .i64 0, .int .i64 0] 85)) := below_box2 (Below.refl _ _)
  have z0 : w.heap.size + 1 < ((w.alloc (.cells #[.slice none 0 0, .int .i64 0, .slice none 0 0, .int .i64 0, .int .i64 0, .int .i64 0, .slice none 0 0, .slice none 0 0] 27)).alloc (.cells #[.string s, .int .i64 0, .int .i64 0] 85)).heap.size := by simp
  clear MB
  go_enter Try.func15, Try.ntmps15
  go_wp2_with fail
  generalize hWW : (w.alloc (.cells #[.slice none 0 0, .int .i64 0, .slice none 0 0, .int .i64 0, .int .i64 0, .int .i64 0, .slice none 0 0, .slice none 0 0] 27)).alloc (.cells #[.string s, .int .i64 0, .int .i64 0] 85) = W0 at *
  clear hWW
  refine (P0.out _ _ R).mono ?_
  rintro e W1 ⟨x0, Y0, rfl, O0, oo, R, hY0⟩
  have hx0 : ∀ k, x0.ownBlock = some k → W0.heap.size ≤ k ∧ k < W1.heap.size := fun k e => World.ownsRow.lt O0 k e
  have MR := MR.only oo (by omega)
  have d1 := d0.trans ((oo.below (by omega)).mono (by omega))
  have y1 := oo.2.2.2.1
  obtain ⟨p0, n0, rfl, _⟩ := ownP_row O0
  clear oo d0
  obtain rfl := hY0 (by first | rfl | trivial)
  have bb : Below W1.heap.size W1 (W1.alloc (.cells #[.slice p0 Y0.length n0, .int .i64 0, .slice none 0 0, .int .i64 0, .int .i64 0, .int .i64 0, .slice none 0 0, .slice none 0 0] 27)) := below_box (Below.refl _ _)
  have MU := Mut.new W1 #[.slice p0 Y0.length n0, .int .i64 0, .slice none 0 0, .int .i64 0, .int .i64 0, .int .i64 0, .slice none 0 0, .slice none 0 0] 27
  have MR := MR.below bb
  have O0 := ownP_below O0 bb
  have d2 := d1.trans (bb.mono d1.size)
  have y2 : W1.heap.size < (W1.alloc (.cells #[.slice p0 Y0.length n0, .int .i64 0, .slice none 0 0, .int .i64 0, .int .i64 0, .int .i64 0, .slice none 0 0, .slice none 0 0] 27)).heap.size := by simp
  have R := R.below bb
  clear bb
  obtain ⟨p, hp, hpL, Mb⟩ := R.1 rfl
  have hpe := rd_len hpL hp
  simp only [List.length_nil, Nat.add_zero] at hpe
  have hp1 : ¬ ((p : Int) < (s.size : Int)) := by omega
  have b1 := Mb.2.1 1 _ rfl
  have b2 := Mb.2.1 2 _ rfl
  have m0 := MR.2.1 0 _ rfl
  have m1 := MR.2.1 1 _ rfl
  have m2 := MR.2.1 2 _ rfl
  have m3 := MR.2.1 3 _ rfl
  have m4 := MR.2.1 4 _ rfl
  have m5 := MR.2.1 5 _ rfl
  have m6 := MR.2.1 6 _ rfl
  have m7 := MR.2.1 7 _ rfl
  have f0 := MR.2.2 0 (by simp)
  have f1 := MR.2.2 1 (by simp)
  have f2 := MR.2.2 2 (by simp)
  have f3 := MR.2.2 3 (by simp)
  have f4 := MR.2.2 4 (by simp)
  have f5 := MR.2.2 5 (by simp)
  have f6 := MR.2.2 6 (by simp)
  have f7 := MR.2.2 7 (by simp)
  have u0 := MU.2.1 0 _ rfl
  have u1 := MU.2.1 1 _ rfl
  have u2 := MU.2.1 2 _ rfl
  have u3 := MU.2.1 3 _ rfl
  have u4 := MU.2.1 4 _ rfl
  have u5 := MU.2.1 5 _ rfl
  have u6 := MU.2.1 6 _ rfl
  have u7 := MU.2.1 7 _ rfl
  obtain ⟨_, _, hsh, hRow, _⟩ := ownP_row O0
  simp only [Value.slice.injEq, true_and] at hsh
  obtain ⟨rfl, rfl⟩ := hsh
  clear hpL hp hpe Mb R
  go_wp2_with fail
  generalize hWW : W1.alloc (.cells #[.slice p0 Y0.length n0, .int .i64 0, .slice none 0 0, .int .i64 0, .int .i64 0, .int .i64 0, .slice none 0 0, .slice none 0 0] 27) = W2 at *
  clear hWW
  refine (GU.out _ _ _ _ _ _ _ _ _ hRow (RowN.nil _ _ _) (RowN.nil _ _ _) (RowP.nil _ _)).mono ?_
  rintro e W3 ⟨rfl, bb⟩
  have MR := MR.below bb
  have MU := MU.below bb
  have O0 := ownP_below O0 bb
  have d3 := d2.trans (bb.mono d2.size)
  have y3 := bb.size
  clear bb m0 m1 m2 m3 m4 m5 m6 m7 f0 f1 f2 f3 f4 f5 f6 f7 u0 u1 u2 u3 u4 u5 u6 u7 b1 b2
  have m0 := MR.2.1 0 _ rfl
  have m1 := MR.2.1 1 _ rfl
  have m2 := MR.2.1 2 _ rfl
  have m3 := MR.2.1 3 _ rfl
  have m4 := MR.2.1 4 _ rfl
  have m5 := MR.2.1 5 _ rfl
  have m6 := MR.2.1 6 _ rfl
  have m7 := MR.2.1 7 _ rfl
  have f0 := MR.2.2 0 (by simp)
  have f1 := MR.2.2 1 (by simp)
  have f2 := MR.2.2 2 (by simp)
  have f3 := MR.2.2 3 (by simp)
  have f4 := MR.2.2 4 (by simp)
  have f5 := MR.2.2 5 (by simp)
  have f6 := MR.2.2 6 (by simp)
  have f7 := MR.2.2 7 (by simp)
  have u0 := MU.2.1 0 _ rfl
  have u1 := MU.2.1 1 _ rfl
  have u2 := MU.2.1 2 _ rfl
  have u3 := MU.2.1 3 _ rfl
  have u4 := MU.2.1 4 _ rfl
  have u5 := MU.2.1 5 _ rfl
  have u6 := MU.2.1 6 _ rfl
  have u7 := MU.2.1 7 _ rfl
  cases g with
  | false =>
    go_wp2_with fail
    refine bodyPost_ret (v := ruNo 3) (by simp [ruNo, results, Try.results15, go_sem, m0, m1, m2, m3, m4, m5, m6, m7]) rfl ⟨rfl, ?_⟩
    refine Below.setCell (Below.setCell (Below.setCell (Below.setCell (Below.setCell (Below.setCell (Below.setCell (Below.setCell d3 ?_ _) ?_ _) ?_ _) ?_ _) ?_ _) ?_ _) ?_ _) ?_ _ <;> exact Nat.le_refl _
  | true =>
    go_wp2_with fail
    have oo : Only w.heap.size W3 (((((((((W3.setCell ⟨w.heap.size, 0, none⟩ (.slice p0 Y0.length n0)).setCell ⟨w.heap.size, 1, none⟩ (.int .i64 0)).setCell ⟨w.heap.size, 2, none⟩ (.slice none 0 0)).setCell ⟨w.heap.size, 3, none⟩ (.int .i64 0)).setCell ⟨w.heap.size, 4, none⟩ (.int .i64 0)).setCell ⟨w.heap.size, 5, none⟩ (.int .i64 0)).setCell ⟨w.heap.size, 6, none⟩ (.slice none 0 0)).setCell ⟨w.heap.size, 7, none⟩ (.slice none 0 0))) := (((((((Only.refl _ _).setCell _ _).setCell _ _).setCell _ _).setCell _ _).setCell _ _).setCell _ _).setCell _ _ |>.setCell _ _
    have O4 := ownP_base (ownP_only O0 oo (fun e => by have := hx0 _ e; omega)) (base' := w.heap.size) (by omega)
    have d5 := d3.trans (oo.below (by omega))
    clear oo O0 d3 MU MR
    exact bodyPost_ret (v := .tuple #[.agg #[.slice p0 Y0.length n0, .int .i64 0, .slice none 0 0, .int .i64 0, .int .i64 0, .int .i64 0, .slice none 0 0, .slice none 0 0], .int .i64 0, .bool true]) (by simp [results, Try.results15, go_sem, m0, m1, m2, m3, m4, m5, m6, m7]) rfl ⟨p0, n0, rfl, O4, d5⟩
set_option maxRecDepth 100000 in
set_option maxHeartbeats 6400000 in
theorem s_ru_at_code (s : ByteArray) (V0 : List Pf) (L0 : List Int) (c0 : Int) (V1 V5 : List Int) (V7 : List Pf) (v0 v2 v3 v4 : Int) (L1 L2 L3 L4 L5 L6 L7 : List Int) (c1 c2 c3 c4 c5 c6 c7 : Int) (w : World) (hs : s.size ≤ 1000) (hc : c0 = 0) (hL0 : L0 ≠ []) (h7 : c7 ≠ 0)
    (P0 : Hid (∀ b w, Rd w b s (sbs s) 0 → Calls Try.prog 63 #[.pointer (some ⟨b, 0, none⟩)] w fun e w' => ∃ v Y, e = .returned v ∧ OwnP w.heap.size v Y w' ∧ Only b w w' ∧ Rd w' b s L0 c0 ∧ (c0 = 0 → Y = V0)))
    (N1 : Hid (∀ b w, Rd w b s L0 c0 → Calls Try.prog 64 #[.pointer (some ⟨b, 0, none⟩), .int .i64 1] w fun e w' => e = .returned (.int .i64 v0) ∧ Rd w' b s L1 c1 ∧ Only b w w'))
    (N2 : Hid (∀ b w, Rd w b s L1 c1 → Calls Try.prog 65 #[.pointer (some ⟨b, 0, none⟩), .int .i64 2] w fun e w' => ∃ v Y, e = .returned v ∧ OwnN 3 .i64 w.heap.size v Y w' ∧ Only b w w' ∧ Rd w' b s L2 c2 ∧ (c2 = 0 → Y = V1)))
    (N3 : Hid (∀ b w, Rd w b s L2 c2 → Calls Try.prog 64 #[.pointer (some ⟨b, 0, none⟩), .int .i64 4] w fun e w' => e = .returned (.int .i64 v2) ∧ Rd w' b s L3 c3 ∧ Only b w w'))
    (N4 : Hid (∀ b w, Rd w b s L3 c3 → Calls Try.prog 64 #[.pointer (some ⟨b, 0, none⟩), .int .i64 3] w fun e w' => e = .returned (.int .i64 v3) ∧ Rd w' b s L4 c4 ∧ Only b w w'))
    (N5 : Hid (∀ b w, Rd w b s L4 c4 → Calls Try.prog 64 #[.pointer (some ⟨b, 0, none⟩), .int .i64 3] w fun e w' => e = .returned (.int .i64 v4) ∧ Rd w' b s L5 c5 ∧ Only b w w'))
    (N6 : Hid (∀ b w, Rd w b s L5 c5 → Calls Try.prog 65 #[.pointer (some ⟨b, 0, none⟩), .int .i64 3] w fun e w' => ∃ v Y, e = .returned v ∧ OwnN 3 .i64 w.heap.size v Y w' ∧ Only b w w' ∧ Rd w' b s L6 c6 ∧ (c6 = 0 → Y = V5)))
    (N7 : Hid (∀ b w, Rd w b s L6 c6 → Calls Try.prog 63 #[.pointer (some ⟨b, 0, none⟩)] w fun e w' => ∃ v Y, e = .returned v ∧ OwnP w.heap.size v Y w' ∧ Only b w w' ∧ Rd w' b s L7 c7 ∧ (c7 = 0 → Y = V7))) :
    Calls Try.prog 15 #[.string s] w fun e w' => e = .returned (ruNo c7) ∧ Below w.heap.size w w' := by
  subst hc
  have hs' : ¬ ((s.size : Int) > 1000) := by omega
  have MR := (Mut.new w #[.slice none 0 0, .int .i64 0, .slice none 0 0, .int .i64 0, .int .i64 0, .int .i64 0, .slice none 0 0, .slice none 0 0] 27).alloc (.cells #[.string s, .int .i64 0, .int .i64 0] 85)
  have MB := Mut.new (w.alloc (.cells #[.slice none 0 0, .int .i64 0, .slice none 0 0, .int .i64 0, .int .i64 0, .int .i64 0, .slice none 0 0, .slice none 0 0] 27)) #[.string s, .int .i64 0, .int .i64 0] 85
  simp only [World.size_alloc] at MB
  have R : Rd ((w.alloc (.cells #[.slice none 0 0, .int .i64 0, .slice none 0 0, .int .i64 0, .int .i64 0, .int .i64 0, .slice none 0 0, .slice none 0 0] 27)).alloc (.cells #[.string s, .int .i64 0, .int .i64 0] 85)) (w.heap.size + 1) s (sbs s) 0 := ⟨fun _ => ⟨0, Nat.zero_le _, by simp, MB⟩, fun h => absurd rfl h⟩
  have d0 : Below w.heap.size w ((w.alloc (.cells #[.slice none 0 0, .int .i64 0, .slice none 0 0, .int .i64 0, .int .i64 0, .int .i64 0, .slice none 0 0, .slice none 0 0] 27)).alloc (.cells #[.string s, .int .i64 0, .int .i64 0] 85)) := below_box2 (Below.refl _ _)
  have z0 : w.heap.size + 1 < ((w.alloc (.cells #[.slice none 0 0, .int .i64 0, .slice none 0 0, .int .i64 0, .int .i64 0, .int .i64 0, .slice none 0 0, .slice none 0 0] 27)).alloc (.cells #[.string s, .int .i64 0, .int .i64 0] 85)).heap.size := by simp
  clear MB
  go_enter Try.func15, Try.ntmps15
  go_wp2_with fail
  generalize hWW : (w.alloc (.cells #[.slice none 0 0, .int .i64 0, .slice none 0 0, .int .i64 0, .int .i64 0, .int .i64 0, .slice none 0 0, .slice none 0 0] 27)).alloc (.cells #[.string s, .int .i64 0, .int .i64 0] 85) = W0 at *
  clear hWW
  refine (P0.out _ _ R).mono ?_
  rintro e W1 ⟨x0, Y0, rfl, O0, oo, R, hY0⟩
  have hx0 : ∀ k, x0.ownBlock = some k → W0.heap.size ≤ k ∧ k < W1.heap.size := fun k e => World.ownsRow.lt O0 k e
  have MR := MR.only oo (by omega)
  have d1 := d0.trans ((oo.below (by omega)).mono (by omega))
  have y1 := oo.2.2.2.1
  obtain ⟨p0, n0, rfl, _⟩ := ownP_row O0
  clear oo d0
  obtain rfl := hY0 (by first | rfl | trivial)
  have bb : Below W1.heap.size W1 (W1.alloc (.cells #[.slice p0 Y0.length n0, .int .i64 0, .slice none 0 0, .int .i64 0, .int .i64 0, .int .i64 0, .slice none 0 0, .slice none 0 0] 27)) := below_box (Below.refl _ _)
  have MU := Mut.new W1 #[.slice p0 Y0.length n0, .int .i64 0, .slice none 0 0, .int .i64 0, .int .i64 0, .int .i64 0, .slice none 0 0, .slice none 0 0] 27
  have MR := MR.below bb
  have O0 := ownP_below O0 bb
  have d2 := d1.trans (bb.mono d1.size)
  have y2 : W1.heap.size < (W1.alloc (.cells #[.slice p0 Y0.length n0, .int .i64 0, .slice none 0 0, .int .i64 0, .int .i64 0, .int .i64 0, .slice none 0 0, .slice none 0 0] 27)).heap.size := by simp
  have R := R.below bb
  clear bb
  obtain ⟨p, hp, hpL, Mb⟩ := R.1 rfl
  have hpe := rd_len hpL hp
  have hpn : 0 < L0.length := List.length_pos_iff.2 hL0
  have hp1 : (p : Int) < (s.size : Int) := by omega
  have b1 := Mb.2.1 1 _ rfl
  have b2 := Mb.2.1 2 _ rfl
  clear hpL hp hpe hpn Mb hL0
  go_wp2_with fail
  clear b1 b2 hp1
  generalize hWW : W1.alloc (.cells #[.slice p0 Y0.length n0, .int .i64 0, .slice none 0 0, .int .i64 0, .int .i64 0, .int .i64 0, .slice none 0 0, .slice none 0 0] 27) = W2 at *
  clear hWW
  refine (N1.out _ _ R).mono ?_
  rintro e W3 ⟨rfl, R, oo⟩
  have MR := MR.only oo (by omega)
  have MU := MU.only oo (by omega)
  have d3 := d2.trans ((oo.below (by omega)).mono (by omega))
  have y3 := oo.2.2.2.1
  have O0 := ownP_only O0 oo (fun e => by have := hx0 _ e; omega)
  clear oo
  have us := MU.2.1 1 _ rfl
  have uf := MU.2.2 1 (by simp)
  go_wp2_with fail
  clear us uf
  have oo : Only W1.heap.size W3 (W3.setCell ⟨W1.heap.size, 1, none⟩ (.int .i64 v0)) := (Only.refl _ _).setCell _ _
  have MR := MR.only oo (by omega)
  have MU := MU.set 1 (.int .i64 v0)
  simp only [List.set_cons_succ, List.set_cons_zero] at MU
  have R := R.only oo (by omega)
  have d4 := d3.trans ((oo.below (by omega)).mono (by omega))
  have y4 := oo.2.2.2.1
  have O0 := ownP_only O0 oo (fun e => by have := hx0 _ e; omega)
  clear oo
  generalize hWW : W3.setCell ⟨W1.heap.size, 1, none⟩ (.int .i64 v0) = W4 at *
  clear hWW
  refine (N2.out _ _ R).mono ?_
  rintro e W5 ⟨x1, Y1, rfl, O1, oo, R, hYr⟩
  have hY1 := hide hYr
  clear hYr
  have hx1 : ∀ k, x1.ownBlock = some k → W4.heap.size ≤ k ∧ k < W5.heap.size := fun k e => World.ownsRow.lt O1 k e
  have MR := MR.only oo (by omega)
  have MU := MU.only oo (by omega)
  have d5 := d4.trans ((oo.below (by omega)).mono (by omega))
  have y5 := oo.2.2.2.1
  have O0 := ownP_only O0 oo (fun e => by have := hx0 _ e; omega)
  clear oo
  obtain ⟨p1, n1, rfl, _⟩ := ownN_row O1
  have us := MU.2.1 2 _ rfl
  have uf := MU.2.2 2 (by simp)
  go_wp2_with fail
  clear us uf
  have oo : Only W1.heap.size W5 (W5.setCell ⟨W1.heap.size, 2, none⟩ (.slice p1 Y1.length n1)) := (Only.refl _ _).setCell _ _
  have MR := MR.only oo (by omega)
  have MU := MU.set 2 (.slice p1 Y1.length n1)
  simp only [List.set_cons_succ, List.set_cons_zero] at MU
  have R := R.only oo (by omega)
  have d6 := d5.trans ((oo.below (by omega)).mono (by omega))
  have y6 := oo.2.2.2.1
  have O0 := ownP_only O0 oo (fun e => by have := hx0 _ e; omega)
  have O1 := ownN_only O1 oo (fun e => by have := hx1 _ e; omega)
  clear oo
  generalize hWW : W5.setCell ⟨W1.heap.size, 2, none⟩ (.slice p1 Y1.length n1) = W6 at *
  clear hWW
  refine (N3.out _ _ R).mono ?_
  rintro e W7 ⟨rfl, R, oo⟩
  have MR := MR.only oo (by omega)
  have MU := MU.only oo (by omega)
  have d7 := d6.trans ((oo.below (by omega)).mono (by omega))
  have y7 := oo.2.2.2.1
  have O0 := ownP_only O0 oo (fun e => by have := hx0 _ e; omega)
  have O1 := ownN_only O1 oo (fun e => by have := hx1 _ e; omega)
  clear oo
  have us := MU.2.1 3 _ rfl
  have uf := MU.2.2 3 (by simp)
  go_wp2_with fail
  clear us uf
  have oo : Only W1.heap.size W7 (W7.setCell ⟨W1.heap.size, 3, none⟩ (.int .i64 v2)) := (Only.refl _ _).setCell _ _
  have MR := MR.only oo (by omega)
  have MU := MU.set 3 (.int .i64 v2)
  simp only [List.set_cons_succ, List.set_cons_zero] at MU
  have R := R.only oo (by omega)
  have d8 := d7.trans ((oo.below (by omega)).mono (by omega))
  have y8 := oo.2.2.2.1
  have O0 := ownP_only O0 oo (fun e => by have := hx0 _ e; omega)
  have O1 := ownN_only O1 oo (fun e => by have := hx1 _ e; omega)
  clear oo
  generalize hWW : W7.setCell ⟨W1.heap.size, 3, none⟩ (.int .i64 v2) = W8 at *
  clear hWW
  refine (N4.out _ _ R).mono ?_
  rintro e W9 ⟨rfl, R, oo⟩
  have MR := MR.only oo (by omega)
  have MU := MU.only oo (by omega)
  have d9 := d8.trans ((oo.below (by omega)).mono (by omega))
  have y9 := oo.2.2.2.1
  have O0 := ownP_only O0 oo (fun e => by have := hx0 _ e; omega)
  have O1 := ownN_only O1 oo (fun e => by have := hx1 _ e; omega)
  clear oo
  have us := MU.2.1 4 _ rfl
  have uf := MU.2.2 4 (by simp)
  go_wp2_with fail
  clear us uf
  have oo : Only W1.heap.size W9 (W9.setCell ⟨W1.heap.size, 4, none⟩ (.int .i64 v3)) := (Only.refl _ _).setCell _ _
  have MR := MR.only oo (by omega)
  have MU := MU.set 4 (.int .i64 v3)
  simp only [List.set_cons_succ, List.set_cons_zero] at MU
  have R := R.only oo (by omega)
  have d10 := d9.trans ((oo.below (by omega)).mono (by omega))
  have y10 := oo.2.2.2.1
  have O0 := ownP_only O0 oo (fun e => by have := hx0 _ e; omega)
  have O1 := ownN_only O1 oo (fun e => by have := hx1 _ e; omega)
  clear oo
  generalize hWW : W9.setCell ⟨W1.heap.size, 4, none⟩ (.int .i64 v3) = W10 at *
  clear hWW
  refine (N5.out _ _ R).mono ?_
  rintro e W11 ⟨rfl, R, oo⟩
  have MR := MR.only oo (by omega)
  have MU := MU.only oo (by omega)
  have d11 := d10.trans ((oo.below (by omega)).mono (by omega))
  have y11 := oo.2.2.2.1
  have O0 := ownP_only O0 oo (fun e => by have := hx0 _ e; omega)
  have O1 := ownN_only O1 oo (fun e => by have := hx1 _ e; omega)
  clear oo
  have us := MU.2.1 5 _ rfl
  have uf := MU.2.2 5 (by simp)
  go_wp2_with fail
  clear us uf
  have oo : Only W1.heap.size W11 (W11.setCell ⟨W1.heap.size, 5, none⟩ (.int .i64 v4)) := (Only.refl _ _).setCell _ _
  have MR := MR.only oo (by omega)
  have MU := MU.set 5 (.int .i64 v4)
  simp only [List.set_cons_succ, List.set_cons_zero] at MU
  have R := R.only oo (by omega)
  have d12 := d11.trans ((oo.below (by omega)).mono (by omega))
  have y12 := oo.2.2.2.1
  have O0 := ownP_only O0 oo (fun e => by have := hx0 _ e; omega)
  have O1 := ownN_only O1 oo (fun e => by have := hx1 _ e; omega)
  clear oo
  generalize hWW : W11.setCell ⟨W1.heap.size, 5, none⟩ (.int .i64 v4) = W12 at *
  clear hWW
  refine (N6.out _ _ R).mono ?_
  rintro e W13 ⟨x5, Y5, rfl, O5, oo, R, hYr⟩
  have hY5 := hide hYr
  clear hYr
  have hx5 : ∀ k, x5.ownBlock = some k → W12.heap.size ≤ k ∧ k < W13.heap.size := fun k e => World.ownsRow.lt O5 k e
  have MR := MR.only oo (by omega)
  have MU := MU.only oo (by omega)
  have d13 := d12.trans ((oo.below (by omega)).mono (by omega))
  have y13 := oo.2.2.2.1
  have O0 := ownP_only O0 oo (fun e => by have := hx0 _ e; omega)
  have O1 := ownN_only O1 oo (fun e => by have := hx1 _ e; omega)
  clear oo
  obtain ⟨p5, n5, rfl, _⟩ := ownN_row O5
  have us := MU.2.1 6 _ rfl
  have uf := MU.2.2 6 (by simp)
  go_wp2_with fail
  clear us uf
  have oo : Only W1.heap.size W13 (W13.setCell ⟨W1.heap.size, 6, none⟩ (.slice p5 Y5.length n5)) := (Only.refl _ _).setCell _ _
  have MR := MR.only oo (by omega)
  have MU := MU.set 6 (.slice p5 Y5.length n5)
  simp only [List.set_cons_succ, List.set_cons_zero] at MU
  have R := R.only oo (by omega)
  have d14 := d13.trans ((oo.below (by omega)).mono (by omega))
  have y14 := oo.2.2.2.1
  have O0 := ownP_only O0 oo (fun e => by have := hx0 _ e; omega)
  have O1 := ownN_only O1 oo (fun e => by have := hx1 _ e; omega)
  have O5 := ownN_only O5 oo (fun e => by have := hx5 _ e; omega)
  clear oo
  generalize hWW : W13.setCell ⟨W1.heap.size, 6, none⟩ (.slice p5 Y5.length n5) = W14 at *
  clear hWW
  refine (N7.out _ _ R).mono ?_
  rintro e W15 ⟨x7, Y7, rfl, O7, oo, R, hYr⟩
  have hY7 := hide hYr
  clear hYr
  have hx7 : ∀ k, x7.ownBlock = some k → W14.heap.size ≤ k ∧ k < W15.heap.size := fun k e => World.ownsRow.lt O7 k e
  have MR := MR.only oo (by omega)
  have MU := MU.only oo (by omega)
  have d15 := d14.trans ((oo.below (by omega)).mono (by omega))
  have y15 := oo.2.2.2.1
  have O0 := ownP_only O0 oo (fun e => by have := hx0 _ e; omega)
  have O1 := ownN_only O1 oo (fun e => by have := hx1 _ e; omega)
  have O5 := ownN_only O5 oo (fun e => by have := hx5 _ e; omega)
  clear oo
  obtain ⟨p7, n7, rfl, _⟩ := ownP_row O7
  have us := MU.2.1 7 _ rfl
  have uf := MU.2.2 7 (by simp)
  have oo : Only W1.heap.size W15 (W15.setCell ⟨W1.heap.size, 7, none⟩ (.slice p7 Y7.length n7)) := (Only.refl _ _).setCell _ _
  have MR := MR.only oo (by omega)
  have MU := MU.set 7 (.slice p7 Y7.length n7)
  simp only [List.set_cons_succ, List.set_cons_zero] at MU
  have R := R.only oo (by omega)
  have d16 := d15.trans ((oo.below (by omega)).mono (by omega))
  have y16 := oo.2.2.2.1
  have O0 := ownP_only O0 oo (fun e => by have := hx0 _ e; omega)
  have O1 := ownN_only O1 oo (fun e => by have := hx1 _ e; omega)
  have O5 := ownN_only O5 oo (fun e => by have := hx5 _ e; omega)
  have O7 := ownP_only O7 oo (fun e => by have := hx7 _ e; omega)
  clear oo
  obtain ⟨p, Mb⟩ := R.mut
  have b2 := Mb.2.1 2 _ rfl
  have m0 := MR.2.1 0 _ rfl
  have m1 := MR.2.1 1 _ rfl
  have m2 := MR.2.1 2 _ rfl
  have m3 := MR.2.1 3 _ rfl
  have m4 := MR.2.1 4 _ rfl
  have m5 := MR.2.1 5 _ rfl
  have m6 := MR.2.1 6 _ rfl
  have m7 := MR.2.1 7 _ rfl
  have f0 := MR.2.2 0 (by simp)
  have f1 := MR.2.2 1 (by simp)
  have f2 := MR.2.2 2 (by simp)
  have f3 := MR.2.2 3 (by simp)
  have f4 := MR.2.2 4 (by simp)
  have f5 := MR.2.2 5 (by simp)
  have f6 := MR.2.2 6 (by simp)
  have f7 := MR.2.2 7 (by simp)
  have hc2 : (c7 != 0) = true := by simpa using h7
  clear Mb MU MR
  go_wp2_with fail
  clear us uf
  generalize W15.setCell ⟨W1.heap.size, 7, none⟩ (.slice p7 Y7.length n7) = WF at *
  go_region
  go_wp2_with fail
  refine bodyPost_ret (v := ruNo c7) (by simp [ruNo, results, Try.results15, go_sem, m0, m1, m2, m3, m4, m5, m6, m7]) rfl ⟨rfl, ?_⟩
  refine Below.drew ?_
  refine Below.setCell (Below.setCell (Below.setCell (Below.setCell (Below.setCell (Below.setCell (Below.setCell (Below.setCell d16 ?_ _) ?_ _) ?_ _) ?_ _) ?_ _) ?_ _) ?_ _) ?_ _ <;> exact Nat.le_refl _
set_option maxRecDepth 100000 in
set_option maxHeartbeats 6400000 in
theorem s_ru_at_two (s : ByteArray) (V0 : List Pf) (L0 : List Int) (c0 : Int) (V1 V5 : List Int) (V7 : List Pf) (v0 v2 v3 v4 : Int) (L1 L2 L3 L4 L5 L6 L7 : List Int) (c1 c2 c3 c4 c5 c6 c7 : Int) (w : World) (hs : s.size ≤ 1000) (hc : c0 = 0) (hL0 : L0 ≠ []) (h7 : c7 = 0) (hL7 : L7 ≠ [])
    (P0 : Hid (∀ b w, Rd w b s (sbs s) 0 → Calls Try.prog 63 #[.pointer (some ⟨b, 0, none⟩)] w fun e w' => ∃ v Y, e = .returned v ∧ OwnP w.heap.size v Y w' ∧ Only b w w' ∧ Rd w' b s L0 c0 ∧ (c0 = 0 → Y = V0)))
    (N1 : Hid (∀ b w, Rd w b s L0 c0 → Calls Try.prog 64 #[.pointer (some ⟨b, 0, none⟩), .int .i64 1] w fun e w' => e = .returned (.int .i64 v0) ∧ Rd w' b s L1 c1 ∧ Only b w w'))
    (N2 : Hid (∀ b w, Rd w b s L1 c1 → Calls Try.prog 65 #[.pointer (some ⟨b, 0, none⟩), .int .i64 2] w fun e w' => ∃ v Y, e = .returned v ∧ OwnN 3 .i64 w.heap.size v Y w' ∧ Only b w w' ∧ Rd w' b s L2 c2 ∧ (c2 = 0 → Y = V1)))
    (N3 : Hid (∀ b w, Rd w b s L2 c2 → Calls Try.prog 64 #[.pointer (some ⟨b, 0, none⟩), .int .i64 4] w fun e w' => e = .returned (.int .i64 v2) ∧ Rd w' b s L3 c3 ∧ Only b w w'))
    (N4 : Hid (∀ b w, Rd w b s L3 c3 → Calls Try.prog 64 #[.pointer (some ⟨b, 0, none⟩), .int .i64 3] w fun e w' => e = .returned (.int .i64 v3) ∧ Rd w' b s L4 c4 ∧ Only b w w'))
    (N5 : Hid (∀ b w, Rd w b s L4 c4 → Calls Try.prog 64 #[.pointer (some ⟨b, 0, none⟩), .int .i64 3] w fun e w' => e = .returned (.int .i64 v4) ∧ Rd w' b s L5 c5 ∧ Only b w w'))
    (N6 : Hid (∀ b w, Rd w b s L5 c5 → Calls Try.prog 65 #[.pointer (some ⟨b, 0, none⟩), .int .i64 3] w fun e w' => ∃ v Y, e = .returned v ∧ OwnN 3 .i64 w.heap.size v Y w' ∧ Only b w w' ∧ Rd w' b s L6 c6 ∧ (c6 = 0 → Y = V5)))
    (N7 : Hid (∀ b w, Rd w b s L6 c6 → Calls Try.prog 63 #[.pointer (some ⟨b, 0, none⟩)] w fun e w' => ∃ v Y, e = .returned v ∧ OwnP w.heap.size v Y w' ∧ Only b w w' ∧ Rd w' b s L7 c7 ∧ (c7 = 0 → Y = V7))) :
    Calls Try.prog 15 #[.string s] w fun e w' => e = .returned (ruNo 2) ∧ Below w.heap.size w w' := by
  subst hc
  have hs' : ¬ ((s.size : Int) > 1000) := by omega
  have MR := (Mut.new w #[.slice none 0 0, .int .i64 0, .slice none 0 0, .int .i64 0, .int .i64 0, .int .i64 0, .slice none 0 0, .slice none 0 0] 27).alloc (.cells #[.string s, .int .i64 0, .int .i64 0] 85)
  have MB := Mut.new (w.alloc (.cells #[.slice none 0 0, .int .i64 0, .slice none 0 0, .int .i64 0, .int .i64 0, .int .i64 0, .slice none 0 0, .slice none 0 0] 27)) #[.string s, .int .i64 0, .int .i64 0] 85
  simp only [World.size_alloc] at MB
  have R : Rd ((w.alloc (.cells #[.slice none 0 0, .int .i64 0, .slice none 0 0, .int .i64 0, .int .i64 0, .int .i64 0, .slice none 0 0, .slice none 0 0] 27)).alloc (.cells #[.string s, .int .i64 0, .int .i64 0] 85)) (w.heap.size + 1) s (sbs s) 0 := ⟨fun _ => ⟨0, Nat.zero_le _, by simp, MB⟩, fun h => absurd rfl h⟩
  have d0 : Below w.heap.size w ((w.alloc (.cells #[.slice none 0 0, .int .i64 0, .slice none 0 0, .int .i64 0, .int .i64 0, .int .i64 0, .slice none 0 0, .slice none 0 0] 27)).alloc (.cells #[.string s, .int .i64 0, .int .i64 0] 85)) := below_box2 (Below.refl _ _)
  have z0 : w.heap.size + 1 < ((w.alloc (.cells #[.slice none 0 0, .int .i64 0, .slice none 0 0, .int .i64 0, .int .i64 0, .int .i64 0, .slice none 0 0, .slice none 0 0] 27)).alloc (.cells #[.string s, .int .i64 0, .int .i64 0] 85)).heap.size := by simp
  clear MB
  go_enter Try.func15, Try.ntmps15
  go_wp2_with fail
  generalize hWW : (w.alloc (.cells #[.slice none 0 0, .int .i64 0, .slice none 0 0, .int .i64 0, .int .i64 0, .int .i64 0, .slice none 0 0, .slice none 0 0] 27)).alloc (.cells #[.string s, .int .i64 0, .int .i64 0] 85) = W0 at *
  clear hWW
  refine (P0.out _ _ R).mono ?_
  rintro e W1 ⟨x0, Y0, rfl, O0, oo, R, hY0⟩
  have hx0 : ∀ k, x0.ownBlock = some k → W0.heap.size ≤ k ∧ k < W1.heap.size := fun k e => World.ownsRow.lt O0 k e
  have MR := MR.only oo (by omega)
  have d1 := d0.trans ((oo.below (by omega)).mono (by omega))
  have y1 := oo.2.2.2.1
  obtain ⟨p0, n0, rfl, _⟩ := ownP_row O0
  clear oo d0
  obtain rfl := hY0 (by first | rfl | trivial)
  have bb : Below W1.heap.size W1 (W1.alloc (.cells #[.slice p0 Y0.length n0, .int .i64 0, .slice none 0 0, .int .i64 0, .int .i64 0, .int .i64 0, .slice none 0 0, .slice none 0 0] 27)) := below_box (Below.refl _ _)
  have MU := Mut.new W1 #[.slice p0 Y0.length n0, .int .i64 0, .slice none 0 0, .int .i64 0, .int .i64 0, .int .i64 0, .slice none 0 0, .slice none 0 0] 27
  have MR := MR.below bb
  have O0 := ownP_below O0 bb
  have d2 := d1.trans (bb.mono d1.size)
  have y2 : W1.heap.size < (W1.alloc (.cells #[.slice p0 Y0.length n0, .int .i64 0, .slice none 0 0, .int .i64 0, .int .i64 0, .int .i64 0, .slice none 0 0, .slice none 0 0] 27)).heap.size := by simp
  have R := R.below bb
  clear bb
  obtain ⟨p, hp, hpL, Mb⟩ := R.1 rfl
  have hpe := rd_len hpL hp
  have hpn : 0 < L0.length := List.length_pos_iff.2 hL0
  have hp1 : (p : Int) < (s.size : Int) := by omega
  have b1 := Mb.2.1 1 _ rfl
  have b2 := Mb.2.1 2 _ rfl
  clear hpL hp hpe hpn Mb hL0
  go_wp2_with fail
  clear b1 b2 hp1
  generalize hWW : W1.alloc (.cells #[.slice p0 Y0.length n0, .int .i64 0, .slice none 0 0, .int .i64 0, .int .i64 0, .int .i64 0, .slice none 0 0, .slice none 0 0] 27) = W2 at *
  clear hWW
  refine (N1.out _ _ R).mono ?_
  rintro e W3 ⟨rfl, R, oo⟩
  have MR := MR.only oo (by omega)
  have MU := MU.only oo (by omega)
  have d3 := d2.trans ((oo.below (by omega)).mono (by omega))
  have y3 := oo.2.2.2.1
  have O0 := ownP_only O0 oo (fun e => by have := hx0 _ e; omega)
  clear oo
  have us := MU.2.1 1 _ rfl
  have uf := MU.2.2 1 (by simp)
  go_wp2_with fail
  clear us uf
  have oo : Only W1.heap.size W3 (W3.setCell ⟨W1.heap.size, 1, none⟩ (.int .i64 v0)) := (Only.refl _ _).setCell _ _
  have MR := MR.only oo (by omega)
  have MU := MU.set 1 (.int .i64 v0)
  simp only [List.set_cons_succ, List.set_cons_zero] at MU
  have R := R.only oo (by omega)
  have d4 := d3.trans ((oo.below (by omega)).mono (by omega))
  have y4 := oo.2.2.2.1
  have O0 := ownP_only O0 oo (fun e => by have := hx0 _ e; omega)
  clear oo
  generalize hWW : W3.setCell ⟨W1.heap.size, 1, none⟩ (.int .i64 v0) = W4 at *
  clear hWW
  refine (N2.out _ _ R).mono ?_
  rintro e W5 ⟨x1, Y1, rfl, O1, oo, R, hYr⟩
  have hY1 := hide hYr
  clear hYr
  have hx1 : ∀ k, x1.ownBlock = some k → W4.heap.size ≤ k ∧ k < W5.heap.size := fun k e => World.ownsRow.lt O1 k e
  have MR := MR.only oo (by omega)
  have MU := MU.only oo (by omega)
  have d5 := d4.trans ((oo.below (by omega)).mono (by omega))
  have y5 := oo.2.2.2.1
  have O0 := ownP_only O0 oo (fun e => by have := hx0 _ e; omega)
  clear oo
  obtain ⟨p1, n1, rfl, _⟩ := ownN_row O1
  have us := MU.2.1 2 _ rfl
  have uf := MU.2.2 2 (by simp)
  go_wp2_with fail
  clear us uf
  have oo : Only W1.heap.size W5 (W5.setCell ⟨W1.heap.size, 2, none⟩ (.slice p1 Y1.length n1)) := (Only.refl _ _).setCell _ _
  have MR := MR.only oo (by omega)
  have MU := MU.set 2 (.slice p1 Y1.length n1)
  simp only [List.set_cons_succ, List.set_cons_zero] at MU
  have R := R.only oo (by omega)
  have d6 := d5.trans ((oo.below (by omega)).mono (by omega))
  have y6 := oo.2.2.2.1
  have O0 := ownP_only O0 oo (fun e => by have := hx0 _ e; omega)
  have O1 := ownN_only O1 oo (fun e => by have := hx1 _ e; omega)
  clear oo
  generalize hWW : W5.setCell ⟨W1.heap.size, 2, none⟩ (.slice p1 Y1.length n1) = W6 at *
  clear hWW
  refine (N3.out _ _ R).mono ?_
  rintro e W7 ⟨rfl, R, oo⟩
  have MR := MR.only oo (by omega)
  have MU := MU.only oo (by omega)
  have d7 := d6.trans ((oo.below (by omega)).mono (by omega))
  have y7 := oo.2.2.2.1
  have O0 := ownP_only O0 oo (fun e => by have := hx0 _ e; omega)
  have O1 := ownN_only O1 oo (fun e => by have := hx1 _ e; omega)
  clear oo
  have us := MU.2.1 3 _ rfl
  have uf := MU.2.2 3 (by simp)
  go_wp2_with fail
  clear us uf
  have oo : Only W1.heap.size W7 (W7.setCell ⟨W1.heap.size, 3, none⟩ (.int .i64 v2)) := (Only.refl _ _).setCell _ _
  have MR := MR.only oo (by omega)
  have MU := MU.set 3 (.int .i64 v2)
  simp only [List.set_cons_succ, List.set_cons_zero] at MU
  have R := R.only oo (by omega)
  have d8 := d7.trans ((oo.below (by omega)).mono (by omega))
  have y8 := oo.2.2.2.1
  have O0 := ownP_only O0 oo (fun e => by have := hx0 _ e; omega)
  have O1 := ownN_only O1 oo (fun e => by have := hx1 _ e; omega)
  clear oo
  generalize hWW : W7.setCell ⟨W1.heap.size, 3, none⟩ (.int .i64 v2) = W8 at *
  clear hWW
  refine (N4.out _ _ R).mono ?_
  rintro e W9 ⟨rfl, R, oo⟩
  have MR := MR.only oo (by omega)
  have MU := MU.only oo (by omega)
  have d9 := d8.trans ((oo.below (by omega)).mono (by omega))
  have y9 := oo.2.2.2.1
  have O0 := ownP_only O0 oo (fun e => by have := hx0 _ e; omega)
  have O1 := ownN_only O1 oo (fun e => by have := hx1 _ e; omega)
  clear oo
  have us := MU.2.1 4 _ rfl
  have uf := MU.2.2 4 (by simp)
  go_wp2_with fail
  clear us uf
  have oo : Only W1.heap.size W9 (W9.setCell ⟨W1.heap.size, 4, none⟩ (.int .i64 v3)) := (Only.refl _ _).setCell _ _
  have MR := MR.only oo (by omega)
  have MU := MU.set 4 (.int .i64 v3)
  simp only [List.set_cons_succ, List.set_cons_zero] at MU
  have R := R.only oo (by omega)
  have d10 := d9.trans ((oo.below (by omega)).mono (by omega))
  have y10 := oo.2.2.2.1
  have O0 := ownP_only O0 oo (fun e => by have := hx0 _ e; omega)
  have O1 := ownN_only O1 oo (fun e => by have := hx1 _ e; omega)
  clear oo
  generalize hWW : W9.setCell ⟨W1.heap.size, 4, none⟩ (.int .i64 v3) = W10 at *
  clear hWW
  refine (N5.out _ _ R).mono ?_
  rintro e W11 ⟨rfl, R, oo⟩
  have MR := MR.only oo (by omega)
  have MU := MU.only oo (by omega)
  have d11 := d10.trans ((oo.below (by omega)).mono (by omega))
  have y11 := oo.2.2.2.1
  have O0 := ownP_only O0 oo (fun e => by have := hx0 _ e; omega)
  have O1 := ownN_only O1 oo (fun e => by have := hx1 _ e; omega)
  clear oo
  have us := MU.2.1 5 _ rfl
  have uf := MU.2.2 5 (by simp)
  go_wp2_with fail
  clear us uf
  have oo : Only W1.heap.size W11 (W11.setCell ⟨W1.heap.size, 5, none⟩ (.int .i64 v4)) := (Only.refl _ _).setCell _ _
  have MR := MR.only oo (by omega)
  have MU := MU.set 5 (.int .i64 v4)
  simp only [List.set_cons_succ, List.set_cons_zero] at MU
  have R := R.only oo (by omega)
  have d12 := d11.trans ((oo.below (by omega)).mono (by omega))
  have y12 := oo.2.2.2.1
  have O0 := ownP_only O0 oo (fun e => by have := hx0 _ e; omega)
  have O1 := ownN_only O1 oo (fun e => by have := hx1 _ e; omega)
  clear oo
  generalize hWW : W11.setCell ⟨W1.heap.size, 5, none⟩ (.int .i64 v4) = W12 at *
  clear hWW
  refine (N6.out _ _ R).mono ?_
  rintro e W13 ⟨x5, Y5, rfl, O5, oo, R, hYr⟩
  have hY5 := hide hYr
  clear hYr
  have hx5 : ∀ k, x5.ownBlock = some k → W12.heap.size ≤ k ∧ k < W13.heap.size := fun k e => World.ownsRow.lt O5 k e
  have MR := MR.only oo (by omega)
  have MU := MU.only oo (by omega)
  have d13 := d12.trans ((oo.below (by omega)).mono (by omega))
  have y13 := oo.2.2.2.1
  have O0 := ownP_only O0 oo (fun e => by have := hx0 _ e; omega)
  have O1 := ownN_only O1 oo (fun e => by have := hx1 _ e; omega)
  clear oo
  obtain ⟨p5, n5, rfl, _⟩ := ownN_row O5
  have us := MU.2.1 6 _ rfl
  have uf := MU.2.2 6 (by simp)
  go_wp2_with fail
  clear us uf
  have oo : Only W1.heap.size W13 (W13.setCell ⟨W1.heap.size, 6, none⟩ (.slice p5 Y5.length n5)) := (Only.refl _ _).setCell _ _
  have MR := MR.only oo (by omega)
  have MU := MU.set 6 (.slice p5 Y5.length n5)
  simp only [List.set_cons_succ, List.set_cons_zero] at MU
  have R := R.only oo (by omega)
  have d14 := d13.trans ((oo.below (by omega)).mono (by omega))
  have y14 := oo.2.2.2.1
  have O0 := ownP_only O0 oo (fun e => by have := hx0 _ e; omega)
  have O1 := ownN_only O1 oo (fun e => by have := hx1 _ e; omega)
  have O5 := ownN_only O5 oo (fun e => by have := hx5 _ e; omega)
  clear oo
  generalize hWW : W13.setCell ⟨W1.heap.size, 6, none⟩ (.slice p5 Y5.length n5) = W14 at *
  clear hWW
  refine (N7.out _ _ R).mono ?_
  rintro e W15 ⟨x7, Y7, rfl, O7, oo, R, hYr⟩
  have hY7 := hide hYr
  clear hYr
  have hx7 : ∀ k, x7.ownBlock = some k → W14.heap.size ≤ k ∧ k < W15.heap.size := fun k e => World.ownsRow.lt O7 k e
  have MR := MR.only oo (by omega)
  have MU := MU.only oo (by omega)
  have d15 := d14.trans ((oo.below (by omega)).mono (by omega))
  have y15 := oo.2.2.2.1
  have O0 := ownP_only O0 oo (fun e => by have := hx0 _ e; omega)
  have O1 := ownN_only O1 oo (fun e => by have := hx1 _ e; omega)
  have O5 := ownN_only O5 oo (fun e => by have := hx5 _ e; omega)
  clear oo
  obtain ⟨p7, n7, rfl, _⟩ := ownP_row O7
  have us := MU.2.1 7 _ rfl
  have uf := MU.2.2 7 (by simp)
  have oo : Only W1.heap.size W15 (W15.setCell ⟨W1.heap.size, 7, none⟩ (.slice p7 Y7.length n7)) := (Only.refl _ _).setCell _ _
  have MR := MR.only oo (by omega)
  have MU := MU.set 7 (.slice p7 Y7.length n7)
  simp only [List.set_cons_succ, List.set_cons_zero] at MU
  have R := R.only oo (by omega)
  have d16 := d15.trans ((oo.below (by omega)).mono (by omega))
  have y16 := oo.2.2.2.1
  have O0 := ownP_only O0 oo (fun e => by have := hx0 _ e; omega)
  have O1 := ownN_only O1 oo (fun e => by have := hx1 _ e; omega)
  have O5 := ownN_only O5 oo (fun e => by have := hx5 _ e; omega)
  have O7 := ownP_only O7 oo (fun e => by have := hx7 _ e; omega)
  clear oo
  subst h7
  obtain ⟨p, hp, hpL, Mb⟩ := R.1 rfl
  have hpe := rd_len hpL hp
  have hpn : 0 < L7.length := List.length_pos_iff.2 hL7
  have hp1 : (p : Int) < (s.size : Int) := by omega
  clear hpn hL7
  have b1 := Mb.2.1 1 _ rfl
  have b2 := Mb.2.1 2 _ rfl
  have m0 := MR.2.1 0 _ rfl
  have m1 := MR.2.1 1 _ rfl
  have m2 := MR.2.1 2 _ rfl
  have m3 := MR.2.1 3 _ rfl
  have m4 := MR.2.1 4 _ rfl
  have m5 := MR.2.1 5 _ rfl
  have m6 := MR.2.1 6 _ rfl
  have m7 := MR.2.1 7 _ rfl
  have f0 := MR.2.2 0 (by simp)
  have f1 := MR.2.2 1 (by simp)
  have f2 := MR.2.2 2 (by simp)
  have f3 := MR.2.2 3 (by simp)
  have f4 := MR.2.2 4 (by simp)
  have f5 := MR.2.2 5 (by simp)
  have f6 := MR.2.2 6 (by simp)
  have f7 := MR.2.2 7 (by simp)
  have u0 := MU.2.1 0 _ rfl
  have u1 := MU.2.1 1 _ rfl
  have u2 := MU.2.1 2 _ rfl
  have u3 := MU.2.1 3 _ rfl
  have u4 := MU.2.1 4 _ rfl
  have u5 := MU.2.1 5 _ rfl
  have u6 := MU.2.1 6 _ rfl
  have u7 := MU.2.1 7 _ rfl
  clear hpL hp hpe Mb R
  clear u0 u1 u2 u3 u4 u5 u6 u7 MU MR hY7
  go_wp2_with fail
  clear us uf
  refine bodyPost_ret (v := ruNo 2) (by simp [ruNo, results, Try.results15, go_sem, m0, m1, m2, m3, m4, m5, m6, m7]) rfl ⟨rfl, ?_⟩
  refine Below.setCell (Below.setCell (Below.setCell (Below.setCell (Below.setCell (Below.setCell (Below.setCell (Below.setCell d16 ?_ _) ?_ _) ?_ _) ?_ _) ?_ _) ?_ _) ?_ _) ?_ _ <;> exact Nat.le_refl _
set_option maxRecDepth 100000 in
set_option maxHeartbeats 6400000 in
theorem s_ru_at_none (s : ByteArray) (V0 : List Pf) (L0 : List Int) (c0 : Int) (V1 V5 : List Int) (V7 : List Pf) (v0 v2 v3 v4 : Int) (L1 L2 L3 L4 L5 L6 L7 : List Int) (c1 c2 c3 c4 c5 c6 c7 : Int) (w : World) (hs : s.size ≤ 1000) (hc : c0 = 0) (hL0 : L0 ≠ []) (h7 : c7 = 0) (hL7 : L7 = []) (hV7 : V7 = [])
    (P0 : Hid (∀ b w, Rd w b s (sbs s) 0 → Calls Try.prog 63 #[.pointer (some ⟨b, 0, none⟩)] w fun e w' => ∃ v Y, e = .returned v ∧ OwnP w.heap.size v Y w' ∧ Only b w w' ∧ Rd w' b s L0 c0 ∧ (c0 = 0 → Y = V0)))
    (N1 : Hid (∀ b w, Rd w b s L0 c0 → Calls Try.prog 64 #[.pointer (some ⟨b, 0, none⟩), .int .i64 1] w fun e w' => e = .returned (.int .i64 v0) ∧ Rd w' b s L1 c1 ∧ Only b w w'))
    (N2 : Hid (∀ b w, Rd w b s L1 c1 → Calls Try.prog 65 #[.pointer (some ⟨b, 0, none⟩), .int .i64 2] w fun e w' => ∃ v Y, e = .returned v ∧ OwnN 3 .i64 w.heap.size v Y w' ∧ Only b w w' ∧ Rd w' b s L2 c2 ∧ (c2 = 0 → Y = V1)))
    (N3 : Hid (∀ b w, Rd w b s L2 c2 → Calls Try.prog 64 #[.pointer (some ⟨b, 0, none⟩), .int .i64 4] w fun e w' => e = .returned (.int .i64 v2) ∧ Rd w' b s L3 c3 ∧ Only b w w'))
    (N4 : Hid (∀ b w, Rd w b s L3 c3 → Calls Try.prog 64 #[.pointer (some ⟨b, 0, none⟩), .int .i64 3] w fun e w' => e = .returned (.int .i64 v3) ∧ Rd w' b s L4 c4 ∧ Only b w w'))
    (N5 : Hid (∀ b w, Rd w b s L4 c4 → Calls Try.prog 64 #[.pointer (some ⟨b, 0, none⟩), .int .i64 3] w fun e w' => e = .returned (.int .i64 v4) ∧ Rd w' b s L5 c5 ∧ Only b w w'))
    (N6 : Hid (∀ b w, Rd w b s L5 c5 → Calls Try.prog 65 #[.pointer (some ⟨b, 0, none⟩), .int .i64 3] w fun e w' => ∃ v Y, e = .returned v ∧ OwnN 3 .i64 w.heap.size v Y w' ∧ Only b w w' ∧ Rd w' b s L6 c6 ∧ (c6 = 0 → Y = V5)))
    (N7 : Hid (∀ b w, Rd w b s L6 c6 → Calls Try.prog 63 #[.pointer (some ⟨b, 0, none⟩)] w fun e w' => ∃ v Y, e = .returned v ∧ OwnP w.heap.size v Y w' ∧ Only b w w' ∧ Rd w' b s L7 c7 ∧ (c7 = 0 → Y = V7))) :
    Calls Try.prog 15 #[.string s] w fun e w' => e = .returned (ruNo 3) ∧ Below w.heap.size w w' := by
  subst hc
  have hs' : ¬ ((s.size : Int) > 1000) := by omega
  have MR := (Mut.new w #[.slice none 0 0, .int .i64 0, .slice none 0 0, .int .i64 0, .int .i64 0, .int .i64 0, .slice none 0 0, .slice none 0 0] 27).alloc (.cells #[.string s, .int .i64 0, .int .i64 0] 85)
  have MB := Mut.new (w.alloc (.cells #[.slice none 0 0, .int .i64 0, .slice none 0 0, .int .i64 0, .int .i64 0, .int .i64 0, .slice none 0 0, .slice none 0 0] 27)) #[.string s, .int .i64 0, .int .i64 0] 85
  simp only [World.size_alloc] at MB
  have R : Rd ((w.alloc (.cells #[.slice none 0 0, .int .i64 0, .slice none 0 0, .int .i64 0, .int .i64 0, .int .i64 0, .slice none 0 0, .slice none 0 0] 27)).alloc (.cells #[.string s, .int .i64 0, .int .i64 0] 85)) (w.heap.size + 1) s (sbs s) 0 := ⟨fun _ => ⟨0, Nat.zero_le _, by simp, MB⟩, fun h => absurd rfl h⟩
  have d0 : Below w.heap.size w ((w.alloc (.cells #[.slice none 0 0, .int .i64 0, .slice none 0 0, .int .i64 0, .int .i64 0, .int .i64 0, .slice none 0 0, .slice none 0 0] 27)).alloc (.cells #[.string s, .int .i64 0, .int .i64 0] 85)) := below_box2 (Below.refl _ _)
  have z0 : w.heap.size + 1 < ((w.alloc (.cells #[.slice none 0 0, .int .i64 0, .slice none 0 0, .int .i64 0, .int .i64 0, .int .i64 0, .slice none 0 0, .slice none 0 0] 27)).alloc (.cells #[.string s, .int .i64 0, .int .i64 0] 85)).heap.size := by simp
  clear MB
  go_enter Try.func15, Try.ntmps15
  go_wp2_with fail
  generalize hWW : (w.alloc (.cells #[.slice none 0 0, .int .i64 0, .slice none 0 0, .int .i64 0, .int .i64 0, .int .i64 0, .slice none 0 0, .slice none 0 0] 27)).alloc (.cells #[.string s, .int .i64 0, .int .i64 0] 85) = W0 at *
  clear hWW
  refine (P0.out _ _ R).mono ?_
  rintro e W1 ⟨x0, Y0, rfl, O0, oo, R, hY0⟩
  have hx0 : ∀ k, x0.ownBlock = some k → W0.heap.size ≤ k ∧ k < W1.heap.size := fun k e => World.ownsRow.lt O0 k e
  have MR := MR.only oo (by omega)
  have d1 := d0.trans ((oo.below (by omega)).mono (by omega))
  have y1 := oo.2.2.2.1
  obtain ⟨p0, n0, rfl, _⟩ := ownP_row O0
  clear oo d0
  obtain rfl := hY0 (by first | rfl | trivial)
  have bb : Below W1.heap.size W1 (W1.alloc (.cells #[.slice p0 Y0.length n0, .int .i64 0, .slice none 0 0, .int .i64 0, .int .i64 0, .int .i64 0, .slice none 0 0, .slice none 0 0] 27)) := below_box (Below.refl _ _)
  have MU := Mut.new W1 #[.slice p0 Y0.length n0, .int .i64 0, .slice none 0 0, .int .i64 0, .int .i64 0, .int .i64 0, .slice none 0 0, .slice none 0 0] 27
  have MR := MR.below bb
  have O0 := ownP_below O0 bb
  have d2 := d1.trans (bb.mono d1.size)
  have y2 : W1.heap.size < (W1.alloc (.cells #[.slice p0 Y0.length n0, .int .i64 0, .slice none 0 0, .int .i64 0, .int .i64 0, .int .i64 0, .slice none 0 0, .slice none 0 0] 27)).heap.size := by simp
  have R := R.below bb
  clear bb
  obtain ⟨p, hp, hpL, Mb⟩ := R.1 rfl
  have hpe := rd_len hpL hp
  have hpn : 0 < L0.length := List.length_pos_iff.2 hL0
  have hp1 : (p : Int) < (s.size : Int) := by omega
  have b1 := Mb.2.1 1 _ rfl
  have b2 := Mb.2.1 2 _ rfl
  clear hpL hp hpe hpn Mb hL0
  go_wp2_with fail
  clear b1 b2 hp1
  generalize hWW : W1.alloc (.cells #[.slice p0 Y0.length n0, .int .i64 0, .slice none 0 0, .int .i64 0, .int .i64 0, .int .i64 0, .slice none 0 0, .slice none 0 0] 27) = W2 at *
  clear hWW
  refine (N1.out _ _ R).mono ?_
  rintro e W3 ⟨rfl, R, oo⟩
  have MR := MR.only oo (by omega)
  have MU := MU.only oo (by omega)
  have d3 := d2.trans ((oo.below (by omega)).mono (by omega))
  have y3 := oo.2.2.2.1
  have O0 := ownP_only O0 oo (fun e => by have := hx0 _ e; omega)
  clear oo
  have us := MU.2.1 1 _ rfl
  have uf := MU.2.2 1 (by simp)
  go_wp2_with fail
  clear us uf
  have oo : Only W1.heap.size W3 (W3.setCell ⟨W1.heap.size, 1, none⟩ (.int .i64 v0)) := (Only.refl _ _).setCell _ _
  have MR := MR.only oo (by omega)
  have MU := MU.set 1 (.int .i64 v0)
  simp only [List.set_cons_succ, List.set_cons_zero] at MU
  have R := R.only oo (by omega)
  have d4 := d3.trans ((oo.below (by omega)).mono (by omega))
  have y4 := oo.2.2.2.1
  have O0 := ownP_only O0 oo (fun e => by have := hx0 _ e; omega)
  clear oo
  generalize hWW : W3.setCell ⟨W1.heap.size, 1, none⟩ (.int .i64 v0) = W4 at *
  clear hWW
  refine (N2.out _ _ R).mono ?_
  rintro e W5 ⟨x1, Y1, rfl, O1, oo, R, hYr⟩
  have hY1 := hide hYr
  clear hYr
  have hx1 : ∀ k, x1.ownBlock = some k → W4.heap.size ≤ k ∧ k < W5.heap.size := fun k e => World.ownsRow.lt O1 k e
  have MR := MR.only oo (by omega)
  have MU := MU.only oo (by omega)
  have d5 := d4.trans ((oo.below (by omega)).mono (by omega))
  have y5 := oo.2.2.2.1
  have O0 := ownP_only O0 oo (fun e => by have := hx0 _ e; omega)
  clear oo
  obtain ⟨p1, n1, rfl, _⟩ := ownN_row O1
  have us := MU.2.1 2 _ rfl
  have uf := MU.2.2 2 (by simp)
  go_wp2_with fail
  clear us uf
  have oo : Only W1.heap.size W5 (W5.setCell ⟨W1.heap.size, 2, none⟩ (.slice p1 Y1.length n1)) := (Only.refl _ _).setCell _ _
  have MR := MR.only oo (by omega)
  have MU := MU.set 2 (.slice p1 Y1.length n1)
  simp only [List.set_cons_succ, List.set_cons_zero] at MU
  have R := R.only oo (by omega)
  have d6 := d5.trans ((oo.below (by omega)).mono (by omega))
  have y6 := oo.2.2.2.1
  have O0 := ownP_only O0 oo (fun e => by have := hx0 _ e; omega)
  have O1 := ownN_only O1 oo (fun e => by have := hx1 _ e; omega)
  clear oo
  generalize hWW : W5.setCell ⟨W1.heap.size, 2, none⟩ (.slice p1 Y1.length n1) = W6 at *
  clear hWW
  refine (N3.out _ _ R).mono ?_
  rintro e W7 ⟨rfl, R, oo⟩
  have MR := MR.only oo (by omega)
  have MU := MU.only oo (by omega)
  have d7 := d6.trans ((oo.below (by omega)).mono (by omega))
  have y7 := oo.2.2.2.1
  have O0 := ownP_only O0 oo (fun e => by have := hx0 _ e; omega)
  have O1 := ownN_only O1 oo (fun e => by have := hx1 _ e; omega)
  clear oo
  have us := MU.2.1 3 _ rfl
  have uf := MU.2.2 3 (by simp)
  go_wp2_with fail
  clear us uf
  have oo : Only W1.heap.size W7 (W7.setCell ⟨W1.heap.size, 3, none⟩ (.int .i64 v2)) := (Only.refl _ _).setCell _ _
  have MR := MR.only oo (by omega)
  have MU := MU.set 3 (.int .i64 v2)
  simp only [List.set_cons_succ, List.set_cons_zero] at MU
  have R := R.only oo (by omega)
  have d8 := d7.trans ((oo.below (by omega)).mono (by omega))
  have y8 := oo.2.2.2.1
  have O0 := ownP_only O0 oo (fun e => by have := hx0 _ e; omega)
  have O1 := ownN_only O1 oo (fun e => by have := hx1 _ e; omega)
  clear oo
  generalize hWW : W7.setCell ⟨W1.heap.size, 3, none⟩ (.int .i64 v2) = W8 at *
  clear hWW
  refine (N4.out _ _ R).mono ?_
  rintro e W9 ⟨rfl, R, oo⟩
  have MR := MR.only oo (by omega)
  have MU := MU.only oo (by omega)
  have d9 := d8.trans ((oo.below (by omega)).mono (by omega))
  have y9 := oo.2.2.2.1
  have O0 := ownP_only O0 oo (fun e => by have := hx0 _ e; omega)
  have O1 := ownN_only O1 oo (fun e => by have := hx1 _ e; omega)
  clear oo
  have us := MU.2.1 4 _ rfl
  have uf := MU.2.2 4 (by simp)
  go_wp2_with fail
  clear us uf
  have oo : Only W1.heap.size W9 (W9.setCell ⟨W1.heap.size, 4, none⟩ (.int .i64 v3)) := (Only.refl _ _).setCell _ _
  have MR := MR.only oo (by omega)
  have MU := MU.set 4 (.int .i64 v3)
  simp only [List.set_cons_succ, List.set_cons_zero] at MU
  have R := R.only oo (by omega)
  have d10 := d9.trans ((oo.below (by omega)).mono (by omega))
  have y10 := oo.2.2.2.1
  have O0 := ownP_only O0 oo (fun e => by have := hx0 _ e; omega)
  have O1 := ownN_only O1 oo (fun e => by have := hx1 _ e; omega)
  clear oo
  generalize hWW : W9.setCell ⟨W1.heap.size, 4, none⟩ (.int .i64 v3) = W10 at *
  clear hWW
  refine (N5.out _ _ R).mono ?_
  rintro e W11 ⟨rfl, R, oo⟩
  have MR := MR.only oo (by omega)
  have MU := MU.only oo (by omega)
  have d11 := d10.trans ((oo.below (by omega)).mono (by omega))
  have y11 := oo.2.2.2.1
  have O0 := ownP_only O0 oo (fun e => by have := hx0 _ e; omega)
  have O1 := ownN_only O1 oo (fun e => by have := hx1 _ e; omega)
  clear oo
  have us := MU.2.1 5 _ rfl
  have uf := MU.2.2 5 (by simp)
  go_wp2_with fail
  clear us uf
  have oo : Only W1.heap.size W11 (W11.setCell ⟨W1.heap.size, 5, none⟩ (.int .i64 v4)) := (Only.refl _ _).setCell _ _
  have MR := MR.only oo (by omega)
  have MU := MU.set 5 (.int .i64 v4)
  simp only [List.set_cons_succ, List.set_cons_zero] at MU
  have R := R.only oo (by omega)
  have d12 := d11.trans ((oo.below (by omega)).mono (by omega))
  have y12 := oo.2.2.2.1
  have O0 := ownP_only O0 oo (fun e => by have := hx0 _ e; omega)
  have O1 := ownN_only O1 oo (fun e => by have := hx1 _ e; omega)
  clear oo
  generalize hWW : W11.setCell ⟨W1.heap.size, 5, none⟩ (.int .i64 v4) = W12 at *
  clear hWW
  refine (N6.out _ _ R).mono ?_
  rintro e W13 ⟨x5, Y5, rfl, O5, oo, R, hYr⟩
  have hY5 := hide hYr
  clear hYr
  have hx5 : ∀ k, x5.ownBlock = some k → W12.heap.size ≤ k ∧ k < W13.heap.size := fun k e => World.ownsRow.lt O5 k e
  have MR := MR.only oo (by omega)
  have MU := MU.only oo (by omega)
  have d13 := d12.trans ((oo.below (by omega)).mono (by omega))
  have y13 := oo.2.2.2.1
  have O0 := ownP_only O0 oo (fun e => by have := hx0 _ e; omega)
  have O1 := ownN_only O1 oo (fun e => by have := hx1 _ e; omega)
  clear oo
  obtain ⟨p5, n5, rfl, _⟩ := ownN_row O5
  have us := MU.2.1 6 _ rfl
  have uf := MU.2.2 6 (by simp)
  go_wp2_with fail
  clear us uf
  have oo : Only W1.heap.size W13 (W13.setCell ⟨W1.heap.size, 6, none⟩ (.slice p5 Y5.length n5)) := (Only.refl _ _).setCell _ _
  have MR := MR.only oo (by omega)
  have MU := MU.set 6 (.slice p5 Y5.length n5)
  simp only [List.set_cons_succ, List.set_cons_zero] at MU
  have R := R.only oo (by omega)
  have d14 := d13.trans ((oo.below (by omega)).mono (by omega))
  have y14 := oo.2.2.2.1
  have O0 := ownP_only O0 oo (fun e => by have := hx0 _ e; omega)
  have O1 := ownN_only O1 oo (fun e => by have := hx1 _ e; omega)
  have O5 := ownN_only O5 oo (fun e => by have := hx5 _ e; omega)
  clear oo
  generalize hWW : W13.setCell ⟨W1.heap.size, 6, none⟩ (.slice p5 Y5.length n5) = W14 at *
  clear hWW
  refine (N7.out _ _ R).mono ?_
  rintro e W15 ⟨x7, Y7, rfl, O7, oo, R, hYr⟩
  have hY7 := hide hYr
  clear hYr
  have hx7 : ∀ k, x7.ownBlock = some k → W14.heap.size ≤ k ∧ k < W15.heap.size := fun k e => World.ownsRow.lt O7 k e
  have MR := MR.only oo (by omega)
  have MU := MU.only oo (by omega)
  have d15 := d14.trans ((oo.below (by omega)).mono (by omega))
  have y15 := oo.2.2.2.1
  have O0 := ownP_only O0 oo (fun e => by have := hx0 _ e; omega)
  have O1 := ownN_only O1 oo (fun e => by have := hx1 _ e; omega)
  have O5 := ownN_only O5 oo (fun e => by have := hx5 _ e; omega)
  clear oo
  obtain ⟨p7, n7, rfl, _⟩ := ownP_row O7
  have us := MU.2.1 7 _ rfl
  have uf := MU.2.2 7 (by simp)
  have oo : Only W1.heap.size W15 (W15.setCell ⟨W1.heap.size, 7, none⟩ (.slice p7 Y7.length n7)) := (Only.refl _ _).setCell _ _
  have MR := MR.only oo (by omega)
  have MU := MU.set 7 (.slice p7 Y7.length n7)
  simp only [List.set_cons_succ, List.set_cons_zero] at MU
  have R := R.only oo (by omega)
  have d16 := d15.trans ((oo.below (by omega)).mono (by omega))
  have y16 := oo.2.2.2.1
  have O0 := ownP_only O0 oo (fun e => by have := hx0 _ e; omega)
  have O1 := ownN_only O1 oo (fun e => by have := hx1 _ e; omega)
  have O5 := ownN_only O5 oo (fun e => by have := hx5 _ e; omega)
  have O7 := ownP_only O7 oo (fun e => by have := hx7 _ e; omega)
  clear oo
  subst h7
  obtain ⟨p, hp, hpL, Mb⟩ := R.1 rfl
  have hpe := rd_len hpL hp
  subst hL7
  simp only [List.length_nil, Nat.add_zero] at hpe
  have hp1 : ¬ ((p : Int) < (s.size : Int)) := by omega
  have b1 := Mb.2.1 1 _ rfl
  have b2 := Mb.2.1 2 _ rfl
  have m0 := MR.2.1 0 _ rfl
  have m1 := MR.2.1 1 _ rfl
  have m2 := MR.2.1 2 _ rfl
  have m3 := MR.2.1 3 _ rfl
  have m4 := MR.2.1 4 _ rfl
  have m5 := MR.2.1 5 _ rfl
  have m6 := MR.2.1 6 _ rfl
  have m7 := MR.2.1 7 _ rfl
  have f0 := MR.2.2 0 (by simp)
  have f1 := MR.2.2 1 (by simp)
  have f2 := MR.2.2 2 (by simp)
  have f3 := MR.2.2 3 (by simp)
  have f4 := MR.2.2 4 (by simp)
  have f5 := MR.2.2 5 (by simp)
  have f6 := MR.2.2 6 (by simp)
  have f7 := MR.2.2 7 (by simp)
  have u0 := MU.2.1 0 _ rfl
  have u1 := MU.2.1 1 _ rfl
  have u2 := MU.2.1 2 _ rfl
  have u3 := MU.2.1 3 _ rfl
  have u4 := MU.2.1 4 _ rfl
  have u5 := MU.2.1 5 _ rfl
  have u6 := MU.2.1 6 _ rfl
  have u7 := MU.2.1 7 _ rfl
  clear hpL hp hpe Mb R
  have h7e : Y7 = [] := (hY7.out (by first | rfl | trivial)).trans hV7
  have h7p : ((Y7.length : Int) == 0) = true := by rw [h7e]; rfl
  clear h7e hY7 MU MR
  go_wp2_with fail
  clear us uf
  refine bodyPost_ret (v := ruNo 3) (by simp [ruNo, results, Try.results15, go_sem, m0, m1, m2, m3, m4, m5, m6, m7]) rfl ⟨rfl, ?_⟩
  refine Below.setCell (Below.setCell (Below.setCell (Below.setCell (Below.setCell (Below.setCell (Below.setCell (Below.setCell d16 ?_ _) ?_ _) ?_ _) ?_ _) ?_ _) ?_ _) ?_ _) ?_ _ <;> exact Nat.le_refl _
set_option maxRecDepth 100000 in
set_option maxHeartbeats 6400000 in
theorem s_ru_at_good (s : ByteArray) (V0 : List Pf) (L0 : List Int) (c0 : Int) (g : Bool) (V1 V5 : List Int) (V7 : List Pf) (v0 v2 v3 v4 : Int) (L1 L2 L3 L4 L5 L6 L7 : List Int) (c1 c2 c3 c4 c5 c6 c7 : Int) (w : World) (hs : s.size ≤ 1000) (hc : c0 = 0) (hL0 : L0 ≠ []) (h7 : c7 = 0) (hL7 : L7 = []) (hV7 : V7 ≠ []) (h2 : c2 = 0) (h6 : c6 = 0)
    (P0 : Hid (∀ b w, Rd w b s (sbs s) 0 → Calls Try.prog 63 #[.pointer (some ⟨b, 0, none⟩)] w fun e w' => ∃ v Y, e = .returned v ∧ OwnP w.heap.size v Y w' ∧ Only b w w' ∧ Rd w' b s L0 c0 ∧ (c0 = 0 → Y = V0)))
    (N1 : Hid (∀ b w, Rd w b s L0 c0 → Calls Try.prog 64 #[.pointer (some ⟨b, 0, none⟩), .int .i64 1] w fun e w' => e = .returned (.int .i64 v0) ∧ Rd w' b s L1 c1 ∧ Only b w w'))
    (N2 : Hid (∀ b w, Rd w b s L1 c1 → Calls Try.prog 65 #[.pointer (some ⟨b, 0, none⟩), .int .i64 2] w fun e w' => ∃ v Y, e = .returned v ∧ OwnN 3 .i64 w.heap.size v Y w' ∧ Only b w w' ∧ Rd w' b s L2 c2 ∧ (c2 = 0 → Y = V1)))
    (N3 : Hid (∀ b w, Rd w b s L2 c2 → Calls Try.prog 64 #[.pointer (some ⟨b, 0, none⟩), .int .i64 4] w fun e w' => e = .returned (.int .i64 v2) ∧ Rd w' b s L3 c3 ∧ Only b w w'))
    (N4 : Hid (∀ b w, Rd w b s L3 c3 → Calls Try.prog 64 #[.pointer (some ⟨b, 0, none⟩), .int .i64 3] w fun e w' => e = .returned (.int .i64 v3) ∧ Rd w' b s L4 c4 ∧ Only b w w'))
    (N5 : Hid (∀ b w, Rd w b s L4 c4 → Calls Try.prog 64 #[.pointer (some ⟨b, 0, none⟩), .int .i64 3] w fun e w' => e = .returned (.int .i64 v4) ∧ Rd w' b s L5 c5 ∧ Only b w w'))
    (N6 : Hid (∀ b w, Rd w b s L5 c5 → Calls Try.prog 65 #[.pointer (some ⟨b, 0, none⟩), .int .i64 3] w fun e w' => ∃ v Y, e = .returned v ∧ OwnN 3 .i64 w.heap.size v Y w' ∧ Only b w w' ∧ Rd w' b s L6 c6 ∧ (c6 = 0 → Y = V5)))
    (N7 : Hid (∀ b w, Rd w b s L6 c6 → Calls Try.prog 63 #[.pointer (some ⟨b, 0, none⟩)] w fun e w' => ∃ v Y, e = .returned v ∧ OwnP w.heap.size v Y w' ∧ Only b w w' ∧ Rd w' b s L7 c7 ∧ (c7 = 0 → Y = V7)))
    (GU : Hid (∀ p0 n0 p1 n1 p5 n5 p7 n7 w, RowP p0 V0 w → RowN .i64 p1 V1 w → RowN .i64 p5 V5 w → RowP p7 V7 w → Calls Try.prog 66 #[.agg #[.slice p0 V0.length n0, .int .i64 v0, .slice p1 (V1 : List Int).length n1, .int .i64 v2, .int .i64 v3, .int .i64 v4, .slice p5 (V5 : List Int).length n5, .slice p7 (V7 : List Pf).length n7]] w fun e w' => e = .returned (.bool g) ∧ Below w.heap.size w w')) :
    Calls Try.prog 15 #[.string s] w fun e w' => (g = false → e = .returned (ruNo 3) ∧ Below w.heap.size w w') ∧ (g = true → ∃ p0 n0 p1 n1 p5 n5 p7 n7, e = .returned (.tuple #[.agg #[.slice p0 V0.length n0, .int .i64 v0, .slice p1 V1.length n1, .int .i64 v2, .int .i64 v3, .int .i64 v4, .slice p5 V5.length n5, .slice p7 V7.length n7], .int .i64 0, .bool true]) ∧ Own4 w.heap.size (.slice p0 V0.length n0) V0 (.slice p1 V1.length n1) V1 (.slice p5 V5.length n5) V5 (.slice p7 V7.length n7) V7 w' ∧ Below w.heap.size w w') := by
  subst hc
  have hs' : ¬ ((s.size : Int) > 1000) := by omega
  have MR := (Mut.new w #[.slice none 0 0, .int .i64 0, .slice none 0 0, .int .i64 0, .int .i64 0, .int .i64 0, .slice none 0 0, .slice none 0 0] 27).alloc (.cells #[.string s, .int .i64 0, .int .i64 0] 85)
  have MB := Mut.new (w.alloc (.cells #[.slice none 0 0, .int .i64 0, .slice none 0 0, .int .i64 0, .int .i64 0, .int .i64 0, .slice none 0 0, .slice none 0 0] 27)) #[.string s, .int .i64 0, .int .i64 0] 85
  simp only [World.size_alloc] at MB
  have R : Rd ((w.alloc (.cells #[.slice none 0 0, .int .i64 0, .slice none 0 0, .int .i64 0, .int .i64 0, .int .i64 0, .slice none 0 0, .slice none 0 0] 27)).alloc (.cells #[.string s, .int .i64 0, .int .i64 0] 85)) (w.heap.size + 1) s (sbs s) 0 := ⟨fun _ => ⟨0, Nat.zero_le _, by simp, MB⟩, fun h => absurd rfl h⟩
  have d0 : Below w.heap.size w ((w.alloc (.cells #[.slice none 0 0, .int .i64 0, .slice none 0 0, .int .i64 0, .int .i64 0, .int .i64 0, .slice none 0 0, .slice none 0 0] 27)).alloc (.cells #[.string s, .int .i64 0, .int .i64 0] 85)) := below_box2 (Below.refl _ _)
  have z0 : w.heap.size + 1 < ((w.alloc (.cells #[.slice none 0 0, .int .i64 0, .slice none 0 0, .int .i64 0, .int .i64 0, .int .i64 0, .slice none 0 0, .slice none 0 0] 27)).alloc (.cells #[.string s, .int .i64 0, .int .i64 0] 85)).heap.size := by simp
  clear MB
  go_enter Try.func15, Try.ntmps15
  go_wp2_with fail
  generalize hWW : (w.alloc (.cells #[.slice none 0 0, .int .i64 0, .slice none 0 0, .int .i64 0, .int .i64 0, .int .i64 0, .slice none 0 0, .slice none 0 0] 27)).alloc (.cells #[.string s, .int .i64 0, .int .i64 0] 85) = W0 at *
  clear hWW
  refine (P0.out _ _ R).mono ?_
  rintro e W1 ⟨x0, Y0, rfl, O0, oo, R, hY0⟩
  have hx0 : ∀ k, x0.ownBlock = some k → W0.heap.size ≤ k ∧ k < W1.heap.size := fun k e => World.ownsRow.lt O0 k e
  have MR := MR.only oo (by omega)
  have d1 := d0.trans ((oo.below (by omega)).mono (by omega))
  have y1 := oo.2.2.2.1
  obtain ⟨p0, n0, rfl, _⟩ := ownP_row O0
  clear oo d0
  obtain rfl := hY0 (by first | rfl | trivial)
  have bb : Below W1.heap.size W1 (W1.alloc (.cells #[.slice p0 Y0.length n0, .int .i64 0, .slice none 0 0, .int .i64 0, .int .i64 0, .int .i64 0, .slice none 0 0, .slice none 0 0] 27)) := below_box (Below.refl _ _)
  have MU := Mut.new W1 #[.slice p0 Y0.length n0, .int .i64 0, .slice none 0 0, .int .i64 0, .int .i64 0, .int .i64 0, .slice none 0 0, .slice none 0 0] 27
  have MR := MR.below bb
  have O0 := ownP_below O0 bb
  have d2 := d1.trans (bb.mono d1.size)
  have y2 : W1.heap.size < (W1.alloc (.cells #[.slice p0 Y0.length n0, .int .i64 0, .slice none 0 0, .int .i64 0, .int .i64 0, .int .i64 0, .slice none 0 0, .slice none 0 0] 27)).heap.size := by simp
  have R := R.below bb
  clear bb
  obtain ⟨p, hp, hpL, Mb⟩ := R.1 rfl
  have hpe := rd_len hpL hp
  have hpn : 0 < L0.length := List.length_pos_iff.2 hL0
  have hp1 : (p : Int) < (s.size : Int) := by omega
  have b1 := Mb.2.1 1 _ rfl
  have b2 := Mb.2.1 2 _ rfl
  clear hpL hp hpe hpn Mb hL0
  go_wp2_with fail
  clear b1 b2 hp1
  generalize hWW : W1.alloc (.cells #[.slice p0 Y0.length n0, .int .i64 0, .slice none 0 0, .int .i64 0, .int .i64 0, .int .i64 0, .slice none 0 0, .slice none 0 0] 27) = W2 at *
  clear hWW
  refine (N1.out _ _ R).mono ?_
  rintro e W3 ⟨rfl, R, oo⟩
  have MR := MR.only oo (by omega)
  have MU := MU.only oo (by omega)
  have d3 := d2.trans ((oo.below (by omega)).mono (by omega))
  have y3 := oo.2.2.2.1
  have O0 := ownP_only O0 oo (fun e => by have := hx0 _ e; omega)
  clear oo
  have us := MU.2.1 1 _ rfl
  have uf := MU.2.2 1 (by simp)
  go_wp2_with fail
  clear us uf
  have oo : Only W1.heap.size W3 (W3.setCell ⟨W1.heap.size, 1, none⟩ (.int .i64 v0)) := (Only.refl _ _).setCell _ _
  have MR := MR.only oo (by omega)
  have MU := MU.set 1 (.int .i64 v0)
  simp only [List.set_cons_succ, List.set_cons_zero] at MU
  have R := R.only oo (by omega)
  have d4 := d3.trans ((oo.below (by omega)).mono (by omega))
  have y4 := oo.2.2.2.1
  have O0 := ownP_only O0 oo (fun e => by have := hx0 _ e; omega)
  clear oo
  generalize hWW : W3.setCell ⟨W1.heap.size, 1, none⟩ (.int .i64 v0) = W4 at *
  clear hWW
  refine (N2.out _ _ R).mono ?_
  rintro e W5 ⟨x1, Y1, rfl, O1, oo, R, hYr⟩
  have hY1 := hide hYr
  clear hYr
  have hx1 : ∀ k, x1.ownBlock = some k → W4.heap.size ≤ k ∧ k < W5.heap.size := fun k e => World.ownsRow.lt O1 k e
  have MR := MR.only oo (by omega)
  have MU := MU.only oo (by omega)
  have d5 := d4.trans ((oo.below (by omega)).mono (by omega))
  have y5 := oo.2.2.2.1
  have O0 := ownP_only O0 oo (fun e => by have := hx0 _ e; omega)
  clear oo
  obtain ⟨p1, n1, rfl, _⟩ := ownN_row O1
  have us := MU.2.1 2 _ rfl
  have uf := MU.2.2 2 (by simp)
  go_wp2_with fail
  clear us uf
  have oo : Only W1.heap.size W5 (W5.setCell ⟨W1.heap.size, 2, none⟩ (.slice p1 Y1.length n1)) := (Only.refl _ _).setCell _ _
  have MR := MR.only oo (by omega)
  have MU := MU.set 2 (.slice p1 Y1.length n1)
  simp only [List.set_cons_succ, List.set_cons_zero] at MU
  have R := R.only oo (by omega)
  have d6 := d5.trans ((oo.below (by omega)).mono (by omega))
  have y6 := oo.2.2.2.1
  have O0 := ownP_only O0 oo (fun e => by have := hx0 _ e; omega)
  have O1 := ownN_only O1 oo (fun e => by have := hx1 _ e; omega)
  clear oo
  generalize hWW : W5.setCell ⟨W1.heap.size, 2, none⟩ (.slice p1 Y1.length n1) = W6 at *
  clear hWW
  refine (N3.out _ _ R).mono ?_
  rintro e W7 ⟨rfl, R, oo⟩
  have MR := MR.only oo (by omega)
  have MU := MU.only oo (by omega)
  have d7 := d6.trans ((oo.below (by omega)).mono (by omega))
  have y7 := oo.2.2.2.1
  have O0 := ownP_only O0 oo (fun e => by have := hx0 _ e; omega)
  have O1 := ownN_only O1 oo (fun e => by have := hx1 _ e; omega)
  clear oo
  have us := MU.2.1 3 _ rfl
  have uf := MU.2.2 3 (by simp)
  go_wp2_with fail
  clear us uf
  have oo : Only W1.heap.size W7 (W7.setCell ⟨W1.heap.size, 3, none⟩ (.int .i64 v2)) := (Only.refl _ _).setCell _ _
  have MR := MR.only oo (by omega)
  have MU := MU.set 3 (.int .i64 v2)
  simp only [List.set_cons_succ, List.set_cons_zero] at MU
  have R := R.only oo (by omega)
  have d8 := d7.trans ((oo.below (by omega)).mono (by omega))
  have y8 := oo.2.2.2.1
  have O0 := ownP_only O0 oo (fun e => by have := hx0 _ e; omega)
  have O1 := ownN_only O1 oo (fun e => by have := hx1 _ e; omega)
  clear oo
  generalize hWW : W7.setCell ⟨W1.heap.size, 3, none⟩ (.int .i64 v2) = W8 at *
  clear hWW
  refine (N4.out _ _ R).mono ?_
  rintro e W9 ⟨rfl, R, oo⟩
  have MR := MR.only oo (by omega)
  have MU := MU.only oo (by omega)
  have d9 := d8.trans ((oo.below (by omega)).mono (by omega))
  have y9 := oo.2.2.2.1
  have O0 := ownP_only O0 oo (fun e => by have := hx0 _ e; omega)
  have O1 := ownN_only O1 oo (fun e => by have := hx1 _ e; omega)
  clear oo
  have us := MU.2.1 4 _ rfl
  have uf := MU.2.2 4 (by simp)
  go_wp2_with fail
  clear us uf
  have oo : Only W1.heap.size W9 (W9.setCell ⟨W1.heap.size, 4, none⟩ (.int .i64 v3)) := (Only.refl _ _).setCell _ _
  have MR := MR.only oo (by omega)
  have MU := MU.set 4 (.int .i64 v3)
  simp only [List.set_cons_succ, List.set_cons_zero] at MU
  have R := R.only oo (by omega)
  have d10 := d9.trans ((oo.below (by omega)).mono (by omega))
  have y10 := oo.2.2.2.1
  have O0 := ownP_only O0 oo (fun e => by have := hx0 _ e; omega)
  have O1 := ownN_only O1 oo (fun e => by have := hx1 _ e; omega)
  clear oo
  generalize hWW : W9.setCell ⟨W1.heap.size, 4, none⟩ (.int .i64 v3) = W10 at *
  clear hWW
  refine (N5.out _ _ R).mono ?_
  rintro e W11 ⟨rfl, R, oo⟩
  have MR := MR.only oo (by omega)
  have MU := MU.only oo (by omega)
  have d11 := d10.trans ((oo.below (by omega)).mono (by omega))
  have y11 := oo.2.2.2.1
  have O0 := ownP_only O0 oo (fun e => by have := hx0 _ e; omega)
  have O1 := ownN_only O1 oo (fun e => by have := hx1 _ e; omega)
  clear oo
  have us := MU.2.1 5 _ rfl
  have uf := MU.2.2 5 (by simp)
  go_wp2_with fail
  clear us uf
  have oo : Only W1.heap.size W11 (W11.setCell ⟨W1.heap.size, 5, none⟩ (.int .i64 v4)) := (Only.refl _ _).setCell _ _
  have MR := MR.only oo (by omega)
  have MU := MU.set 5 (.int .i64 v4)
  simp only [List.set_cons_succ, List.set_cons_zero] at MU
  have R := R.only oo (by omega)
  have d12 := d11.trans ((oo.below (by omega)).mono (by omega))
  have y12 := oo.2.2.2.1
  have O0 := ownP_only O0 oo (fun e => by have := hx0 _ e; omega)
  have O1 := ownN_only O1 oo (fun e => by have := hx1 _ e; omega)
  clear oo
  generalize hWW : W11.setCell ⟨W1.heap.size, 5, none⟩ (.int .i64 v4) = W12 at *
  clear hWW
  refine (N6.out _ _ R).mono ?_
  rintro e W13 ⟨x5, Y5, rfl, O5, oo, R, hYr⟩
  have hY5 := hide hYr
  clear hYr
  have hx5 : ∀ k, x5.ownBlock = some k → W12.heap.size ≤ k ∧ k < W13.heap.size := fun k e => World.ownsRow.lt O5 k e
  have MR := MR.only oo (by omega)
  have MU := MU.only oo (by omega)
  have d13 := d12.trans ((oo.below (by omega)).mono (by omega))
  have y13 := oo.2.2.2.1
  have O0 := ownP_only O0 oo (fun e => by have := hx0 _ e; omega)
  have O1 := ownN_only O1 oo (fun e => by have := hx1 _ e; omega)
  clear oo
  obtain ⟨p5, n5, rfl, _⟩ := ownN_row O5
  have us := MU.2.1 6 _ rfl
  have uf := MU.2.2 6 (by simp)
  go_wp2_with fail
  clear us uf
  have oo : Only W1.heap.size W13 (W13.setCell ⟨W1.heap.size, 6, none⟩ (.slice p5 Y5.length n5)) := (Only.refl _ _).setCell _ _
  have MR := MR.only oo (by omega)
  have MU := MU.set 6 (.slice p5 Y5.length n5)
  simp only [List.set_cons_succ, List.set_cons_zero] at MU
  have R := R.only oo (by omega)
  have d14 := d13.trans ((oo.below (by omega)).mono (by omega))
  have y14 := oo.2.2.2.1
  have O0 := ownP_only O0 oo (fun e => by have := hx0 _ e; omega)
  have O1 := ownN_only O1 oo (fun e => by have := hx1 _ e; omega)
  have O5 := ownN_only O5 oo (fun e => by have := hx5 _ e; omega)
  clear oo
  generalize hWW : W13.setCell ⟨W1.heap.size, 6, none⟩ (.slice p5 Y5.length n5) = W14 at *
  clear hWW
  refine (N7.out _ _ R).mono ?_
  rintro e W15 ⟨x7, Y7, rfl, O7, oo, R, hYr⟩
  have hY7 := hide hYr
  clear hYr
  have hx7 : ∀ k, x7.ownBlock = some k → W14.heap.size ≤ k ∧ k < W15.heap.size := fun k e => World.ownsRow.lt O7 k e
  have MR := MR.only oo (by omega)
  have MU := MU.only oo (by omega)
  have d15 := d14.trans ((oo.below (by omega)).mono (by omega))
  have y15 := oo.2.2.2.1
  have O0 := ownP_only O0 oo (fun e => by have := hx0 _ e; omega)
  have O1 := ownN_only O1 oo (fun e => by have := hx1 _ e; omega)
  have O5 := ownN_only O5 oo (fun e => by have := hx5 _ e; omega)
  clear oo
  obtain ⟨p7, n7, rfl, _⟩ := ownP_row O7
  have us := MU.2.1 7 _ rfl
  have uf := MU.2.2 7 (by simp)
  have oo : Only W1.heap.size W15 (W15.setCell ⟨W1.heap.size, 7, none⟩ (.slice p7 Y7.length n7)) := (Only.refl _ _).setCell _ _
  have MR := MR.only oo (by omega)
  have MU := MU.set 7 (.slice p7 Y7.length n7)
  simp only [List.set_cons_succ, List.set_cons_zero] at MU
  have R := R.only oo (by omega)
  have d16 := d15.trans ((oo.below (by omega)).mono (by omega))
  have y16 := oo.2.2.2.1
  have O0 := ownP_only O0 oo (fun e => by have := hx0 _ e; omega)
  have O1 := ownN_only O1 oo (fun e => by have := hx1 _ e; omega)
  have O5 := ownN_only O5 oo (fun e => by have := hx5 _ e; omega)
  have O7 := ownP_only O7 oo (fun e => by have := hx7 _ e; omega)
  clear oo
  subst h7
  obtain ⟨p, hp, hpL, Mb⟩ := R.1 rfl
  have hpe := rd_len hpL hp
  subst hL7
  simp only [List.length_nil, Nat.add_zero] at hpe
  have hp1 : ¬ ((p : Int) < (s.size : Int)) := by omega
  have b1 := Mb.2.1 1 _ rfl
  have b2 := Mb.2.1 2 _ rfl
  have m0 := MR.2.1 0 _ rfl
  have m1 := MR.2.1 1 _ rfl
  have m2 := MR.2.1 2 _ rfl
  have m3 := MR.2.1 3 _ rfl
  have m4 := MR.2.1 4 _ rfl
  have m5 := MR.2.1 5 _ rfl
  have m6 := MR.2.1 6 _ rfl
  have m7 := MR.2.1 7 _ rfl
  have f0 := MR.2.2 0 (by simp)
  have f1 := MR.2.2 1 (by simp)
  have f2 := MR.2.2 2 (by simp)
  have f3 := MR.2.2 3 (by simp)
  have f4 := MR.2.2 4 (by simp)
  have f5 := MR.2.2 5 (by simp)
  have f6 := MR.2.2 6 (by simp)
  have f7 := MR.2.2 7 (by simp)
  have u0 := MU.2.1 0 _ rfl
  have u1 := MU.2.1 1 _ rfl
  have u2 := MU.2.1 2 _ rfl
  have u3 := MU.2.1 3 _ rfl
  have u4 := MU.2.1 4 _ rfl
  have u5 := MU.2.1 5 _ rfl
  have u6 := MU.2.1 6 _ rfl
  have u7 := MU.2.1 7 _ rfl
  clear hpL hp hpe Mb R
  obtain rfl := hY7.out (by first | rfl | trivial)
  obtain rfl := hY1.out h2
  obtain rfl := hY5.out h6
  have h7p : ((Y7.length : Int) == 0) = false := by
    cases Y7 with
    | nil => exact absurd rfl hV7
    | cons x Y => simp; omega
  obtain ⟨q0, e0, hsh, hRow0, _⟩ := ownP_row O0
  simp only [Value.slice.injEq, true_and] at hsh
  obtain ⟨rfl, rfl⟩ := hsh
  obtain ⟨q1, e1, hsh, hRow1, _⟩ := ownN_row O1
  simp only [Value.slice.injEq, true_and] at hsh
  obtain ⟨rfl, rfl⟩ := hsh
  obtain ⟨q5, e5, hsh, hRow5, _⟩ := ownN_row O5
  simp only [Value.slice.injEq, true_and] at hsh
  obtain ⟨rfl, rfl⟩ := hsh
  obtain ⟨q7, e7, hsh, hRow7, _⟩ := ownP_row O7
  simp only [Value.slice.injEq, true_and] at hsh
  obtain ⟨rfl, rfl⟩ := hsh
  go_wp2_with fail
  clear us uf
  generalize hWW : W15.setCell ⟨W1.heap.size, 7, none⟩ (.slice p7 Y7.length n7) = WF at *
  clear hWW
  refine (GU.out _ _ _ _ _ _ _ _ _ hRow0 hRow1 hRow5 hRow7).mono ?_
  rintro e WG ⟨rfl, bb⟩
  have MR := MR.below bb
  have MU := MU.below bb
  have O0 := ownP_below O0 bb
  have O1 := ownN_below O1 bb
  have O5 := ownN_below O5 bb
  have O7 := ownP_below O7 bb
  have dG := d16.trans (bb.mono d16.size)
  have yG := bb.size
  clear bb m0 m1 m2 m3 m4 m5 m6 m7 f0 f1 f2 f3 f4 f5 f6 f7 u0 u1 u2 u3 u4 u5 u6 u7 b1 b2 hRow0 hRow1 hRow5 hRow7
  have m0 := MR.2.1 0 _ rfl
  have m1 := MR.2.1 1 _ rfl
  have m2 := MR.2.1 2 _ rfl
  have m3 := MR.2.1 3 _ rfl
  have m4 := MR.2.1 4 _ rfl
  have m5 := MR.2.1 5 _ rfl
  have m6 := MR.2.1 6 _ rfl
  have m7 := MR.2.1 7 _ rfl
  have f0 := MR.2.2 0 (by simp)
  have f1 := MR.2.2 1 (by simp)
  have f2 := MR.2.2 2 (by simp)
  have f3 := MR.2.2 3 (by simp)
  have f4 := MR.2.2 4 (by simp)
  have f5 := MR.2.2 5 (by simp)
  have f6 := MR.2.2 6 (by simp)
  have f7 := MR.2.2 7 (by simp)
  have u0 := MU.2.1 0 _ rfl
  have u1 := MU.2.1 1 _ rfl
  have u2 := MU.2.1 2 _ rfl
  have u3 := MU.2.1 3 _ rfl
  have u4 := MU.2.1 4 _ rfl
  have u5 := MU.2.1 5 _ rfl
  have u6 := MU.2.1 6 _ rfl
  have u7 := MU.2.1 7 _ rfl
  cases g with
  | false =>
    go_wp2_with fail
    refine bodyPost_ret (v := ruNo 3) (by simp [ruNo, results, Try.results15, go_sem, m0, m1, m2, m3, m4, m5, m6, m7]) rfl ⟨rfl, ?_⟩
    refine Below.setCell (Below.setCell (Below.setCell (Below.setCell (Below.setCell (Below.setCell (Below.setCell (Below.setCell dG ?_ _) ?_ _) ?_ _) ?_ _) ?_ _) ?_ _) ?_ _) ?_ _ <;> exact Nat.le_refl _
  | true =>
    go_wp2_with fail
    have oo : Only w.heap.size WG ((((((((WG.setCell ⟨w.heap.size, 0, none⟩ (.slice p0 Y0.length n0)).setCell ⟨w.heap.size, 1, none⟩ (.int .i64 v0)).setCell ⟨w.heap.size, 2, none⟩ (.slice p1 Y1.length n1)).setCell ⟨w.heap.size, 3, none⟩ (.int .i64 v2)).setCell ⟨w.heap.size, 4, none⟩ (.int .i64 v3)).setCell ⟨w.heap.size, 5, none⟩ (.int .i64 v4)).setCell ⟨w.heap.size, 6, none⟩ (.slice p5 Y5.length n5)).setCell ⟨w.heap.size, 7, none⟩ (.slice p7 Y7.length n7)) := (((((((((Only.refl _ _).setCell _ _).setCell _ _).setCell _ _).setCell _ _).setCell _ _).setCell _ _).setCell _ _).setCell _ _)
    have O0 := ownP_base (ownP_only O0 oo (fun e => by have := hx0 _ e; omega)) (base' := w.heap.size) (by omega)
    have O1 := ownN_only O1 oo (fun e => by have := hx1 _ e; omega)
    have O5 := ownN_only O5 oo (fun e => by have := hx5 _ e; omega)
    have O7 := ownP_only O7 oo (fun e => by have := hx7 _ e; omega)
    have dF := dG.trans (oo.below (by omega))
    have HO : Own4 w.heap.size (.slice p0 Y0.length n0) Y0 (.slice p1 Y1.length n1) Y1 (.slice p5 Y5.length n5) Y5 (.slice p7 Y7.length n7) Y7 ((((((((WG.setCell ⟨w.heap.size, 0, none⟩ (.slice p0 Y0.length n0)).setCell ⟨w.heap.size, 1, none⟩ (.int .i64 v0)).setCell ⟨w.heap.size, 2, none⟩ (.slice p1 Y1.length n1)).setCell ⟨w.heap.size, 3, none⟩ (.int .i64 v2)).setCell ⟨w.heap.size, 4, none⟩ (.int .i64 v3)).setCell ⟨w.heap.size, 5, none⟩ (.int .i64 v4)).setCell ⟨w.heap.size, 6, none⟩ (.slice p5 Y5.length n5)).setCell ⟨w.heap.size, 7, none⟩ (.slice p7 Y7.length n7)) := ⟨W4.heap.size, W12.heap.size, W14.heap.size, O0, O1, O5, O7, by omega, by omega, by omega, fun k e => by have := hx0 k e; omega, fun k e => by have := hx1 k e; omega, fun k e => by have := hx5 k e; omega⟩
    clear oo O0 O1 O5 O7 dG MU MR
    exact bodyPost_ret (v := .tuple #[.agg #[.slice p0 Y0.length n0, .int .i64 v0, .slice p1 Y1.length n1, .int .i64 v2, .int .i64 v3, .int .i64 v4, .slice p5 Y5.length n5, .slice p7 Y7.length n7], .int .i64 0, .bool true]) (by simp [results, Try.results15, go_sem, m0, m1, m2, m3, m4, m5, m6, m7]) rfl ⟨p0, n0, p1, n1, p5, n5, p7, n7, rfl, HO, dF⟩
end Go.Proofs.Ytoeephmdklmpfaa
