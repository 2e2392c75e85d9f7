/- The law on FeedReader: the program answers as the specification. -/
import Derived.Test.YtoeephmdklmpfaaArg5
import Derived.Test.YtoeephmdklmpfaaS5f
import Derived.Deep.RegionHeld3
namespace Go.Proofs.Ytoeephmdklmpfaa
open Go.RowKit

theorem fdL_len {Y : ByteArray} {K : List Ms} {D : Int} {s : ByteArray} (h : K.length ≤ 40) : (fdL Y K D s).length ≤ 40 := by
  unfold fdL
  split
  · rw [List.length_append, List.length_take]; omega
  · exact h
theorem i_feed_yes (Y : ByteArray) (c cap : Nat) (K : List Ms) (D : Int) (s : ByteArray) (w : World) (hY : Y.size ≤ 1048576) (hl : K.length ≤ 1048576) (hs : s.size ≤ 300) (hg : grB Y K D = true) (hR : RowM (some ⟨c, 0, none⟩) K w) :
    Calls Try.prog 41 #[.agg #[.string Y, .slice (some ⟨c, 0, none⟩) K.length cap, .int .i64 D], .string s] w fun e w' => ∃ v, e = .returned (.tuple #[v, .bool true]) ∧ AnsR (fdX Y D s) (fdL Y K D s) (fdB Y D s) w v w' := by
  by_cases hD : D = 0
  · have k := i_feed_cut Y c cap K D s w hY hl hs hg hD hR
    unfold fdX fdL fdB
    rw [if_pos hD, if_pos hD, if_pos hD]
    exact k
  · have k := i_feed_bad Y c cap K D s w hY hl hs hg hD hR
    unfold fdX fdL fdB
    rw [if_neg hD, if_neg hD, if_neg hD]
    exact k
set_option maxRecDepth 100000 in
set_option maxHeartbeats 12800000 in
theorem w_feedReader_law (Y : ByteArray) (a0 : Option Addr) (cp0 : Nat) (K : List Ms) (D : Int) (X : ByteArray) (L : List Ms) (B : Int) (r : Bool) (s : ByteArray) (w : World) (hY : Y.size ≤ maxLen) (hK : K.length ≤ maxLen) (R0 : RowM a0 K w) (hbd : ∀ i, i < K.length → (mAt K i).2.size ≤ maxLen) (hL : K.length ≤ 1048576 → L.length ≤ 1048576) (hs : s.size ≤ 1048576)
    (SS : Hid (Y.size ≤ 1048576 → K.length ≤ 1048576 → ∀ (c : Nat) (w : World), RowM (some ⟨c, 0, none⟩) K w → Calls Try.prog 40 #[.agg #[.string Y, .slice (some ⟨c, 0, none⟩) K.length K.length, .int .i64 D], .string s] w fun e w' => ∃ v, e = .returned (.tuple #[v, .bool r]) ∧ AnsR X L B w v w'))
    (II : Hid (Y.size ≤ 1048576 → K.length ≤ 1048576 → ∀ (c : Nat) (w : World), RowM (some ⟨c, 0, none⟩) K w → Calls Try.prog 41 #[.agg #[.string Y, .slice (some ⟨c, 0, none⟩) K.length K.length, .int .i64 D], .string s] w fun e w' => ∃ v, e = .returned (.tuple #[v, .bool r]) ∧ AnsR X L B w v w')) :
    Calls Try.prog 9 #[.agg #[.string Y, .slice a0 K.length cp0, .int .i64 D], .string s] w fun e w' => e = .returned (.bool true) ∧ Below w.heap.size w w' := by
  have k0 : (r != r) = false := by simp
  have hsz : ¬ ((s.size : Int) > 1048576) := by omega
  have SZ := hide (fun w hR => w_szR Y a0 cp0 K D w hY hK hR hbd)
  have d0 : Below w.heap.size w w := Below.refl _ _
  clear hY hK hbd
  go_enter Try.func9, Try.ntmps9
  go_wp2_with fail
  have bb : Below w.heap.size w (w.alloc (.cells #[.string Y, .slice a0 K.length cp0, .int .i64 D] 55)) := below_box (Below.refl _ _)
  have M0 := Mut.new w #[.string Y, .slice a0 K.length cp0, .int .i64 D] 55
  have lM0 : w.heap.size < (w.alloc (.cells #[.string Y, .slice a0 K.length cp0, .int .i64 D] 55)).heap.size := by simp
  have d1 := d0.trans (bb.mono d0.size)
  have y1 := bb.size
  clear bb
  generalize hWW : w.alloc (.cells #[.string Y, .slice a0 K.length cp0, .int .i64 D] 55) = W1 at *
  clear hWW
  refine (SZ.out _ (R0.below d1)).mono ?_
  rintro e W2 ⟨sz, rfl, hsz, bb⟩
  have d2 := d1.trans (bb.mono d1.size)
  have y2 := bb.size
  have M0 := M0.below bb
  clear bb
  rcases hsz with rfl | ⟨sz0, hY, hK⟩
  · go_wp2_with fail
    go_ret
    exact ⟨rfl, d2⟩
  have szn : ¬ (sz < 0) := by omega
  clear SZ sz0
  have T := hide (fun w hR => w_toR Y a0 cp0 K D w hK hR)
  have E0 := hide (fun a a' cap cap' w hR hR' => w_eqReader Y D a a' cap cap' K w hK hR hR')
  have S := hide (SS.out hY hK)
  have I := hide (II.out hY hK)
  clear SS II
  have u0 := M0.2.1 0 _ rfl
  have u1 := M0.2.1 1 _ rfl
  have u2 := M0.2.1 2 _ rfl
  go_wp2_with fail
  clear u0 u1 u2
  have hL := hL hK
  have E := hide (fun a a' cap cap' w hR hR' => w_eqReader X B a a' cap cap' L w (by omega) hR hR')
  have M := hide (fun a c cap w h => w_markReader X B a c cap L w (by omega) h)
  have HD := hide (fun a cap w h => w_heldReader X B a cap L.length w (by omega) h)
  have k2 : ¬ (1 + 2 * (L.length : Int) < 0) := by omega
  have k3 : ((1 + 2 * (L.length : Int)) != (1 + 2 * (L.length : Int))) = false := by simp
  have MX := hide (fun a c cap w h => w_markReader Y D a c cap K w hK h)
  have k6 : ¬ (1 + 2 * (K.length : Int) < 0) := by omega
  refine (T.out _ (R0.below d2)).mono ?_
  rintro e W3 ⟨q, rfl, hq, lq, Oq, bb⟩
  have yq := d2.size
  have d3 := d2.trans (bb.mono d2.size)
  have y3 := bb.size
  have M0 := M0.below bb
  clear bb
  go_wp2_with fail
  refine (S.out _ _ Oq.row).mono ?_
  rintro e W4 ⟨_, rfl, an⟩
  obtain ⟨ads, cps, bs, rfl, hs, Os, bb⟩ := an
  have zs : L ≠ [] → bs < W4.heap.size := fun h => (Os.1 h).2
  have hs0 : L ≠ [] → w.heap.size ≤ bs := fun h => Nat.le_trans d3.size (hs h)
  have d4 := d3.trans (bb.mono d3.size)
  have y4 := bb.size
  have M0 := M0.below bb
  have Oq := Oq.below bb
  clear bb
  clear Oq
  have u0 := ((M0.alloc (.cells #[.string X, .slice ads L.length cps, .int .i64 B] 48))).2.1 0 _ rfl
  have u1 := ((M0.alloc (.cells #[.string X, .slice ads L.length cps, .int .i64 B] 48))).2.1 1 _ rfl
  have u2 := ((M0.alloc (.cells #[.string X, .slice ads L.length cps, .int .i64 B] 48))).2.1 2 _ rfl
  go_wp2_with fail
  clear u0 u1 u2
  have bb : Below W4.heap.size W4 (W4.alloc (.cells #[.string X, .slice ads L.length cps, .int .i64 B] 48)) := below_box (Below.refl _ _)
  have BS := Mut.new W4 #[.string X, .slice ads L.length cps, .int .i64 B] 48
  have lBS : W4.heap.size < (W4.alloc (.cells #[.string X, .slice ads L.length cps, .int .i64 B] 48)).heap.size := by simp
  have d5 := d4.trans (bb.mono d4.size)
  have y5 := bb.size
  have M0 := M0.below bb
  have Os := Os.below bb
  clear bb
  generalize hWW : W4.alloc (.cells #[.string X, .slice ads L.length cps, .int .i64 B] 48) = W5 at *
  clear hWW
  refine (T.out _ (R0.below d5)).mono ?_
  rintro e W6 ⟨x, rfl, hx, lx, Ox, bb⟩
  have yx := d5.size
  have d6 := d5.trans (bb.mono d5.size)
  have y6 := bb.size
  have M0 := M0.below bb
  have Os := Os.below bb
  have BS := BS.below bb
  clear bb
  go_wp2_with fail
  have bb : Below W6.heap.size W6 (W6.alloc (.cells #[.string Y, .slice (some ⟨x, 0, none⟩) K.length K.length, .int .i64 D] 48)) := below_box (Below.refl _ _)
  have BX := Mut.new W6 #[.string Y, .slice (some ⟨x, 0, none⟩) K.length K.length, .int .i64 D] 48
  have lBX : W6.heap.size < (W6.alloc (.cells #[.string Y, .slice (some ⟨x, 0, none⟩) K.length K.length, .int .i64 D] 48)).heap.size := by simp
  have d7 := d6.trans (bb.mono d6.size)
  have y7 := bb.size
  have M0 := M0.below bb
  have Os := Os.below bb
  have BS := BS.below bb
  have Ox := Ox.below bb
  clear bb
  generalize hWW : W6.alloc (.cells #[.string Y, .slice (some ⟨x, 0, none⟩) K.length K.length, .int .i64 D] 48) = W7 at *
  clear hWW
  refine (I.out _ _ Ox.row).mono ?_
  rintro e W8 ⟨_, rfl, an⟩
  obtain ⟨adg, cpg, bg, rfl, hg, Og, bb⟩ := an
  have zg : L ≠ [] → bg < W8.heap.size := fun h => (Og.1 h).2
  have hg0 : L ≠ [] → w.heap.size ≤ bg := fun h => Nat.le_trans d7.size (hg h)
  have d8 := d7.trans (bb.mono d7.size)
  have y8 := bb.size
  have M0 := M0.below bb
  have Os := Os.below bb
  have BS := BS.below bb
  have Ox := Ox.below bb
  have BX := BX.below bb
  clear bb
  have v0 := ((BS.alloc (.cells #[.string X, .slice adg L.length cpg, .int .i64 B] 48))).2.1 0 _ rfl
  have v1 := ((BS.alloc (.cells #[.string X, .slice adg L.length cpg, .int .i64 B] 48))).2.1 1 _ rfl
  have v2 := ((BS.alloc (.cells #[.string X, .slice adg L.length cpg, .int .i64 B] 48))).2.1 2 _ rfl
  go_wp2_with fail
  clear v0 v1 v2
  have bb : Below W8.heap.size W8 (W8.alloc (.cells #[.string X, .slice adg L.length cpg, .int .i64 B] 48)) := below_box (Below.refl _ _)
  have BG := Mut.new W8 #[.string X, .slice adg L.length cpg, .int .i64 B] 48
  have lBG : W8.heap.size < (W8.alloc (.cells #[.string X, .slice adg L.length cpg, .int .i64 B] 48)).heap.size := by simp
  have d9 := d8.trans (bb.mono d8.size)
  have y9 := bb.size
  have M0 := M0.below bb
  have Os := Os.below bb
  have BS := BS.below bb
  have Ox := Ox.below bb
  have BX := BX.below bb
  have Og := Og.below bb
  clear bb
  generalize hWW : W8.alloc (.cells #[.string X, .slice adg L.length cpg, .int .i64 B] 48) = W9 at *
  clear hWW
  refine (E.out _ _ _ _ _ Og.row Os.row).mono ?_
  rintro e W10 ⟨rfl, bb⟩
  have d10 := d9.trans (bb.mono d9.size)
  have y10 := bb.size
  have M0 := M0.below bb
  have Os := Os.below bb
  have BS := BS.below bb
  have Ox := Ox.below bb
  have BX := BX.below bb
  have Og := Og.below bb
  have BG := BG.below bb
  clear bb
  go_wp2_with fail
  have dZ : Below W10.heap.size W10 W10 := Below.refl _ _
  have R0z := R0.below d10
  have hltM := M0.1
  have hltX := BX.1
  have u0 := M0.2.1 0 _ rfl
  have u1 := M0.2.1 1 _ rfl
  have u2 := M0.2.1 2 _ rfl
  have v0 := BX.2.1 0 _ rfl
  have v1 := BX.2.1 1 _ rfl
  have v2 := BX.2.1 2 _ rfl
  go_region_held3 (fun w' => w'.cell? ⟨w.heap.size, 0, none⟩ = some (.string Y) ∧ w'.cell? ⟨w.heap.size, 1, none⟩ = some (.slice a0 K.length cp0) ∧ w'.cell? ⟨w.heap.size, 2, none⟩ = some (.int .i64 D) ∧ w'.cell? ⟨W6.heap.size, 0, none⟩ = some (.string Y) ∧ w'.cell? ⟨W6.heap.size, 1, none⟩ = some (.slice (some ⟨x, 0, none⟩) K.length K.length) ∧ w'.cell? ⟨W6.heap.size, 2, none⟩ = some (.int .i64 D)) (first | go_keep | exact ⟨(dE.cell (p := ⟨w.heap.size, 0, none⟩) hltM).trans u0, (dE.cell (p := ⟨w.heap.size, 1, none⟩) hltM).trans u1, (dE.cell (p := ⟨w.heap.size, 2, none⟩) hltM).trans u2, (dE.cell (p := ⟨W6.heap.size, 0, none⟩) hltX).trans v0, (dE.cell (p := ⟨W6.heap.size, 1, none⟩) hltX).trans v1, (dE.cell (p := ⟨W6.heap.size, 2, none⟩) hltX).trans v2⟩ | exact ⟨(dE.drew.cell (p := ⟨w.heap.size, 0, none⟩) hltM).trans u0, (dE.drew.cell (p := ⟨w.heap.size, 1, none⟩) hltM).trans u1, (dE.drew.cell (p := ⟨w.heap.size, 2, none⟩) hltM).trans u2, (dE.drew.cell (p := ⟨W6.heap.size, 0, none⟩) hltX).trans v0, (dE.drew.cell (p := ⟨W6.heap.size, 1, none⟩) hltX).trans v1, (dE.drew.cell (p := ⟨W6.heap.size, 2, none⟩) hltX).trans v2⟩ | exact ⟨(dT.cell (p := ⟨w.heap.size, 0, none⟩) hltM).trans u0, (dT.cell (p := ⟨w.heap.size, 1, none⟩) hltM).trans u1, (dT.cell (p := ⟨w.heap.size, 2, none⟩) hltM).trans u2, (dT.cell (p := ⟨W6.heap.size, 0, none⟩) hltX).trans v0, (dT.cell (p := ⟨W6.heap.size, 1, none⟩) hltX).trans v1, (dT.cell (p := ⟨W6.heap.size, 2, none⟩) hltX).trans v2⟩ | exact ⟨(dT.drew.cell (p := ⟨w.heap.size, 0, none⟩) hltM).trans u0, (dT.drew.cell (p := ⟨w.heap.size, 1, none⟩) hltM).trans u1, (dT.drew.cell (p := ⟨w.heap.size, 2, none⟩) hltM).trans u2, (dT.drew.cell (p := ⟨W6.heap.size, 0, none⟩) hltX).trans v0, (dT.drew.cell (p := ⟨W6.heap.size, 1, none⟩) hltX).trans v1, (dT.drew.cell (p := ⟨W6.heap.size, 2, none⟩) hltX).trans v2⟩ | exact ⟨(dZ.cell (p := ⟨w.heap.size, 0, none⟩) hltM).trans u0, (dZ.cell (p := ⟨w.heap.size, 1, none⟩) hltM).trans u1, (dZ.cell (p := ⟨w.heap.size, 2, none⟩) hltM).trans u2, (dZ.cell (p := ⟨W6.heap.size, 0, none⟩) hltX).trans v0, (dZ.cell (p := ⟨W6.heap.size, 1, none⟩) hltX).trans v1, (dZ.cell (p := ⟨W6.heap.size, 2, none⟩) hltX).trans v2⟩ | exact ⟨(dZ.drew.cell (p := ⟨w.heap.size, 0, none⟩) hltM).trans u0, (dZ.drew.cell (p := ⟨w.heap.size, 1, none⟩) hltM).trans u1, (dZ.drew.cell (p := ⟨w.heap.size, 2, none⟩) hltM).trans u2, (dZ.drew.cell (p := ⟨W6.heap.size, 0, none⟩) hltX).trans v0, (dZ.drew.cell (p := ⟨W6.heap.size, 1, none⟩) hltX).trans v1, (dZ.drew.cell (p := ⟨W6.heap.size, 2, none⟩) hltX).trans v2⟩) ((first | (go_at_call 38; refine (T.out _ (R0z.below (by first | exact dZ | exact dZ.drew))).mono ?_; rintro e wT ⟨x2, rfl, _, _, Px, bT⟩; have dT : Below W10.heap.size W10 wT := (by first | exact below_step dZ bT | exact below_step dZ.drew bT)) | (go_at_call 33; refine (E0.out _ _ _ _ _ (by first | exact (Ox.below dT).row | exact (Ox.below dT.drew).row) (by first | exact Px.row | exact (Px.below (Below.refl _ _).drew).row)).mono ?_; rintro e W11 ⟨rfl, bE⟩; have dE : Below W10.heap.size W10 W11 := (by first | exact below_step dT bE | exact below_step dT.drew bE))))
  clear u0 u1 u2
  clear v0 v1 v2
  clear dZ R0z hltM hltX dT bT Px bE
  have d11 := d10.trans (dE.mono d10.size)
  have y11 := dE.size
  have M0 := M0.below dE
  have Os := Os.below dE
  have BS := BS.below dE
  have Ox := Ox.below dE
  have BX := BX.below dE
  have Og := Og.below dE
  have BG := BG.below dE
  clear dE
  have v0 := BX.2.1 0 _ rfl
  have v1 := BX.2.1 1 _ rfl
  have v2 := BX.2.1 2 _ rfl
  go_wp2_with fail
  clear v0 v1 v2
  refine (MX.out _ _ _ _ Ox).mono ?_
  rintro e W12 ⟨rfl, yy, _⟩
  have bb := yy.base (base := w.heap.size) (fun _ => by omega) d11.size
  have d12 := d11.trans bb
  have y12 := bb.size
  clear bb
  have M0 := M0.on yy (fun _ => by omega)
  have Os := Os.on yy (fun h _ => by have := zs h; have := hs h; omega)
  have BS := BS.on yy (fun _ => by omega)
  have BX := BX.on yy (fun _ => by omega)
  have Og := Og.on yy (fun h _ => by have := zg h; have := hg h; omega)
  have BG := BG.on yy (fun _ => by omega)
  clear yy Ox
  have i0 := BG.2.1 0 _ rfl
  have i1 := BG.2.1 1 _ rfl
  have i2 := BG.2.1 2 _ rfl
  have j0 := BS.2.1 0 _ rfl
  have j1 := BS.2.1 1 _ rfl
  have j2 := BS.2.1 2 _ rfl
  go_wp2_with fail
  clear i0 i1 i2
  clear j0 j1 j2
  refine (E.out _ _ _ _ _ Og.row Os.row).mono ?_
  rintro e W13 ⟨rfl, bb⟩
  have d13 := d12.trans (bb.mono d12.size)
  have y13 := bb.size
  have M0 := M0.below bb
  have Os := Os.below bb
  have BS := BS.below bb
  have BX := BX.below bb
  have Og := Og.below bb
  have BG := BG.below bb
  clear bb
  have u0 := BG.2.1 0 _ rfl
  have u1 := BG.2.1 1 _ rfl
  have u2 := BG.2.1 2 _ rfl
  go_wp2_with fail
  clear u0 u1 u2
  refine (M.out _ _ _ _ Og).mono ?_
  rintro e W14 ⟨rfl, yy, Om⟩
  have bb := yy.base (base := w.heap.size) hg0 d13.size
  have d14 := d13.trans bb
  have y14 := bb.size
  clear bb
  have M0 := M0.on yy (fun h => by have := zg h; have := hg h; omega)
  have Os := Os.on yy (fun h1 h2 => by have := zs h1; have := hg h2; omega)
  have BS := BS.on yy (fun h => by have := zg h; have := hg h; omega)
  have BX := BX.on yy (fun h => by have := zg h; have := hg h; omega)
  have BG := BG.on yy (fun h => by have := zg h; have := hg h; omega)
  clear yy
  clear Og
  have u0 := BG.2.1 0 _ rfl
  have u1 := BG.2.1 1 _ rfl
  have u2 := BG.2.1 2 _ rfl
  go_wp2_with fail
  clear u0 u1 u2
  refine (HD.out _ _ _ Om.row).mono ?_
  rintro e W15 ⟨rfl, bb⟩
  have d15 := d14.trans (bb.mono d14.size)
  have y15 := bb.size
  have M0 := M0.below bb
  have Os := Os.below bb
  have BS := BS.below bb
  have BX := BX.below bb
  have BG := BG.below bb
  have Om := Om.below bb
  clear bb
  have u0 := M0.2.1 0 _ rfl
  have u1 := M0.2.1 1 _ rfl
  have u2 := M0.2.1 2 _ rfl
  go_wp2_with fail
  clear u0 u1 u2
  refine (T.out _ (R0.below d15)).mono ?_
  rintro e W16 ⟨n, rfl, hn, ln, On, bb⟩
  have yn := d15.size
  have d16 := d15.trans (bb.mono d15.size)
  have y16 := bb.size
  have M0 := M0.below bb
  have Os := Os.below bb
  have BS := BS.below bb
  have BX := BX.below bb
  have BG := BG.below bb
  have Om := Om.below bb
  clear bb
  go_wp2_with fail
  refine (I.out _ _ On.row).mono ?_
  rintro e W17 ⟨_, rfl, an⟩
  obtain ⟨adh, cph, bh, rfl, hh, Oh, bb⟩ := an
  have zh : L ≠ [] → bh < W17.heap.size := fun h => (Oh.1 h).2
  have hh0 : L ≠ [] → w.heap.size ≤ bh := fun h => Nat.le_trans d16.size (hh h)
  have d17 := d16.trans (bb.mono d16.size)
  have y17 := bb.size
  have M0 := M0.below bb
  have Os := Os.below bb
  have BS := BS.below bb
  have BX := BX.below bb
  have BG := BG.below bb
  have Om := Om.below bb
  have On := On.below bb
  clear bb
  clear On
  have v0 := ((BS.alloc (.cells #[.string X, .slice adh L.length cph, .int .i64 B] 48))).2.1 0 _ rfl
  have v1 := ((BS.alloc (.cells #[.string X, .slice adh L.length cph, .int .i64 B] 48))).2.1 1 _ rfl
  have v2 := ((BS.alloc (.cells #[.string X, .slice adh L.length cph, .int .i64 B] 48))).2.1 2 _ rfl
  go_wp2_with fail
  clear v0 v1 v2
  have bb : Below W17.heap.size W17 (W17.alloc (.cells #[.string X, .slice adh L.length cph, .int .i64 B] 48)) := below_box (Below.refl _ _)
  have BH := Mut.new W17 #[.string X, .slice adh L.length cph, .int .i64 B] 48
  have lBH : W17.heap.size < (W17.alloc (.cells #[.string X, .slice adh L.length cph, .int .i64 B] 48)).heap.size := by simp
  have d18 := d17.trans (bb.mono d17.size)
  have y18 := bb.size
  have M0 := M0.below bb
  have Os := Os.below bb
  have BS := BS.below bb
  have BX := BX.below bb
  have BG := BG.below bb
  have Om := Om.below bb
  have Oh := Oh.below bb
  clear bb
  generalize hWW : W17.alloc (.cells #[.string X, .slice adh L.length cph, .int .i64 B] 48) = W18 at *
  clear hWW
  refine (E.out _ _ _ _ _ Oh.row Os.row).mono ?_
  rintro e W19 ⟨rfl, bb⟩
  have d19 := d18.trans (bb.mono d18.size)
  have y19 := bb.size
  have M0 := M0.below bb
  have Os := Os.below bb
  have BS := BS.below bb
  have BX := BX.below bb
  have BG := BG.below bb
  have Om := Om.below bb
  have Oh := Oh.below bb
  have BH := BH.below bb
  clear bb
  have u0 := BG.2.1 0 _ rfl
  have u1 := BG.2.1 1 _ rfl
  have u2 := BG.2.1 2 _ rfl
  go_wp2_with fail
  clear u0 u1 u2
  refine (HD.out _ _ _ Om.row).mono ?_
  rintro e W20 ⟨rfl, bb⟩
  have d20 := d19.trans (bb.mono d19.size)
  have y20 := bb.size
  have M0 := M0.below bb
  have Os := Os.below bb
  have BS := BS.below bb
  have BX := BX.below bb
  have BG := BG.below bb
  have Om := Om.below bb
  have Oh := Oh.below bb
  have BH := BH.below bb
  clear bb
  go_wp2_with fail
  go_ret
  exact ⟨rfl, d20⟩
theorem w_feedReader (X : ByteArray) (a : Option Addr) (len cap : Nat) (f0 : Nat → Int) (f1 : Nat → ByteArray) (B : Int) (s : ByteArray) (w : World) (hX : X.size ≤ maxLen) (hl : len ≤ maxLen) (hR : RowMsg a len f0 f1 w) (hb : ∀ i, i < len → (f1 i).size ≤ maxLen) (hs : s.size ≤ maxLen) :
    Calls Try.prog 9 #[.agg #[.string X, .slice a len cap, .int .i64 B], .string s] w fun e w' => e = .returned (.bool true) ∧ Below w.heap.size w w' := by
  have e := listM_len len f0 f1
  unfold maxLen at hs
  by_cases h20 : s.size ≤ 1048576
  · by_cases hg : grB X (listM len f0 f1) B = true ∧ s.size ≤ 300
    · have k := w_feedReader_law X a cap (listM len f0 f1) B (fdX X B s) (fdL X (listM len f0 f1) B s) (fdB X B s) true s w hX (by rw [e]; exact hl) (RowM.of hR) (in_bodies hb) (fun _ => by have := fdL_len (Y := X) (D := B) (s := s) (gr_len hg.1).1; omega) h20 (fun h1 h2 c w hR => s_feed_yes X c _ _ B s w h1 h2 hg.2 hg.1 hR) (fun h1 h2 c w hR => i_feed_yes X c _ _ B s w h1 h2 hg.2 hg.1 hR)
      rw [e] at k
      exact k
    · have hg2 : grB X (listM len f0 f1) B = false ∨ ¬ s.size ≤ 300 := by
        cases h : grB X (listM len f0 f1) B with
        | false => exact .inl rfl
        | true => exact .inr (fun h2 => hg ⟨h, h2⟩)
      have k := w_feedReader_law X a cap (listM len f0 f1) B ByteArray.empty [] 0 false s w hX (by rw [e]; exact hl) (RowM.of hR) (in_bodies hb) (fun _ => by simp) h20 (fun h1 h2 c w hR => s_feed_no X c _ _ B s w h1 h2 h20 hg2 hR) (fun h1 h2 c w hR => i_feed_no X c _ _ B s w h1 h2 h20 hg2 hR)
      rw [e] at k
      exact k
  · have h20' : (s.size : Int) > 1048576 := by omega
    clear hX hl hR hb
    go_enter Try.func9, Try.ntmps9
    go_wp2_with fail
    go_ret
    exact ⟨rfl, below_box (Below.refl _ _)⟩
end Go.Proofs.Ytoeephmdklmpfaa
