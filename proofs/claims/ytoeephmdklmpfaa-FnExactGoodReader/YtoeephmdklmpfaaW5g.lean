/- The law on GoodReader: the program answers as the specification. -/
import Derived.Test.YtoeephmdklmpfaaArg5
import Derived.Test.YtoeephmdklmpfaaS5g
import Derived.Deep.RegionHeld3
namespace Go.Proofs.Ytoeephmdklmpfaa
open Go.RowKit

set_option maxRecDepth 100000 in
set_option maxHeartbeats 6400000 in
theorem w_goodReader_law (Y : ByteArray) (a0 : Option Addr) (cp0 : Nat) (K : List Ms) (D : Int) (r : Bool) (w : World) (hY : Y.size ≤ maxLen) (hK : K.length ≤ maxLen) (R0 : RowM a0 K w) (hbd : ∀ i, i < K.length → (mAt K i).2.size ≤ maxLen)
    (SS : Hid (Y.size ≤ 1048576 → K.length ≤ 1048576 → ∀ (c cap : Nat) (w : World), RowM (some ⟨c, 0, none⟩) K w → Calls Try.prog 37 #[.agg #[.string Y, .slice (some ⟨c, 0, none⟩) K.length cap, .int .i64 D]] w fun e w' => e = .returned (.bool r) ∧ Below w.heap.size w w'))
    (II : Hid (Y.size ≤ 1048576 → K.length ≤ 1048576 → ∀ (c cap : Nat) (w : World), RowM (some ⟨c, 0, none⟩) K w → Calls Try.prog 39 #[.agg #[.string Y, .slice (some ⟨c, 0, none⟩) K.length cap, .int .i64 D]] w fun e w' => e = .returned (.bool r) ∧ Below w.heap.size w w')) :
    Calls Try.prog 8 #[.agg #[.string Y, .slice a0 K.length cp0, .int .i64 D]] w fun e w' => e = .returned (.bool true) ∧ Below w.heap.size w w' := by
  have k0 : (r != r) = false := by simp
  have SZ := hide (fun w hR => w_szR Y a0 cp0 K D w hY hK hR hbd)
  have d0 : Below w.heap.size w w := Below.refl _ _
  clear hY hK hbd
  go_enter Try.func8, Try.ntmps8
  go_wp2_with fail
  have bb : Below w.heap.size w (w.alloc (.cells #[.string Y, .slice a0 K.length cp0, .int .i64 D] 55)) := below_box (Below.refl _ _)
  have M0 := Mut.new w #[.string Y, .slice a0 K.length cp0, .int .i64 D] 55
  have lM0 : w.heap.size < (w.alloc (.cells #[.string Y, .slice a0 K.length cp0, .int .i64 D] 55)).heap.size := by simp
  have d1 := d0.trans (bb.mono d0.size)
  have y1 := bb.size
  clear bb
  generalize hWW : w.alloc (.cells #[.string Y, .slice a0 K.length cp0, .int .i64 D] 55) = W1 at *
  clear hWW
  refine (SZ.out _ (R0.below d1)).mono ?_
  rintro e W2 ⟨sz, rfl, hsz, bb⟩
  have d2 := d1.trans (bb.mono d1.size)
  have y2 := bb.size
  have M0 := M0.below bb
  clear bb
  rcases hsz with rfl | ⟨sz0, hY, hK⟩
  · go_wp2_with fail
    go_ret
    exact ⟨rfl, d2⟩
  have szn : ¬ (sz < 0) := by omega
  clear SZ sz0
  have T := hide (fun w hR => w_toR Y a0 cp0 K D w hK hR)
  have E0 := hide (fun a a' cap cap' w hR hR' => w_eqReader Y D a a' cap cap' K w hK hR hR')
  have S := hide (SS.out hY hK)
  have I := hide (II.out hY hK)
  clear SS II
  have u0 := M0.2.1 0 _ rfl
  have u1 := M0.2.1 1 _ rfl
  have u2 := M0.2.1 2 _ rfl
  go_wp2_with fail
  clear u0 u1 u2
  refine (T.out _ (R0.below d2)).mono ?_
  rintro e W3 ⟨q, rfl, hq, lq, Oq, bb⟩
  have yq := d2.size
  have d3 := d2.trans (bb.mono d2.size)
  have y3 := bb.size
  have M0 := M0.below bb
  clear bb
  go_wp2_with fail
  refine (S.out _ _ _ Oq.row).mono ?_
  rintro e W4 ⟨rfl, bb⟩
  have d4 := d3.trans (bb.mono d3.size)
  have y4 := bb.size
  have M0 := M0.below bb
  have Oq := Oq.below bb
  clear bb
  clear Oq
  have u0 := M0.2.1 0 _ rfl
  have u1 := M0.2.1 1 _ rfl
  have u2 := M0.2.1 2 _ rfl
  go_wp2_with fail
  clear u0 u1 u2
  refine (T.out _ (R0.below d4)).mono ?_
  rintro e W5 ⟨x, rfl, hx, lx, Ox, bb⟩
  have yx := d4.size
  have d5 := d4.trans (bb.mono d4.size)
  have y5 := bb.size
  have M0 := M0.below bb
  clear bb
  go_wp2_with fail
  have bb : Below W5.heap.size W5 (W5.alloc (.cells #[.string Y, .slice (some ⟨x, 0, none⟩) K.length K.length, .int .i64 D] 48)) := below_box (Below.refl _ _)
  have BX := Mut.new W5 #[.string Y, .slice (some ⟨x, 0, none⟩) K.length K.length, .int .i64 D] 48
  have lBX : W5.heap.size < (W5.alloc (.cells #[.string Y, .slice (some ⟨x, 0, none⟩) K.length K.length, .int .i64 D] 48)).heap.size := by simp
  have d6 := d5.trans (bb.mono d5.size)
  have y6 := bb.size
  have M0 := M0.below bb
  have Ox := Ox.below bb
  clear bb
  generalize hWW : W5.alloc (.cells #[.string Y, .slice (some ⟨x, 0, none⟩) K.length K.length, .int .i64 D] 48) = W6 at *
  clear hWW
  refine (I.out _ _ _ Ox.row).mono ?_
  rintro e W7 ⟨rfl, bb⟩
  have d7 := d6.trans (bb.mono d6.size)
  have y7 := bb.size
  have M0 := M0.below bb
  have Ox := Ox.below bb
  have BX := BX.below bb
  clear bb
  go_wp2_with fail
  have dZ : Below W7.heap.size W7 W7 := Below.refl _ _
  have R0z := R0.below d7
  have hltM := M0.1
  have hltX := BX.1
  have u0 := M0.2.1 0 _ rfl
  have u1 := M0.2.1 1 _ rfl
  have u2 := M0.2.1 2 _ rfl
  have v0 := BX.2.1 0 _ rfl
  have v1 := BX.2.1 1 _ rfl
  have v2 := BX.2.1 2 _ rfl
  go_region_held3 (fun w' => w'.cell? ⟨w.heap.size, 0, none⟩ = some (.string Y) ∧ w'.cell? ⟨w.heap.size, 1, none⟩ = some (.slice a0 K.length cp0) ∧ w'.cell? ⟨w.heap.size, 2, none⟩ = some (.int .i64 D) ∧ w'.cell? ⟨W5.heap.size, 0, none⟩ = some (.string Y) ∧ w'.cell? ⟨W5.heap.size, 1, none⟩ = some (.slice (some ⟨x, 0, none⟩) K.length K.length) ∧ w'.cell? ⟨W5.heap.size, 2, none⟩ = some (.int .i64 D)) (first | go_keep | exact ⟨(dE.cell (p := ⟨w.heap.size, 0, none⟩) hltM).trans u0, (dE.cell (p := ⟨w.heap.size, 1, none⟩) hltM).trans u1, (dE.cell (p := ⟨w.heap.size, 2, none⟩) hltM).trans u2, (dE.cell (p := ⟨W5.heap.size, 0, none⟩) hltX).trans v0, (dE.cell (p := ⟨W5.heap.size, 1, none⟩) hltX).trans v1, (dE.cell (p := ⟨W5.heap.size, 2, none⟩) hltX).trans v2⟩ | exact ⟨(dE.drew.cell (p := ⟨w.heap.size, 0, none⟩) hltM).trans u0, (dE.drew.cell (p := ⟨w.heap.size, 1, none⟩) hltM).trans u1, (dE.drew.cell (p := ⟨w.heap.size, 2, none⟩) hltM).trans u2, (dE.drew.cell (p := ⟨W5.heap.size, 0, none⟩) hltX).trans v0, (dE.drew.cell (p := ⟨W5.heap.size, 1, none⟩) hltX).trans v1, (dE.drew.cell (p := ⟨W5.heap.size, 2, none⟩) hltX).trans v2⟩ | exact ⟨(dT.cell (p := ⟨w.heap.size, 0, none⟩) hltM).trans u0, (dT.cell (p := ⟨w.heap.size, 1, none⟩) hltM).trans u1, (dT.cell (p := ⟨w.heap.size, 2, none⟩) hltM).trans u2, (dT.cell (p := ⟨W5.heap.size, 0, none⟩) hltX).trans v0, (dT.cell (p := ⟨W5.heap.size, 1, none⟩) hltX).trans v1, (dT.cell (p := ⟨W5.heap.size, 2, none⟩) hltX).trans v2⟩ | exact ⟨(dT.drew.cell (p := ⟨w.heap.size, 0, none⟩) hltM).trans u0, (dT.drew.cell (p := ⟨w.heap.size, 1, none⟩) hltM).trans u1, (dT.drew.cell (p := ⟨w.heap.size, 2, none⟩) hltM).trans u2, (dT.drew.cell (p := ⟨W5.heap.size, 0, none⟩) hltX).trans v0, (dT.drew.cell (p := ⟨W5.heap.size, 1, none⟩) hltX).trans v1, (dT.drew.cell (p := ⟨W5.heap.size, 2, none⟩) hltX).trans v2⟩ | exact ⟨(dZ.cell (p := ⟨w.heap.size, 0, none⟩) hltM).trans u0, (dZ.cell (p := ⟨w.heap.size, 1, none⟩) hltM).trans u1, (dZ.cell (p := ⟨w.heap.size, 2, none⟩) hltM).trans u2, (dZ.cell (p := ⟨W5.heap.size, 0, none⟩) hltX).trans v0, (dZ.cell (p := ⟨W5.heap.size, 1, none⟩) hltX).trans v1, (dZ.cell (p := ⟨W5.heap.size, 2, none⟩) hltX).trans v2⟩ | exact ⟨(dZ.drew.cell (p := ⟨w.heap.size, 0, none⟩) hltM).trans u0, (dZ.drew.cell (p := ⟨w.heap.size, 1, none⟩) hltM).trans u1, (dZ.drew.cell (p := ⟨w.heap.size, 2, none⟩) hltM).trans u2, (dZ.drew.cell (p := ⟨W5.heap.size, 0, none⟩) hltX).trans v0, (dZ.drew.cell (p := ⟨W5.heap.size, 1, none⟩) hltX).trans v1, (dZ.drew.cell (p := ⟨W5.heap.size, 2, none⟩) hltX).trans v2⟩) ((first | (go_at_call 38; refine (T.out _ (R0z.below (by first | exact dZ | exact dZ.drew))).mono ?_; rintro e wT ⟨x2, rfl, _, _, Px, bT⟩; have dT : Below W7.heap.size W7 wT := (by first | exact below_step dZ bT | exact below_step dZ.drew bT)) | (go_at_call 33; refine (E0.out _ _ _ _ _ (by first | exact (Ox.below dT).row | exact (Ox.below dT.drew).row) (by first | exact Px.row | exact (Px.below (Below.refl _ _).drew).row)).mono ?_; rintro e W8 ⟨rfl, bE⟩; have dE : Below W7.heap.size W7 W8 := (by first | exact below_step dT bE | exact below_step dT.drew bE))))
  clear u0 u1 u2
  clear v0 v1 v2
  clear dZ R0z hltM hltX dT bT Px bE
  have d8 := d7.trans (dE.mono d7.size)
  have y8 := dE.size
  have M0 := M0.below dE
  have Ox := Ox.below dE
  have BX := BX.below dE
  clear dE
  go_wp2_with fail
  go_ret
  exact ⟨rfl, d8⟩
theorem w_goodReader (X : ByteArray) (a : Option Addr) (len cap : Nat) (f0 : Nat → Int) (f1 : Nat → ByteArray) (B : Int) (w : World) (hX : X.size ≤ maxLen) (hl : len ≤ maxLen) (hR : RowMsg a len f0 f1 w) (hb : ∀ i, i < len → (f1 i).size ≤ maxLen) :
    Calls Try.prog 8 #[.agg #[.string X, .slice a len cap, .int .i64 B]] w fun e w' => e = .returned (.bool true) ∧ Below w.heap.size w w' := by
  have k := w_goodReader_law X a cap (listM len f0 f1) B (grB X (listM len f0 f1) B) w hX (by rw [listM_len]; exact hl) (RowM.of hR) (in_bodies hb) (fun h1 h2 c cap w hR => s_goodReader X _ cap _ B w (by omega) h2 hR) (fun h1 h2 c cap w hR => i_goodReader X _ cap _ B w (by omega) h2 hR)
  rw [listM_len] at k
  exact k
end Go.Proofs.Ytoeephmdklmpfaa
