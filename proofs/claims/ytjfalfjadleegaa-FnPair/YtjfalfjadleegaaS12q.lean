/- One of a pair of the specification: how it begins, and what comes to it. -/
import Derived.Test.YtjfalfjadleegaaPlain12q
import Derived.Test.YtjfalfjadleegaaS12f
namespace Go.Proofs.Ytjfalfjadleegaa
open Go.RowKit

theorem below_off12 {b : Nat} {w x y : World} (h : Below w.heap.size w x) (k : Only b x y) (hb : w.heap.size ≤ b) : Below w.heap.size w y :=
  ⟨k.1.trans h.os, k.2.1.trans h.tape, k.2.2.1.trans h.output, Nat.le_trans h.size k.2.2.2.1, fun i hi => (k.2.2.2.2 i (Nat.lt_of_lt_of_le hi h.size) (by omega)).trans (h.block i hi)⟩
set_option maxRecDepth 100000 in
set_option maxHeartbeats 3200000 in
theorem s_side1 (h : Int) (w : World) (hh : 3 ≤ h ∧ h ≤ 90) :
    Calls Try.prog 15 #[.int .i64 h] w fun e w' => e = .returned (.agg #[.int .i64 2, .int .i64 h, .int .i64 90, .int .i64 0, .int .i64 0, .slice none 0 0, .int .i64 h]) ∧ Below w.heap.size w w' := by
  have s1 := hide (fun w => s_new h w)
  rw [(new_t hh).1, (new_t hh).2] at s1
  have s2 := hide (fun w => s_step ⟨0, h, 0, 0, 0⟩ 1 0 w (by unfold GS; dsimp only; omega))
  rw [show stp ⟨0, h, 0, 0, 0⟩ 1 0 = (⟨1, h, 0, 0, 0⟩, 0) by simp [stp]] at s2
  have s3 := hide (fun w => s_step ⟨1, h, 0, 0, 0⟩ 3 0 w (by unfold GS; dsimp only; omega))
  rw [show stp ⟨1, h, 0, 0, 0⟩ 3 0 = (⟨2, h, 90, 0, 0⟩, 1) by simp [stp]] at s3
  have MR := Mut.new w #[.int .i64 0, .int .i64 0, .int .i64 0, .int .i64 0, .int .i64 0, .slice none 0 0, .int .i64 0] 53
  have dd : Below w.heap.size w (w.alloc (.cells #[.int .i64 0, .int .i64 0, .int .i64 0, .int .i64 0, .int .i64 0, .slice none 0 0, .int .i64 0] 53)) := below_box (Below.refl _ _)
  have o1 := hide (Se.one ⟨1, h, 0, 0, 0⟩)
  have o2 := hide (Se.one ⟨2, h, 90, 0, 0⟩)
  clear hh
  go_enter Try.func15, Try.ntmps15
  go_wp2_with fail
  generalize w.alloc (.cells #[.int .i64 0, .int .i64 0, .int .i64 0, .int .i64 0, .int .i64 0, .slice none 0 0, .int .i64 0] 53) = wz at *
  refine (s1.out _).mono ?_
  rintro e w1 ⟨rfl, b1⟩
  replace MR := MR.below b1
  replace dd := dd.trans (b1.mono dd.size)
  have MS := Mut.new w1 #[.int .i64 0, .int .i64 h, .int .i64 0, .int .i64 0, .int .i64 0] 27
  have bS : Below w1.heap.size w1 (w1.alloc (.cells #[.int .i64 0, .int .i64 h, .int .i64 0, .int .i64 0, .int .i64 0] 27)) := below_box (Below.refl _ _)
  have hRS : w.heap.size < w1.heap.size := MR.1
  have hw1 := dd.size
  replace MR := MR.below bS
  replace dd := dd.trans (bS.mono dd.size)
  clear b1 bS
  go_wp2_with fail
  generalize w1.alloc (.cells #[.int .i64 0, .int .i64 h, .int .i64 0, .int .i64 0, .int .i64 0] 27) = wS at *
  generalize w1.heap.size = b3 at *
  refine (s2.out _).mono ?_
  rintro e w2 ⟨v2, rfl, _, b2⟩
  replace MR := MR.below b2
  replace MS := MS.below b2
  replace dd := dd.trans (b2.mono dd.size)
  have hMS := hide MS
  clear b2 MS
  go_wp2_with (refine wpList_storeM rfl rfl rfl rfl hMS.out rfl o1.out (by kernel_rfl) ?_; intro w3 M3 q3; have c0 := M3.2.1 0 _ rfl; have c1 := M3.2.1 1 _ rfl; have c2 := M3.2.1 2 _ rfl; have c3 := M3.2.1 3 _ rfl; have c4 := M3.2.1 4 _ rfl)
  replace MR := MR.only q3 (by omega)
  replace dd := below_off12 dd q3 hw1
  clear hMS q3 c0 c1 c2 c3 c4
  refine (s3.out _).mono ?_
  rintro e w4 ⟨v4, rfl, _, b4⟩
  replace MR := MR.below b4
  replace M3 := M3.below b4
  replace dd := dd.trans (b4.mono dd.size)
  have hMS := hide M3
  have hMR := hide MR
  have hd := hide dd
  clear b4 M3 MR dd
  go_wp2_with (refine wpList_storeM rfl rfl rfl rfl hMS.out rfl o2.out (by kernel_rfl) ?_; intro w5 M5 q5; have MR := hMR.out.only q5 (by omega); have d1 := below_off12 hd.out q5 hw1; have c0 := M5.2.1 0 _ rfl; have c1 := M5.2.1 1 _ rfl; have c2 := M5.2.1 2 _ rfl; have c3 := M5.2.1 3 _ rfl; have c4 := M5.2.1 4 _ rfl; have r0 := MR.2.1 0 _ rfl; have rf0 := MR.2.2 0 (by simp); have r1 := MR.2.1 1 _ rfl; have rf1 := MR.2.2 1 (by simp); have r2 := MR.2.1 2 _ rfl; have rf2 := MR.2.2 2 (by simp); have r3 := MR.2.1 3 _ rfl; have rf3 := MR.2.2 3 (by simp); have r4 := MR.2.1 4 _ rfl; have rf4 := MR.2.2 4 (by simp); have r5 := MR.2.1 5 _ rfl; have rf5 := MR.2.2 5 (by simp); have r6 := MR.2.1 6 _ rfl; have rf6 := MR.2.2 6 (by simp); clear M5 q5 hMR hd MR)
  exact bodyPost_ret (v := .agg #[.int .i64 2, .int .i64 h, .int .i64 90, .int .i64 0, .int .i64 0, .slice none 0 0, .int .i64 h]) (by simp [results, Try.results15, go_sem, r0, r1, r2, r3, r4, r5, r6]) rfl ⟨rfl, (by (repeat (first | with_reducible exact Below.refl _ _ | with_reducible exact d1 | with_reducible apply Below.setCell | with_reducible apply Below.alloc | with_reducible apply Below.drew | with_reducible refine below_drewN ?_ _)); all_goals (first | (simp; done) | (simp; omega) | omega))⟩
end Go.Proofs.Ytjfalfjadleegaa
