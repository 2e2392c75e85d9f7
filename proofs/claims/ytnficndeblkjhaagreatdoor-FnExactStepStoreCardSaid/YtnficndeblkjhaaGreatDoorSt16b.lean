/- Stores in memory: a copy, a comparison. -/
import Derived.Test.YtnficndeblkjhaaGreatDoorGrp4
namespace Go.Proofs.YtnficndeblkjhaaGreatDoor
open Go.RowKit

set_option maxRecDepth 100000 in
set_option maxHeartbeats 3200000 in
theorem w_toStore (v : Value) (s : Sto) (w : World) (hl : LowSt s) (hR : RowSt false v s w) :
    Calls Tryz.prog 8 #[v] w fun e w' => ∃ v', e = .returned v' ∧ AnsSt v' s w.heap.size w'.heap.size w' ∧ Below w.heap.size w w' := by
  obtain ⟨ca, kc, ra, kr, ha, kh, rfl, R1, R2, R3, _⟩ := hR
  obtain ⟨l1, l2, l3, l4, l5⟩ := hl
  have s0 := hide (fun w R => w_toLeafS ca s.C.n kc s.C.T w l1.n l1.2 R)
  have s1 := hide (fun w R => w_toLeafS ra s.R.n kr s.R.T w l2.n l2.2 R)
  have s2 := hide (fun w R => w_toLeafSS ha s.h kh s.H w l3 l4 R)
  clear l1 l2 l3 l4 l5
  unfold stV
  have M2 := Mut.new ((w.alloc (.cells #[.slice ca s.C.n kc, .slice ra s.R.n kr, .slice ha s.h kh, .int .i64 s.l] 25)).alloc (.cells #[.slice none 0 0, .slice none 0 0, .slice none 0 0, .int .i64 0] 34)) #[.slice none 0 0, .slice none 0 0, .slice none 0 0, .int .i64 0] 34
  have M1 := (Mut.new (w.alloc (.cells #[.slice ca s.C.n kc, .slice ra s.R.n kr, .slice ha s.h kh, .int .i64 s.l] 25)) #[.slice none 0 0, .slice none 0 0, .slice none 0 0, .int .i64 0] 34).alloc (.cells #[.slice none 0 0, .slice none 0 0, .slice none 0 0, .int .i64 0] 34)
  have M0 := ((Mut.new w #[.slice ca s.C.n kc, .slice ra s.R.n kr, .slice ha s.h kh, .int .i64 s.l] 25).alloc (.cells #[.slice none 0 0, .slice none 0 0, .slice none 0 0, .int .i64 0] 34)).alloc (.cells #[.slice none 0 0, .slice none 0 0, .slice none 0 0, .int .i64 0] 34)
  have d0 : Below w.heap.size w (((w.alloc (.cells #[.slice ca s.C.n kc, .slice ra s.R.n kr, .slice ha s.h kh, .int .i64 s.l] 25)).alloc (.cells #[.slice none 0 0, .slice none 0 0, .slice none 0 0, .int .i64 0] 34)).alloc (.cells #[.slice none 0 0, .slice none 0 0, .slice none 0 0, .int .i64 0] 34)) := below_box3 (Below.refl _ _)
  simp only [World.size_alloc] at M1 M2
  go_enter Tryz.func8, Tryz.ntmps8
  go_wp2_with fail
  generalize ((w.alloc (.cells #[.slice ca s.C.n kc, .slice ra s.R.n kr, .slice ha s.h kh, .int .i64 s.l] 25)).alloc (.cells #[.slice none 0 0, .slice none 0 0, .slice none 0 0, .int .i64 0] 34)).alloc (.cells #[.slice none 0 0, .slice none 0 0, .slice none 0 0, .int .i64 0] 34) = w0 at *
  have hw0 : w.heap.size + 3 ≤ w0.heap.size := by have := M2.1; omega
  refine (s0.out _ (R1.below d0)).mono ?_
  rintro e w1 ⟨rfl, ⟨X1, O1⟩, F1, bb⟩
  have A1 := O1.ans F1 F1.1
  have z1 := bb.size
  replace M0 := M0.below bb
  replace M1 := M1.below bb
  replace M2 := M2.below bb
  have d1 := d0.trans (bb.mono d0.size)
  clear bb d0 s0 O1 F1
  generalize hs0 : w0.heap.size = b0 at *
  have v0 := M2.2.1 0 _ rfl
  have x0 := M2.2.2 0 (by simp)
  have u1 := M0.2.1 1 _ rfl
  go_wp2_with fail
  have on : OnlyP (fun k => k = w.heap.size + 1 + 1) w1 (w1.setCell ⟨w.heap.size + 1 + 1, 0, none⟩ (.slice (some ⟨b0, 0, none⟩) s.C.n s.C.n)) := (OnlyP.refl (fun k => k = w.heap.size + 1 + 1) w1).set15 rfl _ _
  replace M2 := M2.set 0 (.slice (some ⟨b0, 0, none⟩) s.C.n s.C.n)
  replace M1 := M1.onlyP on (by omega)
  replace M0 := M0.onlyP on (by omega)
  replace A1 := A1.onlyP on (fun k hk e => by omega)
  replace d1 := d1.setCell (p := ⟨w.heap.size + 1 + 1, 0, none⟩) (by simp; omega) (.slice (some ⟨b0, 0, none⟩) s.C.n s.C.n)
  have hw2 : (w1.setCell ⟨w.heap.size + 1 + 1, 0, none⟩ (.slice (some ⟨b0, 0, none⟩) s.C.n s.C.n)).heap.size = w1.heap.size := by simp
  clear on v0 x0 u1
  generalize w1.setCell ⟨w.heap.size + 1 + 1, 0, none⟩ (.slice (some ⟨b0, 0, none⟩) s.C.n s.C.n) = w2 at *
  rw [← hw2] at A1 z1
  clear hw2
  refine (s1.out _ (R2.below d1)).mono ?_
  rintro e w3 ⟨rfl, ⟨X2, O2⟩, F2, bb⟩
  have A2 := O2.ans F2 F2.1
  have z2 := bb.size
  replace M0 := M0.below bb
  replace M1 := M1.below bb
  replace M2 := M2.below bb
  replace A1 := A1.below bb
  have d3 := d1.trans (bb.mono d1.size)
  clear bb d1 s1 O2 F2
  generalize hs2 : w2.heap.size = b2 at *
  have v1 := M2.2.1 1 _ rfl
  have x1 := M2.2.2 1 (by simp)
  have u2 := M0.2.1 2 _ rfl
  go_wp2_with fail
  have on : OnlyP (fun k => k = w.heap.size + 1 + 1) w3 (w3.setCell ⟨w.heap.size + 1 + 1, 1, none⟩ (.slice (some ⟨b2, 0, none⟩) s.R.n s.R.n)) := (OnlyP.refl (fun k => k = w.heap.size + 1 + 1) w3).set15 rfl _ _
  replace M2 := M2.set 1 (.slice (some ⟨b2, 0, none⟩) s.R.n s.R.n)
  replace M1 := M1.onlyP on (by omega)
  replace M0 := M0.onlyP on (by omega)
  replace A1 := A1.onlyP on (fun k hk e => by omega)
  replace A2 := A2.onlyP on (fun k hk e => by omega)
  replace d3 := d3.setCell (p := ⟨w.heap.size + 1 + 1, 1, none⟩) (by simp; omega) (.slice (some ⟨b2, 0, none⟩) s.R.n s.R.n)
  have hw2 : (w3.setCell ⟨w.heap.size + 1 + 1, 1, none⟩ (.slice (some ⟨b2, 0, none⟩) s.R.n s.R.n)).heap.size = w3.heap.size := by simp
  clear on v1 x1 u2
  generalize w3.setCell ⟨w.heap.size + 1 + 1, 1, none⟩ (.slice (some ⟨b2, 0, none⟩) s.R.n s.R.n) = w4 at *
  rw [← hw2] at A2 z2
  clear hw2
  refine (s2.out _ (R3.below d3)).mono ?_
  rintro e w5 ⟨rfl, A3, bb⟩
  have z3 := bb.size
  replace M0 := M0.below bb
  replace M1 := M1.below bb
  replace M2 := M2.below bb
  replace A1 := A1.below bb
  replace A2 := A2.below bb
  have d5 := d3.trans (bb.mono d3.size)
  clear bb d3 s2
  generalize hs4 : w4.heap.size = b4 at *
  have v0 := M2.2.1 0 _ rfl
  have v1 := M2.2.1 1 _ rfl
  have v2 := M2.2.1 2 _ rfl
  have v3 := M2.2.1 3 _ rfl
  have x2 := M2.2.2 2 (by simp)
  have x3 := M2.2.2 3 (by simp)
  have u3 := M0.2.1 3 _ rfl
  have y0 := M1.2.1 0 _ rfl
  have f0 := M1.2.2 0 (by simp)
  have y1 := M1.2.1 1 _ rfl
  have f1 := M1.2.2 1 (by simp)
  have y2 := M1.2.1 2 _ rfl
  have f2 := M1.2.2 2 (by simp)
  have y3 := M1.2.1 3 _ rfl
  have f3 := M1.2.2 3 (by simp)
  clear M0 M1 M2
  go_wp2_with fail
  refine bodyPost_ret (v := stV s (some ⟨b0, 0, none⟩) s.C.n (some ⟨b2, 0, none⟩) s.R.n (some ⟨b4, 0, none⟩) s.h) (by simp [results, Tryz.results8, go_sem, stV, *]) rfl ⟨_, rfl, ?_, ?_⟩
  · refine AnsSt.wide (lo := b0) (hi := w5.heap.size) (AnsSt.onlyP (S := fun k => k = w.heap.size + 1 + 1 ∨ k = w.heap.size + 1) (w := w5) ?_ ?_ ?_) (by omega) (by simp) (by simp)
    · exact ⟨_, _, _, _, _, _, b2, b4, rfl, by omega, by omega, by omega, Nat.le_refl _, Nat.le_refl _, A1, A2, A3⟩
    · repeat (first | refine OnlyP.set15 ?_ (.inl rfl) _ _ | refine OnlyP.set15 ?_ (.inr rfl) _ _)
      exact OnlyP.refl _ _
    · intro k hk1 hk2 e
      omega
  · refine Below.setCell (Below.setCell (Below.setCell (Below.setCell (Below.setCell (Below.setCell d5 ?_ _) ?_ _) ?_ _) ?_ _) ?_ _) ?_ _ <;> (simp; try omega)
end Go.Proofs.YtnficndeblkjhaaGreatDoor
