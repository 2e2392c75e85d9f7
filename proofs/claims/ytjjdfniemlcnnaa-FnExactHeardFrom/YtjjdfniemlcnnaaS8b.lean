/- l8By, l8Compare of the specification. -/
import Derived.Test.YtjjdfniemlcnnaaSI8
import Derived.Deep.RegionHeld3
namespace Go.Proofs.Ytjjdfniemlcnnaa
open Go.RowKit

set_option maxHeartbeats 400000 in
theorem s_by (x y : Int) (w : World) :
    Calls Try.prog 98 #[.int .i64 x, .int .i64 y] w fun e w' => e = .returned (.int .i64 (cmpI x y)) ∧ w' = w := by
  by_cases h1 : x < y
  · have e1 : cmpI x y = -1 := by unfold cmpI; rw [if_pos h1]
    rw [e1]
    clear e1
    go_enter Try.func98, Try.ntmps98
    go_wp2_with fail
    go_ret
    exact ⟨rfl, rfl⟩
  · by_cases h2 : x > y
    · have e1 : cmpI x y = 1 := by unfold cmpI; rw [if_neg h1, if_pos h2]
      rw [e1]
      clear e1
      go_enter Try.func98, Try.ntmps98
      go_wp2_with fail
      go_ret
      exact ⟨rfl, rfl⟩
    · have e1 : cmpI x y = 0 := by unfold cmpI; rw [if_neg h1, if_neg (by omega)]
      rw [e1]
      clear e1
      go_enter Try.func98, Try.ntmps98
      go_wp2_with fail
      go_ret
      exact ⟨rfl, rfl⟩
set_option maxRecDepth 100000 in
set_option maxHeartbeats 1600000 in
theorem s_compareO (a0 : Option Addr) (c0 : Nat) (a1 : Option Addr) (c1 : Nat) (t : Oc) (b0 : Option Addr) (e0 : Nat) (b1 : Option Addr) (e1 : Nat) (u : Oc) (w : World) :
    Calls Try.prog 92 #[.agg #[.int .i64 t.pe, .int .i64 t.o, .slice a0 t.n0 c0, .int .i64 t.nx, .int .i64 t.md, .int .i64 t.pf, .slice a1 t.n1 c1], .agg #[.int .i64 u.pe, .int .i64 u.o, .slice b0 u.n0 e0, .int .i64 u.nx, .int .i64 u.md, .int .i64 u.pf, .slice b1 u.n1 e1]] w fun e w' => e = .returned (.int .i64 (cmpO t u)) ∧ Below w.heap.size w w' := by
  have d0 : Below w.heap.size w ((w.alloc (.cells #[.int .i64 t.pe, .int .i64 t.o, .slice a0 t.n0 c0, .int .i64 t.nx, .int .i64 t.md, .int .i64 t.pf, .slice a1 t.n1 c1] 49)).alloc (.cells #[.int .i64 u.pe, .int .i64 u.o, .slice b0 u.n0 e0, .int .i64 u.nx, .int .i64 u.md, .int .i64 u.pf, .slice b1 u.n1 e1] 49)) := below_box2 (Below.refl _ _)
  by_cases hp : t.pe = u.pe
  · have hp' : (t.pe == u.pe) = true := by simp [hp]
    have hc : cmpO t u = 0 := if_pos hp
    rw [hc]
    clear hc hp
    go_enter Try.func92, Try.ntmps92
    go_wp2_with fail
    go_ret
    exact ⟨rfl, d0⟩
  · have hp' : (t.pe == u.pe) = false := by simp [hp]
    have hc : cmpO t u = firstO [cmpI u.pf t.pf, cmpI (t.n0 : Int) (u.n0 : Int), cmpI t.o u.o, cmpI t.md u.md, cmpI t.nx u.nx] (cmpI t.pe u.pe) := if_neg hp
    have hhit : Hid (∀ k, (∀ i, i < k → [cmpI u.pf t.pf, cmpI (t.n0 : Int) (u.n0 : Int), cmpI t.o u.o, cmpI t.md u.md, cmpI t.nx u.nx].getD i 0 = 0) → [cmpI u.pf t.pf, cmpI (t.n0 : Int) (u.n0 : Int), cmpI t.o u.o, cmpI t.md u.md, cmpI t.nx u.nx].getD k 0 ≠ 0 → cmpO t u = [cmpI u.pf t.pf, cmpI (t.n0 : Int) (u.n0 : Int), cmpI t.o u.o, cmpI t.md u.md, cmpI t.nx u.nx].getD k 0) := fun k h hk => hc.trans (firstO_hit h hk _)
    have hend : Hid ((∀ i, i < 5 → [cmpI u.pf t.pf, cmpI (t.n0 : Int) (u.n0 : Int), cmpI t.o u.o, cmpI t.md u.md, cmpI t.nx u.nx].getD i 0 = 0) → cmpO t u = cmpI t.pe u.pe) := fun h => hc.trans (firstO_none (l := [cmpI u.pf t.pf, cmpI (t.n0 : Int) (u.n0 : Int), cmpI t.o u.o, cmpI t.md u.md, cmpI t.nx u.nx]) h _)
    clear hc
    generalize cmpO t u = R at *
    have M0 := (Mut.new w #[.int .i64 t.pe, .int .i64 t.o, .slice a0 t.n0 c0, .int .i64 t.nx, .int .i64 t.md, .int .i64 t.pf, .slice a1 t.n1 c1] 49).alloc (.cells #[.int .i64 u.pe, .int .i64 u.o, .slice b0 u.n0 e0, .int .i64 u.nx, .int .i64 u.md, .int .i64 u.pf, .slice b1 u.n1 e1] 49)
    have M1 := Mut.new (w.alloc (.cells #[.int .i64 t.pe, .int .i64 t.o, .slice a0 t.n0 c0, .int .i64 t.nx, .int .i64 t.md, .int .i64 t.pf, .slice a1 t.n1 c1] 49)) #[.int .i64 u.pe, .int .i64 u.o, .slice b0 u.n0 e0, .int .i64 u.nx, .int .i64 u.md, .int .i64 u.pf, .slice b1 u.n1 e1] 49
    rw [World.size_alloc] at M1
    go_enter Try.func92, Try.ntmps92
    go_wp2_with fail
    generalize (w.alloc (.cells #[.int .i64 t.pe, .int .i64 t.o, .slice a0 t.n0 c0, .int .i64 t.nx, .int .i64 t.md, .int .i64 t.pf, .slice a1 t.n1 c1] 49)).alloc (.cells #[.int .i64 u.pe, .int .i64 u.o, .slice b0 u.n0 e0, .int .i64 u.nx, .int .i64 u.md, .int .i64 u.pf, .slice b1 u.n1 e1] 49) = w2 at *
    have b1 : w.heap.size < w2.heap.size := M0.1
    have b2 : w.heap.size + 1 < w2.heap.size := M1.1
    have u1 := M0.2.1 1 _ rfl
    have v1 := M1.2.1 1 _ rfl
    have u2 := M0.2.1 2 _ rfl
    have v2 := M1.2.1 2 _ rfl
    have u3 := M0.2.1 3 _ rfl
    have v3 := M1.2.1 3 _ rfl
    have u4 := M0.2.1 4 _ rfl
    have v4 := M1.2.1 4 _ rfl
    have u5 := M0.2.1 5 _ rfl
    have v5 := M1.2.1 5 _ rfl
    go_region_held3 (fun w' => w'.cell? ⟨w.heap.size, 1, none⟩ = some (.int .i64 t.o) ∧ w'.cell? ⟨w.heap.size, 2, none⟩ = some (.slice a0 t.n0 c0) ∧ w'.cell? ⟨w.heap.size, 3, none⟩ = some (.int .i64 t.nx) ∧ w'.cell? ⟨w.heap.size, 4, none⟩ = some (.int .i64 t.md) ∧ w'.cell? ⟨w.heap.size, 5, none⟩ = some (.int .i64 t.pf) ∧ w'.cell? ⟨w.heap.size + 1, 1, none⟩ = some (.int .i64 u.o) ∧ w'.cell? ⟨w.heap.size + 1, 2, none⟩ = some (.slice b0 u.n0 e0) ∧ w'.cell? ⟨w.heap.size + 1, 3, none⟩ = some (.int .i64 u.nx) ∧ w'.cell? ⟨w.heap.size + 1, 4, none⟩ = some (.int .i64 u.md) ∧ w'.cell? ⟨w.heap.size + 1, 5, none⟩ = some (.int .i64 u.pf))
      (first | exact ⟨u1, u2, u3, u4, u5, v1, v2, v3, v4, v5⟩ | go_keep)
      ((first | (go_at_call 98; refine (s_by _ _ _).mono ?_; rintro e w' ⟨rfl, rfl⟩)))
    all_goals
      have MT := (Mut.new w2 #[.int .i64 (cmpI u.pf t.pf), .int .i64 (cmpI (t.n0 : Int) (u.n0 : Int)), .int .i64 (cmpI t.o u.o), .int .i64 (cmpI t.md u.md), .int .i64 (cmpI t.nx u.nx)] 3).drew
      have N0 := (M0.alloc (.cells #[.int .i64 (cmpI u.pf t.pf), .int .i64 (cmpI (t.n0 : Int) (u.n0 : Int)), .int .i64 (cmpI t.o u.o), .int .i64 (cmpI t.md u.md), .int .i64 (cmpI t.nx u.nx)] 3)).drew
      have N1 := (M1.alloc (.cells #[.int .i64 (cmpI u.pf t.pf), .int .i64 (cmpI (t.n0 : Int) (u.n0 : Int)), .int .i64 (cmpI t.o u.o), .int .i64 (cmpI t.md u.md), .int .i64 (cmpI t.nx u.nx)] 3)).drew
      have d2 : Below w.heap.size w (w2.alloc (.cells #[.int .i64 (cmpI u.pf t.pf), .int .i64 (cmpI (t.n0 : Int) (u.n0 : Int)), .int .i64 (cmpI t.o u.o), .int .i64 (cmpI t.md u.md), .int .i64 (cmpI t.nx u.nx)] 3)).drew := d0.trans (((below_box (Below.refl _ _)).drew).mono d0.size)
      generalize (w2.alloc (.cells #[.int .i64 (cmpI u.pf t.pf), .int .i64 (cmpI (t.n0 : Int) (u.n0 : Int)), .int .i64 (cmpI t.o u.o), .int .i64 (cmpI t.md u.md), .int .i64 (cmpI t.nx u.nx)] 3)).drew = w3 at *
      clear u1 u2 u3 u4 u5 v1 v2 v3 v4 v5 M0 M1 d0
      have d2 := hide d2
      generalize cmpI u.pf t.pf = x0 at *
      generalize cmpI (t.n0 : Int) (u.n0 : Int) = x1 at *
      generalize cmpI t.o u.o = x2 at *
      generalize cmpI t.md u.md = x3 at *
      generalize cmpI t.nx u.nx = x4 at *
      have t0 := MT.2.1 0 _ rfl
      have t1 := MT.2.1 1 _ rfl
      have t2 := MT.2.1 2 _ rfl
      have t3 := MT.2.1 3 _ rfl
      have t4 := MT.2.1 4 _ rfl
      have p0 := N0.2.1 0 _ rfl
      have p1 := N1.2.1 0 _ rfl
      clear MT N0 N1
      go_wp2_with fail
      go_loopw [51] (fun y wr => ∃ k : Nat, y = .int .i64 k ∧ k ≤ 5 ∧ Hid (∀ i, i < k → [x0, x1, x2, x3, x4].getD i 0 = 0) ∧ wr = w3) (fun y _ => 5 - (intOf y).toNat)
      case atStart => exact ⟨0, rfl, by omega, fun i hi => absurd hi (by omega), rfl⟩
      case round =>
        obtain ⟨k, rfl, hk, hall, rfl⟩ := hrel
        rcases (show k = 0 ∨ k = 1 ∨ k = 2 ∨ k = 3 ∨ k = 4 ∨ k = 5 by omega) with rfl | rfl | rfl | rfl | rfl | rfl
        · by_cases hx : x0 = 0
          · have hN := hide (getD_next hall.out (show [x0, x1, x2, x3, x4].getD 0 0 = 0 from hx))
            have hx' : (x0 != 0) = false := by simp [hx]
            clear hall hhit hend hx
            go_wp2_with fail
            exact ⟨⟨1, by go_num, by omega, hN.out, by first | rfl | trivial⟩, by simp [intOf]⟩
          · have hE := hide (hhit.out 0 hall.out (show [x0, x1, x2, x3, x4].getD 0 0 ≠ 0 from hx))
            have hx' : (x0 != 0) = true := by simp [hx]
            clear hall hhit hend hx
            go_wp2_with fail
            go_ret
            exact ⟨by rw [hE.out]; rfl, d2.out⟩
        · by_cases hx : x1 = 0
          · have hN := hide (getD_next hall.out (show [x0, x1, x2, x3, x4].getD 1 0 = 0 from hx))
            have hx' : (x1 != 0) = false := by simp [hx]
            clear hall hhit hend hx
            go_wp2_with fail
            exact ⟨⟨2, by go_num, by omega, hN.out, by first | rfl | trivial⟩, by simp [intOf]⟩
          · have hE := hide (hhit.out 1 hall.out (show [x0, x1, x2, x3, x4].getD 1 0 ≠ 0 from hx))
            have hx' : (x1 != 0) = true := by simp [hx]
            clear hall hhit hend hx
            go_wp2_with fail
            go_ret
            exact ⟨by rw [hE.out]; rfl, d2.out⟩
        · by_cases hx : x2 = 0
          · have hN := hide (getD_next hall.out (show [x0, x1, x2, x3, x4].getD 2 0 = 0 from hx))
            have hx' : (x2 != 0) = false := by simp [hx]
            clear hall hhit hend hx
            go_wp2_with fail
            exact ⟨⟨3, by go_num, by omega, hN.out, by first | rfl | trivial⟩, by simp [intOf]⟩
          · have hE := hide (hhit.out 2 hall.out (show [x0, x1, x2, x3, x4].getD 2 0 ≠ 0 from hx))
            have hx' : (x2 != 0) = true := by simp [hx]
            clear hall hhit hend hx
            go_wp2_with fail
            go_ret
            exact ⟨by rw [hE.out]; rfl, d2.out⟩
        · by_cases hx : x3 = 0
          · have hN := hide (getD_next hall.out (show [x0, x1, x2, x3, x4].getD 3 0 = 0 from hx))
            have hx' : (x3 != 0) = false := by simp [hx]
            clear hall hhit hend hx
            go_wp2_with fail
            exact ⟨⟨4, by go_num, by omega, hN.out, by first | rfl | trivial⟩, by simp [intOf]⟩
          · have hE := hide (hhit.out 3 hall.out (show [x0, x1, x2, x3, x4].getD 3 0 ≠ 0 from hx))
            have hx' : (x3 != 0) = true := by simp [hx]
            clear hall hhit hend hx
            go_wp2_with fail
            go_ret
            exact ⟨by rw [hE.out]; rfl, d2.out⟩
        · by_cases hx : x4 = 0
          · have hN := hide (getD_next hall.out (show [x0, x1, x2, x3, x4].getD 4 0 = 0 from hx))
            have hx' : (x4 != 0) = false := by simp [hx]
            clear hall hhit hend hx
            go_wp2_with fail
            exact ⟨⟨5, by go_num, by omega, hN.out, by first | rfl | trivial⟩, by simp [intOf]⟩
          · have hE := hide (hhit.out 4 hall.out (show [x0, x1, x2, x3, x4].getD 4 0 ≠ 0 from hx))
            have hx' : (x4 != 0) = true := by simp [hx]
            clear hall hhit hend hx
            go_wp2_with fail
            go_ret
            exact ⟨by rw [hE.out]; rfl, d2.out⟩
        · have hE := hide (hend.out (fun i hi => hall.out i hi))
          have B := hide (fun w => s_by t.pe u.pe w)
          clear hall hhit hend
          go_wp2_with fail
          refine (B.out _).mono ?_
          rintro e w5 ⟨rfl, rfl⟩
          go_wp2_with fail
          go_ret
          exact ⟨by rw [hE.out]; rfl, d2.out⟩
end Go.Proofs.Ytjjdfniemlcnnaa
