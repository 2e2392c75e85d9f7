/- The steps of the program's order of offers. -/
import Derived.Test.YtjjdfniemlcnnaaSI8
import Derived.Test.YtjjdfniemlcnnaaAll8
namespace Go.Proofs.Ytjjdfniemlcnnaa
open Go.RowKit

/-- Nothing old has turned, and no fewer draws were made. -/
def Drn (w w' : World) : Prop := Below w.heap.size w w' ∧ w.drawn ≤ w'.drawn
theorem Drn.refl (w : World) : Drn w w := ⟨Below.refl _ _, Nat.le_refl _⟩
theorem Drn.trans {a b c : World} (h : Drn a b) (k : Drn b c) : Drn a c := ⟨h.1.trans (k.1.mono h.1.size), Nat.le_trans h.2 k.2⟩
theorem Drn.box (w : World) (o : Obj) : Drn w (w.alloc o) := ⟨below_box (Below.refl _ _), Nat.le_refl _⟩
theorem Drn.box2 (w : World) (o o' : Obj) : Drn w ((w.alloc o).alloc o') := (Drn.box w o).trans (Drn.box _ o')
set_option maxRecDepth 100000 in
set_option maxHeartbeats 800000 in
theorem i_byPref (a0 : Option Addr) (c0 : Nat) (a1 : Option Addr) (c1 : Nat) (t : Oc) (b0 : Option Addr) (e0 : Nat) (b1 : Option Addr) (e1 : Nat) (u : Oc) (w : World) :
    Calls Try.prog 104 #[.agg #[.int .i64 t.pe, .int .i64 t.o, .slice a0 t.n0 c0, .int .i64 t.nx, .int .i64 t.md, .int .i64 t.pf, .slice a1 t.n1 c1], .agg #[.int .i64 u.pe, .int .i64 u.o, .slice b0 u.n0 e0, .int .i64 u.nx, .int .i64 u.md, .int .i64 u.pf, .slice b1 u.n1 e1]] w fun e w' => e = .returned (.int .i64 (cmpI u.pf t.pf)) ∧ Drn w w' := by
  have C := hide (fun w => c_compare u.pf t.pf w)
  have d0 := hide (Drn.box2 w (.cells #[.int .i64 t.pe, .int .i64 t.o, .slice a0 t.n0 c0, .int .i64 t.nx, .int .i64 t.md, .int .i64 t.pf, .slice a1 t.n1 c1] 49) (.cells #[.int .i64 u.pe, .int .i64 u.o, .slice b0 u.n0 e0, .int .i64 u.nx, .int .i64 u.md, .int .i64 u.pf, .slice b1 u.n1 e1] 49))
  go_enter Try.func104, Try.ntmps104
  go_wp2_with fail
  refine (C.out _).mono ?_
  rintro e w1 ⟨rfl, rfl⟩
  go_wp2_with fail
  go_ret
  exact ⟨rfl, d0.out⟩
set_option maxRecDepth 100000 in
set_option maxHeartbeats 800000 in
theorem i_byPath (a0 : Option Addr) (c0 : Nat) (a1 : Option Addr) (c1 : Nat) (t : Oc) (b0 : Option Addr) (e0 : Nat) (b1 : Option Addr) (e1 : Nat) (u : Oc) (w : World) :
    Calls Try.prog 105 #[.agg #[.int .i64 t.pe, .int .i64 t.o, .slice a0 t.n0 c0, .int .i64 t.nx, .int .i64 t.md, .int .i64 t.pf, .slice a1 t.n1 c1], .agg #[.int .i64 u.pe, .int .i64 u.o, .slice b0 u.n0 e0, .int .i64 u.nx, .int .i64 u.md, .int .i64 u.pf, .slice b1 u.n1 e1]] w fun e w' => e = .returned (.int .i64 (cmpI t.n0 u.n0)) ∧ Drn w w' := by
  have C := hide (fun w => c_compare t.n0 u.n0 w)
  have d0 := hide (Drn.box2 w (.cells #[.int .i64 t.pe, .int .i64 t.o, .slice a0 t.n0 c0, .int .i64 t.nx, .int .i64 t.md, .int .i64 t.pf, .slice a1 t.n1 c1] 49) (.cells #[.int .i64 u.pe, .int .i64 u.o, .slice b0 u.n0 e0, .int .i64 u.nx, .int .i64 u.md, .int .i64 u.pf, .slice b1 u.n1 e1] 49))
  go_enter Try.func105, Try.ntmps105
  go_wp2_with fail
  refine (C.out _).mono ?_
  rintro e w1 ⟨rfl, rfl⟩
  go_wp2_with fail
  go_ret
  exact ⟨rfl, d0.out⟩
set_option maxRecDepth 100000 in
set_option maxHeartbeats 800000 in
theorem i_byOrigin (a0 : Option Addr) (c0 : Nat) (a1 : Option Addr) (c1 : Nat) (t : Oc) (b0 : Option Addr) (e0 : Nat) (b1 : Option Addr) (e1 : Nat) (u : Oc) (w : World) :
    Calls Try.prog 106 #[.agg #[.int .i64 t.pe, .int .i64 t.o, .slice a0 t.n0 c0, .int .i64 t.nx, .int .i64 t.md, .int .i64 t.pf, .slice a1 t.n1 c1], .agg #[.int .i64 u.pe, .int .i64 u.o, .slice b0 u.n0 e0, .int .i64 u.nx, .int .i64 u.md, .int .i64 u.pf, .slice b1 u.n1 e1]] w fun e w' => e = .returned (.int .i64 (cmpI t.o u.o)) ∧ Drn w w' := by
  have C := hide (fun w => c_compare t.o u.o w)
  have d0 := hide (Drn.box2 w (.cells #[.int .i64 t.pe, .int .i64 t.o, .slice a0 t.n0 c0, .int .i64 t.nx, .int .i64 t.md, .int .i64 t.pf, .slice a1 t.n1 c1] 49) (.cells #[.int .i64 u.pe, .int .i64 u.o, .slice b0 u.n0 e0, .int .i64 u.nx, .int .i64 u.md, .int .i64 u.pf, .slice b1 u.n1 e1] 49))
  go_enter Try.func106, Try.ntmps106
  go_wp2_with fail
  refine (C.out _).mono ?_
  rintro e w1 ⟨rfl, rfl⟩
  go_wp2_with fail
  go_ret
  exact ⟨rfl, d0.out⟩
set_option maxRecDepth 100000 in
set_option maxHeartbeats 800000 in
theorem i_byMed (a0 : Option Addr) (c0 : Nat) (a1 : Option Addr) (c1 : Nat) (t : Oc) (b0 : Option Addr) (e0 : Nat) (b1 : Option Addr) (e1 : Nat) (u : Oc) (w : World) :
    Calls Try.prog 107 #[.agg #[.int .i64 t.pe, .int .i64 t.o, .slice a0 t.n0 c0, .int .i64 t.nx, .int .i64 t.md, .int .i64 t.pf, .slice a1 t.n1 c1], .agg #[.int .i64 u.pe, .int .i64 u.o, .slice b0 u.n0 e0, .int .i64 u.nx, .int .i64 u.md, .int .i64 u.pf, .slice b1 u.n1 e1]] w fun e w' => e = .returned (.int .i64 (cmpI t.md u.md)) ∧ Drn w w' := by
  have C := hide (fun w => c_compare t.md u.md w)
  have d0 := hide (Drn.box2 w (.cells #[.int .i64 t.pe, .int .i64 t.o, .slice a0 t.n0 c0, .int .i64 t.nx, .int .i64 t.md, .int .i64 t.pf, .slice a1 t.n1 c1] 49) (.cells #[.int .i64 u.pe, .int .i64 u.o, .slice b0 u.n0 e0, .int .i64 u.nx, .int .i64 u.md, .int .i64 u.pf, .slice b1 u.n1 e1] 49))
  go_enter Try.func107, Try.ntmps107
  go_wp2_with fail
  refine (C.out _).mono ?_
  rintro e w1 ⟨rfl, rfl⟩
  go_wp2_with fail
  go_ret
  exact ⟨rfl, d0.out⟩
set_option maxRecDepth 100000 in
set_option maxHeartbeats 800000 in
theorem i_byNext (a0 : Option Addr) (c0 : Nat) (a1 : Option Addr) (c1 : Nat) (t : Oc) (b0 : Option Addr) (e0 : Nat) (b1 : Option Addr) (e1 : Nat) (u : Oc) (w : World) :
    Calls Try.prog 108 #[.agg #[.int .i64 t.pe, .int .i64 t.o, .slice a0 t.n0 c0, .int .i64 t.nx, .int .i64 t.md, .int .i64 t.pf, .slice a1 t.n1 c1], .agg #[.int .i64 u.pe, .int .i64 u.o, .slice b0 u.n0 e0, .int .i64 u.nx, .int .i64 u.md, .int .i64 u.pf, .slice b1 u.n1 e1]] w fun e w' => e = .returned (.int .i64 (cmpI t.nx u.nx)) ∧ Drn w w' := by
  have C := hide (fun w => c_compare t.nx u.nx w)
  have d0 := hide (Drn.box2 w (.cells #[.int .i64 t.pe, .int .i64 t.o, .slice a0 t.n0 c0, .int .i64 t.nx, .int .i64 t.md, .int .i64 t.pf, .slice a1 t.n1 c1] 49) (.cells #[.int .i64 u.pe, .int .i64 u.o, .slice b0 u.n0 e0, .int .i64 u.nx, .int .i64 u.md, .int .i64 u.pf, .slice b1 u.n1 e1] 49))
  go_enter Try.func108, Try.ntmps108
  go_wp2_with fail
  refine (C.out _).mono ?_
  rintro e w1 ⟨rfl, rfl⟩
  go_wp2_with fail
  go_ret
  exact ⟨rfl, d0.out⟩
set_option maxRecDepth 100000 in
set_option maxHeartbeats 800000 in
theorem i_byPeer (a0 : Option Addr) (c0 : Nat) (a1 : Option Addr) (c1 : Nat) (t : Oc) (b0 : Option Addr) (e0 : Nat) (b1 : Option Addr) (e1 : Nat) (u : Oc) (w : World) :
    Calls Try.prog 109 #[.agg #[.int .i64 t.pe, .int .i64 t.o, .slice a0 t.n0 c0, .int .i64 t.nx, .int .i64 t.md, .int .i64 t.pf, .slice a1 t.n1 c1], .agg #[.int .i64 u.pe, .int .i64 u.o, .slice b0 u.n0 e0, .int .i64 u.nx, .int .i64 u.md, .int .i64 u.pf, .slice b1 u.n1 e1]] w fun e w' => e = .returned (.int .i64 (cmpI t.pe u.pe)) ∧ Drn w w' := by
  have C := hide (fun w => c_compare t.pe u.pe w)
  have d0 := hide (Drn.box2 w (.cells #[.int .i64 t.pe, .int .i64 t.o, .slice a0 t.n0 c0, .int .i64 t.nx, .int .i64 t.md, .int .i64 t.pf, .slice a1 t.n1 c1] 49) (.cells #[.int .i64 u.pe, .int .i64 u.o, .slice b0 u.n0 e0, .int .i64 u.nx, .int .i64 u.md, .int .i64 u.pf, .slice b1 u.n1 e1] 49))
  go_enter Try.func109, Try.ntmps109
  go_wp2_with fail
  refine (C.out _).mono ?_
  rintro e w1 ⟨rfl, rfl⟩
  go_wp2_with fail
  go_ret
  exact ⟨rfl, d0.out⟩
set_option maxRecDepth 100000 in
set_option maxHeartbeats 1600000 in
theorem i_orderO (a0 : Option Addr) (c0 : Nat) (a1 : Option Addr) (c1 : Nat) (t : Oc) (b0 : Option Addr) (e0 : Nat) (b1 : Option Addr) (e1 : Nat) (u : Oc) (w : World) :
    Calls Try.prog 101 #[.agg #[.int .i64 t.pe, .int .i64 t.o, .slice a0 t.n0 c0, .int .i64 t.nx, .int .i64 t.md, .int .i64 t.pf, .slice a1 t.n1 c1], .agg #[.int .i64 u.pe, .int .i64 u.o, .slice b0 u.n0 e0, .int .i64 u.nx, .int .i64 u.md, .int .i64 u.pf, .slice b1 u.n1 e1]] w fun e w' => e = .returned (.int .i64 (cmpO t u)) ∧ Drn w w' := by
  have d0 := hide (Drn.box2 w (.cells #[.int .i64 t.pe, .int .i64 t.o, .slice a0 t.n0 c0, .int .i64 t.nx, .int .i64 t.md, .int .i64 t.pf, .slice a1 t.n1 c1] 49) (.cells #[.int .i64 u.pe, .int .i64 u.o, .slice b0 u.n0 e0, .int .i64 u.nx, .int .i64 u.md, .int .i64 u.pf, .slice b1 u.n1 e1] 49))
  by_cases hp : t.pe = u.pe
  · have hp' : (t.pe == u.pe) = true := by simp [hp]
    have hc : cmpO t u = 0 := if_pos hp
    rw [hc]
    clear hc hp
    go_enter Try.func101, Try.ntmps101
    go_wp2_with fail
    go_ret
    exact ⟨rfl, d0.out⟩
  · have hp' : (t.pe == u.pe) = false := by simp [hp]
    have hc : cmpO t u = firstO [cmpI u.pf t.pf, cmpI (t.n0 : Int) (u.n0 : Int), cmpI t.o u.o, cmpI t.md u.md, cmpI t.nx u.nx, cmpI t.pe u.pe] 0 := (if_neg hp).trans (firstO_end [cmpI u.pf t.pf, cmpI (t.n0 : Int) (u.n0 : Int), cmpI t.o u.o, cmpI t.md u.md, cmpI t.nx u.nx] (cmpI t.pe u.pe)).symm
    have hhit : Hid (∀ k, (∀ i, i < k → [cmpI u.pf t.pf, cmpI (t.n0 : Int) (u.n0 : Int), cmpI t.o u.o, cmpI t.md u.md, cmpI t.nx u.nx, cmpI t.pe u.pe].getD i 0 = 0) → [cmpI u.pf t.pf, cmpI (t.n0 : Int) (u.n0 : Int), cmpI t.o u.o, cmpI t.md u.md, cmpI t.nx u.nx, cmpI t.pe u.pe].getD k 0 ≠ 0 → cmpO t u = [cmpI u.pf t.pf, cmpI (t.n0 : Int) (u.n0 : Int), cmpI t.o u.o, cmpI t.md u.md, cmpI t.nx u.nx, cmpI t.pe u.pe].getD k 0) := fun k h hk => hc.trans (firstO_hit h hk _)
    have hend : Hid ((∀ i, i < 6 → [cmpI u.pf t.pf, cmpI (t.n0 : Int) (u.n0 : Int), cmpI t.o u.o, cmpI t.md u.md, cmpI t.nx u.nx, cmpI t.pe u.pe].getD i 0 = 0) → cmpO t u = 0) := fun h => hc.trans (firstO_none (l := [cmpI u.pf t.pf, cmpI (t.n0 : Int) (u.n0 : Int), cmpI t.o u.o, cmpI t.md u.md, cmpI t.nx u.nx, cmpI t.pe u.pe]) h _)
    clear hc hp
    generalize cmpO t u = R at *
    have C0 := hide (fun w => i_byPref a0 c0 a1 c1 t b0 e0 b1 e1 u w)
    have C1 := hide (fun w => i_byPath a0 c0 a1 c1 t b0 e0 b1 e1 u w)
    have C2 := hide (fun w => i_byOrigin a0 c0 a1 c1 t b0 e0 b1 e1 u w)
    have C3 := hide (fun w => i_byMed a0 c0 a1 c1 t b0 e0 b1 e1 u w)
    have C4 := hide (fun w => i_byNext a0 c0 a1 c1 t b0 e0 b1 e1 u w)
    have C5 := hide (fun w => i_byPeer a0 c0 a1 c1 t b0 e0 b1 e1 u w)
    generalize cmpI u.pf t.pf = x0 at *
    generalize cmpI (t.n0 : Int) (u.n0 : Int) = x1 at *
    generalize cmpI t.o u.o = x2 at *
    generalize cmpI t.md u.md = x3 at *
    generalize cmpI t.nx u.nx = x4 at *
    generalize cmpI t.pe u.pe = x5 at *
    have M0 := ((Mut.new w #[.int .i64 t.pe, .int .i64 t.o, .slice a0 t.n0 c0, .int .i64 t.nx, .int .i64 t.md, .int .i64 t.pf, .slice a1 t.n1 c1] 49).alloc (.cells #[.int .i64 u.pe, .int .i64 u.o, .slice b0 u.n0 e0, .int .i64 u.nx, .int .i64 u.md, .int .i64 u.pf, .slice b1 u.n1 e1] 49)).alloc (.cells #[.func (.func 104) #[] #[], .func (.func 105) #[] #[], .func (.func 106) #[] #[], .func (.func 107) #[] #[], .func (.func 108) #[] #[], .func (.func 109) #[] #[]] 119)
    have M1 := (Mut.new (w.alloc (.cells #[.int .i64 t.pe, .int .i64 t.o, .slice a0 t.n0 c0, .int .i64 t.nx, .int .i64 t.md, .int .i64 t.pf, .slice a1 t.n1 c1] 49)) #[.int .i64 u.pe, .int .i64 u.o, .slice b0 u.n0 e0, .int .i64 u.nx, .int .i64 u.md, .int .i64 u.pf, .slice b1 u.n1 e1] 49).alloc (.cells #[.func (.func 104) #[] #[], .func (.func 105) #[] #[], .func (.func 106) #[] #[], .func (.func 107) #[] #[], .func (.func 108) #[] #[], .func (.func 109) #[] #[]] 119)
    have M2 := Mut.new ((w.alloc (.cells #[.int .i64 t.pe, .int .i64 t.o, .slice a0 t.n0 c0, .int .i64 t.nx, .int .i64 t.md, .int .i64 t.pf, .slice a1 t.n1 c1] 49)).alloc (.cells #[.int .i64 u.pe, .int .i64 u.o, .slice b0 u.n0 e0, .int .i64 u.nx, .int .i64 u.md, .int .i64 u.pf, .slice b1 u.n1 e1] 49)) #[.func (.func 104) #[] #[], .func (.func 105) #[] #[], .func (.func 106) #[] #[], .func (.func 107) #[] #[], .func (.func 108) #[] #[], .func (.func 109) #[] #[]] 119
    have d3 := d0.out.trans (Drn.box ((w.alloc (.cells #[.int .i64 t.pe, .int .i64 t.o, .slice a0 t.n0 c0, .int .i64 t.nx, .int .i64 t.md, .int .i64 t.pf, .slice a1 t.n1 c1] 49)).alloc (.cells #[.int .i64 u.pe, .int .i64 u.o, .slice b0 u.n0 e0, .int .i64 u.nx, .int .i64 u.md, .int .i64 u.pf, .slice b1 u.n1 e1] 49)) (.cells #[.func (.func 104) #[] #[], .func (.func 105) #[] #[], .func (.func 106) #[] #[], .func (.func 107) #[] #[], .func (.func 108) #[] #[], .func (.func 109) #[] #[]] 119))
    simp only [World.size_alloc] at M1 M2
    clear d0
    go_enter Try.func101, Try.ntmps101
    go_wp2_with fail
    generalize ((w.alloc (.cells #[.int .i64 t.pe, .int .i64 t.o, .slice a0 t.n0 c0, .int .i64 t.nx, .int .i64 t.md, .int .i64 t.pf, .slice a1 t.n1 c1] 49)).alloc (.cells #[.int .i64 u.pe, .int .i64 u.o, .slice b0 u.n0 e0, .int .i64 u.nx, .int .i64 u.md, .int .i64 u.pf, .slice b1 u.n1 e1] 49)).alloc (.cells #[.func (.func 104) #[] #[], .func (.func 105) #[] #[], .func (.func 106) #[] #[], .func (.func 107) #[] #[], .func (.func 108) #[] #[], .func (.func 109) #[] #[]] 119) = w3 at *
    go_loopw [17] (fun y wr => ∃ k : Nat, y = .int .i64 k ∧ k ≤ 6 ∧ Hid (∀ i, i < k → [x0, x1, x2, x3, x4, x5].getD i 0 = 0) ∧ Mut wr w.heap.size [.int .i64 t.pe, .int .i64 t.o, .slice a0 t.n0 c0, .int .i64 t.nx, .int .i64 t.md, .int .i64 t.pf, .slice a1 t.n1 c1] ∧ Mut wr (w.heap.size + 1) [.int .i64 u.pe, .int .i64 u.o, .slice b0 u.n0 e0, .int .i64 u.nx, .int .i64 u.md, .int .i64 u.pf, .slice b1 u.n1 e1] ∧ Mut wr (w.heap.size + 1 + 1) [.func (.func 104) #[] #[], .func (.func 105) #[] #[], .func (.func 106) #[] #[], .func (.func 107) #[] #[], .func (.func 108) #[] #[], .func (.func 109) #[] #[]] ∧ Drn w wr) (fun y _ => 6 - (intOf y).toNat)
    case atStart => exact ⟨0, rfl, by omega, fun i hi => absurd hi (by omega), M0, M1, M2, d3⟩
    case round =>
      clear M0 M1 M2 d3
      obtain ⟨k, rfl, hk, hall, M0, M1, M2, d3⟩ := hrel
      have u0 := M0.2.1 0 _ rfl
      have v0 := M1.2.1 0 _ rfl
      have u1 := M0.2.1 1 _ rfl
      have v1 := M1.2.1 1 _ rfl
      have u2 := M0.2.1 2 _ rfl
      have v2 := M1.2.1 2 _ rfl
      have u3 := M0.2.1 3 _ rfl
      have v3 := M1.2.1 3 _ rfl
      have u4 := M0.2.1 4 _ rfl
      have v4 := M1.2.1 4 _ rfl
      have u5 := M0.2.1 5 _ rfl
      have v5 := M1.2.1 5 _ rfl
      have u6 := M0.2.1 6 _ rfl
      have v6 := M1.2.1 6 _ rfl
      have f0 := M2.2.1 0 _ rfl
      have f1 := M2.2.1 1 _ rfl
      have f2 := M2.2.1 2 _ rfl
      have f3 := M2.2.1 3 _ rfl
      have f4 := M2.2.1 4 _ rfl
      have f5 := M2.2.1 5 _ rfl
      rcases (show k = 0 ∨ k = 1 ∨ k = 2 ∨ k = 3 ∨ k = 4 ∨ k = 5 ∨ k = 6 by omega) with rfl | rfl | rfl | rfl | rfl | rfl | rfl
      · by_cases hx : x0 = 0
        · have hN := hide (getD_next hall.out (show [x0, x1, x2, x3, x4, x5].getD 0 0 = 0 from hx))
          have hx' : (x0 != 0) = false := by simp [hx]
          clear hall hhit hend
          go_wp2_with fail
          refine (C0.out _).mono ?_
          rintro e w5 ⟨rfl, d5⟩
          go_wp2_with fail
          exact ⟨⟨1, by go_num, by omega, hN.out, M0.below d5.1, M1.below d5.1, M2.below d5.1, d3.trans d5⟩, by simp [intOf]⟩
        · have hE := hide (hhit.out 0 hall.out (show [x0, x1, x2, x3, x4, x5].getD 0 0 ≠ 0 from hx))
          have hx' : (x0 != 0) = true := by simp [hx]
          clear hall hhit hend hx
          go_wp2_with fail
          refine (C0.out _).mono ?_
          rintro e w5 ⟨rfl, d5⟩
          go_wp2_with fail
          go_ret
          exact ⟨by rw [hE.out]; rfl, d3.trans d5⟩
      · by_cases hx : x1 = 0
        · have hN := hide (getD_next hall.out (show [x0, x1, x2, x3, x4, x5].getD 1 0 = 0 from hx))
          have hx' : (x1 != 0) = false := by simp [hx]
          clear hall hhit hend
          go_wp2_with fail
          refine (C1.out _).mono ?_
          rintro e w5 ⟨rfl, d5⟩
          go_wp2_with fail
          exact ⟨⟨2, by go_num, by omega, hN.out, M0.below d5.1, M1.below d5.1, M2.below d5.1, d3.trans d5⟩, by simp [intOf]⟩
        · have hE := hide (hhit.out 1 hall.out (show [x0, x1, x2, x3, x4, x5].getD 1 0 ≠ 0 from hx))
          have hx' : (x1 != 0) = true := by simp [hx]
          clear hall hhit hend hx
          go_wp2_with fail
          refine (C1.out _).mono ?_
          rintro e w5 ⟨rfl, d5⟩
          go_wp2_with fail
          go_ret
          exact ⟨by rw [hE.out]; rfl, d3.trans d5⟩
      · by_cases hx : x2 = 0
        · have hN := hide (getD_next hall.out (show [x0, x1, x2, x3, x4, x5].getD 2 0 = 0 from hx))
          have hx' : (x2 != 0) = false := by simp [hx]
          clear hall hhit hend
          go_wp2_with fail
          refine (C2.out _).mono ?_
          rintro e w5 ⟨rfl, d5⟩
          go_wp2_with fail
          exact ⟨⟨3, by go_num, by omega, hN.out, M0.below d5.1, M1.below d5.1, M2.below d5.1, d3.trans d5⟩, by simp [intOf]⟩
        · have hE := hide (hhit.out 2 hall.out (show [x0, x1, x2, x3, x4, x5].getD 2 0 ≠ 0 from hx))
          have hx' : (x2 != 0) = true := by simp [hx]
          clear hall hhit hend hx
          go_wp2_with fail
          refine (C2.out _).mono ?_
          rintro e w5 ⟨rfl, d5⟩
          go_wp2_with fail
          go_ret
          exact ⟨by rw [hE.out]; rfl, d3.trans d5⟩
      · by_cases hx : x3 = 0
        · have hN := hide (getD_next hall.out (show [x0, x1, x2, x3, x4, x5].getD 3 0 = 0 from hx))
          have hx' : (x3 != 0) = false := by simp [hx]
          clear hall hhit hend
          go_wp2_with fail
          refine (C3.out _).mono ?_
          rintro e w5 ⟨rfl, d5⟩
          go_wp2_with fail
          exact ⟨⟨4, by go_num, by omega, hN.out, M0.below d5.1, M1.below d5.1, M2.below d5.1, d3.trans d5⟩, by simp [intOf]⟩
        · have hE := hide (hhit.out 3 hall.out (show [x0, x1, x2, x3, x4, x5].getD 3 0 ≠ 0 from hx))
          have hx' : (x3 != 0) = true := by simp [hx]
          clear hall hhit hend hx
          go_wp2_with fail
          refine (C3.out _).mono ?_
          rintro e w5 ⟨rfl, d5⟩
          go_wp2_with fail
          go_ret
          exact ⟨by rw [hE.out]; rfl, d3.trans d5⟩
      · by_cases hx : x4 = 0
        · have hN := hide (getD_next hall.out (show [x0, x1, x2, x3, x4, x5].getD 4 0 = 0 from hx))
          have hx' : (x4 != 0) = false := by simp [hx]
          clear hall hhit hend
          go_wp2_with fail
          refine (C4.out _).mono ?_
          rintro e w5 ⟨rfl, d5⟩
          go_wp2_with fail
          exact ⟨⟨5, by go_num, by omega, hN.out, M0.below d5.1, M1.below d5.1, M2.below d5.1, d3.trans d5⟩, by simp [intOf]⟩
        · have hE := hide (hhit.out 4 hall.out (show [x0, x1, x2, x3, x4, x5].getD 4 0 ≠ 0 from hx))
          have hx' : (x4 != 0) = true := by simp [hx]
          clear hall hhit hend hx
          go_wp2_with fail
          refine (C4.out _).mono ?_
          rintro e w5 ⟨rfl, d5⟩
          go_wp2_with fail
          go_ret
          exact ⟨by rw [hE.out]; rfl, d3.trans d5⟩
      · by_cases hx : x5 = 0
        · have hN := hide (getD_next hall.out (show [x0, x1, x2, x3, x4, x5].getD 5 0 = 0 from hx))
          have hx' : (x5 != 0) = false := by simp [hx]
          clear hall hhit hend
          go_wp2_with fail
          refine (C5.out _).mono ?_
          rintro e w5 ⟨rfl, d5⟩
          go_wp2_with fail
          exact ⟨⟨6, by go_num, by omega, hN.out, M0.below d5.1, M1.below d5.1, M2.below d5.1, d3.trans d5⟩, by simp [intOf]⟩
        · have hE := hide (hhit.out 5 hall.out (show [x0, x1, x2, x3, x4, x5].getD 5 0 ≠ 0 from hx))
          have hx' : (x5 != 0) = true := by simp [hx]
          clear hall hhit hend hx
          go_wp2_with fail
          refine (C5.out _).mono ?_
          rintro e w5 ⟨rfl, d5⟩
          go_wp2_with fail
          go_ret
          exact ⟨by rw [hE.out]; rfl, d3.trans d5⟩
      · have hE := hide (hend.out (fun i hi => hall.out i hi))
        clear hall hhit hend
        go_wp2_with fail
        go_ret
        exact ⟨by rw [hE.out]; rfl, d3⟩
end Go.Proofs.Ytjjdfniemlcnnaa
