/- GoodRels, KindTo, mayTell, MayTell of the program. -/
import Derived.Test.YtgjohkpicajhpaaI11b
import Derived.Test.YtgjohkpicajhpaaS11b
namespace Go.Proofs.Ytgjohkpicajhpaa
open Go.RowKit Go.Maps

set_option maxRecDepth 100000 in
set_option maxHeartbeats 800000 in
theorem i_kindTo (u : Int) (ra : Option Addr) (n rc : Nat) (f0 f1 f2 : Nat → Int) (a b : Int) (w : World) (hn : n ≤ 1048576) (ha : W64 a) (hb : W64 b) (hA : RowRel ra n f0 f1 f2 w) :
    Calls Try.prog 9 #[.int .i64 u, .slice ra n rc, .int .i64 a, .int .i64 b] w fun e w' => e = .returned (.tuple #[.int .i64 (kk u n f0 f1 f2 a b), .bool (kk u n f0 f1 f2 a b != 0)]) ∧ Below w.heap.size w w' := by
  have KS := hide (fun w R => i_kindsOf u ra n rc f0 f1 f2 w hn R)
  have L1 := hide (fun (v : Option Nat) (w : World) (K : KV w v (kk u n f0 f1 f2)) => K.lookOk ha hb)
  generalize kk u n f0 f1 f2 = g at *
  generalize hz : g a b = z at *
  clear hz
  generalize grB u n f0 f1 f2 = r at *
  go_enter Try.func9, Try.ntmps9
  go_wp2_with fail
  refine (KS.out _ hA).mono ?_
  rintro e w1 ⟨v, rfl, K1, b1⟩
  have hl := L1.out v w1 K1
  clear K1
  go_wp2_with fail
  go_ret2
  exact ⟨rfl, b1⟩
set_option maxRecDepth 100000 in
set_option maxHeartbeats 800000 in
theorem i_may (v : Option Nat) (g : Int → Int → Int) (a b x : Int) (w : World) (ha : W64 a) (hb : W64 b) (hx : W64 x) (hK : KV w v g) :
    Calls Try.prog 24 #[.map v, .int .i64 a, .int .i64 b, .int .i64 x] w fun e w' => e = .returned (.bool ((g a b == 1) || (g a x == 1))) ∧ w' = w := by
  have l1 := hK.look ha hb
  have l2 := hK.look ha hx
  generalize g a b = kb at *
  generalize g a x = kx at *
  by_cases o1 : kb = 1
  · have o1' : (kb == 1) = true := by simp [o1]
    clear o1
    rw [o1', Bool.true_or]
    go_enter Try.func24, Try.ntmps24
    go_wp2_with fail
    go_ret
    exact ⟨rfl, rfl⟩
  · have o1' : (kb == 1) = false := by simp [o1]
    clear o1
    rw [o1', Bool.false_or]
    go_enter Try.func24, Try.ntmps24
    go_wp2_with fail
    go_ret
    exact ⟨rfl, rfl⟩
set_option maxRecDepth 100000 in
set_option maxHeartbeats 1600000 in
theorem i_mayTell (u : Int) (ra : Option Addr) (n rc : Nat) (f0 f1 f2 : Nat → Int) (a b x : Int) (w : World) (hn : n ≤ 1048576) (ha : W64 a) (hb : W64 b) (hx : W64 x) (hA : RowRel ra n f0 f1 f2 w) :
    Calls Try.prog 7 #[.int .i64 u, .slice ra n rc, .int .i64 a, .int .i64 b, .int .i64 x] w fun e w' => e = .returned (.tuple #[.bool (mt0 u n f0 f1 f2 a b x), .bool (mt1 u n f0 f1 f2 a b x)]) ∧ Below w.heap.size w w' := by
  have KS := hide (fun w R => i_kindsOf u ra n rc f0 f1 f2 w hn R)
  have hF : Hid (¬ MtOk u n f0 f1 f2 a b x → mt1 u n f0 f1 f2 a b x = false ∧ mt0 u n f0 f1 f2 a b x = false) := mt1_f
  have hT : Hid (MtOk u n f0 f1 f2 a b x → mt1 u n f0 f1 f2 a b x = true ∧ mt0 u n f0 f1 f2 a b x = ((kk u n f0 f1 f2 a b == 1) || (kk u n f0 f1 f2 a x == 1))) := mt1_t
  have MY := hide (fun v w K => i_may v (kk u n f0 f1 f2) a b x w ha hb hx K)
  have L1 := hide (fun (v : Option Nat) (w : World) (K : KV w v (kk u n f0 f1 f2)) => K.look ha hb)
  have L2 := hide (fun (v : Option Nat) (w : World) (K : KV w v (kk u n f0 f1 f2)) => K.look ha hx)
  by_cases q1 : b = x
  · have hE := hide (hF.out (fun h => h.1 q1))
    have q1' : (b == x) = true := by simp [q1]
    clear hF hT q1 MY
    generalize mt0 u n f0 f1 f2 a b x = r0 at *
    generalize mt1 u n f0 f1 f2 a b x = r1 at *
    go_enter Try.func7, Try.ntmps7
    go_wp2_with fail
    refine (KS.out _ hA).mono ?_
    rintro e w1 ⟨v, rfl, _, b1⟩
    go_wp2_with fail
    go_ret2
    exact ⟨by rw [hE.out.1, hE.out.2]; rfl, b1⟩
  · have q1' : (b == x) = false := by simp [q1]
    have hF2 : Hid (kk u n f0 f1 f2 a b = 0 ∨ kk u n f0 f1 f2 a x = 0 → mt1 u n f0 f1 f2 a b x = false ∧ mt0 u n f0 f1 f2 a b x = false) := fun h => hF.out (fun q => h.elim q.2.1 q.2.2)
    have hT2 : Hid (kk u n f0 f1 f2 a b ≠ 0 → kk u n f0 f1 f2 a x ≠ 0 → mt1 u n f0 f1 f2 a b x = true ∧ mt0 u n f0 f1 f2 a b x = ((kk u n f0 f1 f2 a b == 1) || (kk u n f0 f1 f2 a x == 1))) := fun h1 h2 => hT.out ⟨q1, h1, h2⟩
    clear hF hT q1
    generalize mt0 u n f0 f1 f2 a b x = r0 at *
    generalize mt1 u n f0 f1 f2 a b x = r1 at *
    generalize grB u n f0 f1 f2 = rg at *
    generalize kk u n f0 f1 f2 = g at *
    generalize hkb : g a b = kb at *
    generalize hkx : g a x = kx at *
    clear hkb hkx
    by_cases z1 : kb = 0
    · have hE := hide (hF2.out (Or.inl z1))
      have z1' : (kb == 0) = true := by simp [z1]
      clear hF2 hT2 z1
      go_enter Try.func7, Try.ntmps7
      go_wp2_with fail
      refine (KS.out _ hA).mono ?_
      rintro e w1 ⟨v, rfl, K1, b1⟩
      have l1 := L1.out v w1 K1
      clear K1
      go_wp2_with fail
      go_ret2
      exact ⟨by rw [hE.out.1, hE.out.2]; rfl, b1⟩
    · have z1' : (kb == 0) = false := by simp [z1]
      by_cases z2 : kx = 0
      · have hE := hide (hF2.out (Or.inr z2))
        have z2' : (kx == 0) = true := by simp [z2]
        clear hF2 hT2 z1 z2
        go_enter Try.func7, Try.ntmps7
        go_wp2_with fail
        refine (KS.out _ hA).mono ?_
        rintro e w1 ⟨v, rfl, K1, b1⟩
        have l1 := L1.out v w1 K1
        have l2 := L2.out v w1 K1
        clear K1
        go_wp2_with fail
        go_ret2
        exact ⟨by rw [hE.out.1, hE.out.2]; rfl, b1⟩
      · have z2' : (kx == 0) = false := by simp [z2]
        have hE := hide (hT2.out z1 z2)
        clear hF2 hT2 z1 z2
        go_enter Try.func7, Try.ntmps7
        go_wp2_with fail
        refine (KS.out _ hA).mono ?_
        rintro e w1 ⟨v, rfl, K1, b1⟩
        have l1 := L1.out v w1 K1
        have l2 := L2.out v w1 K1
        have K1' := hide K1
        clear K1
        go_wp2_with fail
        refine (MY.out v _ K1'.out).mono ?_
        rintro e w2 ⟨rfl, hw2⟩
        rw [hw2]; clear hw2 w2
        go_wp2_with fail
        go_ret2
        exact ⟨by rw [hE.out.1, hE.out.2]; rfl, b1⟩
end Go.Proofs.Ytgjohkpicajhpaa
