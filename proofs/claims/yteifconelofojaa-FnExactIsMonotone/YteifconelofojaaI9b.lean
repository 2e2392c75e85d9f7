/- IsMonotone and IsIsotone of the program. -/
import Derived.Test.YteifconelofojaaLab9
namespace Go.Proofs.Yteifconelofojaa
open Go.RowKit

set_option maxRecDepth 100000 in
set_option maxHeartbeats 400000 in
theorem i_noWay (g : Int) (a : Option Addr) (n c : Nat) (w : World) (_hg : 2 ≤ g) (_hg' : g ≤ 12) :
    Calls Try.prog 73 #[.agg #[.int .i64 g, .slice a n c]] w fun e w' => e = .returned (.int .i64 (g - 1)) ∧ Below w.heap.size w w' := by
  have d0 : Below w.heap.size w (w.alloc (.cells #[.int .i64 g, .slice a n c] 27)) := below_box (Below.refl _ _)
  go_enter Try.func73, Try.ntmps73
  go_wp2_with fail
  go_ret
  exact ⟨rfl, d0⟩
set_option maxRecDepth 100000 in
set_option maxHeartbeats 800000 in
theorem i_monoLab (g : Int) (a : Option Addr) (n c : Nat) (p q : Nat) (t : Lc) (w : World) (hg : 2 ≤ g) (hg' : g ≤ 12) (ht : (t.n : Int) = g) (hL : LabF p t w) (hq : Mut w q [.int .i64 g, .slice a n c]) :
    Calls Try.prog 71 #[labV p, .pointer (some ⟨q, 0, none⟩)] w fun e w' => e = .returned (.bool (pB (MonoT t))) ∧ Below w.heap.size w w' := by
  have hT : Hid (MonoT t → pB (MonoT t) = true) := pB_t
  have hF : Hid (¬ MonoT t → pB (MonoT t) = false) := pB_f
  generalize pB (MonoT t) = r at *
  have c0 := hq.2.1 0 _ rfl
  have LA := hide (fun x w hx h => i_label p t x w hx (by omega) h)
  have hL9 := hide hL
  simp only [labV] at *
  clear hL hq
  go_enter Try.func71, Try.ntmps71
  go_wp2_with fail
  go_loop [3, 7] (fun _ y => ∃ k : Nat, y = .int .i64 k ∧ k ≤ t.n ∧ Hid (∀ i, i < k → (i : Int) ≤ t.f i)) (fun _ y => t.n - (intOf y).toNat)
  case atStart => exact ⟨0, rfl, Nat.zero_le _, fun i hi => absurd hi (by omega)⟩
  case round =>
    obtain ⟨k, rfl, hk, hall⟩ := hrel
    by_cases hlt : k < t.n
    · have hlt' : (k : Int) < g := by omega
      by_cases hx : t.f k < (k : Int)
      · have hE := hide (hF.out (fun h => by have := h k hlt; omega))
        clear hall hT hF
        go_wp2_with (first | (go_at_call 169; refine (LA.out _ _ hlt hL9.out).mono ?_; rintro e w1 ⟨rfl, hw1⟩; rw [hw1]; clear hw1))
        go_ret
        exact ⟨by rw [hE.out]; rfl, Below.refl _ _⟩
      · have hN : Hid (∀ i, i < k + 1 → (i : Int) ≤ t.f i) := fun i hi => by
          by_cases e : i = k
          · subst e; omega
          · exact hall.out i (by omega)
        clear hall hT hF
        go_wp2_with (first | (go_at_call 169; refine (LA.out _ _ hlt hL9.out).mono ?_; rintro e w1 ⟨rfl, hw1⟩; rw [hw1]; clear hw1))
        exact ⟨⟨k + 1, by go_num, by omega, hN⟩, by simp [intOf]; omega⟩
    · obtain rfl : k = t.n := by omega
      have hlt' : ¬ ((t.n : Int) < g) := by omega
      have hE := hide (hT.out hall.out)
      clear hall hT hF
      go_wp2_with fail
      go_ret
      exact ⟨by rw [hE.out]; rfl, Below.refl _ _⟩
set_option maxRecDepth 100000 in
set_option maxHeartbeats 800000 in
theorem i_isoLab (g : Int) (a : Option Addr) (n c : Nat) (p q : Nat) (t : Lc) (w : World) (hg : 2 ≤ g) (hg' : g ≤ 12) (ht : (t.n : Int) = g) (hL : LabF p t w) (hq : Mut w q [.int .i64 g, .slice a n c]) :
    Calls Try.prog 72 #[labV p, .pointer (some ⟨q, 0, none⟩)] w fun e w' => e = .returned (.bool (pB (IsoT t))) ∧ Below w.heap.size w w' := by
  have hT : Hid (IsoT t → pB (IsoT t) = true) := pB_t
  have hF : Hid (¬ IsoT t → pB (IsoT t) = false) := pB_f
  generalize pB (IsoT t) = r at *
  have c0 := hq.2.1 0 _ rfl
  have c1 := hq.2.1 1 _ rfl
  have LA := hide (fun x w h0 hx h => i_labelZ p t x w h0 hx (by omega) h)
  have NW := hide (fun w => i_noWay g a n c w hg hg')
  simp only [labV] at *
  clear hq
  go_enter Try.func72, Try.ntmps72
  go_wp2_with fail
  refine (NW.out _).mono ?_
  rintro e w1 ⟨rfl, b1⟩
  have hL9 := hide (hL.below b1)
  clear hL c0 c1
  go_wp2_with fail
  go_loop [3, 7] (fun _ y => ∃ k : Nat, y = .int .i64 k ∧ k < t.n ∧ Hid (∀ i, i < k → i + 1 < t.n → t.f i ≤ t.f (i + 1))) (fun _ y => t.n - (intOf y).toNat)
  case atStart => exact ⟨0, rfl, by omega, fun i hi => absurd hi (by omega)⟩
  case round =>
    obtain ⟨k, rfl, hk, hall⟩ := hrel
    by_cases hlt : k + 1 < t.n
    · have hlt' : (k : Int) < g - 1 := by omega
      have e1 : ((k : Int) + 1).toNat = k + 1 := by omega
      by_cases hx : t.f k > t.f (k + 1)
      · have hE := hide (hF.out (fun h => by have := h k hlt; omega))
        clear hall hT hF
        go_wp2_with (first | (go_at_call 169; refine (LA.out _ _ (by omega) (by omega) hL9.out).mono ?_; rintro e w2 ⟨rfl, hw2⟩; rw [hw2]; clear hw2))
        go_ret
        exact ⟨by rw [hE.out]; rfl, b1⟩
      · have hN : Hid (∀ i, i < k + 1 → i + 1 < t.n → t.f i ≤ t.f (i + 1)) := fun i hi h2 => by
          by_cases e : i = k
          · subst e; omega
          · exact hall.out i (by omega) h2
        clear hall hT hF
        go_wp2_with (first | (go_at_call 169; refine (LA.out _ _ (by omega) (by omega) hL9.out).mono ?_; rintro e w2 ⟨rfl, hw2⟩; rw [hw2]; clear hw2))
        exact ⟨⟨k + 1, by go_num, by omega, hN⟩, by simp [intOf]; omega⟩
    · have hlt' : ¬ ((k : Int) < g - 1) := by omega
      have hE := hide (hT.out (fun i hi => hall.out i (by omega) hi))
      clear hall hT hF
      go_wp2_with fail
      go_ret
      exact ⟨by rw [hE.out]; rfl, b1⟩

set_option maxRecDepth 100000 in
set_option maxHeartbeats 1600000 in
theorem i_everyIsMonotone (g : Int) (a : Option Addr) (n c : Nat) (va : Option Addr) (vc : Nat) (P : Nat → Nat) (T : Nat → Lc) (q : Nat) (w : World) (hG : GA g n T) (hR : LabR va n P T w) (hq : Mut w q [.int .i64 g, .slice a n c]) :
    Calls Try.prog 70 #[.agg #[.slice va n vc], .func (.func 71) #[] #[.pointer (some ⟨q, 0, none⟩)]] w fun e w' => e = .returned (.bool (pB (MO n T))) ∧ Below w.heap.size w w' := by
  have hT : Hid (MO n T → pB (MO n T) = true) := pB_t
  have hF : Hid (¬ MO n T → pB (MO n T) = false) := pB_f
  generalize pB (MO n T) = r at *
  have hn4 : (n : Int) ≤ 4 := by have := hG.2.2.2.1; omega
  have dX : Below w.heap.size w (w.alloc (.cells #[.slice va n vc] 108)) := below_box (Below.refl _ _)
  go_enter Try.func70, Try.ntmps70
  go_wp2_with fail
  generalize w.alloc (.cells #[.slice va n vc] 108) = wx at *
  go_loopw [4, 10] (fun _ y wr => ∃ k : Nat, y = .int .i64 k ∧ k ≤ n ∧ Hid (∀ i, i < k → MonoT (T i)) ∧ Below w.heap.size w wr) (fun _ y _ => n - (intOf y).toNat)
  case atStart => exact ⟨0, rfl, Nat.zero_le _, fun i hi => absurd hi (by omega), dX⟩
  case round =>
    obtain ⟨k, rfl, hk, hall, hb⟩ := hrel
    by_cases hlt : k < n
    · obtain ⟨b, off, rfl, hbw, u0, ht⟩ := hR k hlt
      replace u0 := (hb.cell (p := ⟨b, off + k, none⟩) hbw).trans u0
      have hlt' : (k : Int) < (n : Int) := by omega
      have AP := hide (fun w R Q => i_monoLab g a n c (P k) q (T k) w hG.1 hG.2.1 (hG.2.2.2.2 k hlt).1 R Q)
      have hT9 := hide (ht.below hb)
      have hp9 := hide (hq.below hb)
      simp only [labV] at u0 AP
      by_cases hok : MonoT (T k)
      · rw [pB_t hok] at AP
        have hN : Hid (∀ j, j < k + 1 → MonoT (T j)) := fun j hj => by
          by_cases e : j = k
          · subst e; exact hok
          · exact hall.out j (by omega)
        clear hall hT hF hR ht hok hq hG
        go_wp2_with (first | (go_at_call 71; refine (AP.out _ hT9.out hp9.out).mono ?_; rintro e w3 ⟨rfl, b3⟩; have d3 := hb.trans (b3.mono hb.size)))
        exact ⟨⟨k + 1, by go_num, by omega, hN, d3⟩, by simp [intOf]; omega⟩
      · rw [pB_f hok] at AP
        have hE := hide (hF.out (fun h => hok (h k hlt)))
        clear hall hT hF hR ht hok hq hG
        go_wp2_with (first | (go_at_call 71; refine (AP.out _ hT9.out hp9.out).mono ?_; rintro e w3 ⟨rfl, b3⟩; have d3 := hb.trans (b3.mono hb.size)))
        go_ret
        exact ⟨by rw [hE.out]; rfl, d3⟩
    · have hlt' : ¬ (k : Int) < (n : Int) := by omega
      obtain rfl : k = n := by omega
      have hE := hide (hT.out hall.out)
      clear hall hT hF hR hq hG
      go_wp2_with fail
      go_ret
      exact ⟨by rw [hE.out]; rfl, hb⟩
set_option maxRecDepth 100000 in
set_option maxHeartbeats 1600000 in
theorem i_isMonotone (g : Int) (a : Option Addr) (n c : Nat) (T : Nat → Lc) (w : World) (hn : n ≤ 1048576) (hl : LowL n T) (hR : RowLL a n T w) :
    Calls Try.prog 20 #[.agg #[.int .i64 g, .slice a n c]] w fun e w' => e = .returned (.tuple #[.bool (moB g n T), .bool (gaB g n T)]) ∧ Below w.heap.size w w' := by
  have SG := hide (fun w R => i_goodAlgebra g a n c T w hn hl R)
  have MX := Mut.new w #[.int .i64 g, .slice a n c] 27
  have dX : Below w.heap.size w (w.alloc (.cells #[.int .i64 g, .slice a n c] 27)) := below_box (Below.refl _ _)
  have hmf : ∀ (fn : Fn) (first cap : Array Value) (w : World), (Instr.makeFunc fn first cap).run Try.prog w = .ok (.func fn first cap) w := fun _ _ _ _ => rfl
  have c0 := MX.2.1 0 _ rfl
  have c1 := MX.2.1 1 _ rfl
  by_cases hG : GA g n T
  · have eG : gaB g n T = true := pB_t hG
    have hE : Hid (pB (MO n T) = moB g n T) := pB_congr ⟨fun h => ⟨hG, h⟩, fun h => h.2⟩
    rw [eG] at SG ⊢
    have LO := hide (fun w R => i_labelsOf g a n c T w hG.2.2.2.1 R)
    have EV := hide (fun va vc P q w R M => i_everyIsMonotone g a n c va vc P T q w hG R M)
    generalize moB g n T = r at *
    generalize pB (MO n T) = r' at *
    clear eG hG hl
    go_enter Try.func20, Try.ntmps20
    go_wp2_with fail
    generalize w.alloc (.cells #[.int .i64 g, .slice a n c] 27) = wx at *
    refine (SG.out _ (hR.below dX)).mono ?_
    rintro e w1 ⟨rfl, b1⟩
    replace MX := MX.below b1
    replace dX := dX.trans (b1.mono dX.size)
    replace c0 := MX.2.1 0 _ rfl
    replace c1 := MX.2.1 1 _ rfl
    clear b1 SG
    go_wp2_with fail
    refine (LO.out _ (hR.below dX)).mono ?_
    rintro e w2 ⟨va, vc, P, rfl, hL, b2⟩
    replace MX := MX.below b2
    replace dX := dX.trans (b2.mono dX.size)
    clear b2 c0 c1
    go_wp2_with fail
    refine (EV.out _ _ _ _ _ hL MX).mono ?_
    rintro e w3 ⟨rfl, b3⟩
    go_wp2_with fail
    go_ret2
    exact ⟨by rw [hE.out]; rfl, dX.trans (b3.mono dX.size)⟩
  · have eG : gaB g n T = false := pB_f hG
    have hE : moB g n T = false := pB_f (fun h => hG h.1)
    rw [eG] at SG ⊢
    rw [hE]
    clear eG hE hG hl
    go_enter Try.func20, Try.ntmps20
    go_wp2_with fail
    refine (SG.out _ (hR.below dX)).mono ?_
    rintro e w1 ⟨rfl, b1⟩
    go_wp2_with fail
    go_ret2
    exact ⟨rfl, dX.trans (b1.mono dX.size)⟩
set_option maxRecDepth 100000 in
set_option maxHeartbeats 1600000 in
theorem i_everyIsIsotone (g : Int) (a : Option Addr) (n c : Nat) (va : Option Addr) (vc : Nat) (P : Nat → Nat) (T : Nat → Lc) (q : Nat) (w : World) (hG : GA g n T) (hR : LabR va n P T w) (hq : Mut w q [.int .i64 g, .slice a n c]) :
    Calls Try.prog 70 #[.agg #[.slice va n vc], .func (.func 72) #[] #[.pointer (some ⟨q, 0, none⟩)]] w fun e w' => e = .returned (.bool (pB (IS n T))) ∧ Below w.heap.size w w' := by
  have hT : Hid (IS n T → pB (IS n T) = true) := pB_t
  have hF : Hid (¬ IS n T → pB (IS n T) = false) := pB_f
  generalize pB (IS n T) = r at *
  have hn4 : (n : Int) ≤ 4 := by have := hG.2.2.2.1; omega
  have dX : Below w.heap.size w (w.alloc (.cells #[.slice va n vc] 108)) := below_box (Below.refl _ _)
  go_enter Try.func70, Try.ntmps70
  go_wp2_with fail
  generalize w.alloc (.cells #[.slice va n vc] 108) = wx at *
  go_loopw [4, 10] (fun _ y wr => ∃ k : Nat, y = .int .i64 k ∧ k ≤ n ∧ Hid (∀ i, i < k → IsoT (T i)) ∧ Below w.heap.size w wr) (fun _ y _ => n - (intOf y).toNat)
  case atStart => exact ⟨0, rfl, Nat.zero_le _, fun i hi => absurd hi (by omega), dX⟩
  case round =>
    obtain ⟨k, rfl, hk, hall, hb⟩ := hrel
    by_cases hlt : k < n
    · obtain ⟨b, off, rfl, hbw, u0, ht⟩ := hR k hlt
      replace u0 := (hb.cell (p := ⟨b, off + k, none⟩) hbw).trans u0
      have hlt' : (k : Int) < (n : Int) := by omega
      have AP := hide (fun w R Q => i_isoLab g a n c (P k) q (T k) w hG.1 hG.2.1 (hG.2.2.2.2 k hlt).1 R Q)
      have hT9 := hide (ht.below hb)
      have hp9 := hide (hq.below hb)
      simp only [labV] at u0 AP
      by_cases hok : IsoT (T k)
      · rw [pB_t hok] at AP
        have hN : Hid (∀ j, j < k + 1 → IsoT (T j)) := fun j hj => by
          by_cases e : j = k
          · subst e; exact hok
          · exact hall.out j (by omega)
        clear hall hT hF hR ht hok hq hG
        go_wp2_with (first | (go_at_call 72; refine (AP.out _ hT9.out hp9.out).mono ?_; rintro e w3 ⟨rfl, b3⟩; have d3 := hb.trans (b3.mono hb.size)))
        exact ⟨⟨k + 1, by go_num, by omega, hN, d3⟩, by simp [intOf]; omega⟩
      · rw [pB_f hok] at AP
        have hE := hide (hF.out (fun h => hok (h k hlt)))
        clear hall hT hF hR ht hok hq hG
        go_wp2_with (first | (go_at_call 72; refine (AP.out _ hT9.out hp9.out).mono ?_; rintro e w3 ⟨rfl, b3⟩; have d3 := hb.trans (b3.mono hb.size)))
        go_ret
        exact ⟨by rw [hE.out]; rfl, d3⟩
    · have hlt' : ¬ (k : Int) < (n : Int) := by omega
      obtain rfl : k = n := by omega
      have hE := hide (hT.out hall.out)
      clear hall hT hF hR hq hG
      go_wp2_with fail
      go_ret
      exact ⟨by rw [hE.out]; rfl, hb⟩
set_option maxRecDepth 100000 in
set_option maxHeartbeats 1600000 in
theorem i_isIsotone (g : Int) (a : Option Addr) (n c : Nat) (T : Nat → Lc) (w : World) (hn : n ≤ 1048576) (hl : LowL n T) (hR : RowLL a n T w) :
    Calls Try.prog 22 #[.agg #[.int .i64 g, .slice a n c]] w fun e w' => e = .returned (.tuple #[.bool (isB g n T), .bool (gaB g n T)]) ∧ Below w.heap.size w w' := by
  have SG := hide (fun w R => i_goodAlgebra g a n c T w hn hl R)
  have MX := Mut.new w #[.int .i64 g, .slice a n c] 27
  have dX : Below w.heap.size w (w.alloc (.cells #[.int .i64 g, .slice a n c] 27)) := below_box (Below.refl _ _)
  have hmf : ∀ (fn : Fn) (first cap : Array Value) (w : World), (Instr.makeFunc fn first cap).run Try.prog w = .ok (.func fn first cap) w := fun _ _ _ _ => rfl
  have c0 := MX.2.1 0 _ rfl
  have c1 := MX.2.1 1 _ rfl
  by_cases hG : GA g n T
  · have eG : gaB g n T = true := pB_t hG
    have hE : Hid (pB (IS n T) = isB g n T) := pB_congr ⟨fun h => ⟨hG, h⟩, fun h => h.2⟩
    rw [eG] at SG ⊢
    have LO := hide (fun w R => i_labelsOf g a n c T w hG.2.2.2.1 R)
    have EV := hide (fun va vc P q w R M => i_everyIsIsotone g a n c va vc P T q w hG R M)
    generalize isB g n T = r at *
    generalize pB (IS n T) = r' at *
    clear eG hG hl
    go_enter Try.func22, Try.ntmps22
    go_wp2_with fail
    generalize w.alloc (.cells #[.int .i64 g, .slice a n c] 27) = wx at *
    refine (SG.out _ (hR.below dX)).mono ?_
    rintro e w1 ⟨rfl, b1⟩
    replace MX := MX.below b1
    replace dX := dX.trans (b1.mono dX.size)
    replace c0 := MX.2.1 0 _ rfl
    replace c1 := MX.2.1 1 _ rfl
    clear b1 SG
    go_wp2_with fail
    refine (LO.out _ (hR.below dX)).mono ?_
    rintro e w2 ⟨va, vc, P, rfl, hL, b2⟩
    replace MX := MX.below b2
    replace dX := dX.trans (b2.mono dX.size)
    clear b2 c0 c1
    go_wp2_with fail
    refine (EV.out _ _ _ _ _ hL MX).mono ?_
    rintro e w3 ⟨rfl, b3⟩
    go_wp2_with fail
    go_ret2
    exact ⟨by rw [hE.out]; rfl, dX.trans (b3.mono dX.size)⟩
  · have eG : gaB g n T = false := pB_f hG
    have hE : isB g n T = false := pB_f (fun h => hG h.1)
    rw [eG] at SG ⊢
    rw [hE]
    clear eG hE hG hl
    go_enter Try.func22, Try.ntmps22
    go_wp2_with fail
    refine (SG.out _ (hR.below dX)).mono ?_
    rintro e w1 ⟨rfl, b1⟩
    go_wp2_with fail
    go_ret2
    exact ⟨rfl, dX.trans (b1.mono dX.size)⟩
end Go.Proofs.Yteifconelofojaa
