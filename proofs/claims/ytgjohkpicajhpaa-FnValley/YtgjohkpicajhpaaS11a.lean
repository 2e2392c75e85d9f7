/- Relations of the specification: GoodRels, l11Kind, KindTo, MayTell. -/
import Derived.Test.YtgjohkpicajhpaaPlain11
import Derived.Test.YtgjohkpicajhpaaFlatRel
import Derived.Test.YtgjohkpicajhpaaS1
namespace Go.Proofs.Ytgjohkpicajhpaa
open Go.RowKit

set_option maxRecDepth 100000 in
set_option maxHeartbeats 1600000 in
theorem s_kind11 (u : Int) (ra : Option Addr) (n rc : Nat) (f0 f1 f2 : Nat → Int) (a b : Int) (w : World) (hG : GR u n f0 f1 f2) (hA : RowRel ra n f0 f1 f2 w) :
    Calls Try.prog 15 #[.slice ra n rc, .int .i64 a, .int .i64 b] w fun e w' => e = .returned (.int .i64 (kk u n f0 f1 f2 a b)) ∧ Below w.heap.size w w' := by
  rw [kk_good hG]
  have hn15 : (n : Int) ≤ 15 := by have := hG.2.2.1; omega
  have hEnd : Hid (∀ k, k ≤ n → kd f0 f1 f2 a b k ≠ 0 → kd f0 f1 f2 a b n = kd f0 f1 f2 a b k) := fun k hk h => kd_end h hk
  have hOk : Hid (∀ i, i < n → RlOk u (f0 i) (f1 i) (f2 i)) := hG.2.2.2.1
  clear hG
  obtain ⟨r, hr⟩ : ∃ r, r = kd f0 f1 f2 a b n := ⟨_, rfl⟩
  rw [← hr]
  rw [← hr] at hEnd
  replace hr := hide hr
  go_enter Try.func15, Try.ntmps15
  go_wp2_with fail
  go_loopw [8, 11] (fun _ y wr => ∃ k : Nat, y = .int .i64 k ∧ k ≤ n ∧ Hid (kd f0 f1 f2 a b k = 0) ∧ Below w.heap.size w wr) (fun _ y _ => n - (intOf y).toNat)
  case atStart => exact ⟨0, rfl, Nat.zero_le _, rfl, Below.refl _ _⟩
  case round =>
    obtain ⟨k, rfl, hk, hz, hb⟩ := hrel
    by_cases hlt : k < n
    · obtain ⟨b', off, rfl, hbw, u0, u1, u2⟩ := hA k hlt
      replace u0 := (hb.cell (p := ⟨b', off + k * 3, none⟩) hbw).trans u0
      replace u1 := (hb.cell (p := ⟨b', off + k * 3 + 1, none⟩) hbw).trans u1
      replace u2 := (hb.cell (p := ⟨b', off + k * 3 + 2, none⟩) hbw).trans u2
      have hlt' : (k : Int) < (n : Int) := by omega
      have dZ : Below w.heap.size w (wr.alloc (.cells #[.int .i64 (f0 k), .int .i64 (f1 k), .int .i64 (f2 k)] 58)) := hb.alloc hb.size _
      have h13 := (hOk.out k hlt).2.2.2
      have hnew := hide (kd_new (f0 := f0) (f1 := f1) (f2 := f2) hz.out)
      have hY : Hid (∀ v, one11 (f0 k) (f1 k) (f2 k) a b = v → v ≠ 0 → r = v) := fun v e hv => by rw [hEnd.out (k + 1) (by omega) (by rw [hnew.out, e]; exact hv), hnew.out, e]
      have hN : Hid (one11 (f0 k) (f1 k) (f2 k) a b = 0 → kd f0 f1 f2 a b (k + 1) = 0) := fun e => by rw [hnew.out, e]
      clear hz hnew hEnd hOk hA hr
      generalize f0 k = x at *
      generalize f1 k = y at *
      generalize f2 k = z at *
      by_cases p : x = a ∧ y = b
      · obtain ⟨rfl, rfl⟩ := p
        have hE := hide (hY.out z (one11_hit ⟨rfl, rfl⟩) (by omega))
        clear hY hN
        have q0 : (x == x) = true := by simp
        have q1 : (y == y) = true := by simp
        go_wp2_with fail
        go_ret
        exact ⟨by rw [hE.out]; rfl, dZ⟩
      · by_cases q : x = b ∧ y = a
        · have hE := hide (hY.out (4 - z) (one11_back p q) (by omega))
          obtain ⟨rfl, rfl⟩ := q
          clear hY hN
          have q0 : (x == x) = true := by simp
          have q1 : (y == y) = true := by simp
          by_cases p0 : x = y
          · exact absurd ⟨p0, p0.symm⟩ p
          · have p0' : (x == y) = false := by simp [p0]
            clear p
            go_wp2_with fail
            go_ret
            exact ⟨by rw [hE.out]; rfl, dZ⟩
        · have hE := hide (hN.out (one11_not p q))
          clear hY hN
          have fin : ∀ (m : Int), m = (k : Int) + 1 → (∃ k' : Nat, Value.int .i64 m = .int .i64 k' ∧ k' ≤ n ∧ Hid (kd f0 f1 f2 a b k' = 0) ∧ Below w.heap.size w (wr.alloc (.cells #[.int .i64 x, .int .i64 y, .int .i64 z] 58))) := fun m e => ⟨k + 1, by rw [e]; rfl, by omega, hE, dZ⟩
          replace fin := hide fin
          by_cases p0 : x = a
          · have p0' : (x == a) = true := by simp [p0]
            have p1' : (y == b) = false := by simp; exact fun e => p ⟨p0, e⟩
            by_cases q0 : x = b
            · have q0' : (x == b) = true := by simp [q0]
              have q1' : (y == a) = false := by simp; exact fun e => q ⟨q0, e⟩
              clear p q p0 q0
              go_wp2_with fail
              exact ⟨⟨k + 1, by go_num, by omega, hE, dZ⟩, by simp [intOf]; omega⟩
            · have q0' : (x == b) = false := by simp [q0]
              clear p q p0 q0
              go_wp2_with fail
              exact ⟨⟨k + 1, by go_num, by omega, hE, dZ⟩, by simp [intOf]; omega⟩
          · have p0' : (x == a) = false := by simp [p0]
            by_cases q0 : x = b
            · have q0' : (x == b) = true := by simp [q0]
              have q1' : (y == a) = false := by simp; exact fun e => q ⟨q0, e⟩
              clear p q p0 q0
              go_wp2_with fail
              exact ⟨⟨k + 1, by go_num, by omega, hE, dZ⟩, by simp [intOf]; omega⟩
            · have q0' : (x == b) = false := by simp [q0]
              clear p q p0 q0
              go_wp2_with fail
              exact ⟨⟨k + 1, by go_num, by omega, hE, dZ⟩, by simp [intOf]; omega⟩
    · have hlt' : ¬ (k : Int) < (n : Int) := by omega
      obtain rfl : k = n := by omega
      have hE : Hid (r = 0) := hr.out.trans hz.out
      clear hz hEnd hOk hA hr
      go_wp2_with fail
      go_ret
      exact ⟨by rw [hE.out]; rfl, hb⟩
set_option maxRecDepth 100000 in
set_option maxHeartbeats 3200000 in
theorem s_goodRels (u : Int) (ra : Option Addr) (n rc : Nat) (f0 f1 f2 : Nat → Int) (w : World) (hn : n ≤ 1048576) (hc : n ≤ rc) (hA : RowRel ra n f0 f1 f2 w) :
    Calls Try.prog 21 #[.int .i64 u, .slice ra n rc] w fun e w' => e = .returned (.bool (grB u n f0 f1 f2)) ∧ Below w.heap.size w w' := by
  have hT : Hid (GR u n f0 f1 f2 → grB u n f0 f1 f2 = true) := pB_t
  have hF : Hid (¬ GR u n f0 f1 f2 → grB u n f0 f1 f2 = false) := pB_f
  generalize grB u n f0 f1 f2 = r at *
  have SU := hide (fun w => s_in u 1 5 w)
  by_cases h0 : 1 ≤ u ∧ u ≤ 5
  · rw [inB_t h0.1 h0.2] at SU
    by_cases h2 : (n : Int) > 15
    · have hE := hide (hF.out (fun h => by have := h.2.2.1; omega))
      clear hT hF hA
      go_enter Try.func21, Try.ntmps21
      go_wp2_with fail
      refine (SU.out _).mono ?_
      rintro e w1 ⟨rfl, hw1⟩
      rw [hw1]; clear hw1 w1
      go_wp2_with fail
      go_ret
      exact ⟨by rw [hE.out]; rfl, Below.refl _ _⟩
    · have hYes : Hid (RlsOk u n f0 f1 f2 → r = true) := fun h => hT.out ⟨h0.1, h0.2, by omega, h⟩
      have hNo : Hid (∀ k, k < n → ¬ RlOk u (f0 k) (f1 k) (f2 k) → r = false) := fun k hk h => hF.out (fun q => h (q.2.2.2.1 k hk))
      have hNo2 : Hid (∀ k, k < n → ∀ j, j < k → (f0 j = f0 k ∧ f1 j = f1 k) → r = false) := fun k hk j hj h => hF.out (fun q => q.2.2.2.2 k hk j hj h)
      have hn15 : (n : Int) ≤ 15 := by omega
      have hci : (n : Int) ≤ (rc : Int) := by omega
      clear hT hF
      go_enter Try.func21, Try.ntmps21
      go_wp2_with fail
      refine (SU.out _).mono ?_
      rintro e w1 ⟨rfl, hw1⟩
      rw [hw1]; clear hw1 w1
      go_wp2_with fail
      go_loopw [5, 6, 8, 19] (fun _ _ _ y wr => ∃ k : Nat, y = .int .i64 k ∧ k ≤ n ∧ Hid (RlsOk u k f0 f1 f2) ∧ Below w.heap.size w wr) (fun _ _ _ y _ => n - (intOf y).toNat)
      case atStart => exact ⟨0, rfl, Nat.zero_le _, ⟨fun i hi => absurd hi (by omega), fun i hi => absurd hi (by omega)⟩, Below.refl _ _⟩
      case round =>
        obtain ⟨k, rfl, hk, hall, hb⟩ := hrel
        by_cases hlt : k < n
        · have hA' := hide hA
          obtain ⟨b, off, rfl, hbw, u0, u1, u2⟩ := hA k hlt
          replace u0 := (hb.cell (p := ⟨b, off + k * 3, none⟩) hbw).trans u0
          replace u1 := (hb.cell (p := ⟨b, off + k * 3 + 1, none⟩) hbw).trans u1
          replace u2 := (hb.cell (p := ⟨b, off + k * 3 + 2, none⟩) hbw).trans u2
          have hlt' : (k : Int) < (n : Int) := by omega
          have hkc : (k : Int) ≤ (rc : Int) := by omega
          have dZ : Below w.heap.size w (wr.alloc (.cells #[.int .i64 (f0 k), .int .i64 (f1 k), .int .i64 (f2 k)] 58)) := hb.alloc hb.size _
          have MR := Mut.new wr #[.int .i64 (f0 k), .int .i64 (f1 k), .int .i64 (f2 k)] 58
          have hwr : w.heap.size ≤ wr.heap.size := hb.size
          have hNk := hide (hNo.out k hlt)
          have hNk2 := hide (hNo2.out k hlt)
          have hSn : Hid (RlOk u (f0 k) (f1 k) (f2 k) → (∀ j, j < k → ¬ (f0 j = f0 k ∧ f1 j = f1 k)) → RlsOk u (k + 1) f0 f1 f2) := fun h h2 => hall.out.snoc h h2
          have SZ := hide (fun w => s_in (f2 k) 1 3 w)
          clear hall hA hYes hNo hNo2
          generalize f0 k = x at *
          generalize f1 k = y at *
          generalize f2 k = z at *
          by_cases q0 : x < 0
          · have hE := hide (hNk.out (fun h => by have := h.1; omega))
            clear hNk hNk2 hSn
            go_wp2_with fail
            go_ret
            exact ⟨by rw [hE.out]; rfl, dZ⟩
          · by_cases q1 : x ≥ y
            · have hE := hide (hNk.out (fun h => by have := h.2.1; omega))
              clear hNk hNk2 hSn
              go_wp2_with fail
              go_ret
              exact ⟨by rw [hE.out]; rfl, dZ⟩
            · by_cases q2 : y > u
              · have hE := hide (hNk.out (fun h => by have := h.2.2.1; omega))
                clear hNk hNk2 hSn
                go_wp2_with fail
                go_ret
                exact ⟨by rw [hE.out]; rfl, dZ⟩
              · by_cases q3 : 1 ≤ z ∧ z ≤ 3
                · rw [inB_t q3.1 q3.2] at SZ
                  have hS := hide (hSn.out ⟨by omega, by omega, by omega, q3.1, q3.2⟩)
                  clear hNk hSn
                  go_wp2_with fail
                  refine (SZ.out _).mono ?_
                  rintro e w1 ⟨rfl, hw1⟩
                  rw [hw1]; clear hw1 w1
                  go_wp2_with fail
                  generalize wr.alloc (.cells #[.int .i64 x, .int .i64 y, .int .i64 z] 58) = wz at *
                  go_loopw [8, 50] (fun _ y' wq => ∃ j : Nat, y' = .int .i64 j ∧ j ≤ k ∧ Hid (∀ i, i < j → ¬ (f0 i = x ∧ f1 i = y)) ∧ Below wz.heap.size wz wq) (fun _ y' _ => k - (intOf y').toNat)
                  case atStart => exact ⟨0, rfl, Nat.zero_le _, fun i hi => absurd hi (by omega), Below.refl _ _⟩
                  case round =>
                    obtain ⟨j, rfl, hj, hno, hbq⟩ := hrel
                    have dQ := dZ.trans (hbq.mono dZ.size)
                    by_cases hjk : j < k
                    · obtain ⟨b2, off2, hab, hbw2, v0, v1, v2⟩ := hA'.out j (by omega)
                      simp only [Option.some.injEq, Addr.mk.injEq, and_true] at hab
                      obtain ⟨rfl, rfl⟩ := hab
                      have hjk' : (j : Int) < (k : Int) := by omega
                      replace v0 := (dQ.cell (p := ⟨b, off + j * 3, none⟩) hbw2).trans v0
                      replace v1 := (dQ.cell (p := ⟨b, off + j * 3 + 1, none⟩) hbw2).trans v1
                      replace v2 := (dQ.cell (p := ⟨b, off + j * 3 + 2, none⟩) hbw2).trans v2
                      have MQ := (MR.below hbq).alloc (.cells #[.int .i64 (f0 j), .int .i64 (f1 j), .int .i64 (f2 j)] 58)
                      have c0 := MQ.2.1 0 _ rfl
                      have c1 := MQ.2.1 1 _ rfl
                      have dV : Below wz.heap.size wz (wr.alloc (.cells #[.int .i64 (f0 j), .int .i64 (f1 j), .int .i64 (f2 j)] 58)) := hbq.alloc hbq.size _
                      have hY := hide (hNk2.out j hjk)
                      have hN : Hid (¬ (f0 j = x ∧ f1 j = y) → ∀ i, i < j + 1 → ¬ (f0 i = x ∧ f1 i = y)) := fun h i hi => by
                        by_cases e : i = j
                        · subst e; exact h
                        · exact hno.out i (by omega)
                      clear hno hA' hNk2 MQ
                      generalize f0 j = x2 at *
                      generalize f1 j = y2 at *
                      generalize f2 j = z2 at *
                      by_cases p0 : x2 = x
                      · have p0' : (x2 == x) = true := by simp [p0]
                        by_cases p1 : y2 = y
                        · have p1' : (y2 == y) = true := by simp [p1]
                          have hE := hide (hY.out ⟨p0, p1⟩)
                          clear hY hN p0 p1 hS
                          go_wp2_with fail
                          go_ret
                          exact ⟨by rw [hE.out]; rfl, dZ.trans (dV.mono dZ.size)⟩
                        · have p1' : (y2 == y) = false := by simp [p1]
                          have hE := hide (hN.out (fun h => p1 h.2))
                          clear hY hN p0 p1 hS
                          go_wp2_with fail
                          exact ⟨⟨j + 1, by go_num, by omega, hE, dV⟩, by simp [intOf]; omega⟩
                      · have p0' : (x2 == x) = false := by simp [p0]
                        have hE := hide (hN.out (fun h => p0 h.1))
                        clear hY hN p0 hS
                        go_wp2_with fail
                        exact ⟨⟨j + 1, by go_num, by omega, hE, dV⟩, by simp [intOf]; omega⟩
                    · have hjk' : ¬ (j : Int) < (k : Int) := by omega
                      obtain rfl : j = k := by omega
                      have hE := hide (hS.out hno.out)
                      clear hno hA' hNk2 hS
                      go_wp2_with fail
                      exact ⟨⟨j + 1, by go_num, by omega, hE, dQ⟩, by simp [intOf]; omega⟩
                · rw [inB_n q3] at SZ
                  have hE := hide (hNk.out (fun h => q3 ⟨h.2.2.2.1, h.2.2.2.2⟩))
                  clear hNk hNk2 hSn
                  go_wp2_with fail
                  refine (SZ.out _).mono ?_
                  rintro e w1 ⟨rfl, hw1⟩
                  rw [hw1]; clear hw1 w1
                  go_wp2_with fail
                  go_ret
                  exact ⟨by rw [hE.out]; rfl, dZ⟩
        · have hlt' : ¬ (k : Int) < (n : Int) := by omega
          obtain rfl : k = n := by omega
          have hE := hide (hYes.out hall.out)
          clear hall hA hYes hNo hNo2
          go_wp2_with fail
          go_ret
          exact ⟨by rw [hE.out]; rfl, hb⟩
  · rw [inB_n h0] at SU
    have hE := hide (hF.out (fun h => h0 ⟨h.1, h.2.1⟩))
    clear hT hF hA
    go_enter Try.func21, Try.ntmps21
    go_wp2_with fail
    refine (SU.out _).mono ?_
    rintro e w1 ⟨rfl, hw1⟩
    rw [hw1]; clear hw1 w1
    go_wp2_with fail
    go_ret
    exact ⟨by rw [hE.out]; rfl, Below.refl _ _⟩
end Go.Proofs.Ytgjohkpicajhpaa
