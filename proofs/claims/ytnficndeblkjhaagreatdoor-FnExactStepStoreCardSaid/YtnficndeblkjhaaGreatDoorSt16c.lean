/- Stores as an answer: marked, held. -/
import Derived.Test.YtnficndeblkjhaaGreatDoorGrp4
namespace Go.Proofs.YtnficndeblkjhaaGreatDoor
open Go.RowKit

theorem AnsX.at {a : Option Addr} {h : Nat} {H : Nat → Cf} {lo hi : Nat} {w : World} (A : AnsX a h H lo hi w) {k : Nat} (hk : k < h) : ∃ (g : Nat) (a0 : Option Addr) (c0 lk uk : Nat), a = some ⟨g, 0, none⟩ ∧ g < w.heap.size ∧ w.cell? ⟨g, k, none⟩ = some (.slice a0 (H k).n c0) ∧ AnsF a0 (H k).n (H k).T (fun x => lk ≤ x ∧ x < uk) w ∧ lo ≤ lk ∧ uk ≤ hi ∧
    ∀ (w' : World) (H' : Nat → Cf), OnlyP (fun x => lk ≤ x ∧ x < uk) w w' → AnsF a0 (H' k).n (H' k).T (fun x => lk ≤ x ∧ x < uk) w' → (H' k).n = (H k).n → (∀ i, i ≠ k → H' i = H i) → AnsX a h H' lo hi w' := by
  obtain ⟨h0, h1, h5⟩ := A
  rcases h5 with e | ⟨B, E, g, h2, h3, ha, hg, hj, l1, l2, h6⟩
  · omega
  · obtain ⟨a0, c0, e, hA⟩ := h6 k hk
    have hk2 := h2 k hk
    refine ⟨g, a0, c0, B k, E k, ha, hg, e, hA, by omega, by omega, fun w' H' on hA' hn hne => ⟨Nat.le_trans h0 on.2.2.2.1, h1, .inr ⟨B, E, g, h2, h3, ha, Nat.lt_of_lt_of_le hg on.2.2.2.1, hj, l1, l2, fun i hi => ?_⟩⟩⟩
    have hgk := hj k hk
    by_cases ei : i = k
    · subst ei
      exact ⟨a0, c0, by rw [hn]; exact (on.cell hg (by omega)).trans e, hA'⟩
    · rw [hne i ei]
      obtain ⟨a1, c1, e1, hA1⟩ := h6 i hi
      refine ⟨a1, c1, (on.cell hg (by omega)).trans e1, hA1.onlyP on (fun x hx hy => ?_)⟩
      rcases Nat.lt_or_gt_of_ne ei with q | q
      · have := h3 i k q hk
        omega
      · have := h3 k i q hi
        omega
theorem mkX_zero (k0 : Nat) (H : Nat → Cf) : mkX k0 H 0 = H := by
  funext i
  exact if_neg (by omega)
theorem mkX_lt {k0 : Nat} {H : Nat → Cf} {k i : Nat} (h : i < k) : mkX k0 H k i = mkC (kmX k0 H i) (H i) := if_pos h
theorem mkX_ge {k0 : Nat} {H : Nat → Cf} {k i : Nat} (h : ¬ i < k) : mkX k0 H k i = H i := if_neg h
theorem mkX_other {k0 : Nat} {H : Nat → Cf} {k i : Nat} (h : i ≠ k) : mkX k0 H (k + 1) i = mkX k0 H k i := by
  unfold mkX
  by_cases e : i < k
  · rw [if_pos e, if_pos (by omega)]
  · rw [if_neg e, if_neg (by omega)]
set_option maxRecDepth 100000 in
set_option maxHeartbeats 1600000 in
theorem w_markLeafSS (a : Option Addr) (h c : Nat) (H : Nat → Cf) (lo hi k0 : Nat) (w : World) (hn : h ≤ 1048576) (hl : ∀ i, i < h → LowCf (H i)) (ht : totX H h ≤ 1048576) (hk1 : 1 ≤ k0) (hk2 : k0 ≤ 5000000) (hA : AnsX a h H lo hi w) :
    Calls Tryz.prog 42 #[.slice a h c, .int .i64 (k0 : Int)] w fun e w' => e = .returned (.int .i64 (kmX k0 H h : Int)) ∧ AnsX a h (mkX k0 H h) lo hi w' ∧ OnlyP (fun x => lo ≤ x ∧ x < hi) w w' := by
  go_enter Tryz.func42, Tryz.ntmps42
  go_wp2_with fail
  go_loopw [1, 5] (fun x y wr => ∃ k : Nat, x = .int .i64 (kmX k0 H k : Int) ∧ y = .int .i64 k ∧ k ≤ h ∧ Hid (AnsX a h (mkX k0 H k) lo hi wr) ∧ OnlyP (fun x => lo ≤ x ∧ x < hi) w wr) (fun _ y _ => h - (intOf y).toNat)
  case atStart => exact ⟨0, rfl, rfl, Nat.zero_le _, by rw [mkX_zero]; exact hA, OnlyP.refl _ _⟩
  case round =>
    clear hA
    obtain ⟨k, rfl, rfl, hk, hX, hO⟩ := hrel
    by_cases hlt : k < h
    · have hlt' : (k : Int) < (h : Int) := by omega
      obtain ⟨g, a0, c0, lk, uk, rfl, hg, u0, AF, q1, q2, put⟩ := hX.out.at hlt
      rw [mkX_ge (Nat.lt_irrefl k)] at u0 AF
      have hlo := hl k hlt
      have hkm : 1 ≤ kmX k0 H k ∧ kmX k0 H k ≤ 10000000 := by
        rw [kmX_eq]
        have := totX_mono H (Nat.le_of_lt hlt)
        omega
      have hz : Hid (totF (H k).T (H k).n ≤ 1048576) := Nat.le_trans (Nat.le_add_left _ _) hlo.1
      have MK := hide (fun w A => w_markAnsF a0 c0 (H k).n (H k).T (fun x => lk ≤ x ∧ x < uk) (kmX k0 H k) w hlo.n hz.out hkm.1 hkm.2 A)
      have hnx : Hid ((kmX k0 H (k + 1) : Int) = (kmF (kmX k0 H k) (H k).T (H k).n : Int)) := rfl
      have put2 : Hid (∀ w', OnlyP (fun x => lk ≤ x ∧ x < uk) wr w' → AnsF a0 (H k).n (halfF (kmX k0 H k) (H k).T (H k).n) (fun x => lk ≤ x ∧ x < uk) w' → AnsX (some ⟨g, 0, none⟩) h (mkX k0 H (k + 1)) lo hi w') := fun w' on A => put w' _ on (by rw [mkX_lt (Nat.lt_succ_self k)]; exact A) (by rw [mkX_n, mkX_n]) (fun i hi => mkX_other hi)
      clear put hl hz ht hlo
      go_wp2_with fail
      refine (MK.out _ AF).mono ?_
      rintro e w3 ⟨rfl, AH, on⟩
      have A3 := hide (put2.out _ on AH)
      have O3 := hO.trans (on.mono (Q := fun x => lo ≤ x ∧ x < hi) (fun x _ hx => by omega))
      clear put2 AF AH on hX hO u0 MK hg
      go_wp2_with fail
      exact ⟨⟨k + 1, by rw [hnx.out], by go_num, by omega, A3.out, O3⟩, by simp [intOf]; omega⟩
    · have hlt' : ¬ (k : Int) < (h : Int) := by omega
      obtain rfl : k = h := by omega
      clear hl ht
      go_wp2_with fail
      go_ret
      exact ⟨rfl, hX.out, hO⟩
set_option maxRecDepth 100000 in
set_option maxHeartbeats 1600000 in
theorem w_heldLeafSS (a : Option Addr) (h c : Nat) (H : Nat → Cf) (k0 : Nat) (w : World) (hn : h ≤ 1048576) (hl : ∀ i, i < h → LowCf (H i)) (ht : totX H h ≤ 1048576) (hk1 : 1 ≤ k0) (hk2 : k0 ≤ 5000000) (hR : RowX true a h (mkX k0 H h) w) :
    Calls Tryz.prog 45 #[.slice a h c, .int .i64 (k0 : Int)] w fun e w' => e = .returned (.int .i64 (kmX k0 H h : Int)) ∧ Below w.heap.size w w' := by
  go_enter Tryz.func45, Tryz.ntmps45
  go_wp2_with fail
  go_loopw [1, 5] (fun x y wr => ∃ k : Nat, x = .int .i64 (kmX k0 H k : Int) ∧ y = .int .i64 k ∧ k ≤ h ∧ Below w.heap.size w wr) (fun _ y _ => h - (intOf y).toNat)
  case atStart => exact ⟨0, rfl, rfl, Nat.zero_le _, Below.refl _ _⟩
  case round =>
    obtain ⟨k, rfl, rfl, hk, hb⟩ := hrel
    by_cases hlt : k < h
    · have hlt' : (k : Int) < (h : Int) := by omega
      obtain ⟨b, off, a0, c0, rfl, hbw, u0, R0⟩ := hR k hlt
      rw [mkX_lt hlt] at u0 R0
      replace u0 := (hb.cell (p := ⟨b, off + k, none⟩) hbw).trans u0
      have hlo := hl k hlt
      have hkm : 1 ≤ kmX k0 H k ∧ kmX k0 H k ≤ 10000000 := by
        rw [kmX_eq]
        have := totX_mono H (Nat.le_of_lt hlt)
        omega
      have hz : Hid (totF (H k).T (H k).n ≤ 1048576) := Nat.le_trans (Nat.le_add_left _ _) hlo.1
      have HK := hide (fun w R => w_heldLeafS a0 (H k).n c0 (H k).T (kmX k0 H k) w hlo.n hz.out hkm.1 hkm.2 R)
      have hnx : Hid ((kmX k0 H (k + 1) : Int) = (kmF (kmX k0 H k) (H k).T (H k).n : Int)) := rfl
      have u0 : wr.cell? ⟨b, off + k, none⟩ = some (.slice a0 (H k).n c0) := u0
      have R0 := hide (R0.below hb)
      have hk3 : ¬ ((kmF (kmX k0 H k) (H k).T (H k).n : Int) < 0) := by omega
      clear hl hz ht hlo hR
      generalize kmF (kmX k0 H k) (H k).T (H k).n = K2 at *
      go_wp2_with fail
      refine (HK.out _ R0.out).mono ?_
      rintro e w3 ⟨rfl, b3⟩
      have d3 := hb.trans (b3.mono hb.size)
      clear R0 hb u0 HK b3
      go_wp2_with fail
      exact ⟨⟨k + 1, by rw [hnx.out], by go_num, by omega, d3⟩, by simp [intOf]; omega⟩
    · have hlt' : ¬ (k : Int) < (h : Int) := by omega
      obtain rfl : k = h := by omega
      clear hl ht hR
      go_wp2_with fail
      go_ret
      exact ⟨rfl, hb⟩
set_option maxRecDepth 100000 in
set_option maxHeartbeats 1600000 in
theorem w_markStore (v : Value) (s : Sto) (lo hi k0 : Nat) (w : World) (hl : LowSt s) (hk1 : 1 ≤ k0) (hk2 : k0 ≤ 1000000) (hA : AnsSt v s lo hi w) :
    Calls Tryz.prog 13 #[v, .int .i64 (k0 : Int)] w fun e w' => e = .returned (.int .i64 (kmSt k0 s : Int)) ∧ AnsSt v (mkSt k0 s) lo hi w' ∧ OnlyP (fun x => lo ≤ x ∧ x < hi) w w' := by
  obtain ⟨ca, kc, ra, kr, ha, kh, m1, m2, rfl, q1, q2, q3, q4, q5, A1, A2, A3⟩ := hA
  obtain ⟨l1, l2, l3, l4, l5⟩ := hl
  have t1 : totF s.C.T s.C.n ≤ 1048576 := Nat.le_trans (Nat.le_add_left _ _) l1.1
  have t2 : totF s.R.T s.R.n ≤ 1048576 := Nat.le_trans (Nat.le_add_left _ _) l2.1
  have kb1 : 1 ≤ kmc k0 s.C ∧ kmc k0 s.C ≤ 3000000 := by rw [kmc_eq]; have := l1.1; omega
  have kb2 : 1 ≤ kmc (kmc k0 s.C) s.R ∧ kmc (kmc k0 s.C) s.R ≤ 5000000 := by rw [kmc_eq, kmc_eq]; have := l1.1; have := l2.1; omega
  have n1 := l1.n
  have n2 := l2.n
  have s0 := hide (fun w A => w_markAnsF ca kc s.C.n s.C.T (fun k => lo ≤ k ∧ k < m1) k0 w n1 t1 hk1 (by omega) A)
  have s1 := hide (fun w A => (show Calls Tryz.prog 41 #[.slice ra s.R.n kr, .int .i64 (kmF k0 s.C.T s.C.n : Int)] w _ from w_markAnsF ra kr s.R.n s.R.T (fun k => m1 ≤ k ∧ k < m2) (kmc k0 s.C) w n2 t2 kb1.1 (by omega) A))
  have s2 := hide (fun w A => (show Calls Tryz.prog 42 #[.slice ha s.h kh, .int .i64 (kmF (kmc k0 s.C) s.R.T s.R.n : Int)] w _ from w_markLeafSS ha s.h kh s.H m2 hi (kmc (kmc k0 s.C) s.R) w l3 l4 l5 kb2.1 kb2.2 A))
  have fin : Hid (∀ w', hi ≤ w'.heap.size → AnsF ca s.C.n (halfF k0 s.C.T s.C.n) (fun k => lo ≤ k ∧ k < m1) w' → AnsF ra s.R.n (halfF (kmc k0 s.C) s.R.T s.R.n) (fun k => m1 ≤ k ∧ k < m2) w' → AnsX ha s.h (mkX (kmc (kmc k0 s.C) s.R) s.H s.h) m2 hi w' → AnsSt (stV s ca kc ra kr ha kh) (mkSt k0 s) lo hi w') := fun w' h B1 B2 B3 => ⟨ca, kc, ra, kr, ha, kh, m1, m2, rfl, q1, q2, q3, h, q5, B1, B2, B3⟩
  have hks : Hid (kmSt k0 s = kmX (kmc (kmc k0 s.C) s.R) s.H s.h) := rfl
  clear t1 t2 n1 n2 l1 l2 l3 l4 l5
  unfold stV
  unfold stV at fin
  have M0 := Mut.new w #[.slice ca s.C.n kc, .slice ra s.R.n kr, .slice ha s.h kh, .int .i64 s.l] 34
  have d0 : Below w.heap.size w (w.alloc (.cells #[.slice ca s.C.n kc, .slice ra s.R.n kr, .slice ha s.h kh, .int .i64 s.l] 34)) := below_box (Below.refl _ _)
  go_enter Tryz.func13, Tryz.ntmps13
  go_wp2_with fail
  replace A1 := A1.below d0
  replace A2 := A2.below d0
  replace A3 := A3.below d0
  have O0 := OnlyP.of_below (P := fun x => lo ≤ x ∧ x < hi) d0
  generalize w.alloc (.cells #[.slice ca s.C.n kc, .slice ra s.R.n kr, .slice ha s.h kh, .int .i64 s.l] 34) = w0 at *
  refine (s0.out _ A1).mono ?_
  rintro e w1 ⟨rfl, B1, yy⟩
  replace A2 := A2.onlyP yy (fun x hx hy => by omega)
  replace A3 := A3.onlyP yy (fun x h1 h2 hy => by omega)
  replace M0 := M0.onlyP yy (by omega)
  have O1 := O0.trans (yy.mono (fun x _ hx => by omega))
  clear s0 yy A1 O0 d0
  have u1 := M0.2.1 1 _ rfl
  go_wp2_with fail
  refine (s1.out _ A2).mono ?_
  rintro e w2 ⟨rfl, B2, yy⟩
  replace B1 := B1.onlyP yy (fun x hx hy => by omega)
  replace A3 := A3.onlyP yy (fun x h1 h2 hy => by omega)
  replace M0 := M0.onlyP yy (by omega)
  have O2 := O1.trans (yy.mono (fun x _ hx => by omega))
  clear s1 yy A2 O1 u1
  have u2 := M0.2.1 2 _ rfl
  go_wp2_with fail
  refine (s2.out _ A3).mono ?_
  rintro e w3 ⟨rfl, B3, yy⟩
  replace B1 := B1.onlyP yy (fun x hx hy => by omega)
  replace B2 := B2.onlyP yy (fun x hx hy => by omega)
  have O3 := O2.trans (yy.mono (fun x _ hx => by omega))
  have F := hide (fin.out _ (Nat.le_trans q4 O3.2.2.2.1) B1 B2 B3)
  clear s2 yy A3 O2 u2 M0 B1 B2 B3 fin
  go_wp2_with fail
  go_ret
  exact ⟨by rw [hks.out]; rfl, F.out, O3⟩
set_option maxRecDepth 100000 in
set_option maxHeartbeats 1600000 in
theorem w_heldStore (v : Value) (s : Sto) (k0 : Nat) (w : World) (hl : LowSt s) (hk1 : 1 ≤ k0) (hk2 : k0 ≤ 1000000) (hR : RowSt true v (mkSt k0 s) w) :
    Calls Tryz.prog 15 #[v, .int .i64 (k0 : Int)] w fun e w' => e = .returned (.int .i64 (kmSt k0 s : Int)) ∧ Below w.heap.size w w' := by
  obtain ⟨ca, kc, ra, kr, ha, kh, rfl, R1, R2, R3, _⟩ := hR
  obtain ⟨l1, l2, l3, l4, l5⟩ := hl
  have t1 : totF s.C.T s.C.n ≤ 1048576 := Nat.le_trans (Nat.le_add_left _ _) l1.1
  have t2 : totF s.R.T s.R.n ≤ 1048576 := Nat.le_trans (Nat.le_add_left _ _) l2.1
  have kb1 : 1 ≤ kmc k0 s.C ∧ kmc k0 s.C ≤ 3000000 := by rw [kmc_eq]; have := l1.1; omega
  have kb2 : 1 ≤ kmc (kmc k0 s.C) s.R ∧ kmc (kmc k0 s.C) s.R ≤ 5000000 := by rw [kmc_eq, kmc_eq]; have := l1.1; have := l2.1; omega
  have n1 := l1.n
  have n2 := l2.n
  have s0 := hide (fun w R => w_heldLeafS ca s.C.n kc s.C.T k0 w n1 t1 hk1 (by omega) R)
  have s1 := hide (fun w R => (show Calls Tryz.prog 44 #[.slice ra s.R.n kr, .int .i64 (kmF k0 s.C.T s.C.n : Int)] w _ from w_heldLeafS ra s.R.n kr s.R.T (kmc k0 s.C) w n2 t2 kb1.1 (by omega) R))
  have s2 := hide (fun w R => (show Calls Tryz.prog 45 #[.slice ha s.h kh, .int .i64 (kmF (kmc k0 s.C) s.R.T s.R.n : Int)] w _ from w_heldLeafSS ha s.h kh s.H (kmc (kmc k0 s.C) s.R) w l3 l4 l5 kb2.1 kb2.2 R))
  have hks : Hid (kmSt k0 s = kmX (kmc (kmc k0 s.C) s.R) s.H s.h) := rfl
  have g1 : ¬ ((kmF k0 s.C.T s.C.n : Int) < 0) := by omega
  have g2 : ¬ ((kmF (kmc k0 s.C) s.R.T s.R.n : Int) < 0) := by omega
  have g3 : ¬ ((kmX (kmc (kmc k0 s.C) s.R) s.H s.h : Int) < 0) := by omega
  clear t1 t2 n1 n2 l1 l2 l3 l4 l5
  have hV : stV (mkSt k0 s) ca kc ra kr ha kh = .agg #[.slice ca s.C.n kc, .slice ra s.R.n kr, .slice ha s.h kh, .int .i64 s.l] := rfl
  rw [hV]
  clear hV
  have M0 := Mut.new w #[.slice ca s.C.n kc, .slice ra s.R.n kr, .slice ha s.h kh, .int .i64 s.l] 34
  have d0 : Below w.heap.size w (w.alloc (.cells #[.slice ca s.C.n kc, .slice ra s.R.n kr, .slice ha s.h kh, .int .i64 s.l] 34)) := below_box (Below.refl _ _)
  go_enter Tryz.func15, Tryz.ntmps15
  go_wp2_with fail
  generalize w.alloc (.cells #[.slice ca s.C.n kc, .slice ra s.R.n kr, .slice ha s.h kh, .int .i64 s.l] 34) = w0 at *
  refine (s0.out _ (R1.below d0)).mono ?_
  rintro e w1 ⟨rfl, bb⟩
  replace M0 := M0.below bb
  have d1 := d0.trans (bb.mono d0.size)
  clear bb d0 s0
  have u1 := M0.2.1 1 _ rfl
  go_wp2_with fail
  refine (s1.out _ (R2.below d1)).mono ?_
  rintro e w2 ⟨rfl, bb⟩
  replace M0 := M0.below bb
  have d2 := d1.trans (bb.mono d1.size)
  clear bb d1 s1 u1
  have u2 := M0.2.1 2 _ rfl
  go_wp2_with fail
  refine (s2.out _ (R3.below d2)).mono ?_
  rintro e w3 ⟨rfl, bb⟩
  have d3 := d2.trans (bb.mono d2.size)
  clear bb d2 s2 u2 M0
  go_wp2_with fail
  go_ret
  exact ⟨by rw [hks.out]; rfl, d3⟩
end Go.Proofs.YtnficndeblkjhaaGreatDoor
