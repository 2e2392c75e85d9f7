/- GoodDisk: of the program and of the specification. -/
import Derived.Test.YtnpnhdaehddnmaaDoorLaw17b
import Derived.Test.YtnpnhdaehddnmaaDoorS1
namespace Go.Proofs.YtnpnhdaehddnmaaDoor
open Go.RowKit

/-- A good write. -/
def GW17 (at_ : Int) (s : ByteArray) : Prop := 0 ≤ at_ ∧ at_ < 10 ∧ s.size ≤ 20
instance (at_ : Int) (s : ByteArray) : Decidable (GW17 at_ s) := by unfold GW17; infer_instance
/-- A good disk. -/
def GD17 (d : Dk) : Prop := d.n = 10 ∧ d.m ≤ 40 ∧ (∀ i, i < d.n → (d.f i).size ≤ 20) ∧ ∀ i, i < d.m → GW17 (d.A i) (d.D i)
noncomputable def gD (d : Dk) : Bool := @decide (GD17 d) (Classical.propDecidable _)
theorem gD_t {d : Dk} (h : GD17 d) : gD d = true := @decide_eq_true _ (Classical.propDecidable _) h
theorem gD_f {d : Dk} (h : ¬ GD17 d) : gD d = false := @decide_eq_false _ (Classical.propDecidable _) h
/-- What is asked of a disk of which it is asked whether it is good. -/
def LowD (d : Dk) : Prop := d.n ≤ 1048576 ∧ d.m ≤ 1048576 ∧ (∀ i, i < d.n → (d.f i).size ≤ 1048576) ∧ ∀ i, i < d.m → (d.D i).size ≤ 1048576
theorem hid_next {p : Nat → Prop} {k : Nat} (h : Hid (∀ i, i < k → p i)) (h1 : p k) : Hid (∀ i, i < k + 1 → p i) := fun i hi => by
  by_cases e : i = k
  · rw [e]; exact h1
  · exact h.out i (by omega)
set_option maxHeartbeats 400000 in
theorem i_isSectorData (s : ByteArray) (w : World) :
    Calls Tryd.prog 58 #[.string s] w fun e w' => e = .returned (.bool (decide (s.size ≤ 20))) ∧ w' = w := by
  have hd : decide (s.size ≤ 20) = decide ((s.size : Int) ≤ 20) := by simp only [decide_eq_decide]; omega
  rw [hd]
  go_enter Tryd.func58, Tryd.ntmps58
  go_wp2_with fail
  go_ret
  exact ⟨rfl, rfl⟩
set_option maxRecDepth 100000 in
set_option maxHeartbeats 1600000 in
theorem i_goodWrite (x : Int) (s : ByteArray) (w : World) :
    Calls Tryd.prog 59 #[.agg #[.int .i64 x, .string s]] w fun e w' => e = .returned (.bool (decide (GW17 x s))) ∧ Below w.heap.size w w' := by
  have S := hide (fun w => i_isSectorData s w)
  have M := Mut.new w #[.int .i64 x, .string s] 63
  have d0 : Below w.heap.size w (w.alloc (.cells #[.int .i64 x, .string s] 63)) := below_box (Below.refl _ _)
  have u0 := M.2.1 0 _ rfl
  have u1 := M.2.1 1 _ rfl
  have hF : Hid (¬ (0 ≤ x ∧ x < 10) → decide (GW17 x s) = false) := fun h => by simp only [decide_eq_false_iff_not]; exact fun g => h ⟨g.1, g.2.1⟩
  have hT : Hid (0 ≤ x ∧ x < 10 → decide (s.size ≤ 20) = decide (GW17 x s)) := fun h => by simp only [decide_eq_decide]; exact ⟨fun g => ⟨h.1, h.2, g⟩, fun g => g.2.2⟩
  generalize decide (GW17 x s) = r at *
  generalize decide (s.size ≤ 20) = q at *
  go_enter Tryd.func59, Tryd.ntmps59
  by_cases h0 : 0 ≤ x
  case neg =>
    have hE := hide (hF.out (fun h => h0 h.1))
    clear hF hT
    go_wp2_with fail
    go_ret
    exact ⟨by rw [hE.out]; rfl, d0⟩
  by_cases h1 : x < 10
  case neg =>
    have hE := hide (hF.out (fun h => h1 h.2))
    clear hF hT
    go_wp2_with fail
    go_ret
    exact ⟨by rw [hE.out]; rfl, d0⟩
  have hE := hide (hT.out ⟨h0, h1⟩)
  clear hF hT
  go_wp2_with fail
  refine (S.out _).mono ?_
  rintro e w1 ⟨rfl, rfl⟩
  go_wp2_with fail
  go_ret
  exact ⟨by rw [← hE.out]; rfl, d0⟩
set_option maxRecDepth 100000 in
set_option maxHeartbeats 3200000 in
theorem i_goodDisk (a b : Option Addr) (c e : Nat) (d : Dk) (w : World) (hl : d.n ≤ 1048576 ∧ d.m ≤ 1048576) (hR : RowD a b d w) :
    Calls Tryd.prog 48 #[.agg #[.slice a d.n c, .slice b d.m e]] w fun e w' => e = .returned (.bool (gD d)) ∧ Below w.heap.size w w' := by
  have hF1 : Hid (¬ (d.n = 10 ∧ d.m ≤ 40) → gD d = false) := fun h => gD_f (fun g => h ⟨g.1, g.2.1⟩)
  have hF2 : Hid (∀ k, k < d.n → ¬ (d.f k).size ≤ 20 → gD d = false) := fun k hk h => gD_f (fun g => h (g.2.2.1 k hk))
  have hF3 : Hid (∀ k, k < d.m → ¬ GW17 (d.A k) (d.D k) → gD d = false) := fun k hk h => gD_f (fun g => h (g.2.2.2 k hk))
  have hT : Hid (d.n = 10 ∧ d.m ≤ 40 → (∀ k, k < d.n → (d.f k).size ≤ 20) → (∀ k, k < d.m → GW17 (d.A k) (d.D k)) → gD d = true) := fun h g1 g2 => gD_t ⟨h.1, h.2, g1, g2⟩
  generalize gD d = r at *
  obtain ⟨n, f, m, A, D⟩ := d
  obtain ⟨hR1, hR2⟩ := hR
  obtain ⟨hl1, hl2⟩ := hl
  dsimp only at *
  have S := hide (fun s w => i_isSectorData s w)
  have W := hide (fun x s w => i_goodWrite x s w)
  have M := Mut.new w #[.slice a n c, .slice b m e] 31
  have d0 : Below w.heap.size w (w.alloc (.cells #[.slice a n c, .slice b m e] 31)) := below_box (Below.refl _ _)
  have u0 := M.2.1 0 _ rfl
  have u1 := M.2.1 1 _ rfl
  go_enter Tryd.func48, Tryd.ntmps48
  by_cases h1 : n = 10
  case neg =>
    have hE := hide (hF1.out (fun h => h1 h.1))
    have h1' : ((n : Int) != 10) = true := by simp; omega
    clear hF1 hF2 hF3 hT
    go_wp2_with fail
    go_ret
    exact ⟨by rw [hE.out]; rfl, d0⟩
  by_cases h2 : m ≤ 40
  case neg =>
    have hE := hide (hF1.out (fun h => h2 h.2))
    have h1' : ((n : Int) != 10) = false := by simp; omega
    clear h1
    have h2' : (m : Int) > 40 := by omega
    clear hF1 hF2 hF3 hT
    go_wp2_with fail
    go_ret
    exact ⟨by rw [hE.out]; rfl, d0⟩
  have hT := hide (hT.out ⟨h1, h2⟩)
  have h1' : ((n : Int) != 10) = false := by simp; omega
  have h2' : ¬ ((m : Int) > 40) := by omega
  clear hF1 h1
  go_wp2_with fail
  generalize w.alloc (.cells #[.slice a n c, .slice b m e] 31) = w0 at *
  clear h1'
  go_loop [20] (fun y => ∃ k : Nat, y = .int .i64 k ∧ k ≤ n ∧ Hid (∀ i, i < k → (f i).size ≤ 20)) (fun y => n - (intOf y).toNat)
  case atStart => exact ⟨0, rfl, Nat.zero_le _, fun i hi => absurd hi (by omega)⟩
  case round =>
    obtain ⟨k, rfl, hk, hx⟩ := hrel
    by_cases hlt : k < n
    · obtain ⟨b0, off, rfl, hbw, x0⟩ := hR1 k hlt
      replace x0 := (d0.cell (p := ⟨b0, off + k, none⟩) hbw).trans x0
      have hlt' : (k : Int) < (n : Int) := by omega
      by_cases hg : (f k).size ≤ 20
      · have hx := hide (hid_next hx hg).out
        have hd : decide ((f k).size ≤ 20) = true := by simpa using hg
        have S := hide (S.out (f k))
        rw [hd] at S
        clear hF2 hF3 hT hR1 hR2 hd hg
        generalize f k = z at *
        go_wp2_with fail
        refine (S.out _).mono ?_
        rintro e w1 ⟨rfl, rfl⟩
        go_wp2_with fail
        exact ⟨⟨k + 1, by go_num, by omega, hx⟩, by simp [intOf]; omega⟩
      · have hE := hide (hF2.out k hlt hg)
        have hd : decide ((f k).size ≤ 20) = false := by simpa using hg
        have S := hide (S.out (f k))
        rw [hd] at S
        clear hF2 hF3 hT hR1 hR2 hd hg hx
        generalize f k = z at *
        go_wp2_with fail
        refine (S.out _).mono ?_
        rintro e w1 ⟨rfl, rfl⟩
        go_wp2_with fail
        go_ret
        exact ⟨by rw [hE.out]; rfl, d0⟩
    · obtain rfl : k = n := by omega
      have hT := hide (hT.out hx.out)
      clear hF2 hx hlt
      go_wp2_with fail
      go_loopw [31] (fun y wr => ∃ j : Nat, y = .int .i64 j ∧ j ≤ m ∧ Hid (∀ i, i < j → GW17 (A i) (D i)) ∧ Below w.heap.size w wr) (fun y _ => m - (intOf y).toNat)
      case atStart => exact ⟨0, rfl, Nat.zero_le _, fun i hi => absurd hi (by omega), d0⟩
      case round =>
        clear u0 u1 M d0
        obtain ⟨j, rfl, hj, hx, hb⟩ := hrel
        by_cases hlt : j < m
        · obtain ⟨b0, off, rfl, hbw, x0, x1⟩ := hR2 j hlt
          replace x0 := (hb.cell (p := ⟨b0, off + j * 2, none⟩) hbw).trans x0
          replace x1 := (hb.cell (p := ⟨b0, off + j * 2 + 1, none⟩) hbw).trans x1
          have hlt' : (j : Int) < (m : Int) := by omega
          have W := hide (W.out (A j) (D j))
          by_cases hg : GW17 (A j) (D j)
          · have hx := hide (hid_next hx hg).out
            rw [decide_eq_true hg] at W
            clear hF3 hT hR1 hR2 hg S
            generalize A j = x at *
            generalize D j = z at *
            have M := Mut.new wr #[.int .i64 x, .string z] 63
            have b1 : Below wr.heap.size wr (wr.alloc (.cells #[.int .i64 x, .string z] 63)) := below_box (Below.refl _ _)
            replace hb := below_step hb b1
            have u0 := M.2.1 0 _ rfl
            have u1 := M.2.1 1 _ rfl
            clear b1
            go_wp2_with fail
            refine (W.out _).mono ?_
            rintro e w2 ⟨rfl, b2⟩
            replace hb := below_step hb b2
            clear u0 u1 M b2
            go_wp2_with fail
            exact ⟨⟨j + 1, by go_num, by omega, hx, hb⟩, by simp [intOf]; omega⟩
          · have hE := hide (hF3.out j hlt hg)
            rw [decide_eq_false hg] at W
            clear hF3 hT hR1 hR2 hg S hx
            generalize A j = x at *
            generalize D j = z at *
            have M := Mut.new wr #[.int .i64 x, .string z] 63
            have b1 : Below wr.heap.size wr (wr.alloc (.cells #[.int .i64 x, .string z] 63)) := below_box (Below.refl _ _)
            replace hb := below_step hb b1
            have u0 := M.2.1 0 _ rfl
            have u1 := M.2.1 1 _ rfl
            clear b1
            go_wp2_with fail
            refine (W.out _).mono ?_
            rintro e w2 ⟨rfl, b2⟩
            replace hb := below_step hb b2
            clear u0 u1 M b2
            go_wp2_with fail
            go_ret
            exact ⟨by rw [hE.out]; rfl, hb⟩
        · obtain rfl : j = m := by omega
          have hE := hide (hT.out hx.out)
          clear hF3 hT hx
          go_wp2_with fail
          go_ret
          exact ⟨by rw [hE.out]; rfl, hb⟩
set_option maxRecDepth 100000 in
set_option maxHeartbeats 3200000 in
theorem s_goodDisk (a b : Option Addr) (c e : Nat) (d : Dk) (w : World) (hl : LowD d) (hR : RowD a b d w) :
    Calls Tryd.prog 21 #[.agg #[.slice a d.n c, .slice b d.m e]] w fun e w' => e = .returned (.bool (gD d)) ∧ Below w.heap.size w w' := by
  have hF2 : Hid (∀ k, k < d.n → ¬ (d.f k).size ≤ 20 → gD d = false) := fun k hk h => gD_f (fun g => h (g.2.2.1 k hk))
  have hF3 : Hid (∀ k, k < d.m → ¬ GW17 (d.A k) (d.D k) → gD d = false) := fun k hk h => gD_f (fun g => h (g.2.2.2 k hk))
  have hT : Hid ((∀ k, k < d.n → (d.f k).size ≤ 20) → (∀ k, k < d.m → GW17 (d.A k) (d.D k)) → ((d.n : Int) == 10) = false → gD d = false) := fun _ _ h => gD_f (fun g => by have := g.1; simp at h; omega)
  have hT2 : Hid ((∀ k, k < d.n → (d.f k).size ≤ 20) → (∀ k, k < d.m → GW17 (d.A k) (d.D k)) → ((d.n : Int) == 10) = true → decide ((d.m : Int) ≤ 40) = gD d) := fun g1 g2 h => by
    have hn : d.n = 10 := by simp at h; omega
    by_cases hm : d.m ≤ 40
    · rw [gD_t ⟨hn, hm, g1, g2⟩]
      simp only [decide_eq_true_eq]; omega
    · rw [gD_f (fun g => hm g.2.1)]
      simp only [decide_eq_false_iff_not]; omega
  generalize gD d = r at *
  obtain ⟨n, f, m, A, D⟩ := d
  obtain ⟨hR1, hR2⟩ := hR
  obtain ⟨hl1, hl2, hl3, hl4⟩ := hl
  dsimp only at *
  have W := hide (fun x lo hi w => s_in x lo hi w)
  have M := Mut.new w #[.slice a n c, .slice b m e] 31
  have d0 : Below w.heap.size w (w.alloc (.cells #[.slice a n c, .slice b m e] 31)) := below_box (Below.refl _ _)
  have u0 := M.2.1 0 _ rfl
  go_enter Tryd.func21, Tryd.ntmps21
  go_wp2_with fail
  generalize w.alloc (.cells #[.slice a n c, .slice b m e] 31) = w0 at *
  go_loop [10] (fun y => ∃ k : Nat, y = .int .i64 k ∧ k ≤ n ∧ Hid (∀ i, i < k → (f i).size ≤ 20)) (fun y => n - (intOf y).toNat)
  case atStart => exact ⟨0, rfl, Nat.zero_le _, fun i hi => absurd hi (by omega)⟩
  case round =>
    obtain ⟨k, rfl, hk, hx⟩ := hrel
    by_cases hlt : k < n
    · obtain ⟨b0, off, rfl, hbw, x0⟩ := hR1 k hlt
      replace x0 := (d0.cell (p := ⟨b0, off + k, none⟩) hbw).trans x0
      have hlt' : (k : Int) < (n : Int) := by omega
      by_cases hg : (f k).size ≤ 20
      · have hx := hide (hid_next hx hg).out
        have hd : ¬ (((f k).size : Int) > 20) := by omega
        clear hF2 hF3 hT hT2 hR1 hR2 hg hl3 hl4
        generalize f k = z at *
        go_wp2_with fail
        exact ⟨⟨k + 1, by go_num, by omega, hx⟩, by simp [intOf]; omega⟩
      · have hE := hide (hF2.out k hlt hg)
        have hd : ((f k).size : Int) > 20 := by omega
        clear hF2 hF3 hT hT2 hR1 hR2 hg hx hl3 hl4
        generalize f k = z at *
        go_wp2_with fail
        go_ret
        exact ⟨by rw [hE.out]; rfl, d0⟩
    · obtain rfl : k = n := by omega
      have hT := hide (hT.out hx.out)
      have hT2 := hide (hT2.out hx.out)
      replace M : Mut w0 w.heap.size [.slice a k c, .slice b m e] := M
      clear hF2 hx hlt hl3
      have u1 := M.2.1 1 _ rfl
      go_wp2_with fail
      clear u0 u1
      go_loopw [21] (fun y wr => ∃ j : Nat, y = .int .i64 j ∧ j ≤ m ∧ Hid (∀ i, i < j → GW17 (A i) (D i)) ∧ Below w.heap.size w wr ∧ Mut wr w.heap.size [.slice a k c, .slice b m e]) (fun y _ => m - (intOf y).toNat)
      case atStart => exact ⟨0, rfl, Nat.zero_le _, fun i hi => absurd hi (by omega), d0, M⟩
      case round =>
        clear M d0
        obtain ⟨j, rfl, hj, hx, hb, M0⟩ := hrel
        by_cases hlt : j < m
        · obtain ⟨b0, off, rfl, hbw, x0, x1⟩ := hR2 j hlt
          replace x0 := (hb.cell (p := ⟨b0, off + j * 2, none⟩) hbw).trans x0
          replace x1 := (hb.cell (p := ⟨b0, off + j * 2 + 1, none⟩) hbw).trans x1
          have hlt' : (j : Int) < (m : Int) := by omega
          have W := hide (W.out (A j) 0 9)
          have hG : GW17 (A j) (D j) ↔ (inB (A j) 0 9 = true ∧ (D j).size ≤ 20) := by
            unfold GW17
            simp only [inB, decide_eq_true_eq]
            exact ⟨fun h => ⟨⟨h.1, by omega⟩, h.2.2⟩, fun h => ⟨h.1.1, by omega, h.2⟩⟩
          have hN := hide (fun hg : inB (A j) 0 9 = true ∧ (D j).size ≤ 20 => (hid_next hx (hG.2 hg)).out)
          have hE := hide (fun hg : ¬ (inB (A j) 0 9 = true ∧ (D j).size ≤ 20) => hF3.out j hlt (fun h => hg (hG.1 h)))
          clear hF3 hT hT2 hR1 hR2 hG hx hl4
          generalize A j = x at *
          generalize D j = z at *
          generalize inB x 0 9 = q at *
          have M := Mut.new wr #[.int .i64 x, .string z] 63
          have b1 : Below wr.heap.size wr (wr.alloc (.cells #[.int .i64 x, .string z] 63)) := below_box (Below.refl _ _)
          replace hb := below_step hb b1
          replace M0 := M0.below b1
          have u0 := M.2.1 0 _ rfl
          have u1 := M.2.1 1 _ rfl
          clear b1
          by_cases hz : z.size ≤ 20
          · have hz' : ¬ ((z.size : Int) > 20) := by omega
            cases q with
            | true =>
              have hN2 := hide (hN.out ⟨rfl, hz⟩)
              clear hE hN
              go_wp2_with (go_at_call 42; refine (W.out _).mono ?_; rintro e w2 ⟨rfl, rfl⟩)
              exact ⟨⟨j + 1, by go_num, by omega, hN2, hb, M0⟩, by simp [intOf]; omega⟩
            | false =>
              have hE2 := hide (hE.out (fun h => by simp at h))
              clear hN hE
              go_wp2_with (go_at_call 42; refine (W.out _).mono ?_; rintro e w2 ⟨rfl, rfl⟩)
              go_ret
              exact ⟨by rw [hE2.out]; rfl, hb⟩
          · have hz' : (z.size : Int) > 20 := by omega
            have hE2 := hide (hE.out (fun h => hz h.2))
            clear hN hE
            cases q with
            | true =>
              go_wp2_with (go_at_call 42; refine (W.out _).mono ?_; rintro e w2 ⟨rfl, rfl⟩)
              go_ret
              exact ⟨by rw [hE2.out]; rfl, hb⟩
            | false =>
              go_wp2_with (go_at_call 42; refine (W.out _).mono ?_; rintro e w2 ⟨rfl, rfl⟩)
              go_ret
              exact ⟨by rw [hE2.out]; rfl, hb⟩
        · obtain rfl : j = m := by omega
          have hT := hide (hT.out hx.out)
          have hT2 := hide (hT2.out hx.out)
          clear hF3 hx
          have u0 := M0.2.1 0 _ rfl
          have u1 := M0.2.1 1 _ rfl
          cases h10 : ((k : Int) == 10) with
          | false =>
            have hE := hide (hT.out h10)
            clear hT hT2
            go_wp2_with fail
            go_ret
            exact ⟨by rw [hE.out]; rfl, hb⟩
          | true =>
            have hE := hide (hT2.out h10)
            clear hT hT2
            go_wp2_with fail
            go_ret
            exact ⟨by rw [← hE.out]; rfl, hb⟩
end Go.Proofs.YtnpnhdaehddnmaaDoor
