/- newest and load at a disk; LoadFrom of the program. -/
import Derived.Test.YtnpnhdaehddnmaaDoorLp17
import Derived.Test.YtnpnhdaehddnmaaDoorOD17
namespace Go.Proofs.YtnpnhdaehddnmaaDoor
open Go.RowKit

theorem nwI_cases (d : Dk) : (nwI d = 0 ∧ RdOk (d.f 8) ∧ (¬ RdOk (d.f 9) ∨ (RdOk (d.f 9) ∧ ¬ (rdN (d.f 9) > rdN (d.f 8))))) ∨ (nwI d = 1 ∧ RdOk (d.f 9) ∧ (¬ RdOk (d.f 8) ∨ (RdOk (d.f 8) ∧ rdN (d.f 9) > rdN (d.f 8)))) ∨ (nwI d = -1 ∧ ¬ RdOk (d.f 8) ∧ ¬ RdOk (d.f 9)) := by
  unfold nwI nwB
  by_cases o1 : RdOk (d.f 8)
  · by_cases o2 : RdOk (d.f 9)
    · rw [rdA_ok o1, rdA_ok o2]
      by_cases h : rdN (d.f 9) ≤ rdN (d.f 8)
      · refine .inl ⟨by simp [o1, h], o1, .inr ⟨o2, by omega⟩⟩
      · refine .inr (.inl ⟨by simp [o1, o2]; omega, o2, .inr ⟨o1, by omega⟩⟩)
    · exact .inl ⟨by simp [o1, o2], o1, .inl o2⟩
  · by_cases o2 : RdOk (d.f 9)
    · exact .inr (.inl ⟨by simp [o1, o2], o2, .inl o1⟩)
    · exact .inr (.inr ⟨by simp [o1, o2], o1, o2⟩)
set_option maxRecDepth 100000 in
set_option maxHeartbeats 1600000 in
theorem i_newestD0 (gp : Addr) (k : Nat) (b off c : Nat) (d : Dk) (w : World) (cw : w.cell? ⟨k, 0, none⟩ = some (.slice (some ⟨b, off, none⟩) d.n c)) (hR : RowStr (some ⟨b, off, none⟩) d.n d.f w) (hg : GD17 d) (hG : GU gp w) (h : nwI d = 0) :
    Calls Tryd.prog 51 #[.pointer (some ⟨k, 0, none⟩)] w fun e w' => e = .returned (.agg #[.int .i64 0, .int .i64 (rdN (d.f 8)), .int .i64 (rdL (d.f 8))]) ∧ Below w.heap.size w w' := by
  obtain ⟨h10, _, hs, _⟩ := hg
  have hkw := World.block_lt_of_cell? w _ cw
  rcases nwI_cases d with ⟨_, o1, o2 | ⟨o2, hle⟩⟩ | ⟨h', _⟩ | ⟨h', _⟩
  · exact i_newestTF k 0 (rdN (d.f 8)) (rdL (d.f 8)) 0 0 0 w (fun pp w0 hb hc => i_ansS0_yes pp 0 (rdN (d.f 8)) (rdL (d.f 8)) w0 (fun w1 h1 => i_new0Y pp k _ d.n c d.f w1 ((h1.cell (p := pp) (World.block_lt_of_cell? w0 _ hc)).trans hc) ((h1.cell (p := ⟨k, 0, none⟩) (Nat.lt_of_lt_of_le hkw hb.size)).trans ((hb.cell (p := ⟨k, 0, none⟩) hkw).trans cw)) ((hR.below hb).below h1) (by omega) o1)) (fun pp w0 hb hc => i_ansS1_no pp gp w0 (hG.below hb) (fun w1 h1 => i_new1N gp pp k _ d.n c d.f w1 ((h1.cell (p := pp) (World.block_lt_of_cell? w0 _ hc)).trans hc) ((h1.cell (p := ⟨k, 0, none⟩) (Nat.lt_of_lt_of_le hkw hb.size)).trans ((hb.cell (p := ⟨k, 0, none⟩) hkw).trans cw)) ((hR.below hb).below h1) (by omega) (hs _ (by omega)) ((hG.below hb).below h1) o2))
  · exact i_newestTT1 k 0 (rdN (d.f 8)) (rdL (d.f 8)) 1 (rdN (d.f 9)) (rdL (d.f 9)) w (fun pp w0 hb hc => i_ansS0_yes pp 0 (rdN (d.f 8)) (rdL (d.f 8)) w0 (fun w1 h1 => i_new0Y pp k _ d.n c d.f w1 ((h1.cell (p := pp) (World.block_lt_of_cell? w0 _ hc)).trans hc) ((h1.cell (p := ⟨k, 0, none⟩) (Nat.lt_of_lt_of_le hkw hb.size)).trans ((hb.cell (p := ⟨k, 0, none⟩) hkw).trans cw)) ((hR.below hb).below h1) (by omega) o1)) (fun pp w0 hb hc => i_ansS1_yes pp 1 (rdN (d.f 9)) (rdL (d.f 9)) w0 (fun w1 h1 => i_new1Y pp k _ d.n c d.f w1 ((h1.cell (p := pp) (World.block_lt_of_cell? w0 _ hc)).trans hc) ((h1.cell (p := ⟨k, 0, none⟩) (Nat.lt_of_lt_of_le hkw hb.size)).trans ((hb.cell (p := ⟨k, 0, none⟩) hkw).trans cw)) ((hR.below hb).below h1) (by omega) o2)) hle
  · omega
  · omega
set_option maxRecDepth 100000 in
set_option maxHeartbeats 1600000 in
theorem i_newestD1 (gp : Addr) (k : Nat) (b off c : Nat) (d : Dk) (w : World) (cw : w.cell? ⟨k, 0, none⟩ = some (.slice (some ⟨b, off, none⟩) d.n c)) (hR : RowStr (some ⟨b, off, none⟩) d.n d.f w) (hg : GD17 d) (hG : GU gp w) (h : nwI d = 1) :
    Calls Tryd.prog 51 #[.pointer (some ⟨k, 0, none⟩)] w fun e w' => e = .returned (.agg #[.int .i64 1, .int .i64 (rdN (d.f 9)), .int .i64 (rdL (d.f 9))]) ∧ Below w.heap.size w w' := by
  obtain ⟨h10, _, hs, _⟩ := hg
  have hkw := World.block_lt_of_cell? w _ cw
  rcases nwI_cases d with ⟨h', _⟩ | ⟨_, o2, o1 | ⟨o1, hle⟩⟩ | ⟨h', _⟩
  · omega
  · exact i_newestFT k 0 0 0 1 (rdN (d.f 9)) (rdL (d.f 9)) w (fun pp w0 hb hc => i_ansS0_no pp gp w0 (hG.below hb) (fun w1 h1 => i_new0N gp pp k _ d.n c d.f w1 ((h1.cell (p := pp) (World.block_lt_of_cell? w0 _ hc)).trans hc) ((h1.cell (p := ⟨k, 0, none⟩) (Nat.lt_of_lt_of_le hkw hb.size)).trans ((hb.cell (p := ⟨k, 0, none⟩) hkw).trans cw)) ((hR.below hb).below h1) (by omega) (hs _ (by omega)) ((hG.below hb).below h1) o1)) (fun pp w0 hb hc => i_ansS1_yes pp 1 (rdN (d.f 9)) (rdL (d.f 9)) w0 (fun w1 h1 => i_new1Y pp k _ d.n c d.f w1 ((h1.cell (p := pp) (World.block_lt_of_cell? w0 _ hc)).trans hc) ((h1.cell (p := ⟨k, 0, none⟩) (Nat.lt_of_lt_of_le hkw hb.size)).trans ((hb.cell (p := ⟨k, 0, none⟩) hkw).trans cw)) ((hR.below hb).below h1) (by omega) o2))
  · exact i_newestTT2 k 0 (rdN (d.f 8)) (rdL (d.f 8)) 1 (rdN (d.f 9)) (rdL (d.f 9)) w (fun pp w0 hb hc => i_ansS0_yes pp 0 (rdN (d.f 8)) (rdL (d.f 8)) w0 (fun w1 h1 => i_new0Y pp k _ d.n c d.f w1 ((h1.cell (p := pp) (World.block_lt_of_cell? w0 _ hc)).trans hc) ((h1.cell (p := ⟨k, 0, none⟩) (Nat.lt_of_lt_of_le hkw hb.size)).trans ((hb.cell (p := ⟨k, 0, none⟩) hkw).trans cw)) ((hR.below hb).below h1) (by omega) o1)) (fun pp w0 hb hc => i_ansS1_yes pp 1 (rdN (d.f 9)) (rdL (d.f 9)) w0 (fun w1 h1 => i_new1Y pp k _ d.n c d.f w1 ((h1.cell (p := pp) (World.block_lt_of_cell? w0 _ hc)).trans hc) ((h1.cell (p := ⟨k, 0, none⟩) (Nat.lt_of_lt_of_le hkw hb.size)).trans ((hb.cell (p := ⟨k, 0, none⟩) hkw).trans cw)) ((hR.below hb).below h1) (by omega) o2)) hle
  · omega
set_option maxRecDepth 100000 in
set_option maxHeartbeats 1600000 in
theorem i_newestDN (gp : Addr) (k : Nat) (b off c : Nat) (d : Dk) (w : World) (cw : w.cell? ⟨k, 0, none⟩ = some (.slice (some ⟨b, off, none⟩) d.n c)) (hR : RowStr (some ⟨b, off, none⟩) d.n d.f w) (hg : GD17 d) (hG : GU gp w) (h : nwI d = -1) :
    Calls Tryd.prog 51 #[.pointer (some ⟨k, 0, none⟩)] w fun e w' => e = gaveUp gp ∧ Below w.heap.size w w' := by
  obtain ⟨h10, _, hs, _⟩ := hg
  have hkw := World.block_lt_of_cell? w _ cw
  rcases nwI_cases d with ⟨h', _⟩ | ⟨h', _⟩ | ⟨_, o1, o2⟩
  · omega
  · omega
  · exact i_newestFF gp k 0 0 0 0 0 0 w hG (fun pp w0 hb hc => i_ansS0_no pp gp w0 (hG.below hb) (fun w1 h1 => i_new0N gp pp k _ d.n c d.f w1 ((h1.cell (p := pp) (World.block_lt_of_cell? w0 _ hc)).trans hc) ((h1.cell (p := ⟨k, 0, none⟩) (Nat.lt_of_lt_of_le hkw hb.size)).trans ((hb.cell (p := ⟨k, 0, none⟩) hkw).trans cw)) ((hR.below hb).below h1) (by omega) (hs _ (by omega)) ((hG.below hb).below h1) o1)) (fun pp w0 hb hc => i_ansS1_no pp gp w0 (hG.below hb) (fun w1 h1 => i_new1N gp pp k _ d.n c d.f w1 ((h1.cell (p := pp) (World.block_lt_of_cell? w0 _ hc)).trans hc) ((h1.cell (p := ⟨k, 0, none⟩) (Nat.lt_of_lt_of_le hkw hb.size)).trans ((hb.cell (p := ⟨k, 0, none⟩) hkw).trans cw)) ((hR.below hb).below h1) (by omega) (hs _ (by omega)) ((hG.below hb).below h1) o2))
set_option maxRecDepth 100000 in
set_option maxHeartbeats 1600000 in
theorem i_loadDY (gp : Addr) (k : Nat) (b off c : Nat) (d : Dk) (w : World) (cw : w.cell? ⟨k, 0, none⟩ = some (.slice (some ⟨b, off, none⟩) d.n c)) (hR : RowStr (some ⟨b, off, none⟩) d.n d.f w) (hg : GD17 d) (hc : d.n ≤ c) (hG : GU gp w) (h : (ldA d).2.2 = true) :
    Calls Tryd.prog 28 #[.pointer (some ⟨k, 0, none⟩)] w fun e w' => e = .returned (.agg #[.int .i64 (nwI d), .int .i64 (ldA d).2.1, .int .i64 (rdL (d.f (8 + (nwI d).toNat))), .string (ldA d).1]) ∧ Below w.heap.size w w' := by
  have hg0 := hg
  obtain ⟨h10, _, hs, _⟩ := hg
  have hkw := World.block_lt_of_cell? w _ cw
  have cwB : ∀ w0, Below w.heap.size w w0 → w0.cell? ⟨k, 0, none⟩ = some (.slice (some ⟨b, off, none⟩) d.n c) := fun w0 hb => (hb.cell (p := ⟨k, 0, none⟩) hkw).trans cw
  rcases nwI_bd d with hn | hn | hn
  · have hb := rd_bd (d.f 8)
    obtain ⟨l, hl⟩ : ∃ l : Nat, rdL (d.f 8) = (l : Int) := ⟨(rdL (d.f 8)).toNat, by omega⟩
    have e1 : ldA d = ldH d 0 := by unfold ldA; rw [hn]; rfl
    have e2 : ldH d 0 = if ((txB d.f 0 4).size : Int) < (l : Int) then (⟨#[]⟩, 0, false) else ((txB d.f 0 4).extract 0 l, rdN (d.f 8), true) := by
      unfold ldH
      rw [show (8 + 0 : Nat) = 8 from rfl, show (4 * 0 : Nat) = 0 from rfl, hl]
      rfl
    rw [e1, e2] at h
    have hlt : ¬ ((txB d.f 0 4).size : Int) < (l : Int) := fun q => by rw [if_pos q] at h; cases h
    rw [e1, e2, if_neg hlt, hn, show (8 + ((0 : Int)).toNat) = 8 from rfl, hl]
    exact i_load0Y k (rdN (d.f 8)) l b off d.n c d.f w cw hR h10 hc hs (fun w0 hb => by rw [← hl]; exact i_newestD0 gp k b off c d w0 (cwB w0 hb) (hR.below hb) hg0 (hG.below hb) hn) (by omega)
  · have hb := rd_bd (d.f 9)
    obtain ⟨l, hl⟩ : ∃ l : Nat, rdL (d.f 9) = (l : Int) := ⟨(rdL (d.f 9)).toNat, by omega⟩
    have e1 : ldA d = ldH d 1 := by unfold ldA; rw [hn]; rfl
    have e2 : ldH d 1 = if ((txB d.f 4 4).size : Int) < (l : Int) then (⟨#[]⟩, 0, false) else ((txB d.f 4 4).extract 0 l, rdN (d.f 9), true) := by
      unfold ldH
      rw [show (8 + 1 : Nat) = 9 from rfl, show (4 * 1 : Nat) = 4 from rfl, hl]
      rfl
    rw [e1, e2] at h
    have hlt : ¬ ((txB d.f 4 4).size : Int) < (l : Int) := fun q => by rw [if_pos q] at h; cases h
    rw [e1, e2, if_neg hlt, hn, show (8 + ((1 : Int)).toNat) = 9 from rfl, hl]
    exact i_load1Y k (rdN (d.f 9)) l b off d.n c d.f w cw hR h10 hc hs (fun w0 hb => by rw [← hl]; exact i_newestD1 gp k b off c d w0 (cwB w0 hb) (hR.below hb) hg0 (hG.below hb) hn) (by omega)
  · have e1 : ldA d = (⟨#[]⟩, 0, false) := by unfold ldA; rw [hn]; rfl
    rw [e1] at h
    cases h
set_option maxRecDepth 100000 in
set_option maxHeartbeats 1600000 in
theorem i_loadDN (gp : Addr) (k : Nat) (b off c : Nat) (d : Dk) (w : World) (cw : w.cell? ⟨k, 0, none⟩ = some (.slice (some ⟨b, off, none⟩) d.n c)) (hR : RowStr (some ⟨b, off, none⟩) d.n d.f w) (hg : GD17 d) (hc : d.n ≤ c) (hG : GU gp w) (h : (ldA d).2.2 = false) :
    Calls Tryd.prog 28 #[.pointer (some ⟨k, 0, none⟩)] w fun e w' => e = gaveUp gp ∧ Below w.heap.size w w' := by
  have hg0 := hg
  obtain ⟨h10, _, hs, _⟩ := hg
  have hkw := World.block_lt_of_cell? w _ cw
  have cwB : ∀ w0, Below w.heap.size w w0 → w0.cell? ⟨k, 0, none⟩ = some (.slice (some ⟨b, off, none⟩) d.n c) := fun w0 hb => (hb.cell (p := ⟨k, 0, none⟩) hkw).trans cw
  rcases nwI_bd d with hn | hn | hn
  · have hb := rd_bd (d.f 8)
    obtain ⟨l, hl⟩ : ∃ l : Nat, rdL (d.f 8) = (l : Int) := ⟨(rdL (d.f 8)).toNat, by omega⟩
    have e1 : ldA d = ldH d 0 := by unfold ldA; rw [hn]; rfl
    have e2 : ldH d 0 = if ((txB d.f 0 4).size : Int) < (l : Int) then (⟨#[]⟩, 0, false) else ((txB d.f 0 4).extract 0 l, rdN (d.f 8), true) := by
      unfold ldH
      rw [show (8 + 0 : Nat) = 8 from rfl, show (4 * 0 : Nat) = 0 from rfl, hl]
      rfl
    rw [e1, e2] at h
    have hlt : ((txB d.f 0 4).size : Int) < (l : Int) := by
      rcases Int.lt_or_le ((txB d.f 0 4).size : Int) (l : Int) with q | q
      · exact q
      · rw [if_neg (by omega)] at h; cases h
    exact i_load0N gp k (rdN (d.f 8)) l b off d.n c d.f w cw hR h10 hc hs hG (fun w0 hb => by rw [← hl]; exact i_newestD0 gp k b off c d w0 (cwB w0 hb) (hR.below hb) hg0 (hG.below hb) hn) (by omega)
  · have hb := rd_bd (d.f 9)
    obtain ⟨l, hl⟩ : ∃ l : Nat, rdL (d.f 9) = (l : Int) := ⟨(rdL (d.f 9)).toNat, by omega⟩
    have e1 : ldA d = ldH d 1 := by unfold ldA; rw [hn]; rfl
    have e2 : ldH d 1 = if ((txB d.f 4 4).size : Int) < (l : Int) then (⟨#[]⟩, 0, false) else ((txB d.f 4 4).extract 0 l, rdN (d.f 9), true) := by
      unfold ldH
      rw [show (8 + 1 : Nat) = 9 from rfl, show (4 * 1 : Nat) = 4 from rfl, hl]
      rfl
    rw [e1, e2] at h
    have hlt : ((txB d.f 4 4).size : Int) < (l : Int) := by
      rcases Int.lt_or_le ((txB d.f 4 4).size : Int) (l : Int) with q | q
      · exact q
      · rw [if_neg (by omega)] at h; cases h
    exact i_load1N gp k (rdN (d.f 9)) l b off d.n c d.f w cw hR h10 hc hs hG (fun w0 hb => by rw [← hl]; exact i_newestD1 gp k b off c d w0 (cwB w0 hb) (hR.below hb) hg0 (hG.below hb) hn) (by omega)
  · have NE := hide (fun w0 hb => i_newestDN gp k b off c d w0 (cwB w0 hb) (hR.below hb) hg0 (hG.below hb) hn)
    have d0 : Below w.heap.size w (w.alloc (.cells #[.int .i64 0, .int .i64 0, .int .i64 0, .string ⟨#[]⟩] 52)) := below_box (Below.refl _ _)
    clear cwB hs cw hR hg0 h hn hc
    go_enter Tryd.func28, Tryd.ntmps28
    go_wp2_with fail
    generalize w.alloc (.cells #[.int .i64 0, .int .i64 0, .int .i64 0, .string ⟨#[]⟩] 52) = w0 at *
    refine (NE.out w0 d0).mono ?_
    rintro e w1 ⟨rfl, b1⟩
    exact ⟨rfl, rfl, below_step d0 b1⟩
end Go.Proofs.YtnpnhdaehddnmaaDoor
