/- What DeriveBy answers, of the program and of the specification. -/
import Derived.Test.YtdbaonpkdcmglaaS6i
import Derived.Test.YtdbaonpkdcmglaaI6g
import Derived.Test.YtdbaonpkdcmglaaW6k
namespace Go.Proofs.Ytdbaonpkdcmglaa
open Go.RowKit

/-- The cells that are derived. -/
def drC (t : Re) (n : Int) : List Cl := (t.der n).tidy.cells
def drF (L : List Cl) (n : Int) : Bool := match rg L with
  | some t => inB n 1 65535 && rgB (drC t n)
  | none => false
def drA (L : List Cl) (n : Int) : List Cl := match rg L with
  | some t => if inB n 1 65535 && rgB (drC t n) then drC t n else []
  | none => []
theorem drC_len {L : List Cl} {t : Re} (n : Int) (h : rg L = some t) : (drC t n).length ≤ 960 ∧ (t.der n).cells.length ≤ 960 := by
  obtain ⟨h1, h2, _⟩ := rg_cells h
  rw [h1] at h2
  have h3 := der_len n t h2
  have h4 := tidy_len (t.der n)
  exact ⟨by unfold drC; omega, by omega⟩
theorem drA_len (L : List Cl) (n : Int) : (drA L n).length ≤ 960 := by
  unfold drA
  cases h : rg L with
  | none => simp
  | some t =>
    simp only []
    split
    · exact (drC_len n h).1
    · simp
set_option maxRecDepth 100000 in
set_option maxHeartbeats 3200000 in
theorem i_deriveBy (a : Option Addr) (cap : Nat) (L : List Cl) (n : Int) (w : World) (hm : L.length ≤ 8589934592) (hc : L.length ≤ cap) (hR : RowQ a L w) : Calls Try.prog 28 #[.slice a L.length cap, .int .i64 n] w (AnsQ (drF L n) (drA L n) w) := by
  have S1 := hide (fun w hR => i_readRegex a cap L w hm hc hR)
  have SA := hide (fun w => i_isAsn6 n w)
  cases h : rg L with
  | none =>
    rw [show drF L n = false from by simp [drF, h], show drA L n = [] from by simp [drA, h]]
    rw [h] at S1
    go_enter Try.func28, Try.ntmps28
    go_wp2_with fail
    refine (S1.out _ hR).mono ?_
    rintro e w1 ⟨p, hp, rfl, b1⟩
    go_wp2_with fail
    go_ret2
    exact ⟨_, rfl, ownQ_nil _ _, b1⟩
  | some t =>
    obtain ⟨hl1, hl2⟩ := drC_len n h
    rw [h] at S1
    cases hn : inB n 1 65535 with
    | false =>
      rw [hn] at SA
      rw [show drF L n = false from by simp [drF, h, hn], show drA L n = [] from by simp [drA, h, hn]]
      go_enter Try.func28, Try.ntmps28
      go_wp2_with fail
      refine (S1.out _ hR).mono ?_
      rintro e w1 ⟨rfl, b1⟩
      go_wp2_with fail
      refine (SA.out _).mono ?_
      rintro e w2 ⟨rfl, b2⟩
      go_wp2_with fail
      go_ret2
      exact ⟨_, rfl, ownQ_nil _ _, below_step b1 b2⟩
    | true =>
      rw [hn] at SA
      have S2 := hide (i_derive n t)
      have S3 := hide (fun w => i_tidy (t.der n) w (by omega))
      have S4 := hide (fun w => i_cellsOf (t.der n).tidy w (by unfold drC at hl1; omega))
      have S5 := hide (fun a c w hc hR => i_goodRegex a c (drC t n) w (by omega) hc hR)
      cases hg : rgB (drC t n) with
      | false =>
        rw [show drF L n = false from by simp [drF, h, hn, hg], show drA L n = [] from by simp [drA, h, hn, hg]]
        rw [hg] at S5
        go_enter Try.func28, Try.ntmps28
        go_wp2_with fail
        refine (S1.out _ hR).mono ?_
        rintro e w1 ⟨rfl, b1⟩
        go_wp2_with fail
        refine (SA.out _).mono ?_
        rintro e w2 ⟨rfl, b2⟩
        replace b2 := below_step b1 b2
        go_wp2_with fail
        refine (S2.out _).mono ?_
        rintro e w3 ⟨rfl, b3⟩
        replace b3 := below_step b2 b3
        go_wp2_with fail
        refine (S3.out _).mono ?_
        rintro e w4 ⟨rfl, b4⟩
        replace b4 := below_step b3 b4
        go_wp2_with fail
        refine (S4.out _).mono ?_
        rintro e w5 ⟨v, rfl, ho, b5⟩
        replace ho : OwnQ w4.heap.size v (drC t n) w5 := ho
        obtain ⟨av, cv, rfl, hRv, hcase⟩ := ownQ_row ho
        have hcv : (drC t n).length ≤ cv := by
          rcases hcase with ⟨_, rfl, e⟩ | ⟨_, _, _, _, e, _⟩
          · rw [e]; exact Nat.le_refl _
          · exact e
        clear hcase
        replace b5 := below_step b4 b5
        go_wp2_with fail
        refine (S5.out _ _ _ hcv hRv).mono ?_
        rintro e w6 ⟨rfl, b6⟩
        go_wp2_with fail
        go_ret2
        exact ⟨_, rfl, ownQ_nil _ _, below_step b5 b6⟩
      | true =>
        rw [show drF L n = true from by simp [drF, h, hn, hg], show drA L n = drC t n from by simp [drA, h, hn, hg]]
        rw [hg] at S5
        go_enter Try.func28, Try.ntmps28
        go_wp2_with fail
        refine (S1.out _ hR).mono ?_
        rintro e w1 ⟨rfl, b1⟩
        go_wp2_with fail
        refine (SA.out _).mono ?_
        rintro e w2 ⟨rfl, b2⟩
        replace b2 := below_step b1 b2
        go_wp2_with fail
        refine (S2.out _).mono ?_
        rintro e w3 ⟨rfl, b3⟩
        replace b3 := below_step b2 b3
        go_wp2_with fail
        refine (S3.out _).mono ?_
        rintro e w4 ⟨rfl, b4⟩
        replace b4 := below_step b3 b4
        go_wp2_with fail
        refine (S4.out _).mono ?_
        rintro e w5 ⟨v, rfl, ho, b5⟩
        replace ho : OwnQ w4.heap.size v (drC t n) w5 := ho
        obtain ⟨av, cv, rfl, hRv, hcase⟩ := ownQ_row ho
        have hcv : (drC t n).length ≤ cv := by
          rcases hcase with ⟨_, rfl, e⟩ | ⟨_, _, _, _, e, _⟩
          · rw [e]; exact Nat.le_refl _
          · exact e
        clear hcase
        replace ho := hide (ownQ_base ho b4.size)
        replace b5 := below_step b4 b5
        go_wp2_with fail
        refine (S5.out _ _ _ hcv hRv).mono ?_
        rintro e w6 ⟨rfl, b6⟩
        go_wp2_with fail
        go_ret2
        exact ⟨_, rfl, ownQ_below ho.out b6, below_step b5 b6⟩
set_option maxRecDepth 100000 in
set_option maxHeartbeats 3200000 in
theorem s_deriveBy (b off cap : Nat) (L : List Cl) (n : Int) (w : World) (hm : L.length ≤ 8589934592) (hR : RowQ (some ⟨b, off, none⟩) L w) : Calls Try.prog 27 #[.slice (some ⟨b, off, none⟩) L.length cap, .int .i64 n] w (AnsQ (drF L n) (drA L n) w) := by
  have S1 := hide (fun w hR => s_tree L b off cap w hm hR)
  have SA := hide (fun w => s_in n 1 65535 w)
  cases h : rg L with
  | none =>
    rw [show drF L n = false from by simp [drF, h], show drA L n = [] from by simp [drA, h]]
    rw [h] at S1
    go_enter Try.func27, Try.ntmps27
    go_wp2_with fail
    refine (S1.out _ hR).mono ?_
    rintro e w1 ⟨x, y, ⟨k1, k2, k3⟩, rfl, b1⟩
    go_wp2_with fail
    go_ret2
    exact ⟨_, rfl, ownQ_nil _ _, b1.alloc b1.size _⟩
  | some t =>
    obtain ⟨hl1, hl2⟩ := drC_len n h
    rw [h] at S1
    cases hn : inB n 1 65535 with
    | false =>
      rw [hn] at SA
      rw [show drF L n = false from by simp [drF, h, hn], show drA L n = [] from by simp [drA, h, hn]]
      go_enter Try.func27, Try.ntmps27
      go_wp2_with fail
      refine (S1.out _ hR).mono ?_
      rintro e w1 ⟨⟨k1, k2, k3⟩, rfl, hK, b1⟩
      go_wp2_with fail
      refine (SA.out _).mono ?_
      rintro e w2 ⟨rfl, rfl⟩
      go_wp2_with fail
      go_ret2
      exact ⟨_, rfl, ownQ_nil _ _, b1.alloc b1.size _⟩
    | true =>
      rw [hn] at SA
      cases hg : rgB (drC t n) with
      | false =>
        rw [show drF L n = false from by simp [drF, h, hn, hg], show drA L n = [] from by simp [drA, h, hn, hg]]
        go_enter Try.func27, Try.ntmps27
        go_wp2_with fail
        refine (S1.out _ hR).mono ?_
        rintro e w1 ⟨⟨k1, k2, k3⟩, rfl, hK, b1⟩
        have S2 := hide (fun w' (h : Kids (fun g => w.heap.size ≤ g) w' t (k1, k2, k3)) => s_derive n t _ (k1, k2, k3) w' h)
        have d1 := hide (b1.alloc b1.size (.cells #[.int .i64 t.kind, .int .i64 t.num, .slice k1 k2 k3] 66))
        go_wp2_with fail
        refine (SA.out _).mono ?_
        rintro e w2 ⟨rfl, rfl⟩
        go_wp2_with fail
        refine (S2.out _ (hK.below (below_box (Below.refl _ _)))).mono ?_
        rintro e w3 ⟨⟨x1, x2, x3⟩, rfl, hK3, b3⟩
        have d3 := hide (d1.out.trans (b3.mono d1.out.size))
        have S3 := hide (fun w' (h : Kids (fun g => g < w3.heap.size) w' (t.der n) (x1, x2, x3)) => s_tidy (t.der n) _ (x1, x2, x3) w' h)
        replace hK3 := hide hK3.all
        clear b3 hK
        go_wp2_with fail
        refine (S3.out _ hK3.out).mono ?_
        rintro e w4 ⟨⟨y1, y2, y3⟩, rfl, hK4, b4⟩
        have d4 := hide (d3.out.trans (b4.mono d3.out.size))
        have S4 := hide (fun (h : Kids (fun g => g < w4.heap.size) w4 (t.der n).tidy (y1, y2, y3)) => s_flat (t.der n).tidy (fun g => g < w4.heap.size) (y1, y2, y3) w4.heap.size (.slice none 0 0) [] w4 (fun g h => h) h (Nat.le_refl _) (ownQ_nil _ _) (by unfold drC at hl1; simp only [List.length_nil]; omega))
        rw [List.nil_append] at S4
        replace hK4 := hide hK4.all
        clear b4
        go_wp2_with fail
        refine (S4.out hK4.out).mono ?_
        rintro e w5 ⟨v, rfl, ho, b5⟩
        replace ho : OwnQ w4.heap.size v (drC t n) w5 := ho
        have hne : drC t n ≠ [] := (t.der n).tidy.cells_ne
        obtain ⟨gv, cv, rfl, _, _⟩ := ownQ_shape ho hne
        obtain ⟨av, cv', e1, hRv, _⟩ := ownQ_row ho
        simp only [Value.slice.injEq, true_and] at e1
        obtain ⟨e1, e2⟩ := e1
        subst e1 e2
        have S5 := hide (fun w hR => s_goodRegex gv 0 cv (drC t n) w (by omega) hR)
        rw [hg] at S5
        have d5 := hide (d4.out.trans (b5.mono d4.out.size))
        clear b5 hne
        go_wp2_with fail
        refine (S5.out _ hRv).mono ?_
        rintro e w6 ⟨rfl, b6⟩
        go_wp2_with fail
        go_ret2
        exact ⟨_, rfl, ownQ_nil _ _, d5.out.trans (b6.mono d5.out.size)⟩
      | true =>
        rw [show drF L n = true from by simp [drF, h, hn, hg], show drA L n = drC t n from by simp [drA, h, hn, hg]]
        go_enter Try.func27, Try.ntmps27
        go_wp2_with fail
        refine (S1.out _ hR).mono ?_
        rintro e w1 ⟨⟨k1, k2, k3⟩, rfl, hK, b1⟩
        have S2 := hide (fun w' (h : Kids (fun g => w.heap.size ≤ g) w' t (k1, k2, k3)) => s_derive n t _ (k1, k2, k3) w' h)
        have d1 := hide (b1.alloc b1.size (.cells #[.int .i64 t.kind, .int .i64 t.num, .slice k1 k2 k3] 66))
        go_wp2_with fail
        refine (SA.out _).mono ?_
        rintro e w2 ⟨rfl, rfl⟩
        go_wp2_with fail
        refine (S2.out _ (hK.below (below_box (Below.refl _ _)))).mono ?_
        rintro e w3 ⟨⟨x1, x2, x3⟩, rfl, hK3, b3⟩
        have d3 := hide (d1.out.trans (b3.mono d1.out.size))
        have S3 := hide (fun w' (h : Kids (fun g => g < w3.heap.size) w' (t.der n) (x1, x2, x3)) => s_tidy (t.der n) _ (x1, x2, x3) w' h)
        replace hK3 := hide hK3.all
        clear b3 hK
        go_wp2_with fail
        refine (S3.out _ hK3.out).mono ?_
        rintro e w4 ⟨⟨y1, y2, y3⟩, rfl, hK4, b4⟩
        have d4 := hide (d3.out.trans (b4.mono d3.out.size))
        have S4 := hide (fun (h : Kids (fun g => g < w4.heap.size) w4 (t.der n).tidy (y1, y2, y3)) => s_flat (t.der n).tidy (fun g => g < w4.heap.size) (y1, y2, y3) w4.heap.size (.slice none 0 0) [] w4 (fun g h => h) h (Nat.le_refl _) (ownQ_nil _ _) (by unfold drC at hl1; simp only [List.length_nil]; omega))
        rw [List.nil_append] at S4
        replace hK4 := hide hK4.all
        clear b4
        go_wp2_with fail
        refine (S4.out hK4.out).mono ?_
        rintro e w5 ⟨v, rfl, ho, b5⟩
        replace ho : OwnQ w4.heap.size v (drC t n) w5 := ho
        have hne : drC t n ≠ [] := (t.der n).tidy.cells_ne
        obtain ⟨gv, cv, rfl, _, _⟩ := ownQ_shape ho hne
        obtain ⟨av, cv', e1, hRv, _⟩ := ownQ_row ho
        simp only [Value.slice.injEq, true_and] at e1
        obtain ⟨e1, e2⟩ := e1
        subst e1 e2
        have S5 := hide (fun w hR => s_goodRegex gv 0 cv (drC t n) w (by omega) hR)
        rw [hg] at S5
        replace ho := hide (ownQ_base ho d4.out.size)
        have d5 := hide (d4.out.trans (b5.mono d4.out.size))
        clear b5 hne
        go_wp2_with fail
        refine (S5.out _ hRv).mono ?_
        rintro e w6 ⟨rfl, b6⟩
        go_wp2_with fail
        go_ret2
        exact ⟨_, rfl, ownQ_below ho.out b6, d5.out.trans (b6.mono d5.out.size)⟩
end Go.Proofs.Ytdbaonpkdcmglaa
