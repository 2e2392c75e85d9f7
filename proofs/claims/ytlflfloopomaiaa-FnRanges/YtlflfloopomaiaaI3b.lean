/- What the program's greatestAt and RangeOf answer. -/
import Derived.Test.YtlflfloopomaiaaGrow3
import Derived.Test.YtlflfloopomaiaaI1
namespace Go.Proofs.Ytlflfloopomaiaa
open Go.RowKit

theorem fits_no {x y : Int} {k : Nat} (h : goodB x k = false) : fitsB x y k = false := by unfold fitsB; rw [h]; rfl
theorem fits_far {x y : Int} {k : Nat} (h : ¬ x + pw k - 1 ≤ y) : fitsB x y k = false := by unfold fitsB; rw [decide_eq_false h]; simp
theorem fits_yes {x y : Int} {k : Nat} (h : goodB x k = true) (h2 : x + pw k - 1 ≤ y) : fitsB x y k = true := by unfold fitsB; rw [h, decide_eq_true h2]; rfl
theorem len_next {x y : Int} {k : Nat} (h0 : 0 ≤ x) (h1 : x ≤ 4294967295) (hab : x ≤ y) (hk : k ≤ lenA x y) (h : fitsB x y k = false) : k + 1 ≤ lenA x y := by
  obtain ⟨l1, _, _⟩ := lenA_facts h0 h1 hab
  rcases Nat.lt_or_eq_of_le hk with h2 | h2
  · exact h2
  · rw [h2, l1] at h; simp at h
theorem len_here {x y : Int} {k : Nat} (h0 : 0 ≤ x) (h1 : x ≤ 4294967295) (hab : x ≤ y) (hk : k ≤ lenA x y) (h : fitsB x y k = true) : k = lenA x y := by
  obtain ⟨_, _, l3⟩ := lenA_facts h0 h1 hab
  rcases Nat.lt_or_eq_of_le hk with h2 | h2
  · rw [l3 k h2] at h; simp at h
  · exact h2
/-- The length that stands in a box. -/
def lenCell (b : Nat) (w : World) : Nat := ((w.cell? ⟨b, 1, none⟩).map fun v => (intOf v).toNat).getD 0
theorem lenCell_eq {b : Nat} {w : World} {k : Nat} (h : w.cell? ⟨b, 1, none⟩ = some (.int .i64 k)) : lenCell b w = k := by unfold lenCell; rw [h]; simp [intOf]
set_option maxRecDepth 100000 in
set_option maxHeartbeats 3200000 in
theorem i_greatest (x y : Int) (w : World) (h0 : 0 ≤ x) (h1 : x ≤ 4294967295) (hab : x ≤ y) (hy : y ≤ 4294967295) :
    Calls Try.prog 64 #[.int .i64 x, .int .i64 y] w fun e w' => e = .returned (.agg #[.int .i64 x, .int .i64 (lenA x y)]) ∧ Below w.heap.size w w' := by
  obtain ⟨_, hl32, _⟩ := lenA_facts h0 h1 hab
  have hNx := hide (fun k hk h => len_next (k := k) h0 h1 hab hk h)
  have hHr := hide (fun k hk h => len_here (k := k) h0 h1 hab hk h)
  go_enter Try.func64, Try.ntmps64
  go_wp2_with fail
  have hA0 : ((w.alloc (.cells #[.int .i64 0, .int .i64 0] 34)).alloc (.cells #[.int .i64 x, .int .i64 0] 34)).cell? ⟨w.heap.size, 0, none⟩ = some (.int .i64 0) := by simp [go_sem]
  have hA1 : ((w.alloc (.cells #[.int .i64 0, .int .i64 0] 34)).alloc (.cells #[.int .i64 x, .int .i64 0] 34)).cell? ⟨w.heap.size, 1, none⟩ = some (.int .i64 0) := by simp [go_sem]
  have hA2 : ((w.alloc (.cells #[.int .i64 0, .int .i64 0] 34)).alloc (.cells #[.int .i64 x, .int .i64 0] 34)).frozen? ⟨w.heap.size, 0, none⟩ = false := by simp [go_sem]
  have hA3 : ((w.alloc (.cells #[.int .i64 0, .int .i64 0] 34)).alloc (.cells #[.int .i64 x, .int .i64 0] 34)).frozen? ⟨w.heap.size, 1, none⟩ = false := by simp [go_sem]
  have hAs : w.heap.size < ((w.alloc (.cells #[.int .i64 0, .int .i64 0] 34)).alloc (.cells #[.int .i64 x, .int .i64 0] 34)).heap.size := by simp; omega
  have hAb : Below w.heap.size w ((w.alloc (.cells #[.int .i64 0, .int .i64 0] 34)).alloc (.cells #[.int .i64 x, .int .i64 0] 34)) := below_box2 (Below.refl _ _)
  have hB0 : ((w.alloc (.cells #[.int .i64 0, .int .i64 0] 34)).alloc (.cells #[.int .i64 x, .int .i64 0] 34)).cell? ⟨w.heap.size + 1, 0, none⟩ = some (.int .i64 x) := by simp [go_sem]
  have hB1 : ((w.alloc (.cells #[.int .i64 0, .int .i64 0] 34)).alloc (.cells #[.int .i64 x, .int .i64 0] 34)).cell? ⟨w.heap.size + 1, 1, none⟩ = some (.int .i64 0) := by simp [go_sem]
  have hB2 : ((w.alloc (.cells #[.int .i64 0, .int .i64 0] 34)).alloc (.cells #[.int .i64 x, .int .i64 0] 34)).frozen? ⟨w.heap.size + 1, 1, none⟩ = false := by simp [go_sem]
  have hBs : w.heap.size + 1 < ((w.alloc (.cells #[.int .i64 0, .int .i64 0] 34)).alloc (.cells #[.int .i64 x, .int .i64 0] 34)).heap.size := by simp
  generalize ((w.alloc (.cells #[.int .i64 0, .int .i64 0] 34)).alloc (.cells #[.int .i64 x, .int .i64 0] 34)) = W0 at *
  go_loopw [] (fun wr => ∃ k : Nat, k ≤ lenA x y ∧ Only (w.heap.size + 1) W0 wr ∧ wr.cell? ⟨w.heap.size + 1, 0, none⟩ = some (.int .i64 x) ∧ wr.cell? ⟨w.heap.size + 1, 1, none⟩ = some (.int .i64 k) ∧ wr.frozen? ⟨w.heap.size + 1, 1, none⟩ = false) (fun wr => 33 - lenCell (w.heap.size + 1) wr)
  case atStart => exact ⟨0, Nat.zero_le _, Only.refl _ _, hB0, hB1, hB2⟩
  case round =>
    obtain ⟨k, hk, ho, c0, c1, hfz⟩ := hrel
    have hmk := hide (lenCell_eq c1)
    have s1 := hide (fun w => i_good x k w)
    have s2 := hide (fun w => i_sizeOf k w (by omega) (by omega))
    have hpp := pw_pos k
    have hpl := pw_le k (by omega)
    have hNx := hide (hNx.out k hk)
    have hHr := hide (hHr.out k hk)
    have hs0 := ho.2.2.2.1
    have wr1 : IntKind.i64.wrap (x + pw k) = x + pw k := wrapk_in _ (by omega)
    have wr2 : IntKind.i64.wrap (x + pw k - 1) = x + pw k - 1 := wrapk_in _ (by omega)
    have n01 : ¬ w.heap.size = w.heap.size + 1 := by omega
    clear hB0 hB1 hB2
    cases hg : goodB x k with
    | false =>
      have hk2 := hNx.out (fits_no hg)
      rw [hg] at s1
      clear hNx hHr hg
      go_wp2_with fail
      refine (s1.out _).mono ?_
      rintro e w1 ⟨rfl, hb1⟩
      have d0 := ((bcell hb1).1 (w.heap.size + 1) 0 (by omega)).trans c0
      have d1 := ((bcell hb1).1 (w.heap.size + 1) 1 (by omega)).trans c1
      have d2 := ((bcell hb1).2 (w.heap.size + 1) 1 (by omega)).trans hfz
      have ho1 := ho.trans (Only.of_below (c := w.heap.size + 1) hb1)
      clear c0 c1 hfz hb1
      go_wp2_with fail
      refine ⟨⟨k + 1, hk2, ho1.setCell _ _, ?_, ?_, ?_⟩, ?_⟩
      · rw [World.cell?_setCell_other _ _ _ _ (by simp)]; exact d0
      · simp [go_sem, d1]
      · simpa [go_sem] using d2
      · rw [hmk.out, lenCell_eq (k := k + 1) (by simp [go_sem, d1])]; omega
    | true =>
      rw [hg] at s1
      by_cases hfar : x + pw k - 1 ≤ y
      · have hk2 := hide (hHr.out (fits_yes hg hfar))
        have hfar' : ¬ y < x + pw k - 1 := by omega
        clear hNx hHr hg
        go_wp2_with fail
        refine (s1.out _).mono ?_
        rintro e w1 ⟨rfl, hb1⟩
        have d0 := ((bcell hb1).1 (w.heap.size + 1) 0 (by omega)).trans c0
        have d1 := ((bcell hb1).1 (w.heap.size + 1) 1 (by omega)).trans c1
        have ho1 := ho.trans (Only.of_below (c := w.heap.size + 1) hb1)
        have e0 := (ho1.cell (b := w.heap.size) (o := 0) hAs (by omega)).trans hA0
        have e1 := (ho1.cell (b := w.heap.size) (o := 1) hAs (by omega)).trans hA1
        have e2 := (ho1.frozen (b := w.heap.size) (o := 0) hAs (by omega)).trans hA2
        have e3 := (ho1.frozen (b := w.heap.size) (o := 1) hAs (by omega)).trans hA3
        have hbw : Below w.heap.size w w1 := hAb.trans ((ho1.below (by omega)).mono (by omega))
        clear c0 c1 hfz hb1 ho hA0 hA1 hA2 hA3
        go_wp2_with fail
        refine (s2.out _).mono ?_
        rintro e w2 ⟨rfl, rfl⟩
        go_wp2_with fail
        refine bodyPost_ret (v := .agg #[.int .i64 x, .int .i64 k]) (by simp [results, Try.results64, go_sem, e0, e1]) rfl ⟨by rw [← hk2.out], ?_⟩
        exact (hbw.setCell (by simp) _).setCell (by simp) _
      · have hk2 := hNx.out (fits_far hfar)
        have hfar' : y < x + pw k - 1 := by omega
        clear hNx hHr hg
        go_wp2_with fail
        refine (s1.out _).mono ?_
        rintro e w1 ⟨rfl, hb1⟩
        have d0 := ((bcell hb1).1 (w.heap.size + 1) 0 (by omega)).trans c0
        have d1 := ((bcell hb1).1 (w.heap.size + 1) 1 (by omega)).trans c1
        have d2 := ((bcell hb1).2 (w.heap.size + 1) 1 (by omega)).trans hfz
        have ho1 := ho.trans (Only.of_below (c := w.heap.size + 1) hb1)
        clear c0 c1 hfz hb1
        go_wp2_with fail
        refine (s2.out _).mono ?_
        rintro e w2 ⟨rfl, rfl⟩
        go_wp2_with fail
        refine ⟨⟨k + 1, hk2, ho1.setCell _ _, ?_, ?_, ?_⟩, ?_⟩
        · rw [World.cell?_setCell_other _ _ _ _ (by simp)]; exact d0
        · simp [go_sem, d1]
        · simpa [go_sem] using d2
        · rw [hmk.out, lenCell_eq (k := k + 1) (by simp [go_sem, d1])]; omega

/-- So many rounds. -/
def grdN (x y : Int) : Nat := (y + 1 - x).toNat
theorem grdF_next {y : Int} (hy : y ≤ 4294967295) {f : Nat} {a : Int} (ha : a ≤ y) (ha0 : 0 ≤ a) (hf : y + 1 - a ≤ f) : grdF y f a = (a, (lenA a y : Int)) :: grdF y (y + 1 - (a + pw (lenA a y))).toNat (a + pw (lenA a y)) := by
  obtain ⟨l1, l2, _⟩ := lenA_facts (a := a) (b := y) ha0 (by omega) ha
  unfold fitsB at l1
  rw [Bool.and_eq_true, decide_eq_true_eq] at l1
  have hp := pw_pos (lenA a y)
  cases f with
  | zero => omega
  | succ f =>
    rw [grdF, if_pos ha]
    congr 1
    exact (grd_good (by omega) hy f (by omega)).unique (grd_good (by omega) hy _ (by omega)) (fun x => by rw [(grd_facts hy f _ (by omega) (by omega)).all, (grd_facts hy _ _ (by omega) (by omega)).all])
theorem grdF_end {y : Int} {a : Int} (ha : ¬ a ≤ y) : grdF y (y + 1 - a).toNat a = [] := by
  have : (y + 1 - a).toNat = 0 := by omega
  rw [this]
  rfl
set_option maxRecDepth 100000 in
set_option maxHeartbeats 3200000 in
theorem i_rangeOf_yes (x y : Int) (w : World) (hx0 : 0 ≤ x) (hy1 : y ≤ 4294967295) (hxy : x ≤ y) :
    Calls Try.prog 28 #[.int .i64 x, .int .i64 y] w fun e w' => ∃ v, e = .returned (.tuple #[v, .bool true]) ∧ OwnP w.heap.size v (rngS x y) w' ∧ Below w.heap.size w w' := by
  have s1 := hide (fun w => i_isAddr x w)
  have s2 := hide (fun w => i_isAddr y w)
  rw [inB_t hx0 (by omega)] at s1
  rw [inB_t (by omega) hy1] at s2
  have hRS := hide (rng_same hx0 hy1 hxy (y + 1 - x).toNat (by omega))
  have hgt : ¬ y < x := by omega
  go_enter Try.func28, Try.ntmps28
  go_wp2_with fail
  refine (s1.out _).mono ?_
  rintro e w1 ⟨rfl, rfl⟩
  go_wp2_with fail
  refine (s2.out _).mono ?_
  rintro e w ⟨rfl, rfl⟩
  go_wp2_with fail
  go_loopw [6, 7] (fun o i wr => ∃ (a : Int) (G : List Pf), i = .int .i64 a ∧ x ≤ a ∧ a ≤ y + 1 ∧ (G.length : Int) ≤ a - x ∧ OwnP w.heap.size o G wr ∧ Below w.heap.size w wr ∧ Hid (G ++ grdF y (y + 1 - a).toNat a = rngS x y)) (fun _ i _ => (y + 1 - intOf i).toNat)
  case atStart => exact ⟨x, [], rfl, Int.le_refl _, by omega, by simp, ownP_nil _ _, Below.refl _ _, hRS⟩
  case round =>
    obtain ⟨a, G, rfl, ha0, ha1, hGl, hown, hb, hN⟩ := hrel
    have hsr := hb.size
    by_cases hle : a ≤ y
    · obtain ⟨l1, l2, _⟩ := lenA_facts (a := a) (b := y) (by omega) (by omega) hle
      unfold fitsB at l1
      rw [Bool.and_eq_true, decide_eq_true_eq] at l1
      have s3 := hide (fun w => i_greatest a y w (by omega) (by omega) hle hy1)
      have s4 := hide (fun w => i_sizeOf (lenA a y) w (by omega) (by omega))
      have hg1 := hide (grdF_next hy1 hle (by omega) (f := (y + 1 - a).toNat) (by omega))
      have hpp := pw_pos (lenA a y)
      have hpl := pw_le (lenA a y) (by omega)
      have hfit := l1.2
      have wr1 : IntKind.i64.wrap (a + pw (lenA a y)) = a + pw (lenA a y) := wrapk_in _ (by omega)
      have hN2 : Hid ((G ++ [(a, (lenA a y : Int))]) ++ grdF y (y + 1 - (a + pw (lenA a y))).toNat (a + pw (lenA a y)) = rngS x y) := by
        show _ = _
        rw [← hN.out, hg1.out]
        simp
      clear hN hg1 l1 hRS
      generalize hLl : lenA a y = l at *
      clear hLl
      go_wp2_with fail
      refine (s3.out _).mono ?_
      rintro e w2 ⟨rfl, hb2⟩
      have hO2 := ownP_below hown hb2
      have hb3 := hb.trans (hb2.mono hsr)
      have hs2 := hb2.size
      clear hown hb hb2
      go_wp2_with (first | (at_builtin; refine wpList_appP rfl _ _ rfl w.heap.size _ G rfl (ownP_below hO2 (below_box2 (Below.refl _ _))) (some ⟨w2.heap.size + 1, 0, none⟩) [(a, (l : Int))] 1 rfl ⟨RowP.one (by simp) (by simp) (by simp), .inr ⟨_, _, rfl⟩⟩ (by simp only [List.length_cons, List.length_nil]; omega) (by simp; omega) ?_))
      intro v' w5 hown' hbe hgrow
      have hbe2 : Below w.heap.size w w5 := (hb3.trans ((below_box2 (Below.refl _ _)).mono (by omega))).trans hbe
      have hBp : Bk ((w2.alloc (.cells #[.int .i64 a, .int .i64 l] 34)).alloc (.cells #[.int .i64 a, .int .i64 l] 34)) w2.heap.size #[.int .i64 a, .int .i64 l] 34 := (Bk.new w2 _ _).below (below_box (Below.refl _ _))
      have hB5 : Bk w5 w2.heap.size #[.int .i64 a, .int .i64 l] 34 := (hgrow.block _ hBp.lt (box_ne hO2 (Nat.le_refl _))).trans hBp
      have q1 := (hB5.cell 1).trans (show _ = some (.int .i64 l) from rfl)
      have hGl2 : ((G ++ [(a, (l : Int))]).length : Int) ≤ a + pw l - x := by rw [List.length_append]; simp; omega
      clear hBp hB5 hgrow hO2
      go_wp2_with fail
      refine (s4.out _).mono ?_
      rintro e w6 ⟨rfl, rfl⟩
      go_wp2_with fail
      exact ⟨⟨a + pw l, G ++ [(a, (l : Int))], rfl, by omega, by omega, hGl2, hown', hbe2, hN2⟩, by simp only [intOf]; omega⟩
    · have hE : Hid (G = rngS x y) := by have := hN.out; rw [grdF_end hle, List.append_nil] at this; exact this
      clear hN hRS
      go_wp2_with fail
      refine bodyPost_ret (v := .tuple #[_, .bool true]) (by simp [results, Try.results28, go_sem]; rfl) rfl ⟨_, rfl, ?_, hb⟩
      rw [← hE.out]
      exact hown
set_option maxRecDepth 100000 in
set_option maxHeartbeats 800000 in
theorem i_rangeOf_no (x y : Int) (w : World) (h : ¬ (0 ≤ x ∧ y ≤ 4294967295 ∧ x ≤ y)) :
    Calls Try.prog 28 #[.int .i64 x, .int .i64 y] w fun e w' => e = .returned (.tuple #[.slice none 0 0, .bool false]) ∧ Below w.heap.size w w' := by
  have s1 := hide (fun w => i_isAddr x w)
  have s2 := hide (fun w => i_isAddr y w)
  by_cases hx : 0 ≤ x ∧ x ≤ 4294967295
  · rw [inB_t hx.1 hx.2] at s1
    by_cases hy : 0 ≤ y ∧ y ≤ 4294967295
    · rw [inB_t hy.1 hy.2] at s2
      have hgt : y < x := by omega
      clear h hx hy
      go_enter Try.func28, Try.ntmps28
      go_wp2_with fail
      refine (s1.out _).mono ?_
      rintro e w1 ⟨rfl, rfl⟩
      go_wp2_with fail
      refine (s2.out _).mono ?_
      rintro e w2 ⟨rfl, rfl⟩
      go_wp2_with fail
      refine bodyPost_ret (v := .tuple #[.slice none 0 0, .bool false]) (by simp [results, Try.results28, go_sem]) rfl ⟨rfl, Below.refl _ _⟩
    · rw [inB_n hy] at s2
      clear h hx hy
      go_enter Try.func28, Try.ntmps28
      go_wp2_with fail
      refine (s1.out _).mono ?_
      rintro e w1 ⟨rfl, rfl⟩
      go_wp2_with fail
      refine (s2.out _).mono ?_
      rintro e w2 ⟨rfl, rfl⟩
      go_wp2_with fail
      refine bodyPost_ret (v := .tuple #[.slice none 0 0, .bool false]) (by simp [results, Try.results28, go_sem]) rfl ⟨rfl, Below.refl _ _⟩
  · rw [inB_n hx] at s1
    clear h hx
    go_enter Try.func28, Try.ntmps28
    go_wp2_with fail
    refine (s1.out _).mono ?_
    rintro e w1 ⟨rfl, rfl⟩
    go_wp2_with fail
    refine bodyPost_ret (v := .tuple #[.slice none 0 0, .bool false]) (by simp [results, Try.results28, go_sem]) rfl ⟨rfl, Below.refl _ _⟩
end Go.Proofs.Ytlflfloopomaiaa
