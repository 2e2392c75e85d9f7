/- All that is cut: what the specification's l5Cut and CutAll answer. -/
import Derived.Test.YtoeephmdklmpfaaS5b
import Derived.Test.YtoeephmdklmpfaaMemM
import Derived.Deep.RegionHeld3
import Derived.Test.YtoeephmdklmpfaaCut5
namespace Go.Proofs.Ytoeephmdklmpfaa
open Go.RowKit

set_option maxRecDepth 100000 in
set_option maxHeartbeats 6400000 in
theorem s_cut (s : ByteArray) (w : World) (hs : s.size ≤ 2097152) :
    Calls Try.prog 77 #[.string s] w (CutP s w) := by
  go_enter Try.func77, Try.ntmps77
  go_wp2_with fail
  go_loopw [0, 5] (fun x y wr => ∃ (r : ByteArray) (T : List Ms), x = .string r ∧ OwnM w.heap.size y T wr ∧ Below w.heap.size w wr ∧ T.length + r.size ≤ s.size ∧ (T ++ (cut r).1, (cut r).2) = cut s) (fun x _ _ => strSz x)
  case atStart => exact ⟨s, [], rfl, ownM_nil _ _, Below.refl _ _, by simp, by simp⟩
  case round =>
    obtain ⟨r, T, rfl, ho, hb, hlen, hcut⟩ := hrel
    have hlenI : (T.length : Int) + (r.size : Int) ≤ 2097152 := by omega
    have F1 := hide (fun w => s_fault r w (by omega))
    obtain ⟨a, cp, rfl, _⟩ := ownM_row ho
    have hoH := hide ho
    have hlH := hide hlen
    have hcH := hide hcut
    clear ho hlen hcut hs
    by_cases h0 : r.size = 0
    · have hnil := ba_nil h0
      subst hnil
      go_wp2_with fail
      exact bodyPost_ret (v := .tuple #[.slice a T.length cp, .string ByteArray.empty, .int .i64 0]) (by simp [results, Try.results77, go_sem] <;> rfl) rfl ⟨_, by rw [← hcH.out, cut_rest (flt_nil rfl) (whB_nil rfl)], by rw [← hcH.out, cut_rest (flt_nil rfl) (whB_nil rfl)]; simpa using hoH.out, hb⟩
    · have h0' : r.toList.isEmpty = false := by rw [toList_nil]; exact decide_eq_false h0
      by_cases hf : flt r = 0
      · rw [hf] at F1
        cases hw : whB r with
        | false =>
          have hk := hide (cut_rest hf hw)
          by_cases h5 : r.size < 5
          · have h5' : (r.size : Int) < 5 := by omega
            clear hf hw
            go_wp2_with fail
            refine (F1.out _).mono ?_
            rintro e w_ ⟨rfl, hw_⟩
            rw [hw_]
            clear hw_ w_
            go_wp2_with fail
            exact bodyPost_ret (v := .tuple #[.slice a T.length cp, .string r, .int .i64 0]) (by simp [results, Try.results77, go_sem]) rfl ⟨_, by rw [← hcH.out, hk.out], by rw [← hcH.out, hk.out]; simpa using hoH.out, hb⟩
          · have h5' : ¬ ((r.size : Int) < 5) := by omega
            have hb2 := bt_at (s := r) (i := 2) (by omega)
            have hw2 : (r.size : Int) < (r[2].toNat : Int) := by
              unfold whB at hw
              have := of_decide_eq_false hw
              rw [hb2] at this
              omega
            have hbd := (bt_bd r 2).2
            rw [hb2] at hbd
            clear hf hw hb2
            go_wp2_with fail
            refine (F1.out _).mono ?_
            rintro e w_ ⟨rfl, hw_⟩
            rw [hw_]
            clear hw_ w_
            go_wp2_with fail
            exact bodyPost_ret (v := .tuple #[.slice a T.length cp, .string r, .int .i64 0]) (by simp [results, Try.results77, go_sem]) rfl ⟨_, by rw [← hcH.out, hk.out], by rw [← hcH.out, hk.out]; simpa using hoH.out, hb⟩
        | true =>
          have hl := wh_len hf hw
          have hk := hide (cut_whole hf hw)
          have hb2 := bt_at (s := r) (i := 2) (by omega)
          have hb4 := bt_at (s := r) (i := 4) (by omega)
          have h45 := bt_bd r 4
          rw [hb4] at h45 hk
          rw [hb2] at hl hk
          obtain ⟨l1, l2, l3, l4, l5⟩ := hl
          rw [Int.toNat_natCast] at l2 l3 l4 hk
          have m1 : (5 : Int) ≤ (r[2].toNat : Int) := by omega
          have m2 : (r[2].toNat : Int) ≤ (r.size : Int) := by omega
          have m3 : (r[2].toNat : Int) ≤ 65 := by omega
          have m5 : (r.size : Int) ≥ 5 := by omega
          have q4 : (0 : Int) ≤ (r[4].toNat : Int) := h45.1
          have q5 : (r[4].toNat : Int) < 256 := h45.2
          have hwk : IntKind.i64.wrap (r[4].toNat : Int) = (r[4].toNat : Int) := wrapk_in _ (by omega)
          have q6 : (4 : Int) < (r.size : Int) := by omega
          have q7 : (2 : Int) < (r.size : Int) := by omega
          have hzz := hide (show (r.extract r[2].toNat r.size).size = r.size - r[2].toNat by rw [ByteArray.size_extract]; omega)
          clear hb2 hb4 h45 l5 hf
          have n5 : ¬ ((r.size : Int) < 5) := by omega
          have n6 : ¬ ((r.size : Int) < (r[2].toNat : Int)) := by omega
          clear hw
          go_wp2_with fail
          refine (F1.out _).mono ?_
          rintro e w_ ⟨rfl, hw_⟩
          rw [hw_]
          clear hw_ w_
          go_wp2_with fail
          have dZ : Below wr.heap.size wr wr := Below.refl _ _
          have hbs := hb.size
          go_region_held3 (fun _ => True) (first | go_keep | trivial)
            (first
              | (refine step_appM (by rfl) _ _ (by rfl) w.heap.size (.slice a T.length cp) T (by rfl) (by first | exact ownM_below hoH.out (below_box (Below.refl _ _)) | exact ownM_below hoH.out (below_box (Below.refl _ _)).drew | exact ownM_below hoH.out (below_box (Below.refl _ _).drew) | exact ownM_below hoH.out ((Below.refl _ _).drew.trans (below_box (Below.refl _ _)).drew)) (some ⟨wr.heap.size, 0, none⟩) [((r[4].toNat : Int), r.extract 5 r[2].toNat)] 1 1 (by rfl) rfl ⟨RowM.one (by simp) (by simp [go_sem]) (by simp [go_sem]), .inr ⟨_, _, rfl⟩⟩ (by have := hlH.out; simp; omega) (by simp; omega) ?_; intro v' wB hown bB hgr; have dB : Below w.heap.size wr wB := (by first | exact ((below_box (Below.refl _ _)).mono hbs).trans bB | exact ((below_box (Below.refl _ _)).drew.mono hbs).trans bB)))
          all_goals
            have dF := hb.trans dB
            go_wp2_with fail
            refine ⟨⟨_, _, rfl, hown, dF, ?_, ?_⟩, ?_⟩
            · rw [hzz.out]; have := hlH.out; simp; omega
            · rw [← hcH.out, hk.out]; simp
            · simp only [strSz]; rw [hzz.out]; omega
      · have hk := hide (cut_bad hf)
        have hz' : (flt r != 0) = true := by simpa using hf
        clear hf
        generalize flt r = c at *
        go_wp2_with fail
        refine (F1.out _).mono ?_
        rintro e w_ ⟨rfl, hw_⟩
        rw [hw_]
        clear hw_ w_
        go_wp2_with fail
        exact bodyPost_ret (v := .tuple #[.slice a T.length cp, .string ByteArray.empty, .int .i64 c]) (by simp [results, Try.results77, go_sem] <;> rfl) rfl ⟨_, by rw [← hcH.out, hk.out], by rw [← hcH.out, hk.out]; simpa using hoH.out, hb⟩
set_option maxRecDepth 100000 in
set_option maxHeartbeats 1600000 in
theorem s_cutAll (s : ByteArray) (w : World) (hs : s.size ≤ maxLen) :
    Calls Try.prog 26 #[.string s] w (CutA s w) := by
  unfold maxLen at hs
  by_cases h : s.size ≤ 300
  · have h' : ¬ ((s.size : Int) > 300) := by omega
    have C1 := hide (fun w => s_cut s w (by omega))
    go_enter Try.func26, Try.ntmps26
    go_wp2_with fail
    refine (C1.out _).mono ?_
    rintro e w1 ⟨v, rfl, ho, hb⟩
    go_wp2_with fail
    exact bodyPost_ret (v := .tuple #[v, .string (cut s).2.1, .int .i64 (cut s).2.2, .bool true]) (by simp [results, Try.results26, go_sem]) rfl ⟨v, by unfold caR caC caF; rw [if_pos h, if_pos h, decide_eq_true h], by unfold caL; rw [if_pos h]; exact ho, hb⟩
  · have h' : (s.size : Int) > 300 := by omega
    go_enter Try.func26, Try.ntmps26
    go_wp2_with fail
    exact bodyPost_ret (v := .tuple #[.slice none 0 0, .string ByteArray.empty, .int .i64 0, .bool false]) (by simp [results, Try.results26, go_sem] <;> rfl) rfl ⟨.slice none 0 0, by unfold caR caC caF; rw [if_neg h, if_neg h, decide_eq_false h], by unfold caL; rw [if_neg h]; exact ownM_nil _ _, Below.refl _ _⟩
end Go.Proofs.Ytoeephmdklmpfaa
