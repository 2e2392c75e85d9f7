/- Faults: what the specification's l5Fault answers. -/
import Derived.Test.YtoeephmdklmpfaaS5
import Derived.Laws.DeepStrings4
namespace Go.Proofs.Ytoeephmdklmpfaa
open Go.RowKit

set_option maxRecDepth 100000 in
set_option maxHeartbeats 3200000 in
theorem s_fault (s : ByteArray) (w : World) (hs : s.size ≤ 2097152) :
    Calls Try.prog 115 #[.string s] w fun e w' => e = .returned (.int .i64 (flt s)) ∧ w' = w := by
  go_enter Try.func115, Try.ntmps115
  go_wp2_with fail
  go_loop [3] (fun i => ∃ k : Nat, k ≤ min s.size 5 ∧ i = .int .i64 k ∧ flN s k = 0) (fun i => 5 - (intOf i).toNat)
  case atStart => exact ⟨0, Nat.zero_le _, rfl, rfl⟩
  case round =>
    obtain ⟨k, hk, rfl, hf⟩ := hrel
    by_cases hlt : k < min s.size 5
    · have hks : k < s.size := by omega
      have hks' : (k : Int) < (s.size : Int) := by omega
      have hb := bt_at hks
      have hb0 := (bt_bd s k).1
      have hb1 := (bt_bd s k).2
      rw [hb] at hb0 hb1
      have hnx := flN_next hf
      have hme := flt_met hf hks (by omega)
      have ST := hide (fun n lo hi w => s_in n lo hi w)
      rcases (show k = 0 ∨ k = 1 ∨ k = 2 ∨ k = 3 ∨ k = 4 by omega) with rfl | rfl | rfl | rfl | rfl
      · by_cases hx : (s[0].toNat : Int) = 255
        · have hfl : flA s 0 = 0 := by unfold flA; rw [if_pos (by omega), hb, if_pos hx]
          clear hb
          have hn := hide (hnx.trans hfl)
          clear hnx hme hfl hf
          go_wp2_with (go_at_call 74; refine (ST.out _ _ _ _).mono ?_; rintro e w' ⟨rfl, rfl⟩)
          exact ⟨⟨1, by omega, rfl, hn.out⟩, by simp [intOf]⟩
        · have hfl : flA s 0 = 1 := by unfold flA; rw [if_pos (by omega), hb, if_neg hx]
          have hx2 : ((s[0].toNat : Int) != 255) = true := by simpa using hx
          clear hb
          have hm := hide ((hme (by rw [hfl]; decide)).trans hfl)
          clear hnx hme hfl hf
          go_wp2_with (go_at_call 74; refine (ST.out _ _ _ _).mono ?_; rintro e w' ⟨rfl, rfl⟩)
          go_ret
          exact ⟨ret_int hm.out.symm, rfl⟩
      · by_cases hx : (s[1].toNat : Int) = 255
        · have hfl : flA s 1 = 0 := by unfold flA; rw [if_pos (by omega), hb, if_pos hx]
          clear hb
          have hn := hide (hnx.trans hfl)
          clear hnx hme hfl hf
          go_wp2_with (go_at_call 74; refine (ST.out _ _ _ _).mono ?_; rintro e w' ⟨rfl, rfl⟩)
          exact ⟨⟨2, by omega, rfl, hn.out⟩, by simp [intOf]⟩
        · have hfl : flA s 1 = 1 := by unfold flA; rw [if_pos (by omega), hb, if_neg hx]
          have hx2 : ((s[1].toNat : Int) != 255) = true := by simpa using hx
          clear hb
          have hm := hide ((hme (by rw [hfl]; decide)).trans hfl)
          clear hnx hme hfl hf
          go_wp2_with (go_at_call 74; refine (ST.out _ _ _ _).mono ?_; rintro e w' ⟨rfl, rfl⟩)
          go_ret
          exact ⟨ret_int hm.out.symm, rfl⟩
      · by_cases hx : (5 : Int) ≤ (s[2].toNat : Int) ∧ (s[2].toNat : Int) ≤ 65
        · have hfl : flA s 2 = 0 := by unfold flA; rw [if_neg (by omega), if_pos rfl, hb, if_pos hx]
          have hin : inB (s[2].toNat : Int) 5 65 = true := decide_eq_true hx
          clear hb hx
          have hn := hide (hnx.trans hfl)
          clear hnx hme hfl hf
          go_wp2_with (go_at_call 74; refine (ST.out _ _ _ _).mono ?_; rintro e w' ⟨rfl, rfl⟩)
          exact ⟨⟨3, by omega, rfl, hn.out⟩, by simp [intOf]⟩
        · have hfl : flA s 2 = 2 := by unfold flA; rw [if_neg (by omega), if_pos rfl, hb, if_neg hx]
          have hin : inB (s[2].toNat : Int) 5 65 = false := decide_eq_false hx
          clear hb hx
          have hm := hide ((hme (by rw [hfl]; decide)).trans hfl)
          clear hnx hme hfl hf
          go_wp2_with (go_at_call 74; refine (ST.out _ _ _ _).mono ?_; rintro e w' ⟨rfl, rfl⟩)
          go_ret
          exact ⟨ret_int hm.out.symm, rfl⟩
      · by_cases hx : (s[3].toNat : Int) = 0
        · have hfl : flA s 3 = 0 := by unfold flA; rw [if_neg (by omega), if_neg (by omega), if_pos rfl, hb, if_pos hx]
          clear hb
          have hn := hide (hnx.trans hfl)
          clear hnx hme hfl hf
          go_wp2_with (go_at_call 74; refine (ST.out _ _ _ _).mono ?_; rintro e w' ⟨rfl, rfl⟩)
          exact ⟨⟨4, by omega, rfl, hn.out⟩, by simp [intOf]⟩
        · have hfl : flA s 3 = 2 := by unfold flA; rw [if_neg (by omega), if_neg (by omega), if_pos rfl, hb, if_neg hx]
          have hx2 : ((s[3].toNat : Int) != 0) = true := by simpa using hx
          clear hb
          have hm := hide ((hme (by rw [hfl]; decide)).trans hfl)
          clear hnx hme hfl hf
          go_wp2_with (go_at_call 74; refine (ST.out _ _ _ _).mono ?_; rintro e w' ⟨rfl, rfl⟩)
          go_ret
          exact ⟨ret_int hm.out.symm, rfl⟩
      · have hb2 := bt_at (s := s) (i := 2) (by omega)
        by_cases hx : (1 : Int) ≤ (s[4].toNat : Int) ∧ (s[4].toNat : Int) ≤ 4
        · have hin : inB (s[4].toNat : Int) 1 4 = true := decide_eq_true hx
          have hfz : flA s 4 = if (s[4].toNat : Int) = 4 ∧ (s[2].toNat : Int) ≠ 5 then 4 else 0 := by unfold flA; rw [if_neg (by omega), if_neg (by omega), if_neg (by omega), hb, if_neg (by simpa using hx), hb2]
          clear hb hb2 hx
          by_cases h4 : (s[4].toNat : Int) = 4
          · by_cases h2 : (s[2].toNat : Int) = 5
            · have hfl : flA s 4 = 0 := by rw [hfz, if_neg (by omega)]
              clear hfz
              have hn := hide (hnx.trans hfl)
              clear hnx hme hfl hf
              go_wp2_with (go_at_call 74; refine (ST.out _ _ _ _).mono ?_; rintro e w' ⟨rfl, rfl⟩)
              exact ⟨⟨5, by omega, rfl, hn.out⟩, by simp [intOf]⟩
            · have hfl : flA s 4 = 4 := by rw [hfz, if_pos ⟨h4, h2⟩]
              have h2' : ((s[2].toNat : Int) != 5) = true := by simpa using h2
              clear hfz
              have hm := hide ((hme (by rw [hfl]; decide)).trans hfl)
              clear hnx hme hfl hf
              go_wp2_with (go_at_call 74; refine (ST.out _ _ _ _).mono ?_; rintro e w' ⟨rfl, rfl⟩)
              go_ret
              exact ⟨ret_int hm.out.symm, rfl⟩
          · have hfl : flA s 4 = 0 := by rw [hfz, if_neg (fun h => h4 h.1)]
            have h4' : ((s[4].toNat : Int) == 4) = false := by simpa using h4
            clear hfz
            have hn := hide (hnx.trans hfl)
            clear hnx hme hfl hf
            go_wp2_with (go_at_call 74; refine (ST.out _ _ _ _).mono ?_; rintro e w' ⟨rfl, rfl⟩)
            exact ⟨⟨5, by omega, rfl, hn.out⟩, by simp [intOf]⟩
        · have hin : inB (s[4].toNat : Int) 1 4 = false := decide_eq_false hx
          have hfl : flA s 4 = 3 := by unfold flA; rw [if_neg (by omega), if_neg (by omega), if_neg (by omega), hb, if_pos hx]
          clear hb hb2 hx
          have hm := hide ((hme (by rw [hfl]; decide)).trans hfl)
          clear hnx hme hfl hf
          go_wp2_with (go_at_call 74; refine (ST.out _ _ _ _).mono ?_; rintro e w' ⟨rfl, rfl⟩)
          go_ret
          exact ⟨ret_int hm.out.symm, rfl⟩
    · have hk' : k = min s.size 5 := by omega
      have hm := hide (show flt s = 0 by unfold flt; rw [← hk']; exact hf)
      by_cases h5 : k < s.size
      · have e5 : k = 5 := by omega
        subst e5
        have h5' : (5 : Int) < (s.size : Int) := by omega
        clear hk' hf
        go_wp2_with fail
        go_ret
        exact ⟨ret_int hm.out.symm, rfl⟩
      · have h5' : ¬ ((k : Int) < (s.size : Int)) := by omega
        clear hk' hf
        go_wp2_with fail
        go_ret
        exact ⟨ret_int hm.out.symm, rfl⟩
end Go.Proofs.Ytoeephmdklmpfaa
