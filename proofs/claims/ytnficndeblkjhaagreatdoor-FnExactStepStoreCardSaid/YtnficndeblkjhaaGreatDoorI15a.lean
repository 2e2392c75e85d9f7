/- Words, paths, and how they compare, of the program. -/
import Derived.Test.YtnficndeblkjhaaGreatDoorLeaf15
namespace Go.Proofs.YtnficndeblkjhaaGreatDoor
open Go.RowKit

set_option maxRecDepth 100000 in
set_option maxHeartbeats 800000 in
theorem i_wordRune (r : Nat) (w : World) :
    Calls Tryz.prog 103 #[.int .i32 r] w fun e w' => e = .returned (.bool (decide (WBy r))) ∧ w' = w := by
  have hw : WBy r ↔ ((97 ≤ (r : Int) ∧ (r : Int) ≤ 122) ∨ (48 ≤ (r : Int) ∧ (r : Int) ≤ 57) ∨ (r : Int) = 45) := by
    unfold WBy
    omega
  generalize hb : decide (WBy r) = b
  have hT : WBy r → b = true := fun h => by rw [← hb]; simpa using h
  have hF : ¬ WBy r → b = false := fun h => by rw [← hb]; simpa using h
  rw [hw] at hT hF
  clear hb hw
  replace hT := hide hT
  replace hF := hide hF
  generalize (r : Int) = x at *
  by_cases h1 : 97 ≤ x <;> by_cases h2 : x ≤ 122 <;> by_cases h3 : 48 ≤ x <;> by_cases h4 : x ≤ 57 <;> by_cases h5 : x = 45
  all_goals first
    | (exfalso; omega)
    | (go_enter Tryz.func103, Tryz.ntmps103
       go_wp2_with fail
       go_ret
       first
         | exact ⟨by rw [hT.out (by omega)]; rfl, rfl⟩
         | exact ⟨by rw [hF.out (by omega)]; first | rfl | ((have k5 : (x == 45) = false := (by simp; omega)); rw [k5]; rfl), rfl⟩)
set_option maxRecDepth 100000 in
set_option maxHeartbeats 1600000 in
theorem i_runWord (s : ByteArray) (w : World) :
    Calls Tryz.prog 102 #[.string s, .func (.func 103) #[] #[]] w fun e w' => (∃ q : Nat, e = .returned (.int .i64 q) ∧ q ≤ s.size ∧ (∀ i, i < q → WBy (byAt s i)) ∧ (q < s.size → ¬ WBy (byAt s q))) ∧ Below w.heap.size w w' := by
  have R := hide (fun r w => i_wordRune r w)
  go_enter Tryz.func102, Tryz.ntmps102
  go_wp2_with fail
  go_loopw [5, 6] (fun _ _ wr => ∃ pos : Nat, wr = w.iter s pos ∧ pos ≤ s.size ∧ Hid (∀ i, i < pos → WBy (byAt s i))) (fun _ _ w' => s.size - w'.iterPos w.heap.size)
  case atStart => exact ⟨0, rfl, Nat.zero_le _, fun i hi => absurd hi (Nat.not_lt_zero _)⟩
  case round =>
    obtain ⟨pos, rfl, hp0, hall⟩ := hrel
    by_cases hp : pos < s.size
    · by_cases ha : (s[pos]'hp).toNat < 128
      · have hnx := fun ty => run_next_ascii (P := Tryz.prog) w s pos ty hp ha
        have hby := byAt_eq hp
        by_cases hwb : WBy (byAt s pos)
        · have hd : decide (WBy (s[pos]'hp).toNat) = true := by rw [← hby]; simpa using hwb
          have hall2 : Hid (∀ i, i < pos + 1 → WBy (byAt s i)) := fun i hi => by
            by_cases e : i = pos
            · subst e; exact hwb
            · exact hall.out i (by omega)
          have hR := hide (R.out (s[pos]'hp).toNat)
          rw [hd] at hR
          clear hall hwb R hby ha
          generalize (s[pos]'hp).toNat = x at *
          go_wp2_with fail
          refine (hR.out _).mono ?_
          rintro e w2 ⟨rfl, rfl⟩
          go_wp2_with fail
          exact ⟨⟨pos + 1, rfl, by omega, hall2.out⟩, by simp; omega⟩
        · have hd : decide (WBy (s[pos]'hp).toNat) = false := by rw [← hby]; simpa using hwb
          have hR := hide (R.out (s[pos]'hp).toNat)
          rw [hd] at hR
          replace hwb := hide hwb
          clear R hby ha
          generalize (s[pos]'hp).toNat = x at *
          go_wp2_with fail
          refine (hR.out _).mono ?_
          rintro e w2 ⟨rfl, rfl⟩
          go_wp2_with fail
          go_ret
          exact ⟨⟨pos, rfl, hp0, hall.out, fun _ => hwb.out⟩, below_box (Below.refl _ _)⟩
      · have hnx : ∀ ty, (Instr.next (.pointer (some ⟨w.heap.size, 0, none⟩)) true ty).run Tryz.prog (w.iter s pos) = _ := fun ty => run_next_any w s pos ty hp
        have hh := (decode_high s pos hp (by omega)).1
        have hwb := hide (show ¬ WBy (byAt s pos) by rw [byAt_eq hp]; unfold WBy; omega)
        generalize (Utf8.decode s pos).1 = x at *
        generalize pos + (Utf8.decode s pos).2 = pos2 at *
        have hd : decide (WBy x) = false := by
          simp only [decide_eq_false_iff_not]
          unfold WBy
          omega
        have hR := hide (R.out x)
        rw [hd] at hR
        clear R ha hh
        go_wp2_with fail
        refine (hR.out _).mono ?_
        rintro e w2 ⟨rfl, rfl⟩
        go_wp2_with fail
        go_ret
        exact ⟨⟨pos, rfl, hp0, hall.out, fun _ => hwb.out⟩, below_box (Below.refl _ _)⟩
    · have hnx : ∀ ty, (Instr.next (.pointer (some ⟨w.heap.size, 0, none⟩)) true ty).run Tryz.prog (w.iter s pos) = _ := fun ty => run_next_end w s pos ty hp
      obtain rfl : pos = s.size := by omega
      clear R
      go_wp2_with fail
      go_ret
      exact ⟨⟨s.size, rfl, Nat.le_refl _, hall.out, fun h => absurd h (Nat.lt_irrefl _)⟩, below_box (Below.refl _ _)⟩
set_option maxRecDepth 100000 in
set_option maxHeartbeats 800000 in
theorem i_isWord (s : ByteArray) (w : World) :
    Calls Tryz.prog 86 #[.string s] w fun e w' => e = .returned (.bool (tB (Wd s))) ∧ Below w.heap.size w w' := by
  have R := hide (fun w => i_runWord s w)
  have hT : Hid (Wd s → tB (Wd s) = true) := tB_t
  have hF : Hid (¬ Wd s → tB (Wd s) = false) := tB_f
  generalize tB (Wd s) = b at *
  by_cases h0 : s = ⟨#[]⟩
  · have hb := hide (hF.out (fun h => by
      have h1 := h.1
      rw [h0] at h1
      simp [ByteArray.size] at h1))
    have k0 : (!(s.toList == (ByteArray.mk #[]).toList)) = false := by rw [h0]; simp
    clear hT hF R
    go_enter Tryz.func86, Tryz.ntmps86
    go_wp2_with fail
    go_ret
    exact ⟨by rw [hb.out]; rfl, Below.refl _ _⟩
  · have kN : ¬ s.toList = [] := fun e => h0 (toList_inj (e.trans (by simp)))
    have kE : s.toList.isEmpty = false := by simpa using kN
    have h1 : 1 ≤ s.size := by
      rcases Nat.eq_zero_or_pos s.size with e | e
      · exfalso
        apply h0
        obtain ⟨⟨l⟩⟩ := s
        simp only [ByteArray.size, List.size_toArray] at e
        obtain rfl := List.eq_nil_of_length_eq_zero e
        rfl
      · exact e
    clear h0
    by_cases h8 : (s.size : Int) ≤ 8
    · have hT : Hid ((∀ i, i < s.size → WBy (byAt s i)) → b = true) := fun h => hT.out ⟨h1, by omega, h⟩
      have hF : Hid (¬ (∀ i, i < s.size → WBy (byAt s i)) → b = false) := fun h => hF.out (fun k => h k.2.2)
      go_enter Tryz.func86, Tryz.ntmps86
      go_wp2_with fail
      refine (R.out _).mono ?_
      rintro e w1 ⟨⟨q, rfl, q0, q1, q2⟩, b1⟩
      by_cases e : q = s.size
      · have hb := hide (hT.out (fun i hi => q1 i (by omega)))
        have k1 : ((q : Int) == (s.size : Int)) = true := by simp [e]
        clear hT hF R q1 q2
        go_wp2_with fail
        go_ret
        exact ⟨by rw [hb.out]; rfl, b1⟩
      · have hb := hide (hF.out (fun h => q2 (by omega) (h q (by omega))))
        have k1 : ((q : Int) == (s.size : Int)) = false := by simp; omega
        clear hT hF R q1 q2
        go_wp2_with fail
        go_ret
        exact ⟨by rw [hb.out]; rfl, b1⟩
    · have hb := hide (hF.out (fun h => by have := h.2.1; omega))
      clear hT hF R
      go_enter Tryz.func86, Tryz.ntmps86
      go_wp2_with fail
      go_ret
      exact ⟨by rw [hb.out]; rfl, Below.refl _ _⟩
set_option maxRecDepth 100000 in
set_option maxHeartbeats 800000 in
theorem i_isWay (a : Option Addr) (n c : Nat) (f : Nat → ByteArray) (w : World) (hR : RowStr a n f w) :
    Calls Tryz.prog 85 #[.slice a n c] w fun e w' => e = .returned (.bool (tB (Pw n f))) ∧ Below w.heap.size w w' := by
  have R := hide (fun s w => i_isWord s w)
  have hT : Hid (Pw n f → tB (Pw n f) = true) := tB_t
  have hF : Hid (¬ Pw n f → tB (Pw n f) = false) := tB_f
  generalize tB (Pw n f) = b at *
  by_cases h0 : (n : Int) = 0
  · have hb := hide (hF.out (fun h => by have := h.1; omega))
    have k0 : ((n : Int) == 0) = true := by simp [h0]
    clear hT hF R hR
    go_enter Tryz.func85, Tryz.ntmps85
    go_wp2_with fail
    go_ret
    exact ⟨by rw [hb.out]; rfl, Below.refl _ _⟩
  · have k0 : ((n : Int) == 0) = false := by simpa using h0
    by_cases h5 : (n : Int) > 5
    · have hb := hide (hF.out (fun h => by have := h.2.1; omega))
      clear hT hF R hR
      go_enter Tryz.func85, Tryz.ntmps85
      go_wp2_with fail
      go_ret
      exact ⟨by rw [hb.out]; rfl, Below.refl _ _⟩
    · have hT : Hid ((∀ i, i < n → Wd (f i)) → b = true) := fun h => hT.out ⟨by omega, by omega, h⟩
      have hF : Hid (∀ i, i < n → ¬ Wd (f i) → b = false) := fun i hi h => hF.out (fun k => h (k.2.2 i hi))
      go_enter Tryz.func85, Tryz.ntmps85
      go_wp2_with fail
      clear h0 k0
      go_loopw [4, 15] (fun _ y wr => ∃ k : Nat, y = .int .i64 k ∧ k ≤ n ∧ Hid (∀ i, i < k → Wd (f i)) ∧ Below w.heap.size w wr) (fun _ y _ => n - (intOf y).toNat)
      case atStart => exact ⟨0, rfl, Nat.zero_le _, fun i hi => absurd hi (by omega), Below.refl _ _⟩
      case round =>
        obtain ⟨k, rfl, hk, hx, hb⟩ := hrel
        by_cases hlt : k < n
        · obtain ⟨b0, off, rfl, hbw, u0⟩ := hR k hlt
          replace u0 := (hb.cell (p := ⟨b0, off + k, none⟩) hbw).trans u0
          have hlt' : (k : Int) < (n : Int) := by omega
          have R := hide (R.out (f k))
          by_cases hw : Wd (f k)
          · rw [tB_t hw] at R
            have hN : Hid (∀ i, i < k + 1 → Wd (f i)) := fun i hi => by
              by_cases e : i = k
              · subst e; exact hw
              · exact hx.out i (by omega)
            clear hx hw hR hT hF
            generalize f k = s at *
            go_wp2_with fail
            refine (R.out _).mono ?_
            rintro e w2 ⟨rfl, b2⟩
            have d2 := hb.trans (b2.mono hb.size)
            clear b2
            go_wp2_with fail
            exact ⟨⟨k + 1, by go_num, by omega, hN.out, d2⟩, by simp [intOf]; omega⟩
          · rw [tB_f hw] at R
            have hE := hide (hF.out k hlt hw)
            clear hx hw hR hT hF
            generalize f k = s at *
            go_wp2_with fail
            refine (R.out _).mono ?_
            rintro e w2 ⟨rfl, b2⟩
            have d2 := hb.trans (b2.mono hb.size)
            clear b2
            go_wp2_with fail
            go_ret
            exact ⟨by rw [hE.out]; rfl, d2⟩
        · have hlt' : ¬ (k : Int) < (n : Int) := by omega
          obtain rfl : k = n := by omega
          have hE := hide (hT.out hx.out)
          clear hR hT hF
          go_wp2_with fail
          go_ret
          exact ⟨by rw [hE.out]; rfl, hb⟩
end Go.Proofs.YtnficndeblkjhaaGreatDoor
