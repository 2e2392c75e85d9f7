/- Words, paths, and how they compare, of the specification. -/
import Derived.Test.YtddebnokdcajbaaLeaf15
namespace Go.Proofs.Ytddebnokdcajbaa
open Go.RowKit

set_option maxRecDepth 100000 in
set_option maxHeartbeats 800000 in
theorem s_byte15 (r : Nat) (w : World) :
    Calls Try.prog 18 #[.int .u8 r] w fun e w' => e = .returned (.bool (decide (WBy r))) ∧ w' = w := by
  have hw : WBy r ↔ ((97 ≤ (r : Int) ∧ (r : Int) ≤ 122) ∨ (48 ≤ (r : Int) ∧ (r : Int) ≤ 57) ∨ (r : Int) = 45) := by
    unfold WBy
    omega
  generalize hb : decide (WBy r) = b
  have hT : WBy r → b = true := fun h => by rw [← hb]; simpa using h
  have hF : ¬ WBy r → b = false := fun h => by rw [← hb]; simpa using h
  rw [hw] at hT hF
  clear hb hw
  replace hT := hide hT
  replace hF := hide hF
  generalize (r : Int) = x at *
  by_cases h1 : x ≥ 97 <;> by_cases h2 : x ≤ 122 <;> by_cases h3 : x ≥ 48 <;> by_cases h4 : x ≤ 57 <;> by_cases h5 : x = 45
  all_goals first
    | (exfalso; omega)
    | (go_enter Try.func18, Try.ntmps18
       go_wp2_with fail
       go_ret
       first
         | exact ⟨by rw [hT.out (by omega)]; rfl, rfl⟩
         | exact ⟨by rw [hF.out (by omega)]; first | rfl | ((have k5 : (x == 45) = false := (by simp; omega)); rw [k5]; rfl), rfl⟩)
set_option maxRecDepth 100000 in
set_option maxHeartbeats 800000 in
theorem s_in15 (n lo hi : Int) (w : World) :
    Calls Try.prog 17 #[.int .i64 n, .int .i64 lo, .int .i64 hi] w fun e w' => e = .returned (.bool (decide (lo ≤ n ∧ n ≤ hi))) ∧ w' = w := by
  by_cases h1 : n ≥ lo
  · by_cases h2 : n ≤ hi
    · rw [show decide (lo ≤ n ∧ n ≤ hi) = true by simp; omega]
      go_enter Try.func17, Try.ntmps17
      go_wp2_with fail
      go_ret
      exact ⟨rfl, rfl⟩
    · rw [show decide (lo ≤ n ∧ n ≤ hi) = false by simp; omega]
      go_enter Try.func17, Try.ntmps17
      go_wp2_with fail
      go_ret
      exact ⟨rfl, rfl⟩
  · rw [show decide (lo ≤ n ∧ n ≤ hi) = false by simp; omega]
    go_enter Try.func17, Try.ntmps17
    go_wp2_with fail
    go_ret
    exact ⟨rfl, rfl⟩
set_option maxRecDepth 100000 in
set_option maxHeartbeats 1600000 in
theorem s_word (s : ByteArray) (w : World) (hs : s.size ≤ maxLen) :
    Calls Try.prog 11 #[.string s] w fun e w' => e = .returned (.bool (tB (Wd s))) ∧ Below w.heap.size w w' := by
  unfold maxLen at hs
  have B := hide (fun r w => s_byte15 r w)
  have N := hide (fun w => s_in15 s.size 1 8 w)
  have hT : Hid ((∀ i, i < s.size → WBy (byAt s i)) → decide ((1 : Int) ≤ s.size ∧ (s.size : Int) ≤ 8) = tB (Wd s)) := fun h => by
    by_cases hw : 1 ≤ s.size ∧ s.size ≤ 8
    · rw [tB_t (show Wd s from ⟨hw.1, hw.2, h⟩)]
      simp; omega
    · rw [tB_f (fun k : Wd s => hw ⟨k.1, k.2.1⟩)]
      simp; omega
  have hF : Hid (∀ i, i < s.size → ¬ WBy (byAt s i) → tB (Wd s) = false) := fun i hi h => tB_f (fun k => h (k.2.2 i hi))
  generalize tB (Wd s) = b at *
  generalize decide ((1 : Int) ≤ s.size ∧ (s.size : Int) ≤ 8) = d at *
  go_enter Try.func11, Try.ntmps11
  go_wp2_with fail
  go_loopw [3] (fun y wr => ∃ k : Nat, y = .int .i64 k ∧ k ≤ s.size ∧ Hid (∀ i, i < k → WBy (byAt s i)) ∧ wr = w) (fun y _ => s.size - (intOf y).toNat)
  case atStart => exact ⟨0, rfl, Nat.zero_le _, fun i hi => absurd hi (by omega), rfl⟩
  case round =>
    obtain ⟨k, rfl, hk, hx, rfl⟩ := hrel
    by_cases hlt : k < s.size
    · have hlt' : (k : Int) < (s.size : Int) := by omega
      have hby := byAt_eq hlt
      have B := hide (B.out (s[k]'hlt).toNat)
      have hge : s[k]? = some (s[k]'hlt) := ByteArray.getElem?_lt' s k hlt
      by_cases hwb : WBy (byAt s k)
      · have hd : decide (WBy (s[k]'hlt).toNat) = true := by rw [← hby]; simpa using hwb
        have hx2 : Hid (∀ i, i < k + 1 → WBy (byAt s i)) := fun i hi => by
          by_cases e : i = k
          · subst e; exact hwb
          · exact hx.out i (by omega)
        rw [hd] at B
        clear hx hwb hT hF hd hby
        go_wp2_with fail
        refine (B.out _).mono ?_
        rintro e w2 ⟨rfl, rfl⟩
        go_wp2_with fail
        exact ⟨⟨k + 1, by go_num, by omega, hx2.out, (by first | exact trivial | rfl)⟩, by simp [intOf]; omega⟩
      · have hd : decide (WBy (s[k]'hlt).toNat) = false := by rw [← hby]; simpa using hwb
        have hE := hide (hF.out k hlt hwb)
        rw [hd] at B
        clear hx hwb hT hF hd hby
        go_wp2_with fail
        refine (B.out _).mono ?_
        rintro e w2 ⟨rfl, rfl⟩
        go_wp2_with fail
        go_ret
        exact ⟨by rw [hE.out]; rfl, Below.refl _ _⟩
    · have hlt' : ¬ (k : Int) < (s.size : Int) := by omega
      obtain rfl : k = s.size := by omega
      have hE := hide (hT.out hx.out)
      clear hx hT hF B
      go_wp2_with fail
      refine (N.out _).mono ?_
      rintro e w2 ⟨rfl, rfl⟩
      go_wp2_with fail
      go_ret
      exact ⟨by rw [hE.out]; rfl, Below.refl _ _⟩
set_option maxRecDepth 100000 in
set_option maxHeartbeats 1600000 in
theorem s_path (a : Option Addr) (n c : Nat) (f : Nat → ByteArray) (w : World) (hn : n ≤ 1048576) (hs : ∀ i, i < n → (f i).size ≤ maxLen) (hR : RowStr a n f w) :
    Calls Try.prog 10 #[.slice a n c] w fun e w' => e = .returned (.bool (tB (Pw n f))) ∧ Below w.heap.size w w' := by
  have B := hide (fun s w (h : s.size ≤ maxLen) => s_word s w h)
  have N := hide (fun w => s_in15 n 1 5 w)
  have hT : Hid ((∀ i, i < n → Wd (f i)) → decide ((1 : Int) ≤ n ∧ (n : Int) ≤ 5) = tB (Pw n f)) := fun h => by
    by_cases hw : 1 ≤ n ∧ n ≤ 5
    · rw [tB_t (show Pw n f from ⟨hw.1, hw.2, h⟩)]
      simp; omega
    · rw [tB_f (fun k : Pw n f => hw ⟨k.1, k.2.1⟩)]
      simp; omega
  have hF : Hid (∀ i, i < n → ¬ Wd (f i) → tB (Pw n f) = false) := fun i hi h => tB_f (fun k => h (k.2.2 i hi))
  generalize tB (Pw n f) = b at *
  generalize decide ((1 : Int) ≤ n ∧ (n : Int) ≤ 5) = d at *
  go_enter Try.func10, Try.ntmps10
  go_wp2_with fail
  go_loopw [4, 7] (fun _ y wr => ∃ k : Nat, y = .int .i64 k ∧ k ≤ n ∧ Hid (∀ i, i < k → Wd (f i)) ∧ Below w.heap.size w wr) (fun _ y _ => n - (intOf y).toNat)
  case atStart => exact ⟨0, rfl, Nat.zero_le _, fun i hi => absurd hi (by omega), Below.refl _ _⟩
  case round =>
    obtain ⟨k, rfl, hk, hx, hb⟩ := hrel
    by_cases hlt : k < n
    · obtain ⟨b0, off, rfl, hbw, u0⟩ := hR k hlt
      replace u0 := (hb.cell (p := ⟨b0, off + k, none⟩) hbw).trans u0
      have hlt' : (k : Int) < (n : Int) := by omega
      have B := hide (fun w => B.out (f k) w (hs k hlt))
      by_cases hw : Wd (f k)
      · rw [tB_t hw] at B
        have hN : Hid (∀ i, i < k + 1 → Wd (f i)) := fun i hi => by
          by_cases e : i = k
          · subst e; exact hw
          · exact hx.out i (by omega)
        clear hx hw hR hT hF hs
        generalize f k = s at *
        go_wp2_with fail
        refine (B.out _).mono ?_
        rintro e w2 ⟨rfl, b2⟩
        have d2 := hb.trans (b2.mono hb.size)
        clear b2
        go_wp2_with fail
        exact ⟨⟨k + 1, by go_num, by omega, hN.out, d2⟩, by simp [intOf]; omega⟩
      · rw [tB_f hw] at B
        have hE := hide (hF.out k hlt hw)
        clear hx hw hR hT hF hs
        generalize f k = s at *
        go_wp2_with fail
        refine (B.out _).mono ?_
        rintro e w2 ⟨rfl, b2⟩
        have d2 := hb.trans (b2.mono hb.size)
        clear b2
        go_wp2_with fail
        go_ret
        exact ⟨by rw [hE.out]; rfl, d2⟩
    · have hlt' : ¬ (k : Int) < (n : Int) := by omega
      obtain rfl : k = n := by omega
      have hE := hide (hT.out hx.out)
      clear hx hT hF hR hs B
      go_wp2_with fail
      refine (N.out _).mono ?_
      rintro e w2 ⟨rfl, rfl⟩
      go_wp2_with fail
      go_ret
      exact ⟨by rw [hE.out]; rfl, hb⟩
end Go.Proofs.Ytddebnokdcajbaa
