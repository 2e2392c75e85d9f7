/- Words, paths, and how they compare, of the specification. -/
import Derived.Test.YtnficndeblkjhaaGreatDoorLeaf15
namespace Go.Proofs.YtnficndeblkjhaaGreatDoor
open Go.RowKit

set_option maxRecDepth 100000 in
set_option maxHeartbeats 800000 in
theorem s_byte15 (r : Nat) (w : World) :
    Calls Tryz.prog 101 #[.int .u8 r] w fun e w' => e = .returned (.bool (decide (WBy r))) ∧ w' = w := by
  have hw : WBy r ↔ ((97 ≤ (r : Int) ∧ (r : Int) ≤ 122) ∨ (48 ≤ (r : Int) ∧ (r : Int) ≤ 57) ∨ (r : Int) = 45) := by
    unfold WBy
    omega
  generalize hb : decide (WBy r) = b
  have hT : WBy r → b = true := fun h => by rw [← hb]; simpa using h
  have hF : ¬ WBy r → b = false := fun h => by rw [← hb]; simpa using h
  rw [hw] at hT hF
  clear hb hw
  replace hT := hide hT
  replace hF := hide hF
  generalize (r : Int) = x at *
  by_cases h1 : x ≥ 97 <;> by_cases h2 : x ≤ 122 <;> by_cases h3 : x ≥ 48 <;> by_cases h4 : x ≤ 57 <;> by_cases h5 : x = 45
  all_goals first
    | (exfalso; omega)
    | (go_enter Tryz.func101, Tryz.ntmps101
       go_wp2_with fail
       go_ret
       first
         | exact ⟨by rw [hT.out (by omega)]; rfl, rfl⟩
         | exact ⟨by rw [hF.out (by omega)]; first | rfl | ((have k5 : (x == 45) = false := (by simp; omega)); rw [k5]; rfl), rfl⟩)
set_option maxRecDepth 100000 in
set_option maxHeartbeats 800000 in
theorem s_in15 (n lo hi : Int) (w : World) :
    Calls Tryz.prog 51 #[.int .i64 n, .int .i64 lo, .int .i64 hi] w fun e w' => e = .returned (.bool (decide (lo ≤ n ∧ n ≤ hi))) ∧ w' = w := by
  by_cases h1 : n ≥ lo
  · by_cases h2 : n ≤ hi
    · rw [show decide (lo ≤ n ∧ n ≤ hi) = true by simp; omega]
      go_enter Tryz.func51, Tryz.ntmps51
      go_wp2_with fail
      go_ret
      exact ⟨rfl, rfl⟩
    · rw [show decide (lo ≤ n ∧ n ≤ hi) = false by simp; omega]
      go_enter Tryz.func51, Tryz.ntmps51
      go_wp2_with fail
      go_ret
      exact ⟨rfl, rfl⟩
  · rw [show decide (lo ≤ n ∧ n ≤ hi) = false by simp; omega]
    go_enter Tryz.func51, Tryz.ntmps51
    go_wp2_with fail
    go_ret
    exact ⟨rfl, rfl⟩
set_option maxRecDepth 100000 in
set_option maxHeartbeats 1600000 in
theorem s_word (s : ByteArray) (w : World) (hs : s.size ≤ maxLen) :
    Calls Tryz.prog 80 #[.string s] w fun e w' => e = .returned (.bool (tB (Wd s))) ∧ Below w.heap.size w w' := by
  unfold maxLen at hs
  have B := hide (fun r w => s_byte15 r w)
  have N := hide (fun w => s_in15 s.size 1 8 w)
  have hT : Hid ((∀ i, i < s.size → WBy (byAt s i)) → decide ((1 : Int) ≤ s.size ∧ (s.size : Int) ≤ 8) = tB (Wd s)) := fun h => by
    by_cases hw : 1 ≤ s.size ∧ s.size ≤ 8
    · rw [tB_t (show Wd s from ⟨hw.1, hw.2, h⟩)]
      simp; omega
    · rw [tB_f (fun k : Wd s => hw ⟨k.1, k.2.1⟩)]
      simp; omega
  have hF : Hid (∀ i, i < s.size → ¬ WBy (byAt s i) → tB (Wd s) = false) := fun i hi h => tB_f (fun k => h (k.2.2 i hi))
  generalize tB (Wd s) = b at *
  generalize decide ((1 : Int) ≤ s.size ∧ (s.size : Int) ≤ 8) = d at *
  go_enter Tryz.func80, Tryz.ntmps80
  go_wp2_with fail
  go_loopw [3] (fun y wr => ∃ k : Nat, y = .int .i64 k ∧ k ≤ s.size ∧ Hid (∀ i, i < k → WBy (byAt s i)) ∧ wr = w) (fun y _ => s.size - (intOf y).toNat)
  case atStart => exact ⟨0, rfl, Nat.zero_le _, fun i hi => absurd hi (by omega), rfl⟩
  case round =>
    obtain ⟨k, rfl, hk, hx, rfl⟩ := hrel
    by_cases hlt : k < s.size
    · have hlt' : (k : Int) < (s.size : Int) := by omega
      have hby := byAt_eq hlt
      have B := hide (B.out (s[k]'hlt).toNat)
      have hge : s[k]? = some (s[k]'hlt) := ByteArray.getElem?_lt' s k hlt
      by_cases hwb : WBy (byAt s k)
      · have hd : decide (WBy (s[k]'hlt).toNat) = true := by rw [← hby]; simpa using hwb
        have hx2 : Hid (∀ i, i < k + 1 → WBy (byAt s i)) := fun i hi => by
          by_cases e : i = k
          · subst e; exact hwb
          · exact hx.out i (by omega)
        rw [hd] at B
        clear hx hwb hT hF hd hby
        go_wp2_with fail
        refine (B.out _).mono ?_
        rintro e w2 ⟨rfl, rfl⟩
        go_wp2_with fail
        exact ⟨⟨k + 1, by go_num, by omega, hx2.out, (by first | exact trivial | rfl)⟩, by simp [intOf]; omega⟩
      · have hd : decide (WBy (s[k]'hlt).toNat) = false := by rw [← hby]; simpa using hwb
        have hE := hide (hF.out k hlt hwb)
        rw [hd] at B
        clear hx hwb hT hF hd hby
        go_wp2_with fail
        refine (B.out _).mono ?_
        rintro e w2 ⟨rfl, rfl⟩
        go_wp2_with fail
        go_ret
        exact ⟨by rw [hE.out]; rfl, Below.refl _ _⟩
    · have hlt' : ¬ (k : Int) < (s.size : Int) := by omega
      obtain rfl : k = s.size := by omega
      have hE := hide (hT.out hx.out)
      clear hx hT hF B
      go_wp2_with fail
      refine (N.out _).mono ?_
      rintro e w2 ⟨rfl, rfl⟩
      go_wp2_with fail
      go_ret
      exact ⟨by rw [hE.out]; rfl, Below.refl _ _⟩
set_option maxRecDepth 100000 in
set_option maxHeartbeats 1600000 in
theorem s_path (a : Option Addr) (n c : Nat) (f : Nat → ByteArray) (w : World) (hn : n ≤ 1048576) (hs : ∀ i, i < n → (f i).size ≤ maxLen) (hR : RowStr a n f w) :
    Calls Tryz.prog 79 #[.slice a n c] w fun e w' => e = .returned (.bool (tB (Pw n f))) ∧ Below w.heap.size w w' := by
  have B := hide (fun s w (h : s.size ≤ maxLen) => s_word s w h)
  have N := hide (fun w => s_in15 n 1 5 w)
  have hT : Hid ((∀ i, i < n → Wd (f i)) → decide ((1 : Int) ≤ n ∧ (n : Int) ≤ 5) = tB (Pw n f)) := fun h => by
    by_cases hw : 1 ≤ n ∧ n ≤ 5
    · rw [tB_t (show Pw n f from ⟨hw.1, hw.2, h⟩)]
      simp; omega
    · rw [tB_f (fun k : Pw n f => hw ⟨k.1, k.2.1⟩)]
      simp; omega
  have hF : Hid (∀ i, i < n → ¬ Wd (f i) → tB (Pw n f) = false) := fun i hi h => tB_f (fun k => h (k.2.2 i hi))
  generalize tB (Pw n f) = b at *
  generalize decide ((1 : Int) ≤ n ∧ (n : Int) ≤ 5) = d at *
  go_enter Tryz.func79, Tryz.ntmps79
  go_wp2_with fail
  go_loopw [4, 7] (fun _ y wr => ∃ k : Nat, y = .int .i64 k ∧ k ≤ n ∧ Hid (∀ i, i < k → Wd (f i)) ∧ Below w.heap.size w wr) (fun _ y _ => n - (intOf y).toNat)
  case atStart => exact ⟨0, rfl, Nat.zero_le _, fun i hi => absurd hi (by omega), Below.refl _ _⟩
  case round =>
    obtain ⟨k, rfl, hk, hx, hb⟩ := hrel
    by_cases hlt : k < n
    · obtain ⟨b0, off, rfl, hbw, u0⟩ := hR k hlt
      replace u0 := (hb.cell (p := ⟨b0, off + k, none⟩) hbw).trans u0
      have hlt' : (k : Int) < (n : Int) := by omega
      have B := hide (fun w => B.out (f k) w (hs k hlt))
      by_cases hw : Wd (f k)
      · rw [tB_t hw] at B
        have hN : Hid (∀ i, i < k + 1 → Wd (f i)) := fun i hi => by
          by_cases e : i = k
          · subst e; exact hw
          · exact hx.out i (by omega)
        clear hx hw hR hT hF hs
        generalize f k = s at *
        go_wp2_with fail
        refine (B.out _).mono ?_
        rintro e w2 ⟨rfl, b2⟩
        have d2 := hb.trans (b2.mono hb.size)
        clear b2
        go_wp2_with fail
        exact ⟨⟨k + 1, by go_num, by omega, hN.out, d2⟩, by simp [intOf]; omega⟩
      · rw [tB_f hw] at B
        have hE := hide (hF.out k hlt hw)
        clear hx hw hR hT hF hs
        generalize f k = s at *
        go_wp2_with fail
        refine (B.out _).mono ?_
        rintro e w2 ⟨rfl, b2⟩
        have d2 := hb.trans (b2.mono hb.size)
        clear b2
        go_wp2_with fail
        go_ret
        exact ⟨by rw [hE.out]; rfl, d2⟩
    · have hlt' : ¬ (k : Int) < (n : Int) := by omega
      obtain rfl : k = n := by omega
      have hE := hide (hT.out hx.out)
      clear hx hT hF hR hs B
      go_wp2_with fail
      refine (N.out _).mono ?_
      rintro e w2 ⟨rfl, rfl⟩
      go_wp2_with fail
      go_ret
      exact ⟨by rw [hE.out]; rfl, hb⟩
set_option maxRecDepth 100000 in
set_option maxHeartbeats 1600000 in
theorem s_less15 (a a' : Option Addr) (n m c c' : Nat) (p q : Nat → ByteArray) (w : World) (hn : n ≤ 1048576) (hR : RowStr a n p w) (hQ : RowStr a' m q w) :
    Calls Tryz.prog 81 #[.slice a n c, .slice a' m c'] w fun e w' => e = .returned (.bool (tB (LtP n p m q))) ∧ Below w.heap.size w w' := by
  have hA : Hid (∀ k, (∀ i, i < k → p i = q i) → k < n → k < m → p k ≠ q k → sLt (p k) (q k) = tB (LtP n p m q)) := fun k h1 h2 h3 h4 => by
    have h := ltP_at h1 h2 h3 h4
    exact tB_of (fun g => h.1 g) (fun g => by
      cases e : sLt (p k) (q k)
      · rfl
      · exact absurd (h.2 e) g)
  have hO : Hid ((∀ i, i < m → p i = q i) → m ≤ n → tB (LtP n p m q) = false) := fun h1 h2 => tB_f (ltP_over h2 h1)
  have hE0 : Hid ((∀ i, i < n → p i = q i) → decide ((n : Int) < (m : Int)) = tB (LtP n p m q)) := fun h1 => by
    have h := ltP_end (m := m) h1
    exact tB_of (fun g => by have := h.1 g; simp; omega) (fun g => by
      have : ¬ n < m := fun e => g (h.2 e)
      simp; omega)
  generalize tB (LtP n p m q) = b at *
  go_enter Tryz.func81, Tryz.ntmps81
  go_wp2_with fail
  go_loopw [5, 8] (fun _ y wr => ∃ k : Nat, y = .int .i64 k ∧ k ≤ n ∧ k ≤ m ∧ Hid (∀ i, i < k → p i = q i) ∧ Below w.heap.size w wr) (fun _ y _ => n - (intOf y).toNat)
  case atStart => exact ⟨0, rfl, Nat.zero_le _, Nat.zero_le _, fun i hi => absurd hi (by omega), Below.refl _ _⟩
  case round =>
    obtain ⟨k, rfl, hk, hkm, hx, hb⟩ := hrel
    by_cases hlt : k < n
    · have hlt' : (k : Int) < (n : Int) := by omega
      obtain ⟨b0, off, rfl, hbw, u0⟩ := hR k hlt
      replace u0 := (hb.cell (p := ⟨b0, off + k, none⟩) hbw).trans u0
      by_cases hm : k < m
      · obtain ⟨b1, off1, rfl, hbw1, v0⟩ := hQ k hm
        replace v0 := (hb.cell (p := ⟨b1, off1 + k, none⟩) hbw1).trans v0
        have hm2 : (k : Int) < (m : Int) := by omega
        have hme : ((k : Int) == (m : Int)) = false := by simp; omega
        by_cases he : p k = q k
        · have hN : Hid (∀ i, i < k + 1 → p i = q i) := fun i hi => by
            by_cases e : i = k
            · subst e; exact he
            · exact hx.out i (by omega)
          rw [← he] at v0
          clear hx he hR hQ hA hO hE0
          generalize p k = x at *
          go_wp2_with fail
          go_quiet (fail)
          go_wp2_with fail
          exact ⟨⟨k + 1, by go_num, by omega, by omega, hN.out, below_drewN hb _⟩, by simp [intOf]; omega⟩
        · have hE := hA.out k hx.out hlt hm he
          unfold sLt at hE
          have k1 := sEq_f he
          clear hx he hR hQ hA hO hE0
          generalize p k = x at *
          generalize q k = z at *
          generalize hbl : Op.bytesLess x.toList z.toList = bl at *
          replace hE := hide hE
          have u1 := cell_regrown u0
          have v1 := cell_regrown v0
          go_wp2_with fail
          go_quiet (fail)
          go_wp2_with fail
          go_quiet (fail)
          go_wp2_with fail
          go_ret
          exact ⟨by rw [hE.out]; rfl, below_drewN (below_drewN hb _) _⟩
      · obtain rfl : k = m := by omega
        have hme : ((k : Int) == (k : Int)) = true := by simp
        have hE := hide (hO.out hx.out (by omega))
        clear hx hR hQ hA hO hE0
        go_wp2_with fail
        go_ret
        exact ⟨by rw [hE.out]; rfl, hb⟩
    · have hlt' : ¬ (k : Int) < (n : Int) := by omega
      obtain rfl : k = n := by omega
      have hE := hide (hE0.out hx.out)
      clear hx hR hQ hA hO hE0
      by_cases hnm : (k : Int) < (m : Int)
      · rw [show decide ((k : Int) < (m : Int)) = true by simpa using hnm] at hE
        go_wp2_with fail
        go_ret
        exact ⟨by rw [← hE.out]; rfl, hb⟩
      · rw [show decide ((k : Int) < (m : Int)) = false by simpa using hnm] at hE
        go_wp2_with fail
        go_ret
        exact ⟨by rw [← hE.out]; rfl, hb⟩
set_option maxRecDepth 100000 in
set_option maxHeartbeats 1600000 in
/-- Whether p (the first) is the beginning of q, or it. -/
theorem s_begins (a a' : Option Addr) (n m c c' : Nat) (p q : Nat → ByteArray) (w : World) (hn : n ≤ 1048576) (hR : RowStr a n p w) (hQ : RowStr a' m q w) :
    Calls Tryz.prog 82 #[.slice a n c, .slice a' m c'] w fun e w' => e = .returned (.bool (tB (Bg n p m q))) ∧ Below w.heap.size w w' := by
  have hT : Hid (n ≤ m → (∀ i, i < n → p i = q i) → tB (Bg n p m q) = true) := fun h k => tB_t ⟨h, k⟩
  have hF : Hid (∀ i, i < n → p i ≠ q i → tB (Bg n p m q) = false) := fun i hi h => tB_f (fun k => h (k.2 i hi))
  have hG : Hid (m < n → tB (Bg n p m q) = false) := fun h => tB_f (fun k => by have := k.1; omega)
  generalize tB (Bg n p m q) = b at *
  go_enter Tryz.func82, Tryz.ntmps82
  go_wp2_with fail
  go_loopw [5, 8] (fun _ y wr => ∃ k : Nat, y = .int .i64 k ∧ k ≤ n ∧ k ≤ m ∧ Hid (∀ i, i < k → p i = q i) ∧ Below w.heap.size w wr) (fun _ y _ => n - (intOf y).toNat)
  case atStart => exact ⟨0, rfl, Nat.zero_le _, Nat.zero_le _, fun i hi => absurd hi (by omega), Below.refl _ _⟩
  case round =>
    obtain ⟨k, rfl, hk, hkm, hx, hb⟩ := hrel
    by_cases hlt : k < n
    · have hlt' : (k : Int) < (n : Int) := by omega
      obtain ⟨b0, off, rfl, hbw, u0⟩ := hR k hlt
      replace u0 := (hb.cell (p := ⟨b0, off + k, none⟩) hbw).trans u0
      by_cases hm : k < m
      · obtain ⟨b1, off1, rfl, hbw1, v0⟩ := hQ k hm
        replace v0 := (hb.cell (p := ⟨b1, off1 + k, none⟩) hbw1).trans v0
        have hm2 : (k : Int) < (m : Int) := by omega
        have hme : ¬ ((k : Int) ≥ (m : Int)) := by omega
        by_cases he : p k = q k
        · have hN : Hid (∀ i, i < k + 1 → p i = q i) := fun i hi => by
            by_cases e : i = k
            · subst e; exact he
            · exact hx.out i (by omega)
          rw [← he] at v0
          clear hx he hR hQ hT hF hG
          generalize p k = x at *
          go_wp2_with fail
          go_quiet (fail)
          go_wp2_with fail
          exact ⟨⟨k + 1, by go_num, by omega, by omega, hN.out, below_drewN hb _⟩, by simp [intOf]; omega⟩
        · have hE := hide (hF.out k hlt he)
          have k1 := sEq_f he
          clear hx he hR hQ hT hF hG
          generalize p k = x at *
          generalize q k = z at *
          go_wp2_with fail
          go_quiet (fail)
          go_wp2_with fail
          go_ret
          exact ⟨by rw [hE.out]; rfl, below_drewN hb _⟩
      · have hme : (k : Int) ≥ (m : Int) := by omega
        have hE := hide (hG.out (by omega))
        clear hx hR hQ hT hF hG
        go_wp2_with fail
        go_quiet (fail)
        go_wp2_with fail
        go_ret
        exact ⟨by rw [hE.out]; rfl, below_drewN hb _⟩
    · have hlt' : ¬ (k : Int) < (n : Int) := by omega
      obtain rfl : k = n := by omega
      have hE := hide (hT.out hkm hx.out)
      clear hx hR hQ hT hF hG
      go_wp2_with fail
      go_ret
      exact ⟨by rw [hE.out]; rfl, hb⟩
end Go.Proofs.YtnficndeblkjhaaGreatDoor
