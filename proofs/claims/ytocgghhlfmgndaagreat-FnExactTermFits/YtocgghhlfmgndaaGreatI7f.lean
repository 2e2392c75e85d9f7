/- What the program asks of a term and a route: hasPrefix, rangeHas, someHas, Contains. -/
import Derived.Test.YtocgghhlfmgndaaGreatJE
import Derived.Test.YtocgghhlfmgndaaGreatFlatRange
import Derived.Test.YtocgghhlfmgndaaGreatFlatInt
import Derived.Test.YtocgghhlfmgndaaGreatJC
namespace Go.Proofs.YtocgghhlfmgndaaGreat
open Go.RowKit

set_option maxRecDepth 100000 in
set_option maxHeartbeats 800000 in
theorem i_hasPfx (a l b m : Int) (w : World) (gp : goodB a l = true) (gq : goodB b m = true) :
    Calls Tryz.prog 161 #[.agg #[.int .i64 a, .int .i64 l], .agg #[.int .i64 b, .int .i64 m]] w fun e w' => e = .returned (.bool (cvB a l b m)) ∧ Below w.heap.size w w' := by
  have s1 := hide (fun w => i_prefixHas a l b m w)
  rw [gp, gq] at s1
  simp only [Bool.true_and] at s1
  rw [show (decide (l ≤ m) && hasB a l b) = cvB a l b m from rfl] at s1
  clear gp gq
  generalize cvB a l b m = r at *
  go_enter Tryz.func161, Tryz.ntmps161
  go_wp2_with fail
  refine (s1.out _).mono ?_
  rintro e w1 ⟨rfl, hb1⟩
  go_wp2_with fail
  go_ret
  exact ⟨rfl, below_box2 hb1⟩
set_option maxRecDepth 100000 in
set_option maxHeartbeats 1600000 in
theorem i_rangeHas (p l lo hi pa pl : Int) (w : World) (gp : goodB p l = true) (gq : goodB pa pl = true) :
    Calls Tryz.prog 115 #[.agg #[.int .i64 p, .int .i64 l, .int .i64 lo, .int .i64 hi], .agg #[.int .i64 pa, .int .i64 pl]] w fun e w' => e = .returned (.bool (rnH p l lo hi pa pl)) ∧ Below w.heap.size w w' := by
  have s1 := hide (fun w => i_hasPfx p l pa pl w gp gq)
  have M0 := (Mut.new w #[.int .i64 p, .int .i64 l, .int .i64 lo, .int .i64 hi] 148).alloc (.cells #[.int .i64 pa, .int .i64 pl] 44)
  have M1 := Mut.new (w.alloc (.cells #[.int .i64 p, .int .i64 l, .int .i64 lo, .int .i64 hi] 148)) #[.int .i64 pa, .int .i64 pl] 44
  have d0 : Below w.heap.size w ((w.alloc (.cells #[.int .i64 p, .int .i64 l, .int .i64 lo, .int .i64 hi] 148)).alloc (.cells #[.int .i64 pa, .int .i64 pl] 44)) := below_box2 (Below.refl _ _)
  rw [World.size_alloc] at M1
  clear gp gq
  have hr : Hid (rnH p l lo hi pa pl = (cvB p l pa pl && inB pl lo hi)) := rfl
  generalize rnH p l lo hi pa pl = r at *
  cases hc : cvB p l pa pl with
  | false =>
    rw [hc] at s1 hr
    go_enter Tryz.func115, Tryz.ntmps115
    go_wp2_with fail
    refine (s1.out _).mono ?_
    rintro e w1 ⟨rfl, b1⟩
    go_wp2_with fail
    go_ret
    exact ⟨by rw [hr.out]; rfl, d0.trans (b1.mono d0.size)⟩
  | true =>
    rw [hc, Bool.true_and] at hr
    rw [hc] at s1
    by_cases h1 : lo ≤ pl
    · by_cases h2 : pl ≤ hi
      · rw [inB_t h1 h2] at hr
        go_enter Tryz.func115, Tryz.ntmps115
        go_wp2_with fail
        refine (s1.out _).mono ?_
        rintro e w1 ⟨rfl, b1⟩
        replace M0 := M0.below b1
        replace M1 := M1.below b1
        have u2 := M0.2.1 2 _ rfl
        have u3 := M0.2.1 3 _ rfl
        have v1 := M1.2.1 1 _ rfl
        go_wp2_with fail
        go_ret
        exact ⟨by rw [hr.out]; rfl, d0.trans (b1.mono d0.size)⟩
      · rw [inB_f2 h2] at hr
        have h2' : decide (pl ≤ hi) = false := decide_eq_false h2
        clear h2
        go_enter Tryz.func115, Tryz.ntmps115
        go_wp2_with fail
        refine (s1.out _).mono ?_
        rintro e w1 ⟨rfl, b1⟩
        replace M0 := M0.below b1
        replace M1 := M1.below b1
        have u2 := M0.2.1 2 _ rfl
        have u3 := M0.2.1 3 _ rfl
        have v1 := M1.2.1 1 _ rfl
        go_wp2_with fail
        go_ret
        exact ⟨by rw [hr.out]; rfl, d0.trans (b1.mono d0.size)⟩
    · rw [inB_f1 h1] at hr
      go_enter Tryz.func115, Tryz.ntmps115
      go_wp2_with fail
      refine (s1.out _).mono ?_
      rintro e w1 ⟨rfl, b1⟩
      replace M0 := M0.below b1
      replace M1 := M1.below b1
      have u2 := M0.2.1 2 _ rfl
      have u3 := M0.2.1 3 _ rfl
      have v1 := M1.2.1 1 _ rfl
      go_wp2_with fail
      go_ret
      exact ⟨by rw [hr.out]; rfl, d0.trans (b1.mono d0.size)⟩
set_option maxRecDepth 100000 in
set_option maxHeartbeats 1600000 in
theorem i_someRange (a : Option Addr) (n c : Nat) (f0 f1 f2 f3 : Nat → Int) (pa pl : Int) (w : World) (hl : n ≤ 1048576) (hR : RowRange a n f0 f1 f2 f3 w) (hG : ∀ i, i < n → goodB (f0 i) (f1 i) = true) (gq : goodB pa pl = true) :
    Calls Tryz.prog 114 #[.func (.func 115) #[] #[], .slice a n c, .agg #[.int .i64 pa, .int .i64 pl]] w fun e w' => e = .returned (.bool (anR n f0 f1 f2 f3 pa pl)) ∧ Below w.heap.size w w' := by
  have M0 := Mut.new w #[.int .i64 pa, .int .i64 pl] 44
  have d0 : Below w.heap.size w (w.alloc (.cells #[.int .i64 pa, .int .i64 pl] 44)) := below_box (Below.refl _ _)
  have hA : Hid (anR n f0 f1 f2 f3 pa pl = (List.range n).any fun i => rnH (f0 i) (f1 i) (f2 i) (f3 i) pa pl) := rfl
  generalize anR n f0 f1 f2 f3 pa pl = an at *
  go_enter Tryz.func114, Tryz.ntmps114
  go_wp2_with fail
  generalize w.alloc (.cells #[.int .i64 pa, .int .i64 pl] 44) = w1 at *
  go_loopw [11] (fun y wr => ∃ k : Nat, y = .int .i64 k ∧ k ≤ n ∧ Hid (((List.range k).any fun i => rnH (f0 i) (f1 i) (f2 i) (f3 i) pa pl) = false) ∧ Mut wr w.heap.size [.int .i64 pa, .int .i64 pl] ∧ Below w.heap.size w wr) (fun y _ => n - (intOf y).toNat)
  case atStart => exact ⟨0, rfl, Nat.zero_le _, rfl, M0, d0⟩
  case round =>
    clear M0 d0
    obtain ⟨k, rfl, hk, hall, Mt, hb⟩ := hrel
    by_cases hlt : k < n
    · obtain ⟨b, off, rfl, hbw, u0, u1, u2, u3⟩ := hR k hlt
      replace u0 := (hb.cell (p := ⟨b, off + k * 4, none⟩) hbw).trans u0
      replace u1 := (hb.cell (p := ⟨b, off + k * 4 + 1, none⟩) hbw).trans u1
      replace u2 := (hb.cell (p := ⟨b, off + k * 4 + 2, none⟩) hbw).trans u2
      replace u3 := (hb.cell (p := ⟨b, off + k * 4 + 3, none⟩) hbw).trans u3
      have hlt' : (k : Int) < (n : Int) := by omega
      have RH := hide (fun w => i_rangeHas (f0 k) (f1 k) (f2 k) (f3 k) pa pl w (hG k hlt) gq)
      have hY := hide (fun e => any_yes7 (n := n) (p := fun i => rnH (f0 i) (f1 i) (f2 i) (f3 i) pa pl) hlt e)
      have hN := hide (fun e => any_next7 (p := fun i => rnH (f0 i) (f1 i) (f2 i) (f3 i) pa pl) hall.out e)
      clear hall hG hR
      generalize f0 k = x0 at *
      generalize f1 k = x1 at *
      generalize f2 k = x2 at *
      generalize f3 k = x3 at *
      have bX : Below wr.heap.size wr (wr.alloc (.cells #[.int .i64 x0, .int .i64 x1, .int .i64 x2, .int .i64 x3] 148)) := below_box (Below.refl _ _)
      have dX := hide (hb.trans (bX.mono hb.size))
      have MX := hide (Mt.below bX)
      have v0 := Mt.2.1 0 _ rfl
      have v1 := Mt.2.1 1 _ rfl
      have lt0 := Mt.1
      clear Mt bX
      cases hg : rnH x0 x1 x2 x3 pa pl with
      | true =>
        have hE := hide (hY.out hg)
        rw [hg] at RH
        clear hg hY hN
        go_wp2_with fail
        refine (RH.out _).mono ?_
        rintro e w3 ⟨rfl, b3⟩
        go_wp2_with fail
        go_ret
        exact ⟨by rw [hA.out, hE.out]; rfl, dX.out.trans (b3.mono dX.out.size)⟩
      | false =>
        have hE := hide (hN.out hg)
        rw [hg] at RH
        clear hg hY hN
        go_wp2_with fail
        refine (RH.out _).mono ?_
        rintro e w3 ⟨rfl, b3⟩
        go_wp2_with fail
        exact ⟨⟨k + 1, by go_num, by omega, hE.out, MX.out.below b3, dX.out.trans (b3.mono dX.out.size)⟩, by simp [intOf]; omega⟩
    · have hlt' : ¬ (k : Int) < (n : Int) := by omega
      obtain rfl : k = n := by omega
      have hE := hide (hA.out.trans hall.out)
      clear hall hA
      go_wp2_with fail
      go_ret
      exact ⟨by rw [hE.out]; rfl, hb⟩
set_option maxRecDepth 100000 in
set_option maxHeartbeats 1600000 in
theorem i_indexI (a : Option Addr) (n c : Nat) (g : Nat → Int) (x : Int) (w : World) (hl : n ≤ 1048576) (hR : RowInt a n g w) :
    Calls Tryz.prog 162 #[.slice a n c, .int .i64 x] w fun e w' => ∃ r : Int, e = .returned (.int .i64 r) ∧ decide (r ≥ 0) = coB n g x ∧ Below w.heap.size w w' := by
  have hA : Hid (coB n g x = (List.range n).any fun i => g i == x) := rfl
  generalize coB n g x = co at *
  go_enter Tryz.func162, Tryz.ntmps162
  go_wp2_with fail
  go_loopw [8] (fun y wr => ∃ k : Nat, y = .int .i64 k ∧ k ≤ n ∧ Hid (((List.range k).any fun i => g i == x) = false) ∧ wr = w) (fun y _ => n - (intOf y).toNat)
  case atStart => exact ⟨0, rfl, Nat.zero_le _, rfl, rfl⟩
  case round =>
    obtain ⟨k, rfl, hk, hall, rfl⟩ := hrel
    by_cases hlt : k < n
    · obtain ⟨b, off, rfl, hbw, u0⟩ := hR k hlt
      have hlt' : (k : Int) < (n : Int) := by omega
      have hY := hide (fun e => any_yes7 (n := n) (p := fun i => g i == x) hlt e)
      have hN := hide (fun e => any_next7 (p := fun i => g i == x) hall.out e)
      clear hall hR
      generalize g k = z at *
      cases hg : (z == x) with
      | true =>
        have hE := hide (hY.out hg)
        have hg' : (x == z) = true := by rw [Bool.beq_comm]; exact hg
        clear hg hY hN
        go_wp2_with fail
        go_ret
        exact ⟨_, rfl, by rw [hA.out, hE.out]; simp, Below.refl _ _⟩
      | false =>
        have hE := hide (hN.out hg)
        have hg' : (x == z) = false := by rw [Bool.beq_comm]; exact hg
        clear hg hY hN
        go_wp2_with fail
        exact ⟨⟨k + 1, by go_num, by omega, hE, trivial⟩, by simp [intOf]; omega⟩
    · have hlt' : ¬ (k : Int) < (n : Int) := by omega
      obtain rfl : k = n := by omega
      have hE := hide (hA.out.trans hall.out)
      clear hall hA
      go_wp2_with fail
      go_ret
      exact ⟨-1, rfl, by rw [hE.out]; rfl, Below.refl _ _⟩
set_option maxRecDepth 100000 in
set_option maxHeartbeats 800000 in
theorem i_containsI (a : Option Addr) (n c : Nat) (g : Nat → Int) (x : Int) (w : World) (hl : n ≤ 1048576) (hR : RowInt a n g w) :
    Calls Tryz.prog 116 #[.slice a n c, .int .i64 x] w fun e w' => e = .returned (.bool (coB n g x)) ∧ Below w.heap.size w w' := by
  have s1 := hide (fun w R => i_indexI a n c g x w hl R)
  clear hl
  generalize coB n g x = co at *
  go_enter Tryz.func116, Tryz.ntmps116
  go_wp2_with fail
  refine (s1.out _ hR).mono ?_
  rintro e w1 ⟨r, rfl, hr, b1⟩
  have hr := hide hr
  go_wp2_with fail
  go_ret
  exact ⟨ret_bool (by first | exact hr.out | (rw [← hr.out])), b1⟩
end Go.Proofs.YtocgghhlfmgndaaGreat
