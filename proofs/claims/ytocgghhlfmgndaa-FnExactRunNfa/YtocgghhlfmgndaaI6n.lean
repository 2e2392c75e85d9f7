/- What the program's hasState, goodLabel and GoodNfa answer. -/
import Derived.Test.YtocgghhlfmgndaaNfa6
import Derived.Test.YtocgghhlfmgndaaI6
namespace Go.Proofs.Ytocgghhlfmgndaa
open Go.RowKit

set_option maxRecDepth 100000 in
set_option maxHeartbeats 800000 in
theorem i_hasState (s st en : Int) (a : Option Addr) (n cap : Nat) (x : Int) (w : World) : Calls Try.prog 102 #[.agg #[.int .i64 s, .int .i64 st, .int .i64 en, .slice a n cap], .int .i64 x] w fun e w' => e = .returned (.bool (stB s x)) ∧ Below w.heap.size w w' := by
  by_cases h0 : 0 ≤ x
  · rw [show stB s x = decide (x < s) from by simp [stB, h0]]
    go_enter Try.func102, Try.ntmps102
    go_wp2_with fail
    go_ret
    exact ⟨rfl, below_box (Below.refl _ _)⟩
  · rw [show stB s x = false from by simp [stB, h0]]
    go_enter Try.func102, Try.ntmps102
    go_wp2_with fail
    go_ret
    exact ⟨rfl, below_box (Below.refl _ _)⟩
set_option maxRecDepth 100000 in
set_option maxHeartbeats 800000 in
theorem i_goodLabel (x y : Int) (f b : Bool) (n : Int) (w : World) : Calls Try.prog 103 #[.agg #[.int .i64 x, .int .i64 y, .bool f, .bool b, .int .i64 n]] w fun e w' => e = .returned (.bool (glB f b n)) ∧ Below w.heap.size w w' := by
  have s1 := hide (fun w => i_isAsn6 n w)
  cases f <;> cases b
  · rw [show glB false false n = inB n 1 65535 from rfl]
    go_enter Try.func103, Try.ntmps103
    go_wp2_with fail
    refine (s1.out _).mono ?_
    rintro e w1 ⟨rfl, b1⟩
    go_wp2_with fail
    go_ret
    exact ⟨rfl, below_box b1⟩
  · rw [show glB false true n = (n == 0) from by simp [glB]]
    go_enter Try.func103, Try.ntmps103
    go_wp2_with fail
    go_ret
    exact ⟨rfl, below_box (Below.refl _ _)⟩
  · rw [show glB true false n = (n == 0) from by simp [glB]]
    go_enter Try.func103, Try.ntmps103
    go_wp2_with fail
    go_ret
    exact ⟨rfl, below_box (Below.refl _ _)⟩
  · rw [show glB true true n = false from by simp [glB]]
    go_enter Try.func103, Try.ntmps103
    go_wp2_with fail
    go_ret
    exact ⟨rfl, below_box (Below.refl _ _)⟩
set_option maxRecDepth 100000 in
set_option maxHeartbeats 6400000 in
theorem i_goodNfa (s st en : Int) (a : Option Addr) (cap : Nat) (L : List Ed) (w : World) (hl : L.length ≤ 8589934592) (hR : RowG a L w) : Calls Try.prog 46 #[.agg #[.int .i64 s, .int .i64 st, .int .i64 en, .slice a L.length cap]] w fun e w' => e = .returned (.bool (gnB s st en L)) ∧ Below w.heap.size w w' := by
  have HS := hide (fun x w => i_hasState s st en a L.length cap x w)
  have GL := hide (fun x y f b n w => i_goodLabel x y f b n w)
  have M0 := Mut.new w #[.int .i64 s, .int .i64 st, .int .i64 en, .slice a L.length cap] 79
  by_cases h80 : s ≤ 80
  · have h80' : ¬ (s > 80) := by omega
    have A1 := hide (HS.out st)
    have A2 := hide (HS.out en)
    cases g1 : stB s st with
    | false =>
      rw [show gnB s st en L = false from gn_head (by simp [ghB, g1])]
      rw [g1] at A1
      clear g1
      go_enter Try.func46, Try.ntmps46
      go_wp2_with fail
      refine (A1.out _).mono ?_
      rintro e w1 ⟨rfl, b1⟩
      have c0 := (M0.below b1).2.1 0 _ rfl
      have c1 := (M0.below b1).2.1 1 _ rfl
      have c2 := (M0.below b1).2.1 2 _ rfl
      have c3 := (M0.below b1).2.1 3 _ rfl
      go_wp2_with fail
      go_ret
      exact ⟨rfl, below_box b1⟩
    | true =>
      rw [g1] at A1
      cases g2 : stB s en with
      | false =>
        rw [show gnB s st en L = false from gn_head (by simp [ghB, g2])]
        rw [g2] at A2
        clear g1 g2
        go_enter Try.func46, Try.ntmps46
        go_wp2_with fail
        refine (A1.out _).mono ?_
        rintro e w1 ⟨rfl, b1⟩
        have c0 := (M0.below b1).2.1 0 _ rfl
        have c1 := (M0.below b1).2.1 1 _ rfl
        have c2 := (M0.below b1).2.1 2 _ rfl
        have c3 := (M0.below b1).2.1 3 _ rfl
        go_wp2_with fail
        refine (A2.out _).mono ?_
        rintro e w2 ⟨rfl, b2⟩
        replace b2 := below_step b1 b2
        clear c0 c1 c2 c3
        have c0 := (M0.below b2).2.1 0 _ rfl
        have c1 := (M0.below b2).2.1 1 _ rfl
        have c2 := (M0.below b2).2.1 2 _ rfl
        have c3 := (M0.below b2).2.1 3 _ rfl
        go_wp2_with fail
        go_ret
        exact ⟨rfl, below_box b2⟩
      | true =>
        rw [g2] at A2
        by_cases h200 : L.length ≤ 200
        · have h200' : ¬ ((L.length : Int) > 200) := by omega
          have hgh : Hid (ghB s st en L.length = true) := by show ghB s st en L.length = true; simp [ghB, h80, g1, g2, h200]
          clear g1 g2
          go_enter Try.func46, Try.ntmps46
          go_wp2_with fail
          refine (A1.out _).mono ?_
          rintro e w1 ⟨rfl, b1⟩
          have c0 := (M0.below b1).2.1 0 _ rfl
          have c1 := (M0.below b1).2.1 1 _ rfl
          have c2 := (M0.below b1).2.1 2 _ rfl
          have c3 := (M0.below b1).2.1 3 _ rfl
          go_wp2_with fail
          refine (A2.out _).mono ?_
          rintro e w2 ⟨rfl, b2⟩
          replace b2 := below_step b1 b2
          clear c0 c1 c2 c3
          have c0 := (M0.below b2).2.1 0 _ rfl
          have c1 := (M0.below b2).2.1 1 _ rfl
          have c2 := (M0.below b2).2.1 2 _ rfl
          have c3 := (M0.below b2).2.1 3 _ rfl
          go_wp2_with fail
          go_loopw [31] (fun y wr => ∃ k : Nat, y = .int .i64 k ∧ k ≤ L.length ∧ Hid ((L.take k).all (edB s) = true) ∧ Mut wr w.heap.size [.int .i64 s, .int .i64 st, .int .i64 en, .slice a L.length cap] ∧ Below w.heap.size w wr) (fun y _ => L.length - (intOf y).toNat)
          case atStart => exact ⟨0, rfl, Nat.zero_le _, by show _ = true; simp, M0.below b2, below_box b2⟩
          case round =>
            clear c0 c1 c2 c3 A1 A2 b1 b2
            obtain ⟨k, rfl, hk, hall, Mn, hbw⟩ := hrel
            by_cases hlt : k < L.length
            · obtain ⟨b, off, rfl, hb, u0, u1, u2, u3, u4⟩ := hR k hlt
              replace u0 := (hbw.cell (p := ⟨b, off + k * 5, none⟩) hb).trans u0
              replace u1 := (hbw.cell (p := ⟨b, off + k * 5 + 1, none⟩) hb).trans u1
              replace u2 := (hbw.cell (p := ⟨b, off + k * 5 + 2, none⟩) hb).trans u2
              replace u3 := (hbw.cell (p := ⟨b, off + k * 5 + 3, none⟩) hb).trans u3
              replace u4 := (hbw.cell (p := ⟨b, off + k * 5 + 4, none⟩) hb).trans u4
              have hlt' : (k : Int) < (L.length : Int) := by omega
              have hstep := hide (fun h => all_takeG (edB s) (L := L) (k := k) hlt ▸ h : ((L.take k).all (edB s) && edB s (gAt L k)) = true → (L.take (k + 1)).all (edB s) = true)
              have hno := hide (fun h => gn_no (s := s) (st := st) (en := en) hlt h)
              generalize gAt L k = ed at *
              obtain ⟨x, y, f, bb, n⟩ := ed
              simp only at u0 u1 u2 u3 u4
              have Me := Mut.new wr #[.int .i64 x, .int .i64 y, .bool f, .bool bb, .int .i64 n] 149
              have Mn' := Mn.alloc (.cells #[.int .i64 x, .int .i64 y, .bool f, .bool bb, .int .i64 n] 149)
              have n0 := Mn'.2.1 0 _ rfl
              have n1 := Mn'.2.1 1 _ rfl
              have n2 := Mn'.2.1 2 _ rfl
              have n3 := Mn'.2.1 3 _ rfl
              have dE := hbw.alloc hbw.size (.cells #[.int .i64 x, .int .i64 y, .bool f, .bool bb, .int .i64 n] 149)
              have X1 := hide (HS.out x)
              have X2 := hide (HS.out y)
              have X3 := hide (GL.out x y f bb n)
              cases e1 : stB s x with
              | false =>
                rw [e1] at X1
                have hf := hide (hno.out (by simp [edB, e1]))
                clear e1 Me
                go_wp2_with fail
                refine (X1.out _).mono ?_
                rintro e w3 ⟨rfl, b3⟩
                have d3 := hide (dE.trans (b3.mono dE.size))
                clear Mn Mn' n0 n1 n2 n3 b3 dE
                go_wp2_with fail
                go_ret
                exact ⟨by rw [hf.out]; rfl, d3.out⟩
              | true =>
                rw [e1] at X1
                cases e2 : stB s y with
                | false =>
                  rw [e2] at X2
                  have hf := hide (hno.out (by simp [edB, e2]))
                  clear e1 e2
                  go_wp2_with fail
                  refine (X1.out _).mono ?_
                  rintro e w3 ⟨rfl, b3⟩
                  have m0 := (Mn'.below b3).2.1 0 _ rfl
                  have m1 := (Mn'.below b3).2.1 1 _ rfl
                  have m2 := (Mn'.below b3).2.1 2 _ rfl
                  have m3 := (Mn'.below b3).2.1 3 _ rfl
                  have p1 := (Me.below b3).2.1 1 _ rfl
                  have d3 := hide (dE.trans (b3.mono dE.size))
                  clear Mn Mn' Me n0 n1 n2 n3 b3 dE
                  go_wp2_with fail
                  refine (X2.out _).mono ?_
                  rintro e w4 ⟨rfl, b4⟩
                  have d4 := hide (d3.out.trans (b4.mono d3.out.size))
                  clear m0 m1 m2 m3 p1 b4
                  go_wp2_with fail
                  go_ret
                  exact ⟨by rw [hf.out]; rfl, d4.out⟩
                | true =>
                  rw [e2] at X2
                  cases e3 : glB f bb n with
                  | false =>
                    rw [e3] at X3
                    have hf := hide (hno.out (by simp [edB, e3]))
                    clear e1 e2 e3
                    go_wp2_with fail
                    refine (X1.out _).mono ?_
                    rintro e w3 ⟨rfl, b3⟩
                    have m0 := (Mn'.below b3).2.1 0 _ rfl
                    have m1 := (Mn'.below b3).2.1 1 _ rfl
                    have m2 := (Mn'.below b3).2.1 2 _ rfl
                    have m3 := (Mn'.below b3).2.1 3 _ rfl
                    have p1 := (Me.below b3).2.1 1 _ rfl
                    have d3 := hide (dE.trans (b3.mono dE.size))
                    clear Mn n0 n1 n2 n3 dE
                    go_wp2_with fail
                    refine (X2.out _).mono ?_
                    rintro e w4 ⟨rfl, b4⟩
                    have Me4 := (Me.below b3).below b4
                    have r0 := Me4.2.1 0 _ rfl
                    have r1 := Me4.2.1 1 _ rfl
                    have r2 := Me4.2.1 2 _ rfl
                    have r3 := Me4.2.1 3 _ rfl
                    have r4 := Me4.2.1 4 _ rfl
                    have d4 := hide (d3.out.trans (b4.mono d3.out.size))
                    clear Mn' Me Me4 m0 m1 m2 m3 p1 b3 b4
                    go_wp2_with fail
                    refine (X3.out _).mono ?_
                    rintro e w5 ⟨rfl, b5⟩
                    have d5 := hide (d4.out.trans (b5.mono d4.out.size))
                    clear r0 r1 r2 r3 r4 b5
                    go_wp2_with fail
                    go_ret
                    exact ⟨by rw [hf.out]; rfl, d5.out⟩
                  | true =>
                    rw [e3] at X3
                    have hyes := hide (hstep.out (by rw [show (L.take k).all (edB s) = true from hall]; simp [edB, e1, e2, e3]))
                    clear e1 e2 e3
                    go_wp2_with fail
                    refine (X1.out _).mono ?_
                    rintro e w3 ⟨rfl, b3⟩
                    have m0 := (Mn'.below b3).2.1 0 _ rfl
                    have m1 := (Mn'.below b3).2.1 1 _ rfl
                    have m2 := (Mn'.below b3).2.1 2 _ rfl
                    have m3 := (Mn'.below b3).2.1 3 _ rfl
                    have p1 := (Me.below b3).2.1 1 _ rfl
                    have d3 := hide (dE.trans (b3.mono dE.size))
                    clear Mn n0 n1 n2 n3 dE
                    go_wp2_with fail
                    refine (X2.out _).mono ?_
                    rintro e w4 ⟨rfl, b4⟩
                    have Me4 := (Me.below b3).below b4
                    have r0 := Me4.2.1 0 _ rfl
                    have r1 := Me4.2.1 1 _ rfl
                    have r2 := Me4.2.1 2 _ rfl
                    have r3 := Me4.2.1 3 _ rfl
                    have r4 := Me4.2.1 4 _ rfl
                    have d4 := hide (d3.out.trans (b4.mono d3.out.size))
                    replace Mn' := (Mn'.below b3).below b4
                    clear Me Me4 m0 m1 m2 m3 p1 b3 b4
                    go_wp2_with fail
                    refine (X3.out _).mono ?_
                    rintro e w5 ⟨rfl, b5⟩
                    have d5 := hide (d4.out.trans (b5.mono d4.out.size))
                    replace Mn' := hide (Mn'.below b5)
                    clear r0 r1 r2 r3 r4 b5
                    go_wp2_with fail
                    exact ⟨⟨k + 1, by go_num, by omega, hyes.out, Mn'.out, d5.out⟩, by simp [intOf]; omega⟩
            · obtain rfl : k = L.length := by omega
              have hf := hide (gn_yes hgh.out hall)
              go_wp2_with fail
              go_ret
              exact ⟨by rw [hf.out]; rfl, hbw⟩
        · have h200' : (L.length : Int) > 200 := by omega
          rw [show gnB s st en L = false from gn_head (by simp [ghB, h200])]
          clear g1 g2
          go_enter Try.func46, Try.ntmps46
          go_wp2_with fail
          refine (A1.out _).mono ?_
          rintro e w1 ⟨rfl, b1⟩
          have c0 := (M0.below b1).2.1 0 _ rfl
          have c1 := (M0.below b1).2.1 1 _ rfl
          have c2 := (M0.below b1).2.1 2 _ rfl
          have c3 := (M0.below b1).2.1 3 _ rfl
          go_wp2_with fail
          refine (A2.out _).mono ?_
          rintro e w2 ⟨rfl, b2⟩
          replace b2 := below_step b1 b2
          clear c0 c1 c2 c3
          have c0 := (M0.below b2).2.1 0 _ rfl
          have c1 := (M0.below b2).2.1 1 _ rfl
          have c2 := (M0.below b2).2.1 2 _ rfl
          have c3 := (M0.below b2).2.1 3 _ rfl
          go_wp2_with fail
          go_ret
          exact ⟨rfl, below_box b2⟩
  · have h80' : s > 80 := by omega
    rw [show gnB s st en L = false from gn_head (by simp [ghB, h80])]
    go_enter Try.func46, Try.ntmps46
    go_wp2_with fail
    go_ret
    exact ⟨rfl, below_box (Below.refl _ _)⟩
end Go.Proofs.Ytocgghhlfmgndaa
