/- Attrs and routes compared, by program and specification. -/
import Derived.Test.YtlhdeeihpaogkaaPlain14s
import Derived.Test.YtlhdeeihpaogkaaSame10
import Derived.Test.YtlhdeeihpaogkaaKit
import Derived.Test.YtlhdeeihpaogkaaMut4
namespace Go.Proofs.Ytlhdeeihpaogkaa
open Go.RowKit

set_option maxRecDepth 100000 in
set_option maxHeartbeats 1600000 in
theorem i_sameAttrs (t u : Ro) (a0 b0 a1 b1 : Option Addr) (c0 e0 c1 e1 : Nat) (w : World) (ht : t.n0 ≤ 1048576 ∧ t.n1 ≤ 1048576) (hu : u.n0 ≤ 1048576 ∧ u.n1 ≤ 1048576) (R : RowInt a0 t.n0 t.f w ∧ RowInt a1 t.n1 t.g w) (Q : RowInt b0 u.n0 u.f w ∧ RowInt b1 u.n1 u.g w) :
    Calls Try.prog 72 #[.agg #[.int .i64 t.o, .slice a0 t.n0 c0, .int .i64 t.nx, .int .i64 t.md, .int .i64 t.pf, .slice a1 t.n1 c1], .agg #[.int .i64 u.o, .slice b0 u.n0 e0, .int .i64 u.nx, .int .i64 u.md, .int .i64 u.pf, .slice b1 u.n1 e1]] w fun e w' => e = .returned (.bool (pB (SaP t u))) ∧ Below w.heap.size w w' := by
  have S0 := hide (fun w R Q => i_same a0 b0 c0 e0 t.p0 u.p0 w ht.1 hu.1 R Q)
  have S1 := hide (fun w R Q => i_same a1 b1 c1 e1 t.p1 u.p1 w ht.2 hu.2 R Q)
  have dd : Below w.heap.size w ((w.alloc (.cells #[.int .i64 t.o, .slice a0 t.n0 c0, .int .i64 t.nx, .int .i64 t.md, .int .i64 t.pf, .slice a1 t.n1 c1] 58)).alloc (.cells #[.int .i64 u.o, .slice b0 u.n0 e0, .int .i64 u.nx, .int .i64 u.md, .int .i64 u.pf, .slice b1 u.n1 e1] 58)) := below_box2 (Below.refl _ _)
  have M0 := (Mut.new w #[.int .i64 t.o, .slice a0 t.n0 c0, .int .i64 t.nx, .int .i64 t.md, .int .i64 t.pf, .slice a1 t.n1 c1] 58).alloc (.cells #[.int .i64 u.o, .slice b0 u.n0 e0, .int .i64 u.nx, .int .i64 u.md, .int .i64 u.pf, .slice b1 u.n1 e1] 58)
  have M1 := Mut.new (w.alloc (.cells #[.int .i64 t.o, .slice a0 t.n0 c0, .int .i64 t.nx, .int .i64 t.md, .int .i64 t.pf, .slice a1 t.n1 c1] 58)) #[.int .i64 u.o, .slice b0 u.n0 e0, .int .i64 u.nx, .int .i64 u.md, .int .i64 u.pf, .slice b1 u.n1 e1] 58
  simp only [World.size_alloc] at M1
  have hT : Hid (SaP t u → pB (SaP t u) = true) := pB_t
  have hF : Hid (¬ SaP t u → pB (SaP t u) = false) := pB_f
  generalize pB (SaP t u) = r at *
  clear ht hu
  by_cases q0 : t.o = u.o
  · have k0 : (t.o == u.o) = true := by simp [q0]
    by_cases q1 : t.nx = u.nx
    · have k1 : (t.nx == u.nx) = true := by simp [q1]
      by_cases q2 : t.md = u.md
      · have k2 : (t.md == u.md) = true := by simp [q2]
        by_cases q3 : t.pf = u.pf
        · have k3 : (t.pf == u.pf) = true := by simp [q3]
          cases h0 : pB (Same t.p0 u.p0) with
          | false =>
            have hN := hide (hF.out (fun h => by rw [pB_t h.2.2.2.2.1] at h0; exact Bool.noConfusion h0))
            clear hT hF q0 q1 q2 q3 S1
            rw [h0] at S0
            go_enter Try.func72, Try.ntmps72
            go_wp2_with fail
            generalize ((w.alloc (.cells #[.int .i64 t.o, .slice a0 t.n0 c0, .int .i64 t.nx, .int .i64 t.md, .int .i64 t.pf, .slice a1 t.n1 c1] 58)).alloc (.cells #[.int .i64 u.o, .slice b0 u.n0 e0, .int .i64 u.nx, .int .i64 u.md, .int .i64 u.pf, .slice b1 u.n1 e1] 58)) = W at *
            refine (S0.out _ (R.1.below dd) (Q.1.below dd)).mono ?_
            rintro e w1 ⟨rfl, b1⟩
            have d1 := dd.trans (b1.mono dd.size)
            have M0 := M0.below b1
            have M1 := M1.below b1
            have x5 := M0.2.1 5 _ rfl
            have y5 := M1.2.1 5 _ rfl
            clear b1 M0 M1
            go_wp2_with fail
            go_ret
            exact ⟨by rw [hN.out]; rfl, d1⟩
          | true =>
            have s0 : Hid (Same t.p0 u.p0) := pB_iff.1 h0
            cases h1 : pB (Same t.p1 u.p1) with
            | false =>
              rw [h1] at S1
              have hN := hide (hF.out (fun h => by rw [pB_t h.2.2.2.2.2] at h1; exact Bool.noConfusion h1))
              clear hT hF q0 q1 q2 q3 h1
              rw [h0] at S0
              go_enter Try.func72, Try.ntmps72
              go_wp2_with fail
              generalize ((w.alloc (.cells #[.int .i64 t.o, .slice a0 t.n0 c0, .int .i64 t.nx, .int .i64 t.md, .int .i64 t.pf, .slice a1 t.n1 c1] 58)).alloc (.cells #[.int .i64 u.o, .slice b0 u.n0 e0, .int .i64 u.nx, .int .i64 u.md, .int .i64 u.pf, .slice b1 u.n1 e1] 58)) = W at *
              refine (S0.out _ (R.1.below dd) (Q.1.below dd)).mono ?_
              rintro e w1 ⟨rfl, b1⟩
              have d1 := dd.trans (b1.mono dd.size)
              have M0 := M0.below b1
              have M1 := M1.below b1
              have x5 := M0.2.1 5 _ rfl
              have y5 := M1.2.1 5 _ rfl
              clear b1 M0 M1
              go_wp2_with fail
              refine (S1.out _ (R.2.below d1) (Q.2.below d1)).mono ?_
              rintro e w2 ⟨rfl, b2⟩
              have d2 := d1.trans (b2.mono d1.size)
              go_wp2_with fail
              go_ret
              exact ⟨by rw [hN.out]; rfl, d2⟩
            | true =>
              rw [h1] at S1
              have hN := hide (hT.out ⟨q0, q1, q2, q3, s0.out, pB_iff.1 h1⟩)
              clear hT hF q0 q1 q2 q3 h1
              rw [h0] at S0
              go_enter Try.func72, Try.ntmps72
              go_wp2_with fail
              generalize ((w.alloc (.cells #[.int .i64 t.o, .slice a0 t.n0 c0, .int .i64 t.nx, .int .i64 t.md, .int .i64 t.pf, .slice a1 t.n1 c1] 58)).alloc (.cells #[.int .i64 u.o, .slice b0 u.n0 e0, .int .i64 u.nx, .int .i64 u.md, .int .i64 u.pf, .slice b1 u.n1 e1] 58)) = W at *
              refine (S0.out _ (R.1.below dd) (Q.1.below dd)).mono ?_
              rintro e w1 ⟨rfl, b1⟩
              have d1 := dd.trans (b1.mono dd.size)
              have M0 := M0.below b1
              have M1 := M1.below b1
              have x5 := M0.2.1 5 _ rfl
              have y5 := M1.2.1 5 _ rfl
              clear b1 M0 M1
              go_wp2_with fail
              refine (S1.out _ (R.2.below d1) (Q.2.below d1)).mono ?_
              rintro e w2 ⟨rfl, b2⟩
              have d2 := d1.trans (b2.mono d1.size)
              go_wp2_with fail
              go_ret
              exact ⟨by rw [hN.out]; rfl, d2⟩
        · have k3 : (t.pf == u.pf) = false := by simp [q3]
          have hN := hide (hF.out (fun h => q3 h.2.2.2.1))
          clear hT hF S0 S1 M0 M1 q0 q1 q2 q3
          go_enter Try.func72, Try.ntmps72
          go_wp2_with fail
          go_ret
          exact ⟨by rw [hN.out]; rfl, dd⟩
      · have k2 : (t.md == u.md) = false := by simp [q2]
        have hN := hide (hF.out (fun h => q2 h.2.2.1))
        clear hT hF S0 S1 M0 M1 q0 q1 q2
        go_enter Try.func72, Try.ntmps72
        go_wp2_with fail
        go_ret
        exact ⟨by rw [hN.out]; rfl, dd⟩
    · have k1 : (t.nx == u.nx) = false := by simp [q1]
      have hN := hide (hF.out (fun h => q1 h.2.1))
      clear hT hF S0 S1 M0 M1 q0 q1
      go_enter Try.func72, Try.ntmps72
      go_wp2_with fail
      go_ret
      exact ⟨by rw [hN.out]; rfl, dd⟩
  · have k0 : (t.o == u.o) = false := by simp [q0]
    have hN := hide (hF.out (fun h => q0 h.1))
    clear hT hF S0 S1 M0 M1 q0
    go_enter Try.func72, Try.ntmps72
    go_wp2_with fail
    go_ret
    exact ⟨by rw [hN.out]; rfl, dd⟩
set_option maxRecDepth 100000 in
set_option maxHeartbeats 1600000 in
theorem s_sameAttrs (t u : Ro) (a0 b0 a1 b1 : Option Addr) (c0 e0 c1 e1 : Nat) (w : World) (ht : t.n0 ≤ 1048576 ∧ t.n1 ≤ 1048576) (hu : u.n0 ≤ 1048576 ∧ u.n1 ≤ 1048576) (R : RowInt a0 t.n0 t.f w ∧ RowInt a1 t.n1 t.g w) (Q : RowInt b0 u.n0 u.f w ∧ RowInt b1 u.n1 u.g w) :
    Calls Try.prog 71 #[.agg #[.int .i64 t.o, .slice a0 t.n0 c0, .int .i64 t.nx, .int .i64 t.md, .int .i64 t.pf, .slice a1 t.n1 c1], .agg #[.int .i64 u.o, .slice b0 u.n0 e0, .int .i64 u.nx, .int .i64 u.md, .int .i64 u.pf, .slice b1 u.n1 e1]] w fun e w' => e = .returned (.bool (pB (SaP t u))) ∧ Below w.heap.size w w' := by
  have S0 := hide (fun w R Q => s_same a0 b0 c0 e0 t.p0 u.p0 w ht.1 hu.1 R Q)
  have S1 := hide (fun w R Q => s_same a1 b1 c1 e1 t.p1 u.p1 w ht.2 hu.2 R Q)
  have dd : Below w.heap.size w ((w.alloc (.cells #[.int .i64 t.o, .slice a0 t.n0 c0, .int .i64 t.nx, .int .i64 t.md, .int .i64 t.pf, .slice a1 t.n1 c1] 58)).alloc (.cells #[.int .i64 u.o, .slice b0 u.n0 e0, .int .i64 u.nx, .int .i64 u.md, .int .i64 u.pf, .slice b1 u.n1 e1] 58)) := below_box2 (Below.refl _ _)
  have M0 := (Mut.new w #[.int .i64 t.o, .slice a0 t.n0 c0, .int .i64 t.nx, .int .i64 t.md, .int .i64 t.pf, .slice a1 t.n1 c1] 58).alloc (.cells #[.int .i64 u.o, .slice b0 u.n0 e0, .int .i64 u.nx, .int .i64 u.md, .int .i64 u.pf, .slice b1 u.n1 e1] 58)
  have M1 := Mut.new (w.alloc (.cells #[.int .i64 t.o, .slice a0 t.n0 c0, .int .i64 t.nx, .int .i64 t.md, .int .i64 t.pf, .slice a1 t.n1 c1] 58)) #[.int .i64 u.o, .slice b0 u.n0 e0, .int .i64 u.nx, .int .i64 u.md, .int .i64 u.pf, .slice b1 u.n1 e1] 58
  simp only [World.size_alloc] at M1
  have hT : Hid (SaP t u → pB (SaP t u) = true) := pB_t
  have hF : Hid (¬ SaP t u → pB (SaP t u) = false) := pB_f
  generalize pB (SaP t u) = r at *
  clear ht hu
  by_cases q0 : t.o = u.o
  · have k0 : (t.o == u.o) = true := by simp [q0]
    by_cases q1 : t.nx = u.nx
    · have k1 : (t.nx == u.nx) = true := by simp [q1]
      by_cases q2 : t.md = u.md
      · have k2 : (t.md == u.md) = true := by simp [q2]
        by_cases q3 : t.pf = u.pf
        · have k3 : (t.pf == u.pf) = true := by simp [q3]
          cases h0 : pB (Same t.p0 u.p0) with
          | false =>
            have hN := hide (hF.out (fun h => by rw [pB_t h.2.2.2.2.1] at h0; exact Bool.noConfusion h0))
            clear hT hF q0 q1 q2 q3 S1
            rw [h0] at S0
            go_enter Try.func71, Try.ntmps71
            go_wp2_with fail
            generalize ((w.alloc (.cells #[.int .i64 t.o, .slice a0 t.n0 c0, .int .i64 t.nx, .int .i64 t.md, .int .i64 t.pf, .slice a1 t.n1 c1] 58)).alloc (.cells #[.int .i64 u.o, .slice b0 u.n0 e0, .int .i64 u.nx, .int .i64 u.md, .int .i64 u.pf, .slice b1 u.n1 e1] 58)) = W at *
            refine (S0.out _ (R.1.below dd) (Q.1.below dd)).mono ?_
            rintro e w1 ⟨rfl, b1⟩
            have d1 := dd.trans (b1.mono dd.size)
            have M0 := M0.below b1
            have M1 := M1.below b1
            have x5 := M0.2.1 5 _ rfl
            have y5 := M1.2.1 5 _ rfl
            clear b1 M0 M1
            go_wp2_with fail
            go_ret
            exact ⟨by rw [hN.out]; rfl, d1⟩
          | true =>
            have s0 : Hid (Same t.p0 u.p0) := pB_iff.1 h0
            cases h1 : pB (Same t.p1 u.p1) with
            | false =>
              rw [h1] at S1
              have hN := hide (hF.out (fun h => by rw [pB_t h.2.2.2.2.2] at h1; exact Bool.noConfusion h1))
              clear hT hF q0 q1 q2 q3 h1
              rw [h0] at S0
              go_enter Try.func71, Try.ntmps71
              go_wp2_with fail
              generalize ((w.alloc (.cells #[.int .i64 t.o, .slice a0 t.n0 c0, .int .i64 t.nx, .int .i64 t.md, .int .i64 t.pf, .slice a1 t.n1 c1] 58)).alloc (.cells #[.int .i64 u.o, .slice b0 u.n0 e0, .int .i64 u.nx, .int .i64 u.md, .int .i64 u.pf, .slice b1 u.n1 e1] 58)) = W at *
              refine (S0.out _ (R.1.below dd) (Q.1.below dd)).mono ?_
              rintro e w1 ⟨rfl, b1⟩
              have d1 := dd.trans (b1.mono dd.size)
              have M0 := M0.below b1
              have M1 := M1.below b1
              have x5 := M0.2.1 5 _ rfl
              have y5 := M1.2.1 5 _ rfl
              clear b1 M0 M1
              go_wp2_with fail
              refine (S1.out _ (R.2.below d1) (Q.2.below d1)).mono ?_
              rintro e w2 ⟨rfl, b2⟩
              have d2 := d1.trans (b2.mono d1.size)
              go_wp2_with fail
              go_ret
              exact ⟨by rw [hN.out]; rfl, d2⟩
            | true =>
              rw [h1] at S1
              have hN := hide (hT.out ⟨q0, q1, q2, q3, s0.out, pB_iff.1 h1⟩)
              clear hT hF q0 q1 q2 q3 h1
              rw [h0] at S0
              go_enter Try.func71, Try.ntmps71
              go_wp2_with fail
              generalize ((w.alloc (.cells #[.int .i64 t.o, .slice a0 t.n0 c0, .int .i64 t.nx, .int .i64 t.md, .int .i64 t.pf, .slice a1 t.n1 c1] 58)).alloc (.cells #[.int .i64 u.o, .slice b0 u.n0 e0, .int .i64 u.nx, .int .i64 u.md, .int .i64 u.pf, .slice b1 u.n1 e1] 58)) = W at *
              refine (S0.out _ (R.1.below dd) (Q.1.below dd)).mono ?_
              rintro e w1 ⟨rfl, b1⟩
              have d1 := dd.trans (b1.mono dd.size)
              have M0 := M0.below b1
              have M1 := M1.below b1
              have x5 := M0.2.1 5 _ rfl
              have y5 := M1.2.1 5 _ rfl
              clear b1 M0 M1
              go_wp2_with fail
              refine (S1.out _ (R.2.below d1) (Q.2.below d1)).mono ?_
              rintro e w2 ⟨rfl, b2⟩
              have d2 := d1.trans (b2.mono d1.size)
              go_wp2_with fail
              go_ret
              exact ⟨by rw [hN.out]; rfl, d2⟩
        · have k3 : (t.pf == u.pf) = false := by simp [q3]
          have hN := hide (hF.out (fun h => q3 h.2.2.2.1))
          clear hT hF S0 S1 M0 M1 q0 q1 q2 q3
          go_enter Try.func71, Try.ntmps71
          go_wp2_with fail
          go_ret
          exact ⟨by rw [hN.out]; rfl, dd⟩
      · have k2 : (t.md == u.md) = false := by simp [q2]
        have hN := hide (hF.out (fun h => q2 h.2.2.1))
        clear hT hF S0 S1 M0 M1 q0 q1 q2
        go_enter Try.func71, Try.ntmps71
        go_wp2_with fail
        go_ret
        exact ⟨by rw [hN.out]; rfl, dd⟩
    · have k1 : (t.nx == u.nx) = false := by simp [q1]
      have hN := hide (hF.out (fun h => q1 h.2.1))
      clear hT hF S0 S1 M0 M1 q0 q1
      go_enter Try.func71, Try.ntmps71
      go_wp2_with fail
      go_ret
      exact ⟨by rw [hN.out]; rfl, dd⟩
  · have k0 : (t.o == u.o) = false := by simp [q0]
    have hN := hide (hF.out (fun h => q0 h.1))
    clear hT hF S0 S1 M0 M1 q0
    go_enter Try.func71, Try.ntmps71
    go_wp2_with fail
    go_ret
    exact ⟨by rw [hN.out]; rfl, dd⟩
set_option maxRecDepth 100000 in
set_option maxHeartbeats 1600000 in
theorem i_sameRoute (t u : Ro) (a0 b0 a1 b1 : Option Addr) (c0 e0 c1 e1 : Nat) (w : World) (ht : t.n0 ≤ 1048576 ∧ t.n1 ≤ 1048576) (hu : u.n0 ≤ 1048576 ∧ u.n1 ≤ 1048576) (R : RowInt a0 t.n0 t.f w ∧ RowInt a1 t.n1 t.g w) (Q : RowInt b0 u.n0 u.f w ∧ RowInt b1 u.n1 u.g w) :
    Calls Try.prog 40 #[.agg #[.int .i64 t.pa, .int .i64 t.pl, .int .i64 t.o, .slice a0 t.n0 c0, .int .i64 t.nx, .int .i64 t.md, .int .i64 t.pf, .slice a1 t.n1 c1], .agg #[.int .i64 u.pa, .int .i64 u.pl, .int .i64 u.o, .slice b0 u.n0 e0, .int .i64 u.nx, .int .i64 u.md, .int .i64 u.pf, .slice b1 u.n1 e1]] w fun e w' => e = .returned (.bool (pB (SrP t u))) ∧ Below w.heap.size w w' := by
  have S0 := hide (fun w R Q => i_sameAttrs t u a0 b0 a1 b1 c0 e0 c1 e1 w ht hu R Q)
  have he := eqPrefix_run
  have hgu := eqPrefix_guard
  have dd : Below w.heap.size w ((w.alloc (.cells #[.int .i64 t.pa, .int .i64 t.pl, .int .i64 t.o, .slice a0 t.n0 c0, .int .i64 t.nx, .int .i64 t.md, .int .i64 t.pf, .slice a1 t.n1 c1] 60)).alloc (.cells #[.int .i64 u.pa, .int .i64 u.pl, .int .i64 u.o, .slice b0 u.n0 e0, .int .i64 u.nx, .int .i64 u.md, .int .i64 u.pf, .slice b1 u.n1 e1] 60)) := below_box2 (Below.refl _ _)
  have hT : Hid (SrP t u → pB (SrP t u) = true) := pB_t
  have hF : Hid (¬ SrP t u → pB (SrP t u) = false) := pB_f
  generalize pB (SrP t u) = r at *
  clear ht hu
  by_cases q0 : t.pa = u.pa ∧ t.pl = u.pl
  · have k0 : (t.pa == u.pa) = true := by simp [q0.1]
    have k1 : (t.pl == u.pl) = true := by simp [q0.2]
    have hX : Hid (r = pB (SaP t u)) := by
      by_cases h : SaP t u
      · rw [Hid, pB_t h]; exact hT.out ⟨q0.1, q0.2, h⟩
      · rw [Hid, pB_f h]; exact hF.out (fun k => h k.2.2)
    generalize pB (SaP t u) = z at *
    clear hT hF q0
    go_enter Try.func40, Try.ntmps40
    go_wp2_with fail
    generalize ((w.alloc (.cells #[.int .i64 t.pa, .int .i64 t.pl, .int .i64 t.o, .slice a0 t.n0 c0, .int .i64 t.nx, .int .i64 t.md, .int .i64 t.pf, .slice a1 t.n1 c1] 60)).alloc (.cells #[.int .i64 u.pa, .int .i64 u.pl, .int .i64 u.o, .slice b0 u.n0 e0, .int .i64 u.nx, .int .i64 u.md, .int .i64 u.pf, .slice b1 u.n1 e1] 60)) = W at *
    refine (S0.out _ ⟨R.1.below dd, R.2.below dd⟩ ⟨Q.1.below dd, Q.2.below dd⟩).mono ?_
    rintro e w1 ⟨rfl, b1⟩
    have d1 := dd.trans (b1.mono dd.size)
    go_wp2_with fail
    go_ret
    exact ⟨by rw [hX.out]; rfl, d1⟩
  · have hN := hide (hF.out (fun h => q0 ⟨h.1, h.2.1⟩))
    have k0 : (t.pa == u.pa && t.pl == u.pl) = false := by
      by_cases h : t.pa = u.pa
      · have : ¬ t.pl = u.pl := fun k => q0 ⟨h, k⟩
        simp [this]
      · simp [h]
    clear hT hF q0 S0
    have he2 := fun w => (he t.pa t.pl u.pa u.pl w).trans (by rw [k0])
    clear he
    go_enter Try.func40, Try.ntmps40
    go_wp2_with fail
    go_ret
    exact ⟨by rw [hN.out]; rfl, dd⟩
set_option maxRecDepth 100000 in
set_option maxHeartbeats 1600000 in
theorem s_sameRoute (t u : Ro) (a0 b0 a1 b1 : Option Addr) (c0 e0 c1 e1 : Nat) (w : World) (ht : t.n0 ≤ 1048576 ∧ t.n1 ≤ 1048576) (hu : u.n0 ≤ 1048576 ∧ u.n1 ≤ 1048576) (R : RowInt a0 t.n0 t.f w ∧ RowInt a1 t.n1 t.g w) (Q : RowInt b0 u.n0 u.f w ∧ RowInt b1 u.n1 u.g w) :
    Calls Try.prog 38 #[.agg #[.int .i64 t.pa, .int .i64 t.pl, .int .i64 t.o, .slice a0 t.n0 c0, .int .i64 t.nx, .int .i64 t.md, .int .i64 t.pf, .slice a1 t.n1 c1], .agg #[.int .i64 u.pa, .int .i64 u.pl, .int .i64 u.o, .slice b0 u.n0 e0, .int .i64 u.nx, .int .i64 u.md, .int .i64 u.pf, .slice b1 u.n1 e1]] w fun e w' => e = .returned (.bool (pB (SrP t u))) ∧ Below w.heap.size w w' := by
  have S0 := hide (fun w R Q => s_sameAttrs t u a0 b0 a1 b1 c0 e0 c1 e1 w ht hu R Q)
  have he := eqPrefix_run
  have hgu := eqPrefix_guard
  have dd : Below w.heap.size w ((w.alloc (.cells #[.int .i64 t.pa, .int .i64 t.pl, .int .i64 t.o, .slice a0 t.n0 c0, .int .i64 t.nx, .int .i64 t.md, .int .i64 t.pf, .slice a1 t.n1 c1] 60)).alloc (.cells #[.int .i64 u.pa, .int .i64 u.pl, .int .i64 u.o, .slice b0 u.n0 e0, .int .i64 u.nx, .int .i64 u.md, .int .i64 u.pf, .slice b1 u.n1 e1] 60)) := below_box2 (Below.refl _ _)
  have hT : Hid (SrP t u → pB (SrP t u) = true) := pB_t
  have hF : Hid (¬ SrP t u → pB (SrP t u) = false) := pB_f
  generalize pB (SrP t u) = r at *
  clear ht hu
  by_cases q0 : t.pa = u.pa ∧ t.pl = u.pl
  · have k0 : (t.pa == u.pa) = true := by simp [q0.1]
    have k1 : (t.pl == u.pl) = true := by simp [q0.2]
    have hX : Hid (r = pB (SaP t u)) := by
      by_cases h : SaP t u
      · rw [Hid, pB_t h]; exact hT.out ⟨q0.1, q0.2, h⟩
      · rw [Hid, pB_f h]; exact hF.out (fun k => h k.2.2)
    generalize pB (SaP t u) = z at *
    clear hT hF q0
    go_enter Try.func38, Try.ntmps38
    go_wp2_with fail
    generalize ((w.alloc (.cells #[.int .i64 t.pa, .int .i64 t.pl, .int .i64 t.o, .slice a0 t.n0 c0, .int .i64 t.nx, .int .i64 t.md, .int .i64 t.pf, .slice a1 t.n1 c1] 60)).alloc (.cells #[.int .i64 u.pa, .int .i64 u.pl, .int .i64 u.o, .slice b0 u.n0 e0, .int .i64 u.nx, .int .i64 u.md, .int .i64 u.pf, .slice b1 u.n1 e1] 60)) = W at *
    refine (S0.out _ ⟨R.1.below dd, R.2.below dd⟩ ⟨Q.1.below dd, Q.2.below dd⟩).mono ?_
    rintro e w1 ⟨rfl, b1⟩
    have d1 := dd.trans (b1.mono dd.size)
    go_wp2_with fail
    go_ret
    exact ⟨by rw [hX.out]; rfl, d1⟩
  · have hN := hide (hF.out (fun h => q0 ⟨h.1, h.2.1⟩))
    have k0 : (t.pa == u.pa && t.pl == u.pl) = false := by
      by_cases h : t.pa = u.pa
      · have : ¬ t.pl = u.pl := fun k => q0 ⟨h, k⟩
        simp [this]
      · simp [h]
    clear hT hF q0 S0
    have he2 := fun w => (he t.pa t.pl u.pa u.pl w).trans (by rw [k0])
    clear he
    go_enter Try.func38, Try.ntmps38
    go_wp2_with fail
    go_ret
    exact ⟨by rw [hN.out]; rfl, dd⟩
end Go.Proofs.Ytlhdeeihpaogkaa
