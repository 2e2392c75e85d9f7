/- KindTo, MayTell of the specification. -/
import Derived.Test.YtgjohkpicajhpaaS11a
namespace Go.Proofs.Ytgjohkpicajhpaa
open Go.RowKit

/-- b, next are told of by a: whether it may be asked. -/
def MtOk (u : Int) (n : Nat) (f0 f1 f2 : Nat → Int) (a b x : Int) : Prop := b ≠ x ∧ kk u n f0 f1 f2 a b ≠ 0 ∧ kk u n f0 f1 f2 a x ≠ 0
noncomputable def mt1 (u : Int) (n : Nat) (f0 f1 f2 : Nat → Int) (a b x : Int) : Bool := pB (MtOk u n f0 f1 f2 a b x)
def Mt (u : Int) (n : Nat) (f0 f1 f2 : Nat → Int) (a b x : Int) : Prop := kk u n f0 f1 f2 a b = 1 ∨ kk u n f0 f1 f2 a x = 1
noncomputable def mt0 (u : Int) (n : Nat) (f0 f1 f2 : Nat → Int) (a b x : Int) : Bool := mt1 u n f0 f1 f2 a b x && pB (Mt u n f0 f1 f2 a b x)
theorem mt1_f {u : Int} {n : Nat} {f0 f1 f2 : Nat → Int} {a b x : Int} (h : ¬ MtOk u n f0 f1 f2 a b x) : mt1 u n f0 f1 f2 a b x = false ∧ mt0 u n f0 f1 f2 a b x = false := by
  have e : mt1 u n f0 f1 f2 a b x = false := pB_f h
  exact ⟨e, by rw [mt0, e, Bool.false_and]⟩
theorem mt1_t {u : Int} {n : Nat} {f0 f1 f2 : Nat → Int} {a b x : Int} (h : MtOk u n f0 f1 f2 a b x) : mt1 u n f0 f1 f2 a b x = true ∧ mt0 u n f0 f1 f2 a b x = ((kk u n f0 f1 f2 a b == 1) || (kk u n f0 f1 f2 a x == 1)) := by
  have e : mt1 u n f0 f1 f2 a b x = true := pB_t h
  refine ⟨e, ?_⟩
  rw [mt0, e, Bool.true_and]
  by_cases q : Mt u n f0 f1 f2 a b x
  · rw [pB_t q]
    rcases q with q | q <;> simp [q]
  · rw [pB_f q]
    have q1 : ¬ kk u n f0 f1 f2 a b = 1 := fun e => q (Or.inl e)
    have q2 : ¬ kk u n f0 f1 f2 a x = 1 := fun e => q (Or.inr e)
    simp [q1, q2]
theorem kk_self {u : Int} {n : Nat} {f0 f1 f2 : Nat → Int} (a : Int) : kk u n f0 f1 f2 a a = 0 := by
  rcases kk_both (u := u) (n := n) (f0 := f0) (f1 := f1) (f2 := f2) a a with h | h
  · exact h.1
  · exact absurd rfl h.2.2.2.2.2.2.2
set_option maxRecDepth 100000 in
set_option maxHeartbeats 1600000 in
theorem s_kindTo (u : Int) (ra : Option Addr) (n rc : Nat) (f0 f1 f2 : Nat → Int) (a b : Int) (w : World) (hn : n ≤ 1048576) (hc : n ≤ rc) (hA : RowRel ra n f0 f1 f2 w) :
    Calls Try.prog 10 #[.int .i64 u, .slice ra n rc, .int .i64 a, .int .i64 b] w fun e w' => e = .returned (.tuple #[.int .i64 (kk u n f0 f1 f2 a b), .bool (kk u n f0 f1 f2 a b != 0)]) ∧ Below w.heap.size w w' := by
  have SG := hide (fun w R => s_goodRels u ra n rc f0 f1 f2 w hn hc R)
  by_cases hG : GR u n f0 f1 f2
  · have SK := hide (fun w R => s_kind11 u ra n rc f0 f1 f2 a b w hG R)
    rw [show grB u n f0 f1 f2 = true from pB_t hG] at SG
    clear hG
    generalize kk u n f0 f1 f2 a b = r at *
    by_cases hr : r = 0
    · subst hr
      go_enter Try.func10, Try.ntmps10
      go_wp2_with fail
      refine (SG.out _ hA).mono ?_
      rintro e w1 ⟨rfl, b1⟩
      go_wp2_with fail
      refine (SK.out _ (hA.below b1)).mono ?_
      rintro e w2 ⟨rfl, b2⟩
      have d2 := b1.trans (b2.mono b1.size)
      go_wp2_with fail
      go_ret2
      exact ⟨rfl, d2⟩
    · have hr' : (r == 0) = false := by simp [hr]
      have hr2 := hide (show (r != 0) = true by simp [hr])
      clear hr
      go_enter Try.func10, Try.ntmps10
      go_wp2_with fail
      refine (SG.out _ hA).mono ?_
      rintro e w1 ⟨rfl, b1⟩
      go_wp2_with fail
      refine (SK.out _ (hA.below b1)).mono ?_
      rintro e w2 ⟨rfl, b2⟩
      have d2 := b1.trans (b2.mono b1.size)
      go_wp2_with fail
      refine (SK.out _ (hA.below d2)).mono ?_
      rintro e w3 ⟨rfl, b3⟩
      have d3 := d2.trans (b3.mono d2.size)
      go_wp2_with fail
      go_ret2
      exact ⟨by rw [hr2.out]; rfl, d3⟩
  · rw [show grB u n f0 f1 f2 = false from pB_f hG] at SG
    rw [kk_not hG]
    clear hG
    go_enter Try.func10, Try.ntmps10
    go_wp2_with fail
    refine (SG.out _ hA).mono ?_
    rintro e w1 ⟨rfl, b1⟩
    go_wp2_with fail
    go_ret2
    exact ⟨rfl, b1⟩
set_option maxRecDepth 100000 in
set_option maxHeartbeats 3200000 in
theorem s_mayTell (u : Int) (ra : Option Addr) (n rc : Nat) (f0 f1 f2 : Nat → Int) (a b x : Int) (w : World) (hn : n ≤ 1048576) (hc : n ≤ rc) (hA : RowRel ra n f0 f1 f2 w) :
    Calls Try.prog 12 #[.int .i64 u, .slice ra n rc, .int .i64 a, .int .i64 b, .int .i64 x] w fun e w' => e = .returned (.tuple #[.bool (mt0 u n f0 f1 f2 a b x), .bool (mt1 u n f0 f1 f2 a b x)]) ∧ Below w.heap.size w w' := by
  have SG := hide (fun w R => s_goodRels u ra n rc f0 f1 f2 w hn hc R)
  by_cases hG : GR u n f0 f1 f2
  · have SK := hide (fun w R => s_kind11 u ra n rc f0 f1 f2 a b w hG R)
    have SX := hide (fun w R => s_kind11 u ra n rc f0 f1 f2 a x w hG R)
    rw [show grB u n f0 f1 f2 = true from pB_t hG] at SG
    clear hG
    have hF : Hid (¬ MtOk u n f0 f1 f2 a b x → mt1 u n f0 f1 f2 a b x = false ∧ mt0 u n f0 f1 f2 a b x = false) := mt1_f
    have hT : Hid (MtOk u n f0 f1 f2 a b x → mt1 u n f0 f1 f2 a b x = true ∧ mt0 u n f0 f1 f2 a b x = ((kk u n f0 f1 f2 a b == 1) || (kk u n f0 f1 f2 a x == 1))) := mt1_t
    by_cases q0 : a = b
    · have hE := hide (hF.out (fun h => h.2.1 (by rw [q0]; exact kk_self b)))
      have q0' : (a == b) = true := by simp [q0]
      clear hF hT q0 SK SX
      generalize mt0 u n f0 f1 f2 a b x = r0 at *
      generalize mt1 u n f0 f1 f2 a b x = r1 at *
      go_enter Try.func12, Try.ntmps12
      go_wp2_with fail
      refine (SG.out _ hA).mono ?_
      rintro e w1 ⟨rfl, b1⟩
      go_wp2_with fail
      go_ret2
      exact ⟨by rw [hE.out.1, hE.out.2]; rfl, b1⟩
    · have q0' : (a == b) = false := by simp [q0]
      by_cases q1 : b = x
      · have hE := hide (hF.out (fun h => h.1 q1))
        have q1' : (b == x) = true := by simp [q1]
        clear hF hT q0 q1 SK SX
        generalize mt0 u n f0 f1 f2 a b x = r0 at *
        generalize mt1 u n f0 f1 f2 a b x = r1 at *
        go_enter Try.func12, Try.ntmps12
        go_wp2_with fail
        refine (SG.out _ hA).mono ?_
        rintro e w1 ⟨rfl, b1⟩
        go_wp2_with fail
        go_ret2
        exact ⟨by rw [hE.out.1, hE.out.2]; rfl, b1⟩
      · have q1' : (b == x) = false := by simp [q1]
        by_cases q2 : a = x
        · have hE := hide (hF.out (fun h => h.2.2 (by rw [q2]; exact kk_self x)))
          have q2' : (a == x) = true := by simp [q2]
          clear hF hT q0 q1 q2 SK SX
          generalize mt0 u n f0 f1 f2 a b x = r0 at *
          generalize mt1 u n f0 f1 f2 a b x = r1 at *
          go_enter Try.func12, Try.ntmps12
          go_wp2_with fail
          refine (SG.out _ hA).mono ?_
          rintro e w1 ⟨rfl, b1⟩
          go_wp2_with fail
          go_ret2
          exact ⟨by rw [hE.out.1, hE.out.2]; rfl, b1⟩
        · have q2' : (a == x) = false := by simp [q2]
          have hF2 : Hid (kk u n f0 f1 f2 a b = 0 ∨ kk u n f0 f1 f2 a x = 0 → mt1 u n f0 f1 f2 a b x = false ∧ mt0 u n f0 f1 f2 a b x = false) := fun h => hF.out (fun q => h.elim q.2.1 q.2.2)
          have hT2 : Hid (kk u n f0 f1 f2 a b ≠ 0 → kk u n f0 f1 f2 a x ≠ 0 → mt1 u n f0 f1 f2 a b x = true ∧ mt0 u n f0 f1 f2 a b x = ((kk u n f0 f1 f2 a b == 1) || (kk u n f0 f1 f2 a x == 1))) := fun h1 h2 => hT.out ⟨q1, h1, h2⟩
          clear hF hT q0 q1 q2
          generalize mt0 u n f0 f1 f2 a b x = r0 at *
          generalize mt1 u n f0 f1 f2 a b x = r1 at *
          generalize kk u n f0 f1 f2 a b = kb at *
          generalize kk u n f0 f1 f2 a x = kx at *
          by_cases z1 : kb = 0
          · have hE := hide (hF2.out (Or.inl z1))
            have z1' : (kb == 0) = true := by simp [z1]
            clear hF2 hT2 z1
            go_enter Try.func12, Try.ntmps12
            go_wp2_with fail
            refine (SG.out _ hA).mono ?_
            rintro e w1 ⟨rfl, b1⟩
            go_wp2_with fail
            refine (SK.out _ (hA.below b1)).mono ?_
            rintro e w2 ⟨rfl, b2⟩
            have d2 := b1.trans (b2.mono b1.size)
            go_wp2_with fail
            go_ret2
            exact ⟨by rw [hE.out.1, hE.out.2]; rfl, d2⟩
          · have z1' : (kb == 0) = false := by simp [z1]
            by_cases z2 : kx = 0
            · have hE := hide (hF2.out (Or.inr z2))
              have z2' : (kx == 0) = true := by simp [z2]
              clear hF2 hT2 z1 z2
              go_enter Try.func12, Try.ntmps12
              go_wp2_with fail
              refine (SG.out _ hA).mono ?_
              rintro e w1 ⟨rfl, b1⟩
              go_wp2_with fail
              refine (SK.out _ (hA.below b1)).mono ?_
              rintro e w2 ⟨rfl, b2⟩
              have d2 := b1.trans (b2.mono b1.size)
              go_wp2_with fail
              refine (SX.out _ (hA.below d2)).mono ?_
              rintro e w3 ⟨rfl, b3⟩
              have d3 := d2.trans (b3.mono d2.size)
              go_wp2_with fail
              go_ret2
              exact ⟨by rw [hE.out.1, hE.out.2]; rfl, d3⟩
            · have z2' : (kx == 0) = false := by simp [z2]
              have hE := hide (hT2.out z1 z2)
              clear hF2 hT2 z1 z2
              by_cases o1 : kb = 1
              · have o1' : (kb == 1) = true := by simp [o1]
                rw [o1'] at hE
                clear o1
                go_enter Try.func12, Try.ntmps12
                go_wp2_with fail
                refine (SG.out _ hA).mono ?_
                rintro e w1 ⟨rfl, b1⟩
                go_wp2_with fail
                refine (SK.out _ (hA.below b1)).mono ?_
                rintro e w2 ⟨rfl, b2⟩
                have d2 := b1.trans (b2.mono b1.size)
                go_wp2_with fail
                refine (SX.out _ (hA.below d2)).mono ?_
                rintro e w3 ⟨rfl, b3⟩
                have d3 := d2.trans (b3.mono d2.size)
                go_wp2_with fail
                refine (SK.out _ (hA.below d3)).mono ?_
                rintro e w4 ⟨rfl, b4⟩
                have d4 := d3.trans (b4.mono d3.size)
                go_wp2_with fail
                go_ret2
                exact ⟨by rw [hE.out.1, hE.out.2]; rfl, d4⟩
              · have o1' : (kb == 1) = false := by simp [o1]
                rw [o1', Bool.false_or] at hE
                clear o1
                go_enter Try.func12, Try.ntmps12
                go_wp2_with fail
                refine (SG.out _ hA).mono ?_
                rintro e w1 ⟨rfl, b1⟩
                go_wp2_with fail
                refine (SK.out _ (hA.below b1)).mono ?_
                rintro e w2 ⟨rfl, b2⟩
                have d2 := b1.trans (b2.mono b1.size)
                go_wp2_with fail
                refine (SX.out _ (hA.below d2)).mono ?_
                rintro e w3 ⟨rfl, b3⟩
                have d3 := d2.trans (b3.mono d2.size)
                go_wp2_with fail
                refine (SK.out _ (hA.below d3)).mono ?_
                rintro e w4 ⟨rfl, b4⟩
                have d4 := d3.trans (b4.mono d3.size)
                go_wp2_with fail
                refine (SX.out _ (hA.below d4)).mono ?_
                rintro e w5 ⟨rfl, b5⟩
                have d5 := d4.trans (b5.mono d4.size)
                go_wp2_with fail
                go_ret2
                exact ⟨by rw [hE.out.1, hE.out.2]; rfl, d5⟩
  · rw [show grB u n f0 f1 f2 = false from pB_f hG] at SG
    have hE := hide (mt1_f (a := a) (b := b) (x := x) (u := u) (n := n) (f0 := f0) (f1 := f1) (f2 := f2) (fun h => h.2.1 (kk_not hG a b)))
    generalize mt0 u n f0 f1 f2 a b x = r0 at *
    generalize mt1 u n f0 f1 f2 a b x = r1 at *
    clear hG
    go_enter Try.func12, Try.ntmps12
    go_wp2_with fail
    refine (SG.out _ hA).mono ?_
    rintro e w1 ⟨rfl, b1⟩
    go_wp2_with fail
    go_ret2
    exact ⟨by rw [hE.out.1, hE.out.2]; rfl, b1⟩
end Go.Proofs.Ytgjohkpicajhpaa
