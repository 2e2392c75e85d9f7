/- IsUp and StepSession of both. -/
import Derived.Test.YtencpplhlciffaaS12f
import Derived.Test.YtencpplhlciffaaI12a
import Derived.Test.YtencpplhlciffaaI12d
namespace Go.Proofs.Ytencpplhlciffaa
open Go.RowKit

/-- What StepSession answers. -/
def ssB (s : Se) (k n : Int) : Bool := gsB s && geB k n
def ssS (s : Se) (k n : Int) : Se := if GS s ∧ GE k n then (stp s k n).1 else ⟨0, 0, 0, 0, 0⟩
def ssT (s : Se) (k n : Int) : Int := if GS s ∧ GE k n then (stp s k n).2 else 0
theorem ss_t {s : Se} {k n : Int} (h : GS s) (e : GE k n) : ssB s k n = true ∧ ssS s k n = (stp s k n).1 ∧ ssT s k n = (stp s k n).2 :=
  ⟨by rw [ssB, gsB_t h, geB_t e]; rfl, if_pos ⟨h, e⟩, if_pos ⟨h, e⟩⟩
theorem ss_f {s : Se} {k n : Int} (h : ¬ (GS s ∧ GE k n)) : ssB s k n = false ∧ ssS s k n = ⟨0, 0, 0, 0, 0⟩ ∧ ssT s k n = 0 := by
  refine ⟨?_, if_neg h, if_neg h⟩
  by_cases g : GS s
  · rw [ssB, geB_f (fun e => h ⟨g, e⟩)]; simp
  · rw [ssB, gsB_f g]; rfl
set_option maxRecDepth 100000 in
set_option maxHeartbeats 1600000 in
theorem i_isUp (x0 x1 x2 x3 x4 : Int) (w : World) :
    Calls Try.prog 8 #[(⟨x0, x1, x2, x3, x4⟩ : Se).v] w fun e w' => e = .returned (.tuple #[.bool (gsB ⟨x0, x1, x2, x3, x4⟩ && x0 == 4), .bool (gsB ⟨x0, x1, x2, x3, x4⟩)]) ∧ Below w.heap.size w w' := by
  have s1 := hide (fun w => i_goodS x0 x1 x2 x3 x4 w)
  have M := Mut.new w #[.int .i64 x0, .int .i64 x1, .int .i64 x2, .int .i64 x3, .int .i64 x4] 27
  have d0 : Below w.heap.size w (w.alloc (.cells #[.int .i64 x0, .int .i64 x1, .int .i64 x2, .int .i64 x3, .int .i64 x4] 27)) := below_box (Below.refl _ _)
  generalize gsB ⟨x0, x1, x2, x3, x4⟩ = g at *
  cases g with
  | false =>
    go_enter Try.func8, Try.ntmps8
    go_wp2_with fail
    refine (s1.out _).mono ?_
    rintro e w1 ⟨rfl, b1⟩
    go_wp2_with fail
    go_ret2
    exact ⟨rfl, d0.trans (b1.mono d0.size)⟩
  | true =>
    rw [Bool.true_and]
    go_enter Try.func8, Try.ntmps8
    go_wp2_with fail
    refine (s1.out _).mono ?_
    rintro e w1 ⟨rfl, b1⟩
    have c0 := (M.below b1).2.1 0 _ rfl
    go_wp2_with fail
    go_ret2
    exact ⟨rfl, d0.trans (b1.mono d0.size)⟩
set_option maxRecDepth 100000 in
set_option maxHeartbeats 3200000 in
theorem s_stepSession (x0 x1 x2 x3 x4 k n : Int) (w : World) :
    Calls Try.prog 12 #[(⟨x0, x1, x2, x3, x4⟩ : Se).v, .agg #[.int .i64 k, .int .i64 n]] w fun e w' => ∃ v, e = .returned (.tuple #[(ssS ⟨x0, x1, x2, x3, x4⟩ k n).v, v, .bool (ssB ⟨x0, x1, x2, x3, x4⟩ k n)]) ∧ TB w.heap.size v (ssT ⟨x0, x1, x2, x3, x4⟩ k n) w' ∧ Below w.heap.size w w' := by
  have s1 := hide (fun w => s_goodS x0 x1 x2 x3 x4 w)
  have s2 := hide (fun w => s_event k n w)
  have MS : Mut (((w.alloc (.cells #[.int .i64 x0, .int .i64 x1, .int .i64 x2, .int .i64 x3, .int .i64 x4] 27)).alloc (.cells #[.int .i64 k, .int .i64 n] 33)).alloc (.cells #[.int .i64 0, .int .i64 0, .int .i64 0, .int .i64 0, .int .i64 0] 27)) w.heap.size [.int .i64 x0, .int .i64 x1, .int .i64 x2, .int .i64 x3, .int .i64 x4] := ((Mut.new w _ _).alloc _).alloc _
  have ME : Mut (((w.alloc (.cells #[.int .i64 x0, .int .i64 x1, .int .i64 x2, .int .i64 x3, .int .i64 x4] 27)).alloc (.cells #[.int .i64 k, .int .i64 n] 33)).alloc (.cells #[.int .i64 0, .int .i64 0, .int .i64 0, .int .i64 0, .int .i64 0] 27)) (w.heap.size + 1) [.int .i64 k, .int .i64 n] := by simpa using (Mut.new (w.alloc (.cells #[.int .i64 x0, .int .i64 x1, .int .i64 x2, .int .i64 x3, .int .i64 x4] 27)) #[.int .i64 k, .int .i64 n] 33).alloc (.cells #[.int .i64 0, .int .i64 0, .int .i64 0, .int .i64 0, .int .i64 0] 27)
  have MR : Mut (((w.alloc (.cells #[.int .i64 x0, .int .i64 x1, .int .i64 x2, .int .i64 x3, .int .i64 x4] 27)).alloc (.cells #[.int .i64 k, .int .i64 n] 33)).alloc (.cells #[.int .i64 0, .int .i64 0, .int .i64 0, .int .i64 0, .int .i64 0] 27)) (w.heap.size + 1 + 1) [.int .i64 0, .int .i64 0, .int .i64 0, .int .i64 0, .int .i64 0] := by simpa using Mut.new ((w.alloc (.cells #[.int .i64 x0, .int .i64 x1, .int .i64 x2, .int .i64 x3, .int .i64 x4] 27)).alloc (.cells #[.int .i64 k, .int .i64 n] 33)) #[.int .i64 0, .int .i64 0, .int .i64 0, .int .i64 0, .int .i64 0] 27
  have d0 : Below w.heap.size w (((w.alloc (.cells #[.int .i64 x0, .int .i64 x1, .int .i64 x2, .int .i64 x3, .int .i64 x4] 27)).alloc (.cells #[.int .i64 k, .int .i64 n] 33)).alloc (.cells #[.int .i64 0, .int .i64 0, .int .i64 0, .int .i64 0, .int .i64 0] 27)) := below_box3 (Below.refl _ _)
  by_cases g : GS ⟨x0, x1, x2, x3, x4⟩
  · rw [gsB_t g] at s1
    by_cases e : GE k n
    · rw [geB_t e] at s2
      have s3 := hide (fun w => s_step ⟨x0, x1, x2, x3, x4⟩ k n w g)
      rw [(ss_t g e).1, (ss_t g e).2.1, (ss_t g e).2.2]
      generalize stp ⟨x0, x1, x2, x3, x4⟩ k n = T at *
      obtain ⟨⟨y0, y1, y2, y3, y4⟩, t⟩ := T
      clear g e
      go_enter Try.func12, Try.ntmps12
      go_wp2_with fail
      generalize ((w.alloc (.cells #[.int .i64 x0, .int .i64 x1, .int .i64 x2, .int .i64 x3, .int .i64 x4] 27)).alloc (.cells #[.int .i64 k, .int .i64 n] 33)).alloc (.cells #[.int .i64 0, .int .i64 0, .int .i64 0, .int .i64 0, .int .i64 0] 27) = w0 at *
      refine (s1.out _).mono ?_
      rintro e w1 ⟨rfl, b1⟩
      replace MS := MS.below b1
      replace ME := ME.below b1
      replace MR := MR.below b1
      replace d0 := d0.trans (b1.mono d0.size)
      have z0 := MS.2.1 0 _ rfl
      have z1 := MS.2.1 1 _ rfl
      have z2 := MS.2.1 2 _ rfl
      have z3 := MS.2.1 3 _ rfl
      have z4 := MS.2.1 4 _ rfl
      have ze0 := ME.2.1 0 _ rfl
      have ze1 := ME.2.1 1 _ rfl
      have u0 := MR.2.1 0 _ rfl
      have f0 := MR.2.2 0 (by simp)
      have u1 := MR.2.1 1 _ rfl
      have f1 := MR.2.2 1 (by simp)
      have u2 := MR.2.1 2 _ rfl
      have f2 := MR.2.2 2 (by simp)
      have u3 := MR.2.1 3 _ rfl
      have f3 := MR.2.2 3 (by simp)
      have u4 := MR.2.1 4 _ rfl
      have f4 := MR.2.2 4 (by simp)
      clear b1 w0
      go_wp2_with fail
      refine (s2.out _).mono ?_
      rintro e w2 ⟨rfl, b2⟩
      replace MS := MS.below b2
      replace ME := ME.below b2
      replace MR := MR.below b2
      replace d0 := d0.trans (b2.mono d0.size)
      have z0 := MS.2.1 0 _ rfl
      have z1 := MS.2.1 1 _ rfl
      have z2 := MS.2.1 2 _ rfl
      have z3 := MS.2.1 3 _ rfl
      have z4 := MS.2.1 4 _ rfl
      have ze0 := ME.2.1 0 _ rfl
      have ze1 := ME.2.1 1 _ rfl
      have u0 := MR.2.1 0 _ rfl
      have f0 := MR.2.2 0 (by simp)
      have u1 := MR.2.1 1 _ rfl
      have f1 := MR.2.2 1 (by simp)
      have u2 := MR.2.1 2 _ rfl
      have f2 := MR.2.2 2 (by simp)
      have u3 := MR.2.1 3 _ rfl
      have f3 := MR.2.2 3 (by simp)
      have u4 := MR.2.1 4 _ rfl
      have f4 := MR.2.2 4 (by simp)
      clear b2
      go_wp2_with fail
      refine (s3.out _).mono ?_
      rintro e w3 ⟨v, rfl, T1, b3⟩
      have hw2 : w.heap.size + 1 + 1 < w2.heap.size := MR.1
      replace MS := MS.below b3
      replace ME := ME.below b3
      replace MR := MR.below b3
      replace d0 := d0.trans (b3.mono d0.size)
      have z0 := MS.2.1 0 _ rfl
      have z1 := MS.2.1 1 _ rfl
      have z2 := MS.2.1 2 _ rfl
      have z3 := MS.2.1 3 _ rfl
      have z4 := MS.2.1 4 _ rfl
      have ze0 := ME.2.1 0 _ rfl
      have ze1 := ME.2.1 1 _ rfl
      have u0 := MR.2.1 0 _ rfl
      have f0 := MR.2.2 0 (by simp)
      have u1 := MR.2.1 1 _ rfl
      have f1 := MR.2.2 1 (by simp)
      have u2 := MR.2.1 2 _ rfl
      have f2 := MR.2.2 2 (by simp)
      have u3 := MR.2.1 3 _ rfl
      have f3 := MR.2.2 3 (by simp)
      have u4 := MR.2.1 4 _ rfl
      have f4 := MR.2.2 4 (by simp)
      have hz := MR.1
      have d1 := d0
      have A0 := fun (o : Obj) k => old1 hz o k
      have A1 := fun (o : Obj) k => old1f hz o k
      clear b3 MS ME MR d0
      go_wp2_with fail
      refine bodyPost_ret (v := .tuple #[(⟨y0, y1, y2, y3, y4⟩ : Se).v, v, .bool true]) (by simp [results, Try.results12, go_sem, u0, u1, u2, u3, u4, old1, hz]) rfl ⟨_, rfl, ?_, (by (repeat (first | with_reducible exact Below.refl _ _ | with_reducible exact d1 | with_reducible apply Below.setCell | with_reducible apply Below.alloc)); all_goals (first | (simp; done) | (simp; omega) | omega))⟩
      exact TB.base (TB.below (TB.set (TB.set (TB.set (TB.set (TB.set T1 hw2 _ _) hw2 _ _) hw2 _ _) hw2 _ _) hw2 _ _) (below_box (Below.refl _ _))) (by omega)
    · rw [geB_f e] at s2
      rw [(ss_f (fun h => e h.2)).1, (ss_f (fun h => e h.2)).2.1, (ss_f (fun h => e h.2)).2.2]
      clear g e
      go_enter Try.func12, Try.ntmps12
      go_wp2_with fail
      generalize ((w.alloc (.cells #[.int .i64 x0, .int .i64 x1, .int .i64 x2, .int .i64 x3, .int .i64 x4] 27)).alloc (.cells #[.int .i64 k, .int .i64 n] 33)).alloc (.cells #[.int .i64 0, .int .i64 0, .int .i64 0, .int .i64 0, .int .i64 0] 27) = w0 at *
      refine (s1.out _).mono ?_
      rintro e w1 ⟨rfl, b1⟩
      replace MS := MS.below b1
      replace ME := ME.below b1
      replace MR := MR.below b1
      replace d0 := d0.trans (b1.mono d0.size)
      have z0 := MS.2.1 0 _ rfl
      have z1 := MS.2.1 1 _ rfl
      have z2 := MS.2.1 2 _ rfl
      have z3 := MS.2.1 3 _ rfl
      have z4 := MS.2.1 4 _ rfl
      have ze0 := ME.2.1 0 _ rfl
      have ze1 := ME.2.1 1 _ rfl
      have u0 := MR.2.1 0 _ rfl
      have f0 := MR.2.2 0 (by simp)
      have u1 := MR.2.1 1 _ rfl
      have f1 := MR.2.2 1 (by simp)
      have u2 := MR.2.1 2 _ rfl
      have f2 := MR.2.2 2 (by simp)
      have u3 := MR.2.1 3 _ rfl
      have f3 := MR.2.2 3 (by simp)
      have u4 := MR.2.1 4 _ rfl
      have f4 := MR.2.2 4 (by simp)
      clear b1 w0
      go_wp2_with fail
      refine (s2.out _).mono ?_
      rintro e w2 ⟨rfl, b2⟩
      replace MS := MS.below b2
      replace ME := ME.below b2
      replace MR := MR.below b2
      replace d0 := d0.trans (b2.mono d0.size)
      have z0 := MS.2.1 0 _ rfl
      have z1 := MS.2.1 1 _ rfl
      have z2 := MS.2.1 2 _ rfl
      have z3 := MS.2.1 3 _ rfl
      have z4 := MS.2.1 4 _ rfl
      have ze0 := ME.2.1 0 _ rfl
      have ze1 := ME.2.1 1 _ rfl
      have u0 := MR.2.1 0 _ rfl
      have f0 := MR.2.2 0 (by simp)
      have u1 := MR.2.1 1 _ rfl
      have f1 := MR.2.2 1 (by simp)
      have u2 := MR.2.1 2 _ rfl
      have f2 := MR.2.2 2 (by simp)
      have u3 := MR.2.1 3 _ rfl
      have f3 := MR.2.2 3 (by simp)
      have u4 := MR.2.1 4 _ rfl
      have f4 := MR.2.2 4 (by simp)
      clear b2
      have hz := MR.1
      have d1 := d0
      clear MS ME MR d0
      go_wp2_with fail
      exact bodyPost_ret (v := .tuple #[(⟨0, 0, 0, 0, 0⟩ : Se).v, .slice none 0 0, .bool false]) (by simp [results, Try.results12, go_sem, u0, u1, u2, u3, u4]) rfl ⟨_, rfl, TB.nil _ _, (by (repeat (first | with_reducible exact Below.refl _ _ | with_reducible exact d1 | with_reducible apply Below.setCell | with_reducible apply Below.alloc)); all_goals (first | (simp; done) | (simp; omega) | omega))⟩
  · rw [gsB_f g] at s1
    rw [(ss_f (fun h => g h.1)).1, (ss_f (fun h => g h.1)).2.1, (ss_f (fun h => g h.1)).2.2]
    clear g
    go_enter Try.func12, Try.ntmps12
    go_wp2_with fail
    generalize ((w.alloc (.cells #[.int .i64 x0, .int .i64 x1, .int .i64 x2, .int .i64 x3, .int .i64 x4] 27)).alloc (.cells #[.int .i64 k, .int .i64 n] 33)).alloc (.cells #[.int .i64 0, .int .i64 0, .int .i64 0, .int .i64 0, .int .i64 0] 27) = w0 at *
    refine (s1.out _).mono ?_
    rintro e w1 ⟨rfl, b1⟩
    replace MS := MS.below b1
    replace ME := ME.below b1
    replace MR := MR.below b1
    replace d0 := d0.trans (b1.mono d0.size)
    have z0 := MS.2.1 0 _ rfl
    have z1 := MS.2.1 1 _ rfl
    have z2 := MS.2.1 2 _ rfl
    have z3 := MS.2.1 3 _ rfl
    have z4 := MS.2.1 4 _ rfl
    have ze0 := ME.2.1 0 _ rfl
    have ze1 := ME.2.1 1 _ rfl
    have u0 := MR.2.1 0 _ rfl
    have f0 := MR.2.2 0 (by simp)
    have u1 := MR.2.1 1 _ rfl
    have f1 := MR.2.2 1 (by simp)
    have u2 := MR.2.1 2 _ rfl
    have f2 := MR.2.2 2 (by simp)
    have u3 := MR.2.1 3 _ rfl
    have f3 := MR.2.2 3 (by simp)
    have u4 := MR.2.1 4 _ rfl
    have f4 := MR.2.2 4 (by simp)
    clear b1 w0
    have hz := MR.1
    have d1 := d0
    clear MS ME MR d0
    go_wp2_with fail
    exact bodyPost_ret (v := .tuple #[(⟨0, 0, 0, 0, 0⟩ : Se).v, .slice none 0 0, .bool false]) (by simp [results, Try.results12, go_sem, u0, u1, u2, u3, u4]) rfl ⟨_, rfl, TB.nil _ _, (by (repeat (first | with_reducible exact Below.refl _ _ | with_reducible exact d1 | with_reducible apply Below.setCell | with_reducible apply Below.alloc)); all_goals (first | (simp; done) | (simp; omega) | omega))⟩
set_option maxRecDepth 100000 in
set_option maxHeartbeats 3200000 in
theorem i_stepSession (x0 x1 x2 x3 x4 k n : Int) (w : World) :
    Calls Try.prog 10 #[(⟨x0, x1, x2, x3, x4⟩ : Se).v, .agg #[.int .i64 k, .int .i64 n]] w fun e w' => ∃ v, e = .returned (.tuple #[(ssS ⟨x0, x1, x2, x3, x4⟩ k n).v, v, .bool (ssB ⟨x0, x1, x2, x3, x4⟩ k n)]) ∧ TB w.heap.size v (ssT ⟨x0, x1, x2, x3, x4⟩ k n) w' ∧ Below w.heap.size w w' := by
  have s1 := hide (fun w => i_goodS x0 x1 x2 x3 x4 w)
  have s2 := hide (fun w => i_event k n w)
  have MS : Mut (((w.alloc (.cells #[.int .i64 x0, .int .i64 x1, .int .i64 x2, .int .i64 x3, .int .i64 x4] 27)).alloc (.cells #[.int .i64 k, .int .i64 n] 33)).alloc (.cells #[.int .i64 0, .int .i64 0, .int .i64 0, .int .i64 0, .int .i64 0] 27)) w.heap.size [.int .i64 x0, .int .i64 x1, .int .i64 x2, .int .i64 x3, .int .i64 x4] := ((Mut.new w _ _).alloc _).alloc _
  have ME : Mut (((w.alloc (.cells #[.int .i64 x0, .int .i64 x1, .int .i64 x2, .int .i64 x3, .int .i64 x4] 27)).alloc (.cells #[.int .i64 k, .int .i64 n] 33)).alloc (.cells #[.int .i64 0, .int .i64 0, .int .i64 0, .int .i64 0, .int .i64 0] 27)) (w.heap.size + 1) [.int .i64 k, .int .i64 n] := by simpa using (Mut.new (w.alloc (.cells #[.int .i64 x0, .int .i64 x1, .int .i64 x2, .int .i64 x3, .int .i64 x4] 27)) #[.int .i64 k, .int .i64 n] 33).alloc (.cells #[.int .i64 0, .int .i64 0, .int .i64 0, .int .i64 0, .int .i64 0] 27)
  have MR : Mut (((w.alloc (.cells #[.int .i64 x0, .int .i64 x1, .int .i64 x2, .int .i64 x3, .int .i64 x4] 27)).alloc (.cells #[.int .i64 k, .int .i64 n] 33)).alloc (.cells #[.int .i64 0, .int .i64 0, .int .i64 0, .int .i64 0, .int .i64 0] 27)) (w.heap.size + 1 + 1) [.int .i64 0, .int .i64 0, .int .i64 0, .int .i64 0, .int .i64 0] := by simpa using Mut.new ((w.alloc (.cells #[.int .i64 x0, .int .i64 x1, .int .i64 x2, .int .i64 x3, .int .i64 x4] 27)).alloc (.cells #[.int .i64 k, .int .i64 n] 33)) #[.int .i64 0, .int .i64 0, .int .i64 0, .int .i64 0, .int .i64 0] 27
  have d0 : Below w.heap.size w (((w.alloc (.cells #[.int .i64 x0, .int .i64 x1, .int .i64 x2, .int .i64 x3, .int .i64 x4] 27)).alloc (.cells #[.int .i64 k, .int .i64 n] 33)).alloc (.cells #[.int .i64 0, .int .i64 0, .int .i64 0, .int .i64 0, .int .i64 0] 27)) := below_box3 (Below.refl _ _)
  by_cases g : GS ⟨x0, x1, x2, x3, x4⟩
  · rw [gsB_t g] at s1
    by_cases e : GE k n
    · rw [geB_t e] at s2
      have s3 := hide (fun w => i_step ⟨x0, x1, x2, x3, x4⟩ k n w g)
      rw [(ss_t g e).1, (ss_t g e).2.1, (ss_t g e).2.2]
      generalize stp ⟨x0, x1, x2, x3, x4⟩ k n = T at *
      obtain ⟨⟨y0, y1, y2, y3, y4⟩, t⟩ := T
      clear g e
      go_enter Try.func10, Try.ntmps10
      go_wp2_with fail
      generalize ((w.alloc (.cells #[.int .i64 x0, .int .i64 x1, .int .i64 x2, .int .i64 x3, .int .i64 x4] 27)).alloc (.cells #[.int .i64 k, .int .i64 n] 33)).alloc (.cells #[.int .i64 0, .int .i64 0, .int .i64 0, .int .i64 0, .int .i64 0] 27) = w0 at *
      refine (s1.out _).mono ?_
      rintro e w1 ⟨rfl, b1⟩
      replace MS := MS.below b1
      replace ME := ME.below b1
      replace MR := MR.below b1
      replace d0 := d0.trans (b1.mono d0.size)
      have z0 := MS.2.1 0 _ rfl
      have z1 := MS.2.1 1 _ rfl
      have z2 := MS.2.1 2 _ rfl
      have z3 := MS.2.1 3 _ rfl
      have z4 := MS.2.1 4 _ rfl
      have ze0 := ME.2.1 0 _ rfl
      have ze1 := ME.2.1 1 _ rfl
      have u0 := MR.2.1 0 _ rfl
      have f0 := MR.2.2 0 (by simp)
      have u1 := MR.2.1 1 _ rfl
      have f1 := MR.2.2 1 (by simp)
      have u2 := MR.2.1 2 _ rfl
      have f2 := MR.2.2 2 (by simp)
      have u3 := MR.2.1 3 _ rfl
      have f3 := MR.2.2 3 (by simp)
      have u4 := MR.2.1 4 _ rfl
      have f4 := MR.2.2 4 (by simp)
      clear b1 w0
      go_wp2_with fail
      refine (s2.out _).mono ?_
      rintro e w2 ⟨rfl, b2⟩
      replace MS := MS.below b2
      replace ME := ME.below b2
      replace MR := MR.below b2
      replace d0 := d0.trans (b2.mono d0.size)
      have z0 := MS.2.1 0 _ rfl
      have z1 := MS.2.1 1 _ rfl
      have z2 := MS.2.1 2 _ rfl
      have z3 := MS.2.1 3 _ rfl
      have z4 := MS.2.1 4 _ rfl
      have ze0 := ME.2.1 0 _ rfl
      have ze1 := ME.2.1 1 _ rfl
      have u0 := MR.2.1 0 _ rfl
      have f0 := MR.2.2 0 (by simp)
      have u1 := MR.2.1 1 _ rfl
      have f1 := MR.2.2 1 (by simp)
      have u2 := MR.2.1 2 _ rfl
      have f2 := MR.2.2 2 (by simp)
      have u3 := MR.2.1 3 _ rfl
      have f3 := MR.2.2 3 (by simp)
      have u4 := MR.2.1 4 _ rfl
      have f4 := MR.2.2 4 (by simp)
      clear b2
      go_wp2_with fail
      refine (s3.out _).mono ?_
      rintro e w3 ⟨v, rfl, T1, b3⟩
      have hw2 : w.heap.size + 1 + 1 < w2.heap.size := MR.1
      replace MS := MS.below b3
      replace ME := ME.below b3
      replace MR := MR.below b3
      replace d0 := d0.trans (b3.mono d0.size)
      have z0 := MS.2.1 0 _ rfl
      have z1 := MS.2.1 1 _ rfl
      have z2 := MS.2.1 2 _ rfl
      have z3 := MS.2.1 3 _ rfl
      have z4 := MS.2.1 4 _ rfl
      have ze0 := ME.2.1 0 _ rfl
      have ze1 := ME.2.1 1 _ rfl
      have u0 := MR.2.1 0 _ rfl
      have f0 := MR.2.2 0 (by simp)
      have u1 := MR.2.1 1 _ rfl
      have f1 := MR.2.2 1 (by simp)
      have u2 := MR.2.1 2 _ rfl
      have f2 := MR.2.2 2 (by simp)
      have u3 := MR.2.1 3 _ rfl
      have f3 := MR.2.2 3 (by simp)
      have u4 := MR.2.1 4 _ rfl
      have f4 := MR.2.2 4 (by simp)
      have hz := MR.1
      have d1 := d0
      have A0 := fun (o : Obj) k => old1 hz o k
      have A1 := fun (o : Obj) k => old1f hz o k
      clear b3 MS ME MR d0
      go_wp2_with fail
      refine bodyPost_ret (v := .tuple #[(⟨y0, y1, y2, y3, y4⟩ : Se).v, v, .bool true]) (by simp [results, Try.results10, go_sem, u0, u1, u2, u3, u4, old1, hz]) rfl ⟨_, rfl, ?_, (by (repeat (first | with_reducible exact Below.refl _ _ | with_reducible exact d1 | with_reducible apply Below.setCell | with_reducible apply Below.alloc)); all_goals (first | (simp; done) | (simp; omega) | omega))⟩
      exact TB.base (TB.below (TB.set (TB.set (TB.set (TB.set (TB.set T1 hw2 _ _) hw2 _ _) hw2 _ _) hw2 _ _) hw2 _ _) (below_box (Below.refl _ _))) (by omega)
    · rw [geB_f e] at s2
      rw [(ss_f (fun h => e h.2)).1, (ss_f (fun h => e h.2)).2.1, (ss_f (fun h => e h.2)).2.2]
      clear g e
      go_enter Try.func10, Try.ntmps10
      go_wp2_with fail
      generalize ((w.alloc (.cells #[.int .i64 x0, .int .i64 x1, .int .i64 x2, .int .i64 x3, .int .i64 x4] 27)).alloc (.cells #[.int .i64 k, .int .i64 n] 33)).alloc (.cells #[.int .i64 0, .int .i64 0, .int .i64 0, .int .i64 0, .int .i64 0] 27) = w0 at *
      refine (s1.out _).mono ?_
      rintro e w1 ⟨rfl, b1⟩
      replace MS := MS.below b1
      replace ME := ME.below b1
      replace MR := MR.below b1
      replace d0 := d0.trans (b1.mono d0.size)
      have z0 := MS.2.1 0 _ rfl
      have z1 := MS.2.1 1 _ rfl
      have z2 := MS.2.1 2 _ rfl
      have z3 := MS.2.1 3 _ rfl
      have z4 := MS.2.1 4 _ rfl
      have ze0 := ME.2.1 0 _ rfl
      have ze1 := ME.2.1 1 _ rfl
      have u0 := MR.2.1 0 _ rfl
      have f0 := MR.2.2 0 (by simp)
      have u1 := MR.2.1 1 _ rfl
      have f1 := MR.2.2 1 (by simp)
      have u2 := MR.2.1 2 _ rfl
      have f2 := MR.2.2 2 (by simp)
      have u3 := MR.2.1 3 _ rfl
      have f3 := MR.2.2 3 (by simp)
      have u4 := MR.2.1 4 _ rfl
      have f4 := MR.2.2 4 (by simp)
      clear b1 w0
      go_wp2_with fail
      refine (s2.out _).mono ?_
      rintro e w2 ⟨rfl, b2⟩
      replace MS := MS.below b2
      replace ME := ME.below b2
      replace MR := MR.below b2
      replace d0 := d0.trans (b2.mono d0.size)
      have z0 := MS.2.1 0 _ rfl
      have z1 := MS.2.1 1 _ rfl
      have z2 := MS.2.1 2 _ rfl
      have z3 := MS.2.1 3 _ rfl
      have z4 := MS.2.1 4 _ rfl
      have ze0 := ME.2.1 0 _ rfl
      have ze1 := ME.2.1 1 _ rfl
      have u0 := MR.2.1 0 _ rfl
      have f0 := MR.2.2 0 (by simp)
      have u1 := MR.2.1 1 _ rfl
      have f1 := MR.2.2 1 (by simp)
      have u2 := MR.2.1 2 _ rfl
      have f2 := MR.2.2 2 (by simp)
      have u3 := MR.2.1 3 _ rfl
      have f3 := MR.2.2 3 (by simp)
      have u4 := MR.2.1 4 _ rfl
      have f4 := MR.2.2 4 (by simp)
      clear b2
      have hz := MR.1
      have d1 := d0
      clear MS ME MR d0
      go_wp2_with fail
      exact bodyPost_ret (v := .tuple #[(⟨0, 0, 0, 0, 0⟩ : Se).v, .slice none 0 0, .bool false]) (by simp [results, Try.results10, go_sem, u0, u1, u2, u3, u4]) rfl ⟨_, rfl, TB.nil _ _, (by (repeat (first | with_reducible exact Below.refl _ _ | with_reducible exact d1 | with_reducible apply Below.setCell | with_reducible apply Below.alloc)); all_goals (first | (simp; done) | (simp; omega) | omega))⟩
  · rw [gsB_f g] at s1
    rw [(ss_f (fun h => g h.1)).1, (ss_f (fun h => g h.1)).2.1, (ss_f (fun h => g h.1)).2.2]
    clear g
    go_enter Try.func10, Try.ntmps10
    go_wp2_with fail
    generalize ((w.alloc (.cells #[.int .i64 x0, .int .i64 x1, .int .i64 x2, .int .i64 x3, .int .i64 x4] 27)).alloc (.cells #[.int .i64 k, .int .i64 n] 33)).alloc (.cells #[.int .i64 0, .int .i64 0, .int .i64 0, .int .i64 0, .int .i64 0] 27) = w0 at *
    refine (s1.out _).mono ?_
    rintro e w1 ⟨rfl, b1⟩
    replace MS := MS.below b1
    replace ME := ME.below b1
    replace MR := MR.below b1
    replace d0 := d0.trans (b1.mono d0.size)
    have z0 := MS.2.1 0 _ rfl
    have z1 := MS.2.1 1 _ rfl
    have z2 := MS.2.1 2 _ rfl
    have z3 := MS.2.1 3 _ rfl
    have z4 := MS.2.1 4 _ rfl
    have ze0 := ME.2.1 0 _ rfl
    have ze1 := ME.2.1 1 _ rfl
    have u0 := MR.2.1 0 _ rfl
    have f0 := MR.2.2 0 (by simp)
    have u1 := MR.2.1 1 _ rfl
    have f1 := MR.2.2 1 (by simp)
    have u2 := MR.2.1 2 _ rfl
    have f2 := MR.2.2 2 (by simp)
    have u3 := MR.2.1 3 _ rfl
    have f3 := MR.2.2 3 (by simp)
    have u4 := MR.2.1 4 _ rfl
    have f4 := MR.2.2 4 (by simp)
    clear b1 w0
    have hz := MR.1
    have d1 := d0
    clear MS ME MR d0
    go_wp2_with fail
    exact bodyPost_ret (v := .tuple #[(⟨0, 0, 0, 0, 0⟩ : Se).v, .slice none 0 0, .bool false]) (by simp [results, Try.results10, go_sem, u0, u1, u2, u3, u4]) rfl ⟨_, rfl, TB.nil _ _, (by (repeat (first | with_reducible exact Below.refl _ _ | with_reducible exact d1 | with_reducible apply Below.setCell | with_reducible apply Below.alloc)); all_goals (first | (simp; done) | (simp; omega) | omega))⟩
end Go.Proofs.Ytencpplhlciffaa
