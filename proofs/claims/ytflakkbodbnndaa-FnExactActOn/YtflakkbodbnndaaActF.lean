/- ActOn of both in one form. -/
import Derived.Test.YtflakkbodbnndaaAll6
import Derived.Test.YtflakkbodbnndaaS7x
import Derived.Test.YtflakkbodbnndaaAll16
import Derived.Test.YtflakkbodbnndaaI7x1
import Derived.Test.YtflakkbodbnndaaI7x2
import Derived.Test.YtflakkbodbnndaaI7x3
import Derived.Test.YtflakkbodbnndaaI7x4
import Derived.Test.YtflakkbodbnndaaI7x5
namespace Go.Proofs.Ytflakkbodbnndaa
open Go.RowKit

/-- What ActOn answers. -/
def acR (k n : Int) (t : Ro) : Ro := if aoB k n t = true then doR k n t else ro0
theorem acR_yes {k n : Int} {t : Ro} (h : aoB k n t = true) : acR k n t = doR k n t := if_pos h
theorem acR_no {k n : Int} {t : Ro} (h : aoB k n t = false) : acR k n t = ro0 := if_neg (by rw [h]; simp)
theorem acR_low (k n : Int) (t : Ro) : (acR k n t).n0 ≤ 1048576 ∧ (acR k n t).n1 ≤ 1048576 := by
  cases h : aoB k n t with
  | false => rw [acR_no h]; exact ⟨by decide, by decide⟩
  | true =>
    rw [acR_yes h]
    simp only [aoB, Bool.and_eq_true] at h
    have := rt_small h.2.1
    exact do_small this.1 this.2
theorem i_actOnF (k n : Int) (t : Ro) (x0 c0 x1 c1 : Nat) (w : World) (h0 : t.n0 ≤ 1048576) (h1 : t.n1 ≤ 1048576) (R0 : RowInt (some ⟨x0, 0, none⟩) t.n0 t.f w) (R1 : RowInt (some ⟨x1, 0, none⟩) t.n1 t.g w) :
    Calls Try.prog 9 #[.agg #[.int .i64 k, .int .i64 n], .agg #[.int .i64 t.pa, .int .i64 t.pl, .int .i64 t.o, .slice (some ⟨x0, 0, none⟩) t.n0 c0, .int .i64 t.nx, .int .i64 t.md, .int .i64 t.pf, .slice (some ⟨x1, 0, none⟩) t.n1 c1]] w fun e w' => ∃ b0 d0 b1 d1, e = .returned (.tuple #[.agg #[.int .i64 (acR k n t).pa, .int .i64 (acR k n t).pl, .int .i64 (acR k n t).o, .slice b0 (acR k n t).n0 d0, .int .i64 (acR k n t).nx, .int .i64 (acR k n t).md, .int .i64 (acR k n t).pf, .slice b1 (acR k n t).n1 d1], .bool (aoB k n t)]) ∧ AnsG w.heap.size (acR k n t) b0 d0 b1 d1 w' ∧ Below w.heap.size w w' := by
  have X : Calls Try.prog 9 #[.agg #[.int .i64 k, .int .i64 n], .agg #[.int .i64 t.pa, .int .i64 t.pl, .int .i64 t.o, .slice (some ⟨x0, 0, none⟩) t.n0 c0, .int .i64 t.nx, .int .i64 t.md, .int .i64 t.pf, .slice (some ⟨x1, 0, none⟩) t.n1 c1]] w (AiP k n t w) := by
    by_cases hk : 1 ≤ k ∧ k ≤ 5
    · rcases (show k = 1 ∨ k = 2 ∨ k = 3 ∨ k = 4 ∨ k = 5 by omega) with rfl | rfl | rfl | rfl | rfl
      · exact i_actOn1 n t x0 0 c0 x1 0 c1 w h0 h1 R0 R1
      · exact i_actOn2 n t x0 0 c0 x1 0 c1 w h0 h1 R0 R1
      · exact i_actOn3 n t x0 0 c0 x1 0 c1 w h0 h1 R0 R1
      · exact i_actOn4 n t x0 0 c0 x1 0 c1 w h0 h1 R0 R1
      · exact i_actOn5 n t x0 0 c0 x1 0 c1 w h0 h1 R0 R1
    · exact i_actOn0 k n hk t x0 0 c0 x1 0 c1 w
  refine X.mono ?_
  rintro e w' ⟨b, ⟨hy, p, pc, q, qc, rfl, h1, h2, h3, P, Q⟩ | ⟨hn, rfl⟩⟩
  · rw [acR_yes hy, hy]
    exact ⟨_, _, _, _, rfl, ansG_own h1 h2 h3 P Q, b⟩
  · rw [acR_no hn, hn]
    exact ⟨none, 0, none, 0, rfl, ansG_zero _ _, b⟩
theorem s_actOnF (k n : Int) (t : Ro) (x0 c0 x1 c1 : Nat) (w : World) (h0 : t.n0 ≤ 1048576) (h1 : t.n1 ≤ 1048576) (R0 : RowInt (some ⟨x0, 0, none⟩) t.n0 t.f w) (R1 : RowInt (some ⟨x1, 0, none⟩) t.n1 t.g w) :
    Calls Try.prog 6 #[.agg #[.int .i64 k, .int .i64 n], .agg #[.int .i64 t.pa, .int .i64 t.pl, .int .i64 t.o, .slice (some ⟨x0, 0, none⟩) t.n0 c0, .int .i64 t.nx, .int .i64 t.md, .int .i64 t.pf, .slice (some ⟨x1, 0, none⟩) t.n1 c1]] w fun e w' => ∃ b0 d0 b1 d1, e = .returned (.tuple #[.agg #[.int .i64 (acR k n t).pa, .int .i64 (acR k n t).pl, .int .i64 (acR k n t).o, .slice b0 (acR k n t).n0 d0, .int .i64 (acR k n t).nx, .int .i64 (acR k n t).md, .int .i64 (acR k n t).pf, .slice b1 (acR k n t).n1 d1], .bool (aoB k n t)]) ∧ (RowInt b0 (acR k n t).n0 (acR k n t).f w' ∧ (RowInt b1 (acR k n t).n1 (acR k n t).g w')) ∧ (NewB w.heap.size b0 ∧ NewB w.heap.size b1) ∧ Below w.heap.size w w' := by
  refine (s_actOn k n t (some ⟨x0, 0, none⟩) c0 (some ⟨x1, 0, none⟩) c1 w h0 h1 ⟨R0.rowN, .inr ⟨_, _, rfl⟩⟩ ⟨R1.rowN, .inr ⟨_, _, rfl⟩⟩).mono ?_
  rintro e w' ⟨b, ⟨hy, p, pc, q, qc, rfl, P, Q, n0, n1⟩ | ⟨hn, rfl⟩⟩
  · rw [acR_yes hy, hy]
    exact ⟨_, _, _, _, rfl, ⟨rowN_int P.1, rowN_int Q.1⟩, ⟨n0, n1⟩, b⟩
  · rw [acR_no hn, hn]
    exact ⟨none, 0, none, 0, rfl, ⟨fun _ hi => absurd hi (Nat.not_lt_zero _), fun _ hi => absurd hi (Nat.not_lt_zero _)⟩, ⟨fun _ _ e => (by cases e), fun _ _ e => (by cases e)⟩, b⟩
end Go.Proofs.Ytflakkbodbnndaa
