/- The form of a store's value; bounds of what stores tell. -/
import Derived.Test.YtddbgmknbjdbcaaSt16
import Derived.Test.YtddbgmknbjdbcaaPlain16b
namespace Go.Proofs.Ytddbgmknbjdbcaa
open Go.RowKit

theorem RowSt.form {K : Bool} {v : Value} {s : Sto} {w : World} (h : RowSt K v s w) : ∃ ca kc ra kr ha kh, v = .agg #[.slice ca s.C.n kc, .slice ra s.R.n kr, .slice ha s.h kh, .int .i64 s.l] := by
  obtain ⟨ca, kc, ra, kr, ha, kh, e, _⟩ := h
  exact ⟨ca, kc, ra, kr, ha, kh, e⟩
theorem AnsSt.form {v : Value} {s : Sto} {lo hi : Nat} {w : World} (h : AnsSt v s lo hi w) : ∃ ca kc ra kr ha kh, v = .agg #[.slice ca s.C.n kc, .slice ra s.R.n kr, .slice ha s.h kh, .int .i64 s.l] := h.row.form
theorem totF_le {T : Nat → Lf} {m : Nat} : ∀ {n : Nat}, (∀ i, i < n → (T i).n ≤ m) → totF T n ≤ n * m
  | 0, _ => Nat.zero_le _
  | n + 1, h => by
    have h1 := totF_le (n := n) (fun i hi => h i (by omega))
    have h2 := h n (by omega)
    show totF T n + (T n).n ≤ (n + 1) * m
    rw [Nat.succ_mul]
    omega
theorem totF_gc {n : Nat} {T : Nat → Lf} (h : GC n T) : totF T n ≤ 150 := by
  have h1 := totF_le (T := T) (m := 5) (n := n) (fun i hi => (h.1 i hi).1.2.1)
  have h2 := h.2
  omega
theorem sumF_lsF (n : Nat) (T : Nat → Lf) : sumF (lsF n T) = totF T n := by
  induction n with
  | zero => rfl
  | succ n ih => rw [lsF_succ, sumF_app, ih]; rfl
theorem cofA_small {s : Sto} (h : LowSt s) : (cofA s).1.length ≤ 1048576 ∧ sumF (cofA s).1 ≤ 1048576 ∧ ∀ t, t ∈ (cofA s).1 → OkF t 1048576 := by
  by_cases g : GS s
  · rw [cofA_yes g]
    have h0 := h.2.2.2.1 0 (by have := g.2.2.1; omega)
    refine ⟨by rw [lsF_len]; exact h0.n, by rw [sumF_lsF]; exact Nat.le_trans (Nat.le_add_left _ _) h0.1, fun t ht => ?_⟩
    unfold lsF at ht
    rw [List.mem_map] at ht
    obtain ⟨i, hi, rfl⟩ := ht
    exact h0.2 i (List.mem_range.1 hi)
  · rw [cofA_no g]
    exact ⟨Nat.zero_le _, Nat.zero_le _, fun t ht => by simp at ht⟩
theorem penA_small {s : Sto} (h : LowSt s) : (penA s).1.length ≤ 1048576 ∧ sumC (penA s).1 ≤ 1048576 ∧ ∀ t, t ∈ (penA s).1 → t.t.n ≤ 1048576 := by
  by_cases g : GS s
  · rw [penA_yes g]
    have h1 := difA_len s.R.n s.R.T s.C.n s.C.T
    have h2 := g.1.2
    have h3 := g.2.1.2
    refine ⟨by omega, ?_, difA_low (fun i hi => (h.2.1.2 i hi).1) (fun i hi => (h.1.2 i hi).1)⟩
    have h4 : totF s.R.T s.R.n ≤ 150 := totF_gc g.2.1
    have h5 : totF s.C.T s.C.n ≤ 150 := totF_gc g.1
    omega
  · rw [penA_no g]
    exact ⟨Nat.zero_le _, Nat.zero_le _, fun t ht => by simp at ht⟩
end Go.Proofs.Ytddbgmknbjdbcaa
