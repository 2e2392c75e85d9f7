/- DoCommands in plain words: one command behind the other. -/
import Derived.Test.YtcfmnfoognopnaaSet15
import Derived.Test.YtcfmnfoognopnaaBnd15
import Derived.Test.YtcfmnfoognopnaaCmd15
namespace Go.Proofs.Ytcfmnfoognopnaa
open Go.RowKit

/-- Great enough for nothing: at most 30 leaves, each of few words. -/
def OkD (D : List Lf) : Prop := D.length ≤ 30 ∧ ∀ t, t ∈ D → 1 ≤ t.n ∧ t.n ≤ 5 ∧ OkF t 1048576
theorem OkD.nil : OkD [] := ⟨Nat.zero_le _, fun t h => by simp at h⟩
theorem okD_leaf {t : Lf} (hp : Pw t.n t.p) (hv : Wd t.v) : 1 ≤ t.n ∧ t.n ≤ 5 ∧ OkF t 1048576 :=
  ⟨hp.1, hp.2.1, by have := hp.2.1; omega, fun i hi => Nat.le_trans (hp.2.2 i hi).2.1 (by omega), Nat.le_trans hv.2.1 (by omega)⟩
theorem OkD.low {D : List Lf} (h : OkD D) : LowF D.length (TF D) := lowF_TF (fun t ht => (h.2 t ht).2.2)
theorem OkD.sum {D : List Lf} (h : ∀ t, t ∈ D → 1 ≤ t.n ∧ t.n ≤ 5 ∧ OkF t 1048576) : sumF D ≤ 5 * D.length := by
  induction D with
  | nil => exact Nat.zero_le _
  | cons t D ih =>
    have h1 := (h t (List.mem_cons_self ..)).2.1
    have h2 := ih (fun z hz => h z (List.mem_cons_of_mem _ hz))
    simp only [sumF, List.length_cons]
    omega
theorem okD_set (N : Nat) (T : Nat → Lf) (n : Nat) (p : Nat → ByteArray) (v : ByteArray) : OkD (setA N T n p v).1 := by
  unfold setA
  by_cases e : GC N T ∧ Pw n p ∧ Wd v ∧ GC (putF ⟨n, p, v⟩ (keepF T n p N)).length (TF (putF ⟨n, p, v⟩ (keepF T n p N)))
  · rw [if_pos (tB_t e)]
    refine ⟨e.2.2.2.2, fun t ht => ?_⟩
    obtain ⟨i, hi, he⟩ := List.getElem_of_mem ht
    have h1 := e.2.2.2.1 i hi
    rw [OkL, TF_eq hi, he] at h1
    exact okD_leaf h1.1 h1.2.1
  · rw [if_neg (by simp [tB_f e])]
    exact OkD.nil
theorem okD_del (N : Nat) (T : Nat → Lf) (n : Nat) (p : Nat → ByteArray) : OkD (delA N T n p).1 := by
  unfold delA
  by_cases e : GC N T ∧ Pw n p ∧ (delL N T n p).length ≠ N
  · rw [if_pos (tB_t e)]
    have hlen : (delL N T n p).length ≤ N := by
      have h0 : SmallF N (fun i => T i) (delL N T n p) := SmallF.flt (fun i hi => (okD_leaf (e.1.1 i hi).1 (e.1.1 i hi).2.1).2.2) (fun _ => Nat.le_refl _)
      exact h0.1
    refine ⟨Nat.le_trans hlen e.1.2, fun t ht => ?_⟩
    obtain ⟨i, hi, _, rfl⟩ := flt15_mem ht
    exact okD_leaf (e.1.1 i hi).1 (e.1.1 i hi).2.1
  · rw [if_neg (by simp [tB_f e])]
    exact OkD.nil
theorem okD_lsF {N : Nat} {T : Nat → Lf} (h : GC N T) : OkD (lsF N T) := by
  refine ⟨by rw [lsF_len]; exact h.2, fun t ht => ?_⟩
  simp only [lsF, List.mem_map, List.mem_range] at ht
  obtain ⟨i, hi, rfl⟩ := ht
  exact okD_leaf (h.1 i hi).1 (h.1 i hi).2.1
theorem setA_no {N : Nat} {T : Nat → Lf} {n : Nat} {p : Nat → ByteArray} {v : ByteArray} (h : (setA N T n p v).2 = false) : (setA N T n p v).1 = [] := by
  unfold setA at h ⊢
  split at h <;> simp_all
theorem delA_no {N : Nat} {T : Nat → Lf} {n : Nat} {p : Nat → ByteArray} (h : (delA N T n p).2 = false) : (delA N T n p).1 = [] := by
  unfold delA at h ⊢
  split at h <;> simp_all
/-- One command done to leaves. -/
noncomputable def stepC (u : Cm15) (D : List Lf) : List Lf × Bool :=
  if u.s = true then setA D.length (TF D) u.t.n u.t.p u.t.v else if u.t.v.toList = [] then delA D.length (TF D) u.t.n u.t.p else ([], false)
theorem stepC_ok (u : Cm15) (D : List Lf) : OkD (stepC u D).1 := by
  unfold stepC
  split
  · exact okD_set _ _ _ _ _
  · split
    · exact okD_del _ _ _ _
    · exact OkD.nil
theorem stepC_no {u : Cm15} {D : List Lf} (h : (stepC u D).2 = false) : (stepC u D).1 = [] := by
  unfold stepC at h ⊢
  split at h
  · rename_i e; rw [if_pos e]; exact setA_no h
  · rename_i e
    rw [if_neg e]
    split at h
    · rename_i e; rw [if_pos e]; exact delA_no h
    · rename_i e; rw [if_neg e]
/-- The first k commands done. -/
noncomputable def runC (C : Nat → Cm15) (D : List Lf) : Nat → List Lf × Bool
  | 0 => (D, true)
  | k + 1 => if (runC C D k).2 = true then stepC (C k) (runC C D k).1 else ([], false)
theorem runC_ok (C : Nat → Cm15) {D : List Lf} (h : OkD D) : ∀ k, OkD (runC C D k).1
  | 0 => h
  | k + 1 => by
    unfold runC
    split
    · exact stepC_ok _ _
    · exact OkD.nil
theorem runC_no {C : Nat → Cm15} {D : List Lf} {k : Nat} (h : (runC C D k).2 = false) : (runC C D k).1 = [] := by
  cases k with
  | zero => simp [runC] at h
  | succ k =>
    unfold runC at h ⊢
    split at h
    · rename_i e; rw [if_pos e]; exact stepC_no h
    · rename_i e; rw [if_neg e]
theorem runC_stop {C : Nat → Cm15} {D : List Lf} {k : Nat} (h : (runC C D k).2 = false) : ∀ j, runC C D (k + j) = ([], false)
  | 0 => Prod.ext (runC_no h) h
  | j + 1 => by
    rw [show k + (j + 1) = (k + j) + 1 by omega]
    unfold runC
    rw [runC_stop h j]
    rfl
theorem runC_next {C : Nat → Cm15} {D : List Lf} {k : Nat} (h : (runC C D k).2 = true) : runC C D (k + 1) = stepC (C k) (runC C D k).1 := by
  show (if (runC C D k).2 = true then _ else _) = _
  rw [if_pos h]
/-- What DoCommands answers. -/
noncomputable def docA (N : Nat) (T : Nat → Lf) (m : Nat) (C : Nat → Cm15) : List Lf × Bool := if tB (GC N T ∧ m ≤ 80) then runC C (lsF N T) m else ([], false)
theorem docA_ok (N : Nat) (T : Nat → Lf) (m : Nat) (C : Nat → Cm15) : OkD (docA N T m C).1 := by
  unfold docA
  by_cases e : GC N T ∧ m ≤ 80
  · rw [if_pos (tB_t e)]
    exact runC_ok C (okD_lsF e.1) m
  · rw [if_neg (by simp [tB_f e])]
    exact OkD.nil
theorem docA_small (N : Nat) (T : Nat → Lf) (m : Nat) (C : Nat → Cm15) : (docA N T m C).1.length ≤ 30 ∧ sumF (docA N T m C).1 ≤ 150 ∧ ∀ t, t ∈ (docA N T m C).1 → OkF t 1048576 := by
  have h := docA_ok N T m C
  exact ⟨h.1, by have := OkD.sum h.2; have := h.1; omega, fun t ht => (h.2 t ht).2.2⟩
end Go.Proofs.Ytcfmnfoognopnaa
