/- The order of offers, plain: it is one, and the best are picked one after the other as a sort has them. -/
import Derived.Test.YtgkjokobbeahfaaPlain8b
namespace Go.Proofs.Ytgkjokobbeahfaa
open Go.RowKit

theorem firstO_neg (l : List Int) (d : Int) : firstO (l.map (fun x => - x)) (- d) = - firstO l d := by
  induction l with
  | nil => rfl
  | cons x l ih =>
    simp only [List.map_cons, firstO]
    by_cases h : x = 0
    · rw [if_pos h, if_pos (by omega)]; exact ih
    · rw [if_neg h, if_neg (by omega)]
theorem cmpO_swap (a b : Oc) : cmpO b a = - cmpO a b := by
  unfold cmpO
  by_cases h : a.pe = b.pe
  · rw [if_pos h, if_pos h.symm]; rfl
  · rw [if_neg h, if_neg (fun e => h e.symm), ← firstO_neg, cmpI_swap a.pe b.pe]
    congr 1
    unfold stepsO
    simp only [List.map_cons, List.map_nil]
    rw [cmpI_swap b.pf a.pf, cmpI_swap (a.n0 : Int) b.n0, cmpI_swap a.o b.o, cmpI_swap a.md b.md, cmpI_swap a.nx b.nx]
/-- The order, written out. -/
def ltL (a b : Oc) : Prop := b.pf < a.pf ∨ (b.pf = a.pf ∧ ((a.n0 : Int) < b.n0 ∨ ((a.n0 : Int) = b.n0 ∧ (a.o < b.o ∨ (a.o = b.o ∧ (a.md < b.md ∨ (a.md = b.md ∧ (a.nx < b.nx ∨ (a.nx = b.nx ∧ a.pe < b.pe)))))))))
theorem cmpO_lt {a b : Oc} (h : a.pe ≠ b.pe) : cmpO a b < 0 ↔ ltL a b := by
  unfold cmpO stepsO ltL
  rw [if_neg h]
  simp only [firstO, cmpI_zero]
  by_cases h1 : b.pf = a.pf
  · rw [if_pos h1]
    by_cases h2 : (a.n0 : Int) = b.n0
    · rw [if_pos h2]
      by_cases h3 : a.o = b.o
      · rw [if_pos h3]
        by_cases h4 : a.md = b.md
        · rw [if_pos h4]
          by_cases h5 : a.nx = b.nx
          · rw [if_pos h5, cmpI_neg]; omega
          · rw [if_neg h5, cmpI_neg]; omega
        · rw [if_neg h4, cmpI_neg]; omega
      · rw [if_neg h3, cmpI_neg]; omega
    · rw [if_neg h2, cmpI_neg]; omega
  · rw [if_neg h1, cmpI_neg]; omega
theorem cmpO_self {a b : Oc} (h : a.pe = b.pe) : cmpO a b = 0 := if_pos h
theorem cmpO_total {a b : Oc} (h : a.pe ≠ b.pe) (hn : ¬ cmpO b a < 0) : cmpO a b < 0 := by
  rw [cmpO_lt h]
  rw [cmpO_lt (fun e => h e.symm)] at hn
  unfold ltL at *
  omega
/-- The one that is before all others is picked. -/
theorem pkO_min {T : Nat → Oc} {n j : Nat} (hj : j < n) (h : ∀ i, i < n → i ≠ j → cmpO (T j) (T i) < 0) : pkO T (n - 1) = j := by
  have key : ∀ k, k < n → (k < j → pkO T k < j) ∧ (j ≤ k → pkO T k = j) := by
    intro k
    induction k with
    | zero => intro _; exact ⟨fun hk => hk, fun hk => by simp [pkO]; omega⟩
    | succ k ih =>
      intro hk
      obtain ⟨i1, i2⟩ := ih (by omega)
      have hp : pkO T (k + 1) = if cmpO (T (k + 1)) (T (pkO T k)) < 0 then k + 1 else pkO T k := rfl
      refine ⟨fun hlt => ?_, fun hle => ?_⟩
      · have := pkO_le T (k + 1)
        omega
      · by_cases e : k + 1 = j
        · have hlt := i1 (by omega)
          rw [hp, if_pos (by rw [e]; exact h _ (by omega) (by omega))]
          exact e
        · have hq := i2 (by omega)
          rw [hq] at hp
          have h1 := h (k + 1) hk (by omega)
          rw [hp, if_neg (by rw [cmpO_swap (T j) (T (k + 1))]; omega)]
  exact (key (n - 1) (by omega)).2 (by omega)
/-- The best ones' peers, one after the other. -/
def bsI (L : List Oc) : Nat := pkO (TL L) (L.length - 1)
def selO : Nat → List Oc → List Int
  | 0, _ => []
  | f + 1, L => if L.length = 0 then [] else (TL L (bsI L)).pe :: selO f (L.eraseIdx (bsI L))
theorem perm_erase {α : Type} {L : List α} {j : Nat} (hj : j < L.length) : L.Perm (L[j] :: L.eraseIdx j) := by
  induction L generalizing j with
  | nil => simp at hj
  | cons x L ih =>
    cases j with
    | zero => simp
    | succ j =>
      have hj' : j < L.length := by simpa using hj
      simp only [List.getElem_cons_succ, List.eraseIdx_cons_succ]
      exact ((ih hj').cons x).trans (List.Perm.swap _ _ _)
/-- What is sorted is what is picked. -/
theorem sel_sorted {S : List Oc} : ∀ {L : List Oc}, S.Perm L → S.Pairwise (fun a b => cmpO a b < 0) → S.map (·.pe) = selO L.length L := by
  induction S with
  | nil =>
    intro L hp _
    have : L = [] := hp.symm.eq_nil
    subst this
    rfl
  | cons s S ih =>
    intro L hp hs
    have hlen : L.length = S.length + 1 := by rw [← hp.length_eq]; rfl
    obtain ⟨hs1, hs2⟩ := List.pairwise_cons.1 hs
    have hmem : s ∈ L := hp.subset (by simp)
    obtain ⟨j, hj, hjs⟩ := List.getElem_of_mem hmem
    have hpe : S.Perm (L.eraseIdx j) := by
      have h1 := hp.trans (perm_erase hj)
      rw [hjs] at h1
      exact h1.cons_inv
    have hmin : ∀ i, i < L.length → i ≠ j → cmpO (TL L j) (TL L i) < 0 := by
      intro i hi hij
      rw [TL_eq hj, TL_eq hi, hjs]
      refine hs1 _ (hpe.symm.subset ?_)
      rw [List.mem_eraseIdx_iff_getElem]
      exact ⟨i, hi, hij, rfl⟩
    have hb : bsI L = j := pkO_min hj hmin
    rw [hlen]
    show _ = if L.length = 0 then [] else (TL L (bsI L)).pe :: selO S.length (L.eraseIdx (bsI L))
    rw [if_neg (by omega), hb, TL_eq hj, hjs]
    have hle : (L.eraseIdx j).length = S.length := hpe.length_eq.symm
    simp only [List.map_cons]
    rw [ih hpe hs2, hle]
end Go.Proofs.Ytgkjokobbeahfaa
