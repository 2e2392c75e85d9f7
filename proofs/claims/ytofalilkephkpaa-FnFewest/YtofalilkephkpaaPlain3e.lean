/- The plain mathematics of the look at a good set. -/
import Derived.Test.YtofalilkephkpaaPlain3d
namespace Go.Proofs.Ytofalilkephkpaa

def tAt (L : List Pf) (i : Nat) : Pf := L.getD i (0, 0)
/-- What is wrong between the prefixes at i and k. -/
def badB (p q : Pf) : Bool := covP p q || isSib p q
def rowOk (L : List Pf) (i : Nat) : Bool := (List.range L.length).all (fun k => i == k || !badB (tAt L i) (tAt L k)) && (i == 0 || ltP (tAt L (i - 1)) (tAt L i))
def gsB (L : List Pf) : Bool := (List.range L.length).all (rowOk L)

theorem tAt_eq {L : List Pf} {i : Nat} (h : i < L.length) : tAt L i = L[i] := by
  unfold tAt
  rw [List.getD_eq_getElem?_getD, List.getElem?_eq_getElem h]
  rfl
theorem bef_lt {p q : Pf} (gp : gdP p) (h : befP p q) : ltP p q = true := by
  have := (gdP_parts gp).2.2.2.2.2.1
  unfold befP at h
  rw [ltP_iff]
  omega
theorem gsB_iff {L : List Pf} (hg : ∀ p, p ∈ L → gdP p) : gsB L = true ↔ Gs L := by
  have hm : ∀ i, i < L.length → tAt L i ∈ L := fun i h => by rw [tAt_eq h]; exact List.getElem_mem h
  have gi : ∀ i, i < L.length → gdP (tAt L i) := fun i h => hg _ (hm i h)
  unfold gsB
  rw [List.all_eq_true]
  constructor
  · intro h
    have h1 : ∀ i k, i < L.length → k < L.length → i ≠ k → badB (tAt L i) (tAt L k) = false := by
      intro i k hi hk hn
      have := h i (List.mem_range.2 hi)
      unfold rowOk at this
      rw [Bool.and_eq_true, List.all_eq_true] at this
      have := this.1 k (List.mem_range.2 hk)
      rw [Bool.or_eq_true, beq_iff_eq] at this
      rcases this with e | e
      · exact absurd e hn
      · simpa using e
    have h2 : ∀ i, i + 1 < L.length → ltP (tAt L i) (tAt L (i + 1)) = true := by
      intro i hi
      have := h (i + 1) (List.mem_range.2 hi)
      unfold rowOk at this
      rw [Bool.and_eq_true] at this
      simpa using this.2
    have h3 : ∀ d i, i + d + 1 < L.length → ltP (tAt L i) (tAt L (i + d + 1)) = true := by
      intro d
      induction d with
      | zero => intro i hi; exact h2 i hi
      | succ d ih =>
        intro i hi
        have a1 := ih i (by omega)
        have a2 := h2 (i + d + 1) (by omega)
        rw [ltP_iff] at *
        have e : i + (d + 1) + 1 = i + d + 1 + 1 := by omega
        rw [e]
        omega
    have h4 : ∀ i k, i < k → k < L.length → befP (tAt L i) (tAt L k) := by
      intro i k hik hk
      have a1 := h3 (k - i - 1) i (by omega)
      have e : i + (k - i - 1) + 1 = k := by omega
      rw [e, ltP_iff] at a1
      have b1 := h1 i k (by omega) hk (by omega)
      have b2 := h1 k i hk (by omega) (by omega)
      unfold badB at b1 b2
      rw [Bool.or_eq_false_iff] at b1 b2
      have g1 := gi i (by omega)
      have g2 := gi k hk
      have pk := (gdP_parts g2).2.2.2.2.2.1
      rcases tri g1 g2 with c | c | c | c
      · exact c
      · unfold befP at c; omega
      · rw [b1.1] at c; simp at c
      · rw [b2.1] at c; simp at c
    refine ⟨hg, ?_, ?_⟩
    · rw [List.pairwise_iff_getElem]
      intro i k hi hk hik
      have := h4 i k hik hk
      rw [tAt_eq hi, tAt_eq hk] at this
      exact this
    · intro r gr hr hl hh
      have f := half_of gr hr
      obtain ⟨i, hi, ei⟩ := List.getElem_of_mem hl
      obtain ⟨k, hk, ek⟩ := List.getElem_of_mem hh
      have hik : i ≠ k := by
        rintro rfl
        rw [ei] at ek
        have : r.1 = r.1 + pw (r.2 + 1) := congrArg Prod.fst ek
        have := pw_pos (r.2 + 1)
        omega
      have := h1 i k hi hk hik
      rw [tAt_eq hi, tAt_eq hk, ei, ek] at this
      unfold badB at this
      rw [Bool.or_eq_false_iff] at this
      have hs : isSib (loP r) (hiP r) = true := isSib_iff.2 ⟨by show (0 : Int) < r.2 + 1; have := (gdP_parts gr).1; omega, f.sl.symm⟩
      rw [hs] at this
      exact absurd this.2 (by simp)
  · intro G i hi
    rw [List.mem_range] at hi
    have h4 : ∀ i k, i < k → k < L.length → befP (tAt L i) (tAt L k) := by
      intro i k hik hk
      have := List.pairwise_iff_getElem.1 G.ch i k (by omega) hk hik
      rw [tAt_eq (by omega), tAt_eq hk]
      exact this
    unfold rowOk
    rw [Bool.and_eq_true, List.all_eq_true]
    constructor
    · intro k hk
      rw [List.mem_range] at hk
      rw [Bool.or_eq_true, beq_iff_eq]
      by_cases e : i = k
      · exact .inl e
      · refine .inr ?_
        rw [Bool.not_eq_true']
        unfold badB
        rw [Bool.or_eq_false_iff]
        have g1 := gi i hi
        have g2 := gi k hk
        have p1 := (gdP_parts g1).2.2.2.2.2.1
        have p2 := (gdP_parts g2).2.2.2.2.2.1
        have hd : befP (tAt L i) (tAt L k) ∨ befP (tAt L k) (tAt L i) := by
          rcases Nat.lt_or_gt_of_ne e with h | h
          · exact .inl (h4 i k h hk)
          · exact .inr (h4 k i h hi)
        constructor
        · cases hc : covP (tAt L i) (tAt L k) with
          | false => rfl
          | true =>
            rw [covP_iff g1 g2] at hc
            unfold befP at hd
            omega
        · cases hc : isSib (tAt L i) (tAt L k) with
          | false => rfl
          | true =>
            rw [isSib_iff] at hc
            obtain ⟨s1, s2⟩ := hc
            obtain ⟨a1, a2, _⟩ := par_of g1 (by omega)
            obtain ⟨_, _, h⟩ := sib_facts g1 (by omega)
            have m1 := hm i hi
            have m2 := hm k hk
            rw [s2] at m2
            rcases h with ⟨e1, e2⟩ | ⟨e1, e2⟩
            · rw [e1] at m1; rw [e2] at m2
              exact (G.nh _ a1 a2 m1 m2).elim
            · rw [e1] at m1; rw [e2] at m2
              exact (G.nh _ a1 a2 m2 m1).elim
    · rw [Bool.or_eq_true, beq_iff_eq]
      by_cases e : i = 0
      · exact .inl e
      · exact .inr (bef_lt (gi (i - 1) (by omega)) (h4 (i - 1) i (by omega) hi))
/-- The program's look: the list is the good set of its addresses. -/
theorem gs_self {L : List Pf} (hg : ∀ p, p ∈ L → gdP p) : decide (L = fewS L) = gsB L := by
  by_cases h : gsB L = true
  · rw [h, decide_eq_true_eq, few_self ((gsB_iff hg).1 h)]
  · have h' : gsB L = false := by simpa using h
    rw [h', decide_eq_false_iff_not]
    intro e
    apply h
    rw [gsB_iff hg, e]
    exact (fewS_good hg).1

end Go.Proofs.Ytofalilkephkpaa
