/- An answer out of a written block: offers in any order, each with lists of its own. -/
import Derived.Test.YtgkjokobbeahfaaAns8
import Derived.Test.YtgkjokobbeahfaaIns8
namespace Go.Proofs.Ytgkjokobbeahfaa
open Go.RowKit

/-- No block is both's. -/
def DisO (e e' : Oe) : Prop := bxO e ≠ bxO e' ∧ bxO e ≠ byO e' ∧ byO e ≠ bxO e' ∧ byO e ≠ byO e'
theorem DisO.symm {e e' : Oe} (h : DisO e e') : DisO e' e := ⟨fun q => h.1 q.symm, fun q => h.2.2.1 q.symm, fun q => h.2.1 q.symm, fun q => h.2.2.2 q.symm⟩
/-- An offer whose lists are its own, none of them block c. -/
def FreO (base c : Nat) (w : World) (e : Oe) : Prop := e.a0 = some ⟨bxO e, 0, none⟩ ∧ e.a1 = some ⟨byO e, 0, none⟩ ∧ base ≤ bxO e ∧ base ≤ byO e ∧ bxO e ≠ byO e ∧ bxO e ≠ c ∧ byO e ≠ c ∧ OutInt (bxO e) e.t.n0 e.t.n0 e.t.f w ∧ OutInt (byO e) e.t.n1 e.t.n1 e.t.g w
theorem ans_mut {base c cp : Nat} {L : List Oe} {w : World} (hM : Mut w c (ucells L)) (hb : base ≤ c) (hE : ∀ e, e ∈ L → FreO base c w e) (hP : L.Pairwise DisO) : AnsO base (.slice (some ⟨c, 0, none⟩) L.length cp) (L.map (·.t)) w := by
  have hlen : (L.map (·.t)).length = L.length := by simp
  have htl : ∀ i, i < L.length → TL (L.map (·.t)) i = (uAt L i).t := by
    intro i hi
    rw [TL_eq (by simpa using hi), uAt_eq hi]
    simp
  have hRA : RowOA c L.length (fun i => bxO (uAt L i)) (fun i => byO (uAt L i)) (fun i => (uAt L i).c0) (fun i => (uAt L i).c1) (TL (L.map (·.t))) w := by
    intro i hi
    obtain ⟨k1, k2, _, _, _, _, _, k7, k8⟩ := hE _ (uAt_mem hi)
    obtain ⟨c0, c1, c2, c3, c4, c5, c6⟩ := uc_at hi
    unfold OneOA
    rw [htl i hi]
    rw [k1] at c2
    rw [k2] at c6
    refine ⟨mutO_of7 hM.1 (hM.2.1 _ _ c0) (hM.2.1 _ _ c1) (hM.2.1 _ _ c2) (hM.2.1 _ _ c3) (hM.2.1 _ _ c4) (hM.2.1 _ _ c5) (hM.2.1 _ _ c6) (fun q hq => hM.2.2 _ (by rw [uc_len]; omega)), k7, k8⟩
  have hSp : SepO c L.length (fun i => bxO (uAt L i)) (fun i => byO (uAt L i)) := by
    intro i hi
    obtain ⟨_, _, _, _, k5, k6, k7, _⟩ := hE _ (uAt_mem hi)
    refine ⟨k6, k7, k5, fun j hj hji => ?_⟩
    have hp := List.pairwise_iff_getElem.1 hP
    have hd : DisO (uAt L j) (uAt L i) := by
      rcases Nat.lt_or_gt_of_ne hji with hlt | hlt
      · have := hp j i hj hi hlt
        rwa [← uAt_eq hj, ← uAt_eq hi] at this
      · have := (hp i j hi hj hlt).symm
        rwa [← uAt_eq hj, ← uAt_eq hi] at this
    exact hd
  refine ⟨some ⟨c, 0, none⟩, cp, by rw [hlen], by rw [hlen]; exact hRA.row, .inr ⟨c, _, _, _, _, rfl, by rw [hlen]; exact hRA, by rw [hlen]; exact hSp, fun k hk => ?_⟩⟩
  rw [hlen] at hk
  rcases hk with rfl | ⟨i, hi, rfl | rfl⟩
  · exact hb
  · exact (hE _ (uAt_mem hi)).2.2.1
  · exact (hE _ (uAt_mem hi)).2.2.2.1
end Go.Proofs.Ytgkjokobbeahfaa
