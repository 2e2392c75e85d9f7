/- What SameAddrs and FewestOf answer at any lists, and what holds of it. -/
import Derived.Test.YtofalilkephkpaaW3k
import Derived.Test.YtofalilkephkpaaPlain3f
import Derived.Test.YtofalilkephkpaaI3h
import Derived.Test.YtofalilkephkpaaS3e
import Derived.Test.YtofalilkephkpaaS3f
namespace Go.Proofs.Ytofalilkephkpaa
open Go.RowKit

theorem sumP_szs' (L : List Pf) : sumP L = szs L := by
  unfold sumP
  rw [szs_fold]
  omega
theorem goodL_gs' {L : List Pf} (G : Gs L) (h : L.length ≤ 64) : goodL L = true ∧ gsB L = true := by
  refine ⟨?_, (gsB_iff G.gd).2 G⟩
  unfold goodL
  rw [Bool.and_eq_true, decide_eq_true_eq]
  exact ⟨allGood_iff.2 G.gd, h⟩
/-- SameAddrs at two lists. -/
theorem same_ans (A B : List Pf) (ha : A.length ≤ 130) (hb : B.length ≤ 130) : ∃ (sm ok : Bool),
    (∀ a ca b cb w, SrcP a A ca w → SrcP b B cb w → Calls Try.prog 17 #[.slice a A.length ca, .slice b B.length cb] w fun e w' => e = .returned (.tuple #[.bool sm, .bool ok]) ∧ Below w.heap.size w w') ∧
    (∀ a ca b cb w, SrcP a A ca w → SrcP b B cb w → Calls Try.prog 16 #[.slice a A.length ca, .slice b B.length cb] w fun e w' => e = .returned (.tuple #[.bool sm, .bool ok]) ∧ Below w.heap.size w w') ∧
    ok = (goodL A && goodL B) ∧ (ok = true → sm = decide (fewS A = fewS B)) ∧ (ok = false → sm = false) := by
  cases hA : goodL A with
  | true =>
    cases hB : goodL B with
    | true => exact ⟨decide (fewS A = fewS B), true, fun a ca b cb w h1 h2 => s_sameAddrs_yes a ca A b cb B w h1.1 h2.1 hA hB, fun a ca b cb w h1 h2 => i_sameAddrs_yes a ca A b cb B w h1 h2 hA hB, rfl, fun _ => rfl, fun h => by simp at h⟩
    | false => exact ⟨false, false, fun a ca b cb w h1 h2 => s_sameAddrs_no a ca A b cb B w (by omega) (by omega) h1.1 h2.1 (.inr hB), fun a ca b cb w h1 h2 => i_sameAddrs_no a ca A b cb B w (by omega) (by omega) h1.1 h2.1 (.inr hB), rfl, fun h => by simp at h, fun _ => rfl⟩
  | false => exact ⟨false, false, fun a ca b cb w h1 h2 => s_sameAddrs_no a ca A b cb B w (by omega) (by omega) h1.1 h2.1 (.inl hA), fun a ca b cb w h1 h2 => i_sameAddrs_no a ca A b cb B w (by omega) (by omega) h1.1 h2.1 (.inl hA), rfl, fun h => by simp at h, fun _ => rfl⟩
/-- FewestOf at a list. -/
theorem few_ans (A : List Pf) (ha : A.length ≤ 130) : ∃ R : List Pf, R.length ≤ 64 ∧
    (∀ a ca w, SrcP a A ca w → Calls Try.prog 19 #[.slice a A.length ca] w (AnsP (goodL A) R w)) ∧
    (∀ a ca w, SrcP a A ca w → Calls Try.prog 18 #[.slice a A.length ca] w (AnsP (goodL A) R w)) ∧
    (goodL A = true → R = fewS A ∧ goodL R = true ∧ gsB R = true ∧ fewS R = R ∧ R.length ≤ A.length ∧ (∀ p ∈ R, 0 ≤ p.2 ∧ p.2 ≤ 32) ∧ ∀ z, hasL R z = hasL A z) := by
  cases hA : goodL A with
  | true =>
    obtain ⟨g1, g2⟩ := goodL_parts hA
    obtain ⟨G, hall, hlen⟩ := fewS_good g1
    obtain ⟨k1, k2⟩ := goodL_gs' G (by omega)
    refine ⟨fewS A, by omega, fun a ca w h => s_fewestOf_yes a ca A w h.1 hA, fun a ca w h => i_fewestOf_yes a ca A w h hA, fun _ => ⟨rfl, k1, k2, fewS_self G, hlen, fun p hp => ?_, fun z => ?_⟩⟩
    · have hgp : goodB p.1 p.2 = true := G.gd p hp
      obtain ⟨h1, _⟩ := goodB_iff.1 hgp
      exact h1
    · have hf : ∀ {L : List Pf}, (∀ p, p ∈ L → gdP p) → ∀ x, hasL L x = true ↔ allP L x := by
        intro L hg x
        unfold hasL
        rw [List.any_eq_true]
        constructor
        · rintro ⟨p, hp, h⟩
          exact ⟨p, hp, (hasB_iff (hg p hp) x).1 h⟩
        · rintro ⟨p, hp, h⟩
          exact ⟨p, hp, (hasB_iff (hg p hp) x).2 h⟩
      rw [Bool.eq_iff_iff, hf G.gd z, hf g1 z]
      exact hall z
  | false => exact ⟨[], by decide, fun a ca w h => (s_fewestOf_no a ca A w (by omega) h.1 hA).mono fun _ _ k => AnsP.zero w k, fun a ca w h => (i_fewestOf_no a ca A w (by omega) h.1 hA).mono fun _ _ k => AnsP.zero w k, fun h => by simp at h⟩
end Go.Proofs.Ytofalilkephkpaa
