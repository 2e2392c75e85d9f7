/- What RangeOf, CutPrefix and MeetSets answer at any arguments, and what holds where they say yes. -/
import Derived.Test.YtlflfloopomaiaaW3k
import Derived.Test.YtlflfloopomaiaaPlain3f
import Derived.Test.YtlflfloopomaiaaS3d
import Derived.Test.YtlflfloopomaiaaI3b
import Derived.Test.YtlflfloopomaiaaI3l
import Derived.Test.YtlflfloopomaiaaS3h
import Derived.Test.YtlflfloopomaiaaI3h
import Derived.Test.YtlflfloopomaiaaS3e
namespace Go.Proofs.Ytlflfloopomaiaa
open Go.RowKit

theorem hasL_iff {L : List Pf} (hg : ∀ p, p ∈ L → gdP p) (x : Int) : hasL L x = true ↔ allP L x := by
  unfold hasL
  rw [List.any_eq_true]
  constructor
  · rintro ⟨p, hp, h⟩
    exact ⟨p, hp, (hasB_iff (hg p hp) x).1 h⟩
  · rintro ⟨p, hp, h⟩
    exact ⟨p, hp, (hasB_iff (hg p hp) x).2 h⟩
theorem goodL_gs {L : List Pf} (G : Gs L) (h : L.length ≤ 64) : goodL L = true ∧ gsB L = true := by
  refine ⟨?_, (gsB_iff G.gd).2 G⟩
  unfold goodL
  rw [Bool.and_eq_true, decide_eq_true_eq]
  exact ⟨allGood_iff.2 G.gd, h⟩
theorem sumP_szs (L : List Pf) : sumP L = szs L := by
  unfold sumP
  rw [szs_fold]
  omega
/-- RangeOf at two numbers. -/
theorem rng_ans (x y : Int) : ∃ (fl : Bool) (R : List Pf), R.length ≤ 64 ∧ (∀ w, Calls Try.prog 29 #[.int .i64 x, .int .i64 y] w (AnsP fl R w)) ∧ (∀ w, Calls Try.prog 28 #[.int .i64 x, .int .i64 y] w (AnsP fl R w)) ∧
    (fl = true → goodL R = true ∧ gsB R = true ∧ sumP (fewS R) = y - x + 1 ∧ ∀ z, hasL R z = (decide (x ≤ z) && decide (z ≤ y))) := by
  by_cases h : 0 ≤ x ∧ y ≤ 4294967295 ∧ x ≤ y
  · refine ⟨true, rngS x y, rngS_len h.2.2, fun w => s_rangeOf_yes x y w h.1 h.2.1 h.2.2, fun w => i_rangeOf_yes x y w h.1 h.2.1 h.2.2, fun _ => ?_⟩
    obtain ⟨G, hA⟩ := rngS_good h.1 h.2.1 h.2.2
    obtain ⟨g1, g2⟩ := goodL_gs G (rngS_len h.2.2)
    refine ⟨g1, g2, ?_, fun z => ?_⟩
    · rw [fewS_self G, sumP_szs, rngS_szs h.1 h.2.1 h.2.2]
    · have e := (hasL_iff G.gd z).trans (hA z)
      rw [Bool.eq_iff_iff, e]
      simp
  · exact ⟨false, [], by decide, fun w => (s_rangeOf_no x y w h).mono fun _ _ k => AnsP.zero w k, fun w => (i_rangeOf_no x y w h).mono fun _ _ k => AnsP.zero w k, fun h => by simp at h⟩
/-- CutPrefix at a list and a prefix. -/
theorem cut_ans (L : List Pf) (pa pl : Int) (hl : L.length ≤ 130) : ∃ (fl : Bool) (C : List Pf), C.length ≤ 64 ∧
    (∀ a ca w, SrcP a L ca w → Calls Try.prog 32 #[.slice a L.length ca, .agg #[.int .i64 pa, .int .i64 pl]] w (AnsP fl C w)) ∧ (∀ a ca w, SrcP a L ca w → Calls Try.prog 31 #[.slice a L.length ca, .agg #[.int .i64 pa, .int .i64 pl]] w (AnsP fl C w)) ∧
    (fl = true → goodL L = true ∧ goodB pa pl = true ∧ goodL C = true ∧ gsB C = true ∧ ∀ z, hasL C z = (hasL L z && !hasB pa pl z)) := by
  by_cases hg : goodL L = true ∧ goodB pa pl = true
  · refine ⟨decide ((cutS (fewS L) (pa, pl)).length ≤ 64), if (cutS (fewS L) (pa, pl)).length ≤ 64 then cutS (fewS L) (pa, pl) else [], by split <;> first | omega | decide, fun a ca w h => s_cutPrefix_yes a ca L (pa, pl) w h.1 hg.1 hg.2, fun a ca w h => i_cutPrefix_yes a ca L (pa, pl) w h hg.1 hg.2, fun h => ?_⟩
    have h64 : (cutS (fewS L) (pa, pl)).length ≤ 64 := of_decide_eq_true h
    rw [if_pos h64]
    obtain ⟨g1, _⟩ := goodL_parts hg.1
    obtain ⟨G, hA, _⟩ := fewS_good g1
    have gp : gdP (pa, pl) := hg.2
    obtain ⟨c1, c2⟩ := cut_good G gp
    rw [(cut_same G gp).1] at h64 ⊢
    obtain ⟨k1, k2⟩ := goodL_gs c1 h64
    refine ⟨hg.1, hg.2, k1, k2, fun z => ?_⟩
    have e1 := (hasL_iff c1.gd z).trans (c2 z)
    have e2 := (hasL_iff g1 z).trans (hA z).symm
    have e3 := hasB_iff gp z
    rw [Bool.eq_iff_iff, e1, Bool.and_eq_true, e2]
    simp only [Bool.not_eq_true', ← Bool.not_eq_true]
    rw [e3]
  · have hg2 : goodL L = false ∨ goodB pa pl = false := by
      cases hx1 : goodL L with
      | false => exact .inl rfl
      | true =>
        cases hx2 : goodB pa pl with
        | false => exact .inr rfl
        | true => exact absurd ⟨hx1, hx2⟩ hg
    exact ⟨false, [], by decide, fun a ca w h => (s_cutPrefix_no a ca L pa pl w (by omega) h.1 hg2).mono fun _ _ k => AnsP.zero w k, fun a ca w h => (i_cutPrefix_no a ca L pa pl w (by omega) h.1 hg2).mono fun _ _ k => AnsP.zero w k, fun h => by simp at h⟩
/-- MeetSets at two lists. -/
theorem meet_ans (L M : List Pf) (hl : L.length ≤ 130) (hm : M.length ≤ 130) : ∃ (fl : Bool) (C : List Pf), C.length ≤ 64 ∧
    (∀ a ca b cb w, SrcP a L ca w → SrcP b M cb w → Calls Try.prog 35 #[.slice a L.length ca, .slice b M.length cb] w (AnsP fl C w)) ∧ (∀ a ca b cb w, SrcP a L ca w → SrcP b M cb w → Calls Try.prog 34 #[.slice a L.length ca, .slice b M.length cb] w (AnsP fl C w)) ∧
    (fl = true → goodL L = true ∧ goodL M = true ∧ goodL C = true ∧ gsB C = true ∧ ∀ z, hasL C z = (hasL L z && hasL M z)) := by
  by_cases hg : goodL L = true ∧ goodL M = true
  · refine ⟨decide ((meetS L M).length ≤ 64), if (meetS L M).length ≤ 64 then meetS L M else [], by split <;> first | omega | decide, fun a ca b cb w h h2 => s_meetSets_yes a ca L b cb M w h.1 h2.1 hg.1 hg.2, fun a ca b cb w h h2 => i_meetSets_yes a ca L b cb M w h.1 h2.1 hg.1 hg.2, fun h => ?_⟩
    have h64 : (meetS L M).length ≤ 64 := of_decide_eq_true h
    rw [if_pos h64]
    obtain ⟨g1, _⟩ := goodL_parts hg.1
    obtain ⟨m1, _⟩ := goodL_parts hg.2
    rw [← meet_same g1 m1] at h64 ⊢
    obtain ⟨b1, b2⟩ := bothI_facts g1 m1
    obtain ⟨G, hA, _⟩ := fewS_good b1
    obtain ⟨k1, k2⟩ := goodL_gs G h64
    refine ⟨hg.1, hg.2, k1, k2, fun z => ?_⟩
    have e1 := ((hasL_iff G.gd z).trans (hA z)).trans (b2 z)
    rw [Bool.eq_iff_iff, e1, Bool.and_eq_true, hasL_iff g1 z, hasL_iff m1 z]
  · have hg2 : goodL L = false ∨ goodL M = false := by
      cases hx1 : goodL L with
      | false => exact .inl rfl
      | true =>
        cases hx2 : goodL M with
        | false => exact .inr rfl
        | true => exact absurd ⟨hx1, hx2⟩ hg
    exact ⟨false, [], by decide, fun a ca b cb w h h2 => (s_meetSets_no a ca L b cb M w (by omega) (by omega) h.1 h2.1 hg2).mono fun _ _ k => AnsP.zero w k, fun a ca b cb w h h2 => (i_meetSets_no a ca L b cb M w (by omega) (by omega) h.1 h2.1 hg2).mono fun _ _ k => AnsP.zero w k, fun h => by simp at h⟩
end Go.Proofs.Ytlflfloopomaiaa
