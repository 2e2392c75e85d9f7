/- At every argument TermFits answers as the specification; it writes into no argument. -/
import Derived.Test.YtocgghhlfmgndaaGreatW7fa
import Derived.Test.YtocgghhlfmgndaaGreatJI
import Derived.Test.YtocgghhlfmgndaaGreatJK
import Derived.ProofKit
import Derived.OpenShut
import Derived.ShutString
import Derived.Lib.SmallJoins
namespace Go.Proofs.YtocgghhlfmgndaaGreat
open Go.ChangeShapes Go.WideShapes Go.ChangeAt Go.RowKit Go.Joins
open Go.ChangeMaps (open_string shut_string)

namespace RFnExactTermFits
theorem own : ownKnob Tryz.prog.godebug = none := by kernel_rfl
theorem laidOut : laidOutB Tryz.prog = true := by kernel_rfl

set_option maxRecDepth 100000 in
theorem lifted (os : Os) (started : os.Started) (H : Type) (enc : TypeId × Value → H) :
    ReturnsInHanded {} Tryz.checked os 3 .any (Rows.fnExactTermFitsSpec.pre6 enc Tryz.prog Tryz.f3 Rows.fnExactTermFitsRow.domain false) (Rows.fnExactTermFitsSpec.post enc Tryz.prog Tryz.f3 false true false false) := by
  refine returnsInHanded_of_change (C := Tryz.checked) own started (by kernel_rfl) Tryz.func3
    (ChangeSpec.witness6 (enc := enc) (C := Tryz.checked) false ⟨#[], #[.agg #[.slice none 0 0, .slice none 0 0, .int .i64 0, .slice none 0 0, .int .i64 0], .agg #[.int .i64 0, .int .i64 0, .int .i64 0, .slice none 0 0, .int .i64 0, .int .i64 0, .int .i64 0, .slice none 0 0]], []⟩ 8 (by kernel_rfl) (by kernel_rfl) (by kernel_rfl) (by kernel_rfl)) ?_
  intro W base args ds gs before hval0 hW hcnd _
  have hval : ∀ (j : Nat) t v, Tryz.f3.params[j]? = some t → args[j]? = some v → Value.okWide Tryz.prog W .any base t v := hval0
  have hW' := hW
  obtain ⟨p, q, hA0, hV, rfl, hfz, hnd⟩ := hW
  have hA : DataW.TrodAll enc Tryz.prog W 0 (fun _ => true) true Tryz.f3.params.toList args.toList ds p := hA0
  rw [Tryz.params3] at hA hval
  obtain ⟨v0, vs0, d0, ds0, p0, q0, hargs, rfl, rfl, h0, r0⟩ := trodAll_cons hA
  obtain ⟨v1, vs1, d1, ds1, p1, q1, rfl, rfl, rfl, h1, r1⟩ := trodAll_cons r0
  obtain ⟨rfl, rfl, rfl⟩ := trodAll_nil r1
  obtain rfl : args = #[v0, v1] := by cases args; simp_all
  obtain ⟨rfl, rfl⟩ := trodVars_none hV
  have k0 := h0
  have lt0 : ∀ x ∈ p0, x.block < W.heap.size := by obtain ⟨m, hm⟩ := k0; exact DataW.trod_lt m _ _ _ hm
  obtain ⟨ra0, rc0, pa0, pc0, aa0, ac0, t0, rfl, hr0, hp0, ha0, hT0⟩ : ∃ (ra : Option Addr) (rc : Nat) (pa : Option Addr) (pc : Nat) (aa : Option Addr) (ac : Nat) (t : Tc), v0 = .agg #[.slice ra t.nr rc, .slice pa t.np pc, .int .i64 t.cm, .slice aa t.na ac, .int .i64 t.vd] ∧ t.nr ≤ maxLen ∧ t.np ≤ maxLen ∧ t.na ≤ maxLen ∧ TmIn ra pa pc aa t W := by
    obtain ⟨cs, rfl, hsz⟩ := okWide_struct Tryz.underlying26 (hval 0 26 v0 rfl rfl)
    have h5 : Tryz.prog.cellsOf 26 = 5 := by kernel_rfl
    obtain ⟨q0, q1, q2, q3, q4, rfl⟩ := arr5 (hsz.trans h5)
    obtain ⟨fuel, hf⟩ := h0
    obtain ⟨ra0, rc0, pa0, pc0, aa0, ac0, t0, hvs, g0, g1, g2, g3⟩ := open_term (vs := [q0, q1, q2, q3, q4]) rfl (by simpa [Value.cells] using hf)
    simp at hvs
    obtain ⟨rfl, rfl, rfl, rfl, rfl⟩ := hvs
    exact ⟨ra0, rc0, pa0, pc0, aa0, ac0, t0, rfl, g0, g1, g2, g3⟩
  have k1 := h1
  have lt1 : ∀ x ∈ p1, x.block < W.heap.size := by obtain ⟨m, hm⟩ := k1; exact DataW.trod_lt m _ _ _ hm
  obtain ⟨pa1, pl1, o1, nx1, md1, pf1, aa1, an1, ac1, af1, ba1, bn1, bc1, bf1, rfl, hla1, hRa1, hlb1, hRb1⟩ : ∃ pa1 pl1 o1 nx1 md1 pf1 aa1 an1 ac1 af1 ba1 bn1 bc1 bf1, v1 = .agg #[.int .i64 pa1, .int .i64 pl1, .int .i64 o1, .slice aa1 an1 ac1, .int .i64 nx1, .int .i64 md1, .int .i64 pf1, .slice ba1 bn1 bc1] ∧ an1 ≤ maxLen ∧ RowInt aa1 an1 af1 W ∧ bn1 ≤ maxLen ∧ RowInt ba1 bn1 bf1 W := by
    obtain ⟨cs, rfl, hsz⟩ := okWide_struct Tryz.underlying33 (hval 1 33 v1 rfl rfl)
    have h8 : Tryz.prog.cellsOf 33 = 8 := by kernel_rfl
    obtain ⟨q0, q1, q2, q3, q4, q5, q6, q7, rfl⟩ := array8 (hsz.trans h8)
    obtain ⟨fuel, hf⟩ := h1
    obtain ⟨pa1, pl1, o1, nx1, md1, pf1, aa1, an1, ac1, af1, ba1, bn1, bc1, bf1, hvs, g0, g1, g2, g3⟩ := open_route (vs := [q0, q1, q2, q3, q4, q5, q6, q7]) rfl (by simpa [Value.cells] using hf)
    simp at hvs
    obtain ⟨rfl, rfl, rfl, rfl, rfl, rfl, rfl, rfl⟩ := hvs
    exact ⟨pa1, pl1, o1, nx1, md1, pf1, aa1, an1, ac1, af1, ba1, bn1, bc1, bf1, rfl, g0, g1, g2, g3⟩
  clear hA0 hval0
  refine (w_termFits ra0 rc0 pa0 pc0 aa0 ac0 t0 pa1 pl1 o1 nx1 md1 pf1 aa1 an1 ac1 af1 ba1 bn1 bc1 bf1 W hr0 hp0 ha0 hT0 hla1 hRa1 hlb1 hRb1).mono fun e W' ⟨he, bel⟩ => ?_
  subst he
  exact ⟨_, rfl, _, _, _, [], _, [], hW', trodAll_mk1 (shut_bool Tryz.underlying4 _), (trodAll_cons_mk (Below.trod laidOut (by kernel_rfl) (of_decide_eq_true (by kernel_rfl)) k0 bel lt0) (trodAll_cons_mk (Below.trod laidOut (by kernel_rfl) (of_decide_eq_true (by kernel_rfl)) k1 bel lt1) trodAll_mk0)), rfl, bel.frame _, fun h => by cases h⟩

end RFnExactTermFits

theorem fnExactTermFits_holds : Rows.FnExactTermFitsSaid :=
  OpenClaim.holds_of_wide 3 Tryz.f3 rfl rfl rfl rfl rfl rfl rfl ⟨rfl, rfl, rfl, rfl, rfl⟩ rfl rfl rfl rfl rfl (by kernel_rfl) Tryz.func3 (by kernel_rfl)
    (of_decide_eq_true (by kernel_rfl)) (by unfold Func.isWrapper; first | (rw [if_pos (by decide +kernel)]; kernel_rfl) | (rw [if_neg (by decide +kernel)]; exact ⟨rfl, rfl⟩))
    (fun os started H enc _ => RFnExactTermFits.lifted os started H enc)

#print axioms fnExactTermFits_holds
end Go.Proofs.YtocgghhlfmgndaaGreat
