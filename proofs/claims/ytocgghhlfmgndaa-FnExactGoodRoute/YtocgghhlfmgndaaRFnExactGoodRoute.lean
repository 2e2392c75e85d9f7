/- At every argument GoodRoute answers as the specification; it writes into no argument. -/
import Derived.Test.YtocgghhlfmgndaaW7a
import Derived.Test.YtocgghhlfmgndaaOpenRoute
import Derived.ProofKit
import Derived.OpenShut
import Derived.ShutString
import Derived.Lib.SmallJoins
namespace Go.Proofs.Ytocgghhlfmgndaa
open Go.ChangeShapes Go.WideShapes Go.ChangeAt Go.RowKit Go.Joins
open Go.ChangeMaps (open_string shut_string)

namespace RFnExactGoodRoute
theorem own : ownKnob Try.prog.godebug = none := by kernel_rfl
theorem laidOut : laidOutB Try.prog = true := by kernel_rfl

set_option maxRecDepth 100000 in
theorem lifted (os : Os) (started : os.Started) (H : Type) (enc : TypeId × Value → H) :
    ReturnsInHanded {} Try.checked os 3 .any (Rows.fnExactGoodRouteSpec.pre6 enc Try.prog Try.f3 Rows.fnExactGoodRouteRow.domain false) (Rows.fnExactGoodRouteSpec.post enc Try.prog Try.f3 false true false false) := by
  refine returnsInHanded_of_change (C := Try.checked) own started (by kernel_rfl) Try.func3
    (ChangeSpec.witness6 (enc := enc) (C := Try.checked) false ⟨#[], #[.agg #[.int .i64 0, .int .i64 0, .int .i64 0, .slice none 0 0, .int .i64 0, .int .i64 0, .int .i64 0, .slice none 0 0]], []⟩ 8 (by kernel_rfl) (by kernel_rfl) (by kernel_rfl) (by kernel_rfl)) ?_
  intro W base args ds gs before hval0 hW hcnd _
  have hval : ∀ (j : Nat) t v, Try.f3.params[j]? = some t → args[j]? = some v → Value.okWide Try.prog W .any base t v := hval0
  have hW' := hW
  obtain ⟨p, q, hA0, hV, rfl, hfz, hnd⟩ := hW
  have hA : DataW.TrodAll enc Try.prog W 0 (fun _ => true) true Try.f3.params.toList args.toList ds p := hA0
  rw [Try.params3] at hA hval
  obtain ⟨v0, vs0, d0, ds0, p0, q0, hargs, rfl, rfl, h0, r0⟩ := trodAll_cons hA
  obtain ⟨rfl, rfl, rfl⟩ := trodAll_nil r0
  obtain rfl : args = #[v0] := by cases args; simp_all
  obtain ⟨rfl, rfl⟩ := trodVars_none hV
  have k0 := h0
  have lt0 : ∀ x ∈ p0, x.block < W.heap.size := by obtain ⟨m, hm⟩ := k0; exact DataW.trod_lt m _ _ _ hm
  obtain ⟨pa0, pl0, o0, nx0, md0, pf0, aa0, an0, ac0, af0, ba0, bn0, bc0, bf0, rfl, hla0, hRa0, hlb0, hRb0⟩ : ∃ pa0 pl0 o0 nx0 md0 pf0 aa0 an0 ac0 af0 ba0 bn0 bc0 bf0, v0 = .agg #[.int .i64 pa0, .int .i64 pl0, .int .i64 o0, .slice aa0 an0 ac0, .int .i64 nx0, .int .i64 md0, .int .i64 pf0, .slice ba0 bn0 bc0] ∧ an0 ≤ maxLen ∧ RowInt aa0 an0 af0 W ∧ bn0 ≤ maxLen ∧ RowInt ba0 bn0 bf0 W := by
    obtain ⟨cs, rfl, hsz⟩ := okWide_struct Try.underlying28 (hval 0 28 v0 rfl rfl)
    have h8 : Try.prog.cellsOf 28 = 8 := by kernel_rfl
    obtain ⟨q0, q1, q2, q3, q4, q5, q6, q7, rfl⟩ := array8 (hsz.trans h8)
    obtain ⟨fuel, hf⟩ := h0
    obtain ⟨pa0, pl0, o0, nx0, md0, pf0, aa0, an0, ac0, af0, ba0, bn0, bc0, bf0, hvs, g0, g1, g2, g3⟩ := open_route (vs := [q0, q1, q2, q3, q4, q5, q6, q7]) rfl (by simpa [Value.cells] using hf)
    simp at hvs
    obtain ⟨rfl, rfl, rfl, rfl, rfl, rfl, rfl, rfl⟩ := hvs
    exact ⟨pa0, pl0, o0, nx0, md0, pf0, aa0, an0, ac0, af0, ba0, bn0, bc0, bf0, rfl, g0, g1, g2, g3⟩
  clear hA0 hval0
  refine (w_goodRoute pa0 pl0 o0 nx0 md0 pf0 aa0 an0 ac0 af0 ba0 bn0 bc0 bf0 W hla0 hRa0 hlb0 hRb0).mono fun e W' ⟨he, bel⟩ => ?_
  subst he
  exact ⟨_, rfl, _, _, _, [], _, [], hW', trodAll_mk1 (shut_bool Try.underlying4 _), (trodAll_cons_mk (Below.trod laidOut (by kernel_rfl) (of_decide_eq_true (by kernel_rfl)) k0 bel lt0) trodAll_mk0), rfl, bel.frame _, fun h => by cases h⟩

end RFnExactGoodRoute

theorem fnExactGoodRoute_holds : Rows.FnExactGoodRouteSaid :=
  OpenClaim.holds_of_wide 3 Try.f3 rfl rfl rfl rfl rfl rfl rfl ⟨rfl, rfl, rfl, rfl, rfl⟩ rfl rfl rfl rfl rfl (by kernel_rfl) Try.func3 (by kernel_rfl)
    (of_decide_eq_true (by kernel_rfl)) (by unfold Func.isWrapper; first | (rw [if_pos (by decide +kernel)]; kernel_rfl) | (rw [if_neg (by decide +kernel)]; exact ⟨rfl, rfl⟩))
    (fun os started H enc _ => RFnExactGoodRoute.lifted os started H enc)

#print axioms fnExactGoodRoute_holds
end Go.Proofs.Ytocgghhlfmgndaa
