/- FnExactStableOnes: at every argument StableOnes of the program answers as the specification, writes into no argument, and its answer owns its memory. No condition. -/
import Derived.Test.YtcnlabedlcmilaaW10h
import Derived.Test.YtcnlabedlcmilaaOpenSpp
import Derived.ProofKit
import Derived.OpenShut
import Derived.ShutString
import Derived.Lib.SmallJoins
namespace Go.Proofs.Ytcnlabedlcmilaa
open Go.ChangeShapes Go.WideShapes Go.ChangeAt Go.RowKit Go.Joins
open Go.ChangeMaps (open_string shut_string)

namespace RFnExactStableOnes
theorem own : ownKnob Try.prog.godebug = none := by kernel_rfl
theorem laidOut : laidOutB Try.prog = true := by kernel_rfl

set_option maxRecDepth 100000 in
theorem lifted (os : Os) (started : os.Started) (H : Type) (enc : TypeId × Value → H) :
    ReturnsInHanded {} Try.checked os 8 .any (Rows.fnExactStableOnesSpec.pre6 enc Try.prog Try.f8 Rows.fnExactStableOnesRow.domain false) (Rows.fnExactStableOnesSpec.post enc Try.prog Try.f8 false true false false) := by
  refine returnsInHanded_of_change (C := Try.checked) own started (by kernel_rfl) Try.func8
    (ChangeSpec.witness6 (enc := enc) (C := Try.checked) false ⟨#[], #[.agg #[.slice none 0 0]], []⟩ 8 (by kernel_rfl) (by kernel_rfl) (by kernel_rfl) (by kernel_rfl)) ?_
  intro W base args ds gs before hval0 hW hcnd _
  have hval : ∀ (j : Nat) t v, Try.f8.params[j]? = some t → args[j]? = some v → Value.okWide Try.prog W .any base t v := hval0
  have hW' := hW
  obtain ⟨p, q, hA0, hV, rfl, hfz, hnd⟩ := hW
  have hA : DataW.TrodAll enc Try.prog W 0 (fun _ => true) true Try.f8.params.toList args.toList ds p := hA0
  rw [Try.params8] at hA hval
  obtain ⟨v0, vs0, d0, ds0, p0, q0, hargs, rfl, rfl, h0, r0⟩ := trodAll_cons hA
  obtain ⟨rfl, rfl, rfl⟩ := trodAll_nil r0
  obtain rfl : args = #[v0] := by cases args; simp_all
  obtain ⟨rfl, rfl⟩ := trodVars_none hV
  have k0 := h0
  have lt0 : ∀ x ∈ p0, x.block < W.heap.size := by obtain ⟨m, hm⟩ := k0; exact DataW.trod_lt m _ _ _ hm
  obtain ⟨a0, n0, c0, U0, rfl, hn0, hX0, hR0⟩ : ∃ a0 n0 c0 U0, v0 = .agg #[.slice a0 n0 c0] ∧ n0 ≤ maxLen ∧ MaxS n0 U0 ∧ RowS3 a0 n0 U0 W := by
    obtain ⟨cs, rfl, hsz⟩ := okWide_struct Try.underlying24 (hval 0 24 v0 rfl rfl)
    have h1 : Try.prog.cellsOf 24 = 1 := by kernel_rfl
    obtain ⟨q0, rfl⟩ := arr1a (hsz.trans h1)
    obtain ⟨fuel, hf⟩ := h0
    obtain ⟨a0, n0, c0, U0, hvs, g0, g1, g2⟩ := open_spp (vs := [q0]) rfl (by simpa [Value.cells] using hf)
    simp at hvs
    subst hvs
    exact ⟨a0, n0, c0, U0, rfl, g0, g1, g2⟩
  clear hA0 hval0
  refine (w_stableOnesE a0 n0 c0 U0 W hn0 hX0 hR0).mono fun e W' ⟨he, bel⟩ => ?_
  subst he
  exact ⟨_, rfl, _, _, _, [], _, [], hW', trodAll_mk1 (shut_bool Try.underlying4 _), (trodAll_cons_mk (Below.trod laidOut (by kernel_rfl) (of_decide_eq_true (by kernel_rfl)) k0 bel lt0) trodAll_mk0), rfl, bel.frame _, fun h => by cases h⟩

end RFnExactStableOnes

theorem fnExactStableOnes_holds : Rows.FnExactStableOnesSaid :=
  OpenClaim.holds_of_wide 8 Try.f8 rfl rfl rfl rfl rfl rfl rfl ⟨rfl, rfl, rfl, rfl, rfl⟩ rfl rfl rfl rfl rfl (by kernel_rfl) Try.func8 (by kernel_rfl)
    (of_decide_eq_true (by kernel_rfl)) (by unfold Func.isWrapper; first | (rw [if_pos (by decide +kernel)]; kernel_rfl) | (rw [if_neg (by decide +kernel)]; exact ⟨rfl, rfl⟩))
    (fun os started H enc _ => RFnExactStableOnes.lifted os started H enc)

#print axioms fnExactStableOnes_holds
end Go.Proofs.Ytcnlabedlcmilaa
