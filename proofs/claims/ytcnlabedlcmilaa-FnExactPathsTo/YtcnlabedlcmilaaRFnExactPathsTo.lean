/- FnExactPathsTo: at every argument PathsTo of the program answers as the specification, writes into no argument, and its answer owns its memory. No condition. -/
import Derived.Test.YtcnlabedlcmilaaW9e
import Derived.Test.YtcnlabedlcmilaaOpenArc
import Derived.Test.YtcnlabedlcmilaaOpenAlgebra
import Derived.ProofKit
import Derived.OpenShut
import Derived.ShutString
import Derived.Lib.SmallJoins
namespace Go.Proofs.Ytcnlabedlcmilaa
open Go.ChangeShapes Go.WideShapes Go.ChangeAt Go.RowKit Go.Joins
open Go.ChangeMaps (open_string shut_string)

namespace RFnExactPathsTo
theorem own : ownKnob Try.prog.godebug = none := by kernel_rfl
theorem laidOut : laidOutB Try.prog = true := by kernel_rfl

set_option maxRecDepth 100000 in
theorem lifted (os : Os) (started : os.Started) (H : Type) (enc : TypeId × Value → H) :
    ReturnsInHanded {} Try.checked os 12 .any (Rows.fnExactPathsToSpec.pre6 enc Try.prog Try.f12 Rows.fnExactPathsToRow.domain false) (Rows.fnExactPathsToSpec.post enc Try.prog Try.f12 false true false false) := by
  refine returnsInHanded_of_change (C := Try.checked) own started (by kernel_rfl) Try.func12
    (ChangeSpec.witness6 (enc := enc) (C := Try.checked) false ⟨#[], #[.agg #[.int .i64 0, .slice none 0 0], .slice none 0 0, .int .i64 0], []⟩ 8 (by kernel_rfl) (by kernel_rfl) (by kernel_rfl) (by kernel_rfl)) ?_
  intro W base args ds gs before hval0 hW hcnd _
  have hval : ∀ (j : Nat) t v, Try.f12.params[j]? = some t → args[j]? = some v → Value.okWide Try.prog W .any base t v := hval0
  have hW' := hW
  obtain ⟨p, q, hA0, hV, rfl, hfz, hnd⟩ := hW
  have hA : DataW.TrodAll enc Try.prog W 0 (fun _ => true) true Try.f12.params.toList args.toList ds p := hA0
  rw [Try.params12] at hA hval
  obtain ⟨v0, vs0, d0, ds0, p0, q0, hargs, rfl, rfl, h0, r0⟩ := trodAll_cons hA
  obtain ⟨v1, vs1, d1, ds1, p1, q1, rfl, rfl, rfl, h1, r1⟩ := trodAll_cons r0
  obtain ⟨v2, vs2, d2, ds2, p2, q2, rfl, rfl, rfl, h2, r2⟩ := trodAll_cons r1
  obtain ⟨rfl, rfl, rfl⟩ := trodAll_nil r2
  obtain rfl : args = #[v0, v1, v2] := by cases args; simp_all
  obtain ⟨rfl, rfl⟩ := trodVars_none hV
  have k0 := h0
  have lt0 : ∀ x ∈ p0, x.block < W.heap.size := by obtain ⟨m, hm⟩ := k0; exact DataW.trod_lt m _ _ _ hm
  obtain ⟨wt0, a0, n0, c0, T0, rfl, hn0, hX0, hR0⟩ : ∃ wt0 a0 n0 c0 T0, v0 = .agg #[.int .i64 wt0, .slice a0 n0 c0] ∧ n0 ≤ maxLen ∧ MaxL n0 T0 ∧ RowLL a0 n0 T0 W := by
    obtain ⟨cs, rfl, hsz⟩ := okWide_struct Try.underlying53 (hval 0 53 v0 rfl rfl)
    have h2 : Try.prog.cellsOf 53 = 2 := by kernel_rfl
    obtain ⟨q0, q1, rfl⟩ := arr2a (hsz.trans h2)
    obtain ⟨fuel, hf⟩ := h0
    obtain ⟨wt0, a0, n0, c0, T0, hvs, g0, g1, g2⟩ := open_algebra (vs := [q0, q1]) rfl (by simpa [Value.cells] using hf)
    simp at hvs
    obtain ⟨rfl, rfl⟩ := hvs
    exact ⟨wt0, a0, n0, c0, T0, rfl, g0, g1, g2⟩
  have k1 := h1
  have lt1 : ∀ x ∈ p1, x.block < W.heap.size := by obtain ⟨m, hm⟩ := k1; exact DataW.trod_lt m _ _ _ hm
  obtain ⟨a1, len1, cap1, rfl⟩ := okWide_slice Try.underlying54 (hval 1 54 v1 rfl rfl)
  obtain ⟨hl1, f1_0, f1_1, f1_2, hR1⟩ : len1 ≤ maxLen ∧ ∃ f1_0 f1_1 f1_2, RowArc a1 len1 f1_0 f1_1 f1_2 W := by
    obtain ⟨fuel, hf⟩ := h1
    exact open_rowArc (by simpa [Value.cells] using hf)
  have k2 := h2
  have lt2 : ∀ x ∈ p2, x.block < W.heap.size := by obtain ⟨m, hm⟩ := k2; exact DataW.trod_lt m _ _ _ hm
  obtain ⟨x2, rfl⟩ : ∃ x : Int, v2 = .int .i64 x := by
    obtain ⟨x, rfl, _⟩ := open_int Try.underlying3 (hval 2 3 v2 rfl rfl) h2
    exact ⟨x, rfl⟩
  clear hA0 hval0
  refine (w_pathsToE wt0 a0 n0 c0 T0 a1 len1 cap1 f1_0 f1_1 f1_2 x2 W hn0 hX0 hR0 hl1 hR1).mono fun e W' ⟨he, bel⟩ => ?_
  subst he
  exact ⟨_, rfl, _, _, _, [], _, [], hW', trodAll_mk1 (shut_bool Try.underlying4 _), (trodAll_cons_mk (Below.trod laidOut (by kernel_rfl) (of_decide_eq_true (by kernel_rfl)) k0 bel lt0) (trodAll_cons_mk (Below.trod laidOut (by kernel_rfl) (of_decide_eq_true (by kernel_rfl)) k1 bel lt1) (trodAll_cons_mk (Below.trod laidOut (by kernel_rfl) (of_decide_eq_true (by kernel_rfl)) k2 bel lt2) trodAll_mk0))), rfl, bel.frame _, fun h => by cases h⟩

end RFnExactPathsTo

theorem fnExactPathsTo_holds : Rows.FnExactPathsToSaid :=
  OpenClaim.holds_of_wide 12 Try.f12 rfl rfl rfl rfl rfl rfl rfl ⟨rfl, rfl, rfl, rfl, rfl⟩ rfl rfl rfl rfl rfl (by kernel_rfl) Try.func12 (by kernel_rfl)
    (of_decide_eq_true (by kernel_rfl)) (by unfold Func.isWrapper; first | (rw [if_pos (by decide +kernel)]; kernel_rfl) | (rw [if_neg (by decide +kernel)]; exact ⟨rfl, rfl⟩))
    (fun os started H enc _ => RFnExactPathsTo.lifted os started H enc)

#print axioms fnExactPathsTo_holds
end Go.Proofs.Ytcnlabedlcmilaa
