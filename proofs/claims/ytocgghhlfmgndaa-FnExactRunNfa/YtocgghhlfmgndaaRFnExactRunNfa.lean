/- At every argument RunNfa answers as the specification, all three answers; it writes into no argument. -/
import Derived.Test.YtocgghhlfmgndaaW6r
import Derived.Test.YtocgghhlfmgndaaOpenInt
import Derived.Test.YtocgghhlfmgndaaOpenNfa
import Derived.ProofKit
import Derived.OpenShut
import Derived.ShutString
import Derived.Lib.SmallJoins
namespace Go.Proofs.Ytocgghhlfmgndaa
open Go.ChangeShapes Go.WideShapes Go.ChangeAt Go.RowKit Go.Joins
open Go.ChangeMaps (open_string shut_string)

namespace RFnExactRunNfa
theorem own : ownKnob Try.prog.godebug = none := by kernel_rfl
theorem laidOut : laidOutB Try.prog = true := by kernel_rfl

set_option maxRecDepth 100000 in
theorem lifted (os : Os) (started : os.Started) (H : Type) (enc : TypeId × Value → H) :
    ReturnsInHanded {} Try.checked os 8 .any (Rows.fnExactRunNfaSpec.pre6 enc Try.prog Try.f8 Rows.fnExactRunNfaRow.domain false) (Rows.fnExactRunNfaSpec.post enc Try.prog Try.f8 false true false false) := by
  refine returnsInHanded_of_change (C := Try.checked) own started (by kernel_rfl) Try.func8
    (ChangeSpec.witness6 (enc := enc) (C := Try.checked) false ⟨#[], #[.agg #[.int .i64 0, .int .i64 0, .int .i64 0, .slice none 0 0], .slice none 0 0], []⟩ 8 (by kernel_rfl) (by kernel_rfl) (by kernel_rfl) (by kernel_rfl)) ?_
  intro W base args ds gs before hval0 hW hcnd _
  have hval : ∀ (j : Nat) t v, Try.f8.params[j]? = some t → args[j]? = some v → Value.okWide Try.prog W .any base t v := hval0
  have hW' := hW
  obtain ⟨p, q, hA0, hV, rfl, hfz, hnd⟩ := hW
  have hA : DataW.TrodAll enc Try.prog W 0 (fun _ => true) true Try.f8.params.toList args.toList ds p := hA0
  rw [Try.params8] at hA hval
  obtain ⟨v0, vs0, d0, ds0, p0, q0, hargs, rfl, rfl, h0, r0⟩ := trodAll_cons hA
  obtain ⟨v1, vs1, d1, ds1, p1, q1, rfl, rfl, rfl, h1, r1⟩ := trodAll_cons r0
  obtain ⟨rfl, rfl, rfl⟩ := trodAll_nil r1
  obtain rfl : args = #[v0, v1] := by cases args; simp_all
  obtain ⟨rfl, rfl⟩ := trodVars_none hV
  have k0 := h0
  have lt0 : ∀ x ∈ p0, x.block < W.heap.size := by obtain ⟨m, hm⟩ := k0; exact DataW.trod_lt m _ _ _ hm
  obtain ⟨s0_, st0_, en0_, ra0_, rn0_, rc0_, f00_, f10_, f20_, f30_, f40_, rfl, hn0, hR0⟩ : ∃ s0_ st0_ en0_ ra0_ rn0_ rc0_ f00_ f10_ f20_ f30_ f40_, v0 = .agg #[.int .i64 s0_, .int .i64 st0_, .int .i64 en0_, .slice ra0_ rn0_ rc0_] ∧ rn0_ ≤ maxLen ∧ RowNfaEdge ra0_ rn0_ f00_ f10_ f20_ f30_ f40_ W := by
    obtain ⟨cs, rfl, hsz⟩ := okWide_struct Try.underlying73 (hval 0 73 v0 rfl rfl)
    have h4 : Try.prog.cellsOf 73 = 4 := by kernel_rfl
    obtain ⟨q0, q1, q2, q3, rfl⟩ := array4n (hsz.trans h4)
    obtain ⟨fuel, hf⟩ := h0
    obtain ⟨s0_, st0_, en0_, ra0_, rn0_, rc0_, f00_, f10_, f20_, f30_, f40_, hvs, hh⟩ := open_nfa (vs := [q0, q1, q2, q3]) rfl (by simpa [Value.cells] using hf)
    simp at hvs
    obtain ⟨rfl, rfl, rfl, rfl⟩ := hvs
    exact ⟨s0_, st0_, en0_, ra0_, rn0_, rc0_, f00_, f10_, f20_, f30_, f40_, rfl, hh⟩
  have k1 := h1
  have lt1 : ∀ x ∈ p1, x.block < W.heap.size := by obtain ⟨m, hm⟩ := k1; exact DataW.trod_lt m _ _ _ hm
  obtain ⟨a1, len1, cap1, rfl⟩ := okWide_slice Try.underlying24 (hval 1 24 v1 rfl rfl)
  obtain ⟨hl1, f1, hR1⟩ : len1 ≤ maxLen ∧ ∃ f, RowInt a1 len1 f W := by
    obtain ⟨fuel, hf⟩ := h1
    exact open_rowInt (by simpa [Value.cells] using hf)
  clear hA0 hval0
  refine (w_runNfa s0_ st0_ en0_ ra0_ rn0_ rc0_ f00_ f10_ f20_ f30_ f40_ a1 len1 cap1 f1 W hn0 hR0 hl1 hR1).mono fun e W' ⟨he, bel⟩ => ?_
  subst he
  exact ⟨_, rfl, _, _, _, [], _, [], hW', trodAll_mk1 (shut_bool Try.underlying4 _), (trodAll_cons_mk (Below.trod laidOut (by kernel_rfl) (of_decide_eq_true (by kernel_rfl)) k0 bel lt0) (trodAll_cons_mk (Below.trod laidOut (by kernel_rfl) (of_decide_eq_true (by kernel_rfl)) k1 bel lt1) trodAll_mk0)), rfl, bel.frame _, fun h => by cases h⟩

end RFnExactRunNfa

theorem fnExactRunNfa_holds : Rows.FnExactRunNfaSaid :=
  OpenClaim.holds_of_wide 8 Try.f8 rfl rfl rfl rfl rfl rfl rfl ⟨rfl, rfl, rfl, rfl, rfl⟩ rfl rfl rfl rfl rfl (by kernel_rfl) Try.func8 (by kernel_rfl)
    (of_decide_eq_true (by kernel_rfl)) (by unfold Func.isWrapper; first | (rw [if_pos (by decide +kernel)]; kernel_rfl) | (rw [if_neg (by decide +kernel)]; exact ⟨rfl, rfl⟩))
    (fun os started H enc _ => RFnExactRunNfa.lifted os started H enc)

#print axioms fnExactRunNfa_holds
end Go.Proofs.Ytocgghhlfmgndaa
