/- For every update FnExactUpdateBytes answers true: the program's UpdateBytes answers as the specification's, and the argument is not changed. No conditions. -/
import Derived.Test.YtofalilkephkpaaW4w
import Derived.Test.YtofalilkephkpaaOpenUpdate
import Derived.ProofKit
import Derived.OpenShut
import Derived.ShutString
import Derived.Lib.SmallJoins
namespace Go.Proofs.Ytofalilkephkpaa
open Go.ChangeShapes Go.WideShapes Go.ChangeAt Go.RowKit Go.Joins
open Go.ChangeMaps (open_string shut_string)

namespace RFnExactUpdateBytes
theorem own : ownKnob Try.prog.godebug = none := by kernel_rfl
theorem laidOut : laidOutB Try.prog = true := by kernel_rfl

set_option maxRecDepth 100000 in
theorem lifted (os : Os) (started : os.Started) (H : Type) (enc : TypeId × Value → H) :
    ReturnsInHanded {} Try.checked os 11 .any (Rows.fnExactUpdateBytesSpec.pre6 enc Try.prog Try.f11 Rows.fnExactUpdateBytesRow.domain false) (Rows.fnExactUpdateBytesSpec.post enc Try.prog Try.f11 false true false false) := by
  refine returnsInHanded_of_change (C := Try.checked) own started (by kernel_rfl) Try.func11
    (ChangeSpec.witness6 (enc := enc) (C := Try.checked) false ⟨#[], #[.agg #[.slice none 0 0, .int .i64 0, .slice none 0 0, .int .i64 0, .int .i64 0, .int .i64 0, .slice none 0 0, .slice none 0 0]], []⟩ 8 (by kernel_rfl) (by kernel_rfl) (by kernel_rfl) (by kernel_rfl)) ?_
  intro W base args ds gs before hval0 hW hcnd _
  have hval : ∀ (j : Nat) t v, Try.f11.params[j]? = some t → args[j]? = some v → Value.okWide Try.prog W .any base t v := hval0
  have hW' := hW
  obtain ⟨p, q, hA0, hV, rfl, hfz, hnd⟩ := hW
  have hA : DataW.TrodAll enc Try.prog W 0 (fun _ => true) true Try.f11.params.toList args.toList ds p := hA0
  rw [Try.params11] at hA hval
  obtain ⟨v0, vs0, d0, ds0, p0, q0, hargs, rfl, rfl, h0, r0⟩ := trodAll_cons hA
  obtain ⟨rfl, rfl, rfl⟩ := trodAll_nil r0
  obtain rfl : args = #[v0] := by cases args; simp_all
  obtain ⟨rfl, rfl⟩ := trodVars_none hV
  have k0 := h0
  have lt0 : ∀ x ∈ p0, x.block < W.heap.size := by obtain ⟨m, hm⟩ := k0; exact DataW.trod_lt m _ _ _ hm
  obtain ⟨ga0_, gn0_, gc0_, f00_, f10_, o0_, nx0_, md0_, pf0_, a00_, n00_, c00_, f0_, a10_, n10_, c10_, g0_, ca0_, cn0_, cc0_, h00_, h10_, rfl, hu0_0, hu0_1, hu0_2, hu0_3, hu0_4, hu0_5, hu0_6, hu0_7⟩ : ∃ ga0_ gn0_ gc0_ f00_ f10_ o0_ nx0_ md0_ pf0_ a00_ n00_ c00_ f0_ a10_ n10_ c10_ g0_ ca0_ cn0_ cc0_ h00_ h10_, v0 = .agg #[.slice ga0_ gn0_ gc0_, .int .i64 o0_, .slice a00_ n00_ c00_, .int .i64 nx0_, .int .i64 md0_, .int .i64 pf0_, .slice a10_ n10_ c10_, .slice ca0_ cn0_ cc0_] ∧ gn0_ ≤ maxLen ∧ RowPrefix ga0_ gn0_ f00_ f10_ W ∧ n00_ ≤ maxLen ∧ RowInt a00_ n00_ f0_ W ∧ n10_ ≤ maxLen ∧ RowInt a10_ n10_ g0_ W ∧ cn0_ ≤ maxLen ∧ RowPrefix ca0_ cn0_ h00_ h10_ W := by
    obtain ⟨cs, rfl, hsz⟩ := okWide_struct Try.underlying81 (hval 0 81 v0 rfl rfl)
    have h8 : Try.prog.cellsOf 81 = 8 := by kernel_rfl
    obtain ⟨q0, q1, q2, q3, q4, q5, q6, q7, rfl⟩ := array8 (hsz.trans h8)
    obtain ⟨fuel, hf⟩ := h0
    obtain ⟨ga0_, gn0_, gc0_, f00_, f10_, o0_, nx0_, md0_, pf0_, a00_, n00_, c00_, f0_, a10_, n10_, c10_, g0_, ca0_, cn0_, cc0_, h00_, h10_, hvs, hh⟩ := open_update (vs := [q0, q1, q2, q3, q4, q5, q6, q7]) rfl (by simpa [Value.cells] using hf)
    simp at hvs
    obtain ⟨rfl, rfl, rfl, rfl, rfl, rfl, rfl, rfl⟩ := hvs
    exact ⟨ga0_, gn0_, gc0_, f00_, f10_, o0_, nx0_, md0_, pf0_, a00_, n00_, c00_, f0_, a10_, n10_, c10_, g0_, ca0_, cn0_, cc0_, h00_, h10_, rfl, hh⟩
  clear hA0 hval0
  refine (w_updateBytes ga0_ gn0_ gc0_ f00_ f10_ o0_ nx0_ md0_ pf0_ a00_ n00_ c00_ f0_ a10_ n10_ c10_ g0_ ca0_ cn0_ cc0_ h00_ h10_ W hu0_0 hu0_1 hu0_2 hu0_3 hu0_4 hu0_5 hu0_6 hu0_7).mono fun e W' ⟨he, bel⟩ => ?_
  subst he
  exact ⟨_, rfl, _, _, _, [], _, [], hW', trodAll_mk1 (shut_bool Try.underlying4 _), (trodAll_cons_mk (Below.trod laidOut (by kernel_rfl) (of_decide_eq_true (by kernel_rfl)) k0 bel lt0) trodAll_mk0), rfl, bel.frame _, fun h => by cases h⟩

end RFnExactUpdateBytes

theorem fnExactUpdateBytes_holds : Rows.FnExactUpdateBytesSaid :=
  OpenClaim.holds_of_wide 11 Try.f11 rfl rfl rfl rfl rfl rfl rfl ⟨rfl, rfl, rfl, rfl, rfl⟩ rfl rfl rfl rfl rfl (by kernel_rfl) Try.func11 (by kernel_rfl)
    (of_decide_eq_true (by kernel_rfl)) (by unfold Func.isWrapper; first | (rw [if_pos (by decide +kernel)]; kernel_rfl) | (rw [if_neg (by decide +kernel)]; exact ⟨rfl, rfl⟩))
    (fun os started H enc _ => RFnExactUpdateBytes.lifted os started H enc)

#print axioms fnExactUpdateBytes_holds
end Go.Proofs.Ytofalilkephkpaa
