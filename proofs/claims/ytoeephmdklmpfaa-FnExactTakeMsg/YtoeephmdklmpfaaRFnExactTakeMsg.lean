/- For every reader FnExactTakeMsg answers true: the program's TakeMsg answers as the specification's, in memory of its own, and writes into nothing. No conditions. -/
import Derived.Test.YtoeephmdklmpfaaW5t
import Derived.Test.YtoeephmdklmpfaaOpenReader
import Derived.ProofKit
import Derived.OpenShut
import Derived.ShutString
import Derived.Lib.SmallJoins
namespace Go.Proofs.Ytoeephmdklmpfaa
open Go.ChangeShapes Go.WideShapes Go.ChangeAt Go.RowKit Go.Joins
open Go.ChangeMaps (open_string shut_string)

namespace RFnExactTakeMsg
theorem own : ownKnob Try.prog.godebug = none := by kernel_rfl
theorem laidOut : laidOutB Try.prog = true := by kernel_rfl

set_option maxRecDepth 100000 in
theorem lifted (os : Os) (started : os.Started) (H : Type) (enc : TypeId × Value → H) :
    ReturnsInHanded {} Try.checked os 11 .any (Rows.fnExactTakeMsgSpec.pre6 enc Try.prog Try.f11 Rows.fnExactTakeMsgRow.domain false) (Rows.fnExactTakeMsgSpec.post enc Try.prog Try.f11 false true false false) := by
  refine returnsInHanded_of_change (C := Try.checked) own started (by kernel_rfl) Try.func11
    (ChangeSpec.witness6 (enc := enc) (C := Try.checked) false ⟨#[], #[.agg #[.string ByteArray.empty, .slice none 0 0, .int .i64 0]], []⟩ 8 (by kernel_rfl) (by kernel_rfl) (by kernel_rfl) (by kernel_rfl)) ?_
  intro W base args ds gs before hval0 hW hcnd _
  have hval : ∀ (j : Nat) t v, Try.f11.params[j]? = some t → args[j]? = some v → Value.okWide Try.prog W .any base t v := hval0
  have hW' := hW
  obtain ⟨p, q, hA0, hV, rfl, hfz, hnd⟩ := hW
  have hA : DataW.TrodAll enc Try.prog W 0 (fun _ => true) true Try.f11.params.toList args.toList ds p := hA0
  rw [Try.params11] at hA hval
  obtain ⟨v0, vs0, d0, ds0, p0, q0, hargs, rfl, rfl, h0, r0⟩ := trodAll_cons hA
  obtain ⟨rfl, rfl, rfl⟩ := trodAll_nil r0
  obtain rfl : args = #[v0] := by cases args; simp_all
  obtain ⟨rfl, rfl⟩ := trodVars_none hV
  have k0 := h0
  have lt0 : ∀ x ∈ p0, x.block < W.heap.size := by obtain ⟨m, hm⟩ := k0; exact DataW.trod_lt m _ _ _ hm
  obtain ⟨X0, ra0, rn0, rc0, rf0, rg0, B0, rfl, hX0, hn0, hR0, hb0⟩ : ∃ X ra rn rc rf rg B, v0 = .agg #[.string X, .slice ra rn rc, .int .i64 B] ∧ X.size ≤ maxLen ∧ rn ≤ maxLen ∧ RowMsg ra rn rf rg W ∧ ∀ i, i < rn → (rg i).size ≤ maxLen := by
    obtain ⟨cs, rfl, hsz⟩ := okWide_struct Try.underlying55 (hval 0 55 v0 rfl rfl)
    have h3 : Try.prog.cellsOf 55 = 3 := by kernel_rfl
    obtain ⟨q0, q1, q2, rfl⟩ := array3 (hsz.trans h3)
    obtain ⟨fuel, hf⟩ := h0
    obtain ⟨X, ra, rn, rc, rf, rg, B, hvs, hh⟩ := open_reader (vs := [q0, q1, q2]) rfl (by simpa [Value.cells] using hf)
    simp at hvs
    obtain ⟨rfl, rfl, rfl⟩ := hvs
    exact ⟨X, ra, rn, rc, rf, rg, B, rfl, hh⟩
  clear hA0 hval0
  refine (w_takeMsg X0 ra0 rn0 rc0 rf0 rg0 B0 W hX0 hn0 hR0 hb0).mono fun e W' ⟨he, bel⟩ => ?_
  subst he
  exact ⟨_, rfl, _, _, _, [], _, [], hW', trodAll_mk1 (shut_bool Try.underlying4 _), (trodAll_cons_mk (Below.trod laidOut (by kernel_rfl) (of_decide_eq_true (by kernel_rfl)) k0 bel lt0) trodAll_mk0), rfl, bel.frame _, fun h => by cases h⟩

end RFnExactTakeMsg

theorem fnExactTakeMsg_holds : Rows.FnExactTakeMsgSaid :=
  OpenClaim.holds_of_wide 11 Try.f11 rfl rfl rfl rfl rfl rfl rfl ⟨rfl, rfl, rfl, rfl, rfl⟩ rfl rfl rfl rfl rfl (by kernel_rfl) Try.func11 (by kernel_rfl)
    (of_decide_eq_true (by kernel_rfl)) (by unfold Func.isWrapper; first | (rw [if_pos (by decide +kernel)]; kernel_rfl) | (rw [if_neg (by decide +kernel)]; exact ⟨rfl, rfl⟩))
    (fun os started H enc _ => RFnExactTakeMsg.lifted os started H enc)

#print axioms fnExactTakeMsg_holds
end Go.Proofs.Ytoeephmdklmpfaa
