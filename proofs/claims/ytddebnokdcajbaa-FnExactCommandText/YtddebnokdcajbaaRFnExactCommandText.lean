/- The program tells the line of a command as the specification does: for every command in any memory, no condition behind it. -/
import Derived.Test.YtddebnokdcajbaaW15h
import Derived.Test.YtddebnokdcajbaaOpenCmd
import Derived.ProofKit
import Derived.OpenShut
import Derived.ShutString
import Derived.Lib.SmallJoins
namespace Go.Proofs.Ytddebnokdcajbaa
open Go.ChangeShapes Go.WideShapes Go.ChangeAt Go.RowKit Go.Joins
open Go.ChangeMaps (open_string shut_string)

namespace RFnExactCommandText
theorem own : ownKnob Try.prog.godebug = none := by kernel_rfl
theorem laidOut : laidOutB Try.prog = true := by kernel_rfl

set_option maxRecDepth 100000 in
theorem lifted (os : Os) (started : os.Started) (H : Type) (enc : TypeId × Value → H) :
    ReturnsInHanded {} Try.checked os 3 .any (Rows.fnExactCommandTextSpec.pre6 enc Try.prog Try.f3 Rows.fnExactCommandTextRow.domain false) (Rows.fnExactCommandTextSpec.post enc Try.prog Try.f3 false true false false) := by
  refine returnsInHanded_of_change (C := Try.checked) own started (by kernel_rfl) Try.func3
    (ChangeSpec.witness6 (enc := enc) (C := Try.checked) false ⟨#[], #[.agg #[.bool false, .slice none 0 0, .string ByteArray.empty]], []⟩ 8 (by kernel_rfl) (by kernel_rfl) (by kernel_rfl) (by kernel_rfl)) ?_
  intro W base args ds gs before hval0 hW hcnd _
  have hval : ∀ (j : Nat) t v, Try.f3.params[j]? = some t → args[j]? = some v → Value.okWide Try.prog W .any base t v := hval0
  have hW' := hW
  obtain ⟨p, q, hA0, hV, rfl, hfz, hnd⟩ := hW
  have hA : DataW.TrodAll enc Try.prog W 0 (fun _ => true) true Try.f3.params.toList args.toList ds p := hA0
  rw [Try.params3] at hA hval
  obtain ⟨v0, vs0, d0, ds0, p0, q0, hargs, rfl, rfl, h0, r0⟩ := trodAll_cons hA
  obtain ⟨rfl, rfl, rfl⟩ := trodAll_nil r0
  obtain rfl : args = #[v0] := by cases args; simp_all
  obtain ⟨rfl, rfl⟩ := trodVars_none hV
  have k0 := h0
  have lt0 : ∀ x ∈ p0, x.block < W.heap.size := by obtain ⟨m, hm⟩ := k0; exact DataW.trod_lt m _ _ _ hm
  obtain ⟨bs0, a0, n0, c0, f0, s0, rfl, hl0, hX0, hs0, hR0⟩ : ∃ (bs : Bool) (a : Option Addr) (n c : Nat) (f : Nat → ByteArray) (s : ByteArray), v0 = .agg #[.bool bs, .slice a n c, .string s] ∧ n ≤ maxLen ∧ (∀ i, i < n → (f i).size ≤ maxLen) ∧ s.size ≤ maxLen ∧ RowStr a n f W := by
    obtain ⟨cs, rfl, hsz⟩ := okWide_struct Try.underlying24 (hval 0 24 v0 rfl rfl)
    have h3 : Try.prog.cellsOf 24 = 3 := by kernel_rfl
    obtain ⟨q0, q1, q2, rfl⟩ := array3 (hsz.trans h3)
    obtain ⟨fuel, hf⟩ := h0
    obtain ⟨bs0, a0, n0, c0, f0, s0, hvs, hh⟩ := open_cmd (vs := [q0, q1, q2]) rfl (by simpa [Value.cells] using hf)
    simp at hvs
    obtain ⟨rfl, rfl, rfl⟩ := hvs
    exact ⟨bs0, a0, n0, c0, f0, s0, rfl, hh⟩
  clear hA0 hval0
  refine (w_commandText bs0 a0 n0 c0 f0 s0 W hl0 hX0 hs0 hR0).mono fun e W' ⟨he, bel⟩ => ?_
  subst he
  exact ⟨_, rfl, _, _, _, [], _, [], hW', trodAll_mk1 (shut_bool Try.underlying4 _), (trodAll_cons_mk (Below.trod laidOut (by kernel_rfl) (of_decide_eq_true (by kernel_rfl)) k0 bel lt0) trodAll_mk0), rfl, bel.frame _, fun h => by cases h⟩

end RFnExactCommandText

theorem fnExactCommandText_holds : Rows.FnExactCommandTextSaid :=
  OpenClaim.holds_of_wide 3 Try.f3 rfl rfl rfl rfl rfl rfl rfl ⟨rfl, rfl, rfl, rfl, rfl⟩ rfl rfl rfl rfl rfl (by kernel_rfl) Try.func3 (by kernel_rfl)
    (of_decide_eq_true (by kernel_rfl)) (by unfold Func.isWrapper; first | (rw [if_pos (by decide +kernel)]; kernel_rfl) | (rw [if_neg (by decide +kernel)]; exact ⟨rfl, rfl⟩))
    (fun os started H enc _ => RFnExactCommandText.lifted os started H enc)

#print axioms fnExactCommandText_holds
end Go.Proofs.Ytddebnokdcajbaa
