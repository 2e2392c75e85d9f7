/- For every attrs, asn and many FnExactPrependPath answers true: the program's PrependPath answers as the specification's, the argument is not changed, and the answer owns its memory. No conditions. -/
import Derived.Test.YtofalilkephkpaaW4p
import Derived.Test.YtofalilkephkpaaOpenInt
import Derived.ProofKit
import Derived.OpenShut
import Derived.ShutString
import Derived.Lib.SmallJoins
namespace Go.Proofs.Ytofalilkephkpaa
open Go.ChangeShapes Go.WideShapes Go.ChangeAt Go.RowKit Go.Joins
open Go.ChangeMaps (open_string shut_string)

namespace RFnExactPrependPath
theorem own : ownKnob Try.prog.godebug = none := by kernel_rfl
theorem laidOut : laidOutB Try.prog = true := by kernel_rfl

set_option maxRecDepth 100000 in
theorem lifted (os : Os) (started : os.Started) (H : Type) (enc : TypeId × Value → H) :
    ReturnsInHanded {} Try.checked os 8 .any (Rows.fnExactPrependPathSpec.pre6 enc Try.prog Try.f8 Rows.fnExactPrependPathRow.domain false) (Rows.fnExactPrependPathSpec.post enc Try.prog Try.f8 false true false false) := by
  refine returnsInHanded_of_change (C := Try.checked) own started (by kernel_rfl) Try.func8
    (ChangeSpec.witness6 (enc := enc) (C := Try.checked) false ⟨#[], #[.agg #[.int .i64 0, .slice none 0 0, .int .i64 0, .int .i64 0, .int .i64 0, .slice none 0 0], .int .i64 0, .int .i64 0], []⟩ 8 (by kernel_rfl) (by kernel_rfl) (by kernel_rfl) (by kernel_rfl)) ?_
  intro W base args ds gs before hval0 hW hcnd _
  have hval : ∀ (j : Nat) t v, Try.f8.params[j]? = some t → args[j]? = some v → Value.okWide Try.prog W .any base t v := hval0
  have hW' := hW
  obtain ⟨p, q, hA0, hV, rfl, hfz, hnd⟩ := hW
  have hA : DataW.TrodAll enc Try.prog W 0 (fun _ => true) true Try.f8.params.toList args.toList ds p := hA0
  rw [Try.params8] at hA hval
  obtain ⟨v0, vs0, d0, ds0, p0, q0, hargs, rfl, rfl, h0, r0⟩ := trodAll_cons hA
  obtain ⟨v1, vs1, d1, ds1, p1, q1, rfl, rfl, rfl, h1, r1⟩ := trodAll_cons r0
  obtain ⟨v2, vs2, d2, ds2, p2, q2, rfl, rfl, rfl, h2, r2⟩ := trodAll_cons r1
  obtain ⟨rfl, rfl, rfl⟩ := trodAll_nil r2
  obtain rfl : args = #[v0, v1, v2] := by cases args; simp_all
  obtain ⟨rfl, rfl⟩ := trodVars_none hV
  have k0 := h0
  have lt0 : ∀ x ∈ p0, x.block < W.heap.size := by obtain ⟨m, hm⟩ := k0; exact DataW.trod_lt m _ _ _ hm
  obtain ⟨o0, nx0, md0, pf0, aa0, an0, ac0, af0, ba0, bn0, bc0, bf0, rfl, hla0, hRa0, hlb0, hRb0⟩ : ∃ o0 nx0 md0 pf0 aa0 an0 ac0 af0 ba0 bn0 bc0 bf0, v0 = .agg #[.int .i64 o0, .slice aa0 an0 ac0, .int .i64 nx0, .int .i64 md0, .int .i64 pf0, .slice ba0 bn0 bc0] ∧ an0 ≤ maxLen ∧ RowInt aa0 an0 af0 W ∧ bn0 ≤ maxLen ∧ RowInt ba0 bn0 bf0 W := by
    obtain ⟨cs, rfl, hsz⟩ := okWide_struct Try.underlying72 (hval 0 72 v0 rfl rfl)
    have h6 : Try.prog.cellsOf 72 = 6 := by kernel_rfl
    obtain ⟨q0, q1, q2, q3, q4, q5, rfl⟩ := array6 (hsz.trans h6)
    obtain ⟨fuel, hf⟩ := h0
    obtain ⟨o0, nx0, md0, pf0, aa0, an0, ac0, af0, ba0, bn0, bc0, bf0, hvs, g0, g1, g2, g3⟩ := open_attrs (vs := [q0, q1, q2, q3, q4, q5]) rfl (by simpa [Value.cells] using hf)
    simp at hvs
    obtain ⟨rfl, rfl, rfl, rfl, rfl, rfl⟩ := hvs
    exact ⟨o0, nx0, md0, pf0, aa0, an0, ac0, af0, ba0, bn0, bc0, bf0, rfl, g0, g1, g2, g3⟩
  have k1 := h1
  have lt1 : ∀ x ∈ p1, x.block < W.heap.size := by obtain ⟨m, hm⟩ := k1; exact DataW.trod_lt m _ _ _ hm
  obtain ⟨x1, rfl⟩ : ∃ x : Int, v1 = .int .i64 x := by
    obtain ⟨x, rfl, _⟩ := open_int Try.underlying3 (hval 1 3 v1 rfl rfl) h1
    exact ⟨x, rfl⟩
  have k2 := h2
  have lt2 : ∀ x ∈ p2, x.block < W.heap.size := by obtain ⟨m, hm⟩ := k2; exact DataW.trod_lt m _ _ _ hm
  obtain ⟨x2, rfl⟩ : ∃ x : Int, v2 = .int .i64 x := by
    obtain ⟨x, rfl, _⟩ := open_int Try.underlying3 (hval 2 3 v2 rfl rfl) h2
    exact ⟨x, rfl⟩
  clear hA0 hval0
  refine (w_prepend o0 nx0 md0 pf0 aa0 an0 ac0 af0 ba0 bn0 bc0 bf0 x1 x2 W hla0 hRa0 hlb0 hRb0).mono fun e W' ⟨he, bel⟩ => ?_
  subst he
  exact ⟨_, rfl, _, _, _, [], _, [], hW', trodAll_mk1 (shut_bool Try.underlying4 _), (trodAll_cons_mk (Below.trod laidOut (by kernel_rfl) (of_decide_eq_true (by kernel_rfl)) k0 bel lt0) (trodAll_cons_mk (Below.trod laidOut (by kernel_rfl) (of_decide_eq_true (by kernel_rfl)) k1 bel lt1) (trodAll_cons_mk (Below.trod laidOut (by kernel_rfl) (of_decide_eq_true (by kernel_rfl)) k2 bel lt2) trodAll_mk0))), rfl, bel.frame _, fun h => by cases h⟩

end RFnExactPrependPath

theorem fnExactPrependPath_holds : Rows.FnExactPrependPathSaid :=
  OpenClaim.holds_of_wide 8 Try.f8 rfl rfl rfl rfl rfl rfl rfl ⟨rfl, rfl, rfl, rfl, rfl⟩ rfl rfl rfl rfl rfl (by kernel_rfl) Try.func8 (by kernel_rfl)
    (of_decide_eq_true (by kernel_rfl)) (by unfold Func.isWrapper; first | (rw [if_pos (by decide +kernel)]; kernel_rfl) | (rw [if_neg (by decide +kernel)]; exact ⟨rfl, rfl⟩))
    (fun os started H enc _ => RFnExactPrependPath.lifted os started H enc)

#print axioms fnExactPrependPath_holds
end Go.Proofs.Ytofalilkephkpaa
