/- For every two offers FnExactCompareOffers answers true: the program's CompareOffers answers as the specification's, and writes into nothing. No conditions. -/
import Derived.Test.YtgkjokobbeahfaaW8c
import Derived.Test.YtgkjokobbeahfaaOpenOffer
import Derived.ProofKit
import Derived.OpenShut
import Derived.ShutString
import Derived.Lib.SmallJoins
namespace Go.Proofs.Ytgkjokobbeahfaa
open Go.ChangeShapes Go.WideShapes Go.ChangeAt Go.RowKit Go.Joins
open Go.ChangeMaps (open_string shut_string)

namespace RFnExactCompareOffers
theorem own : ownKnob Try.prog.godebug = none := by kernel_rfl
theorem laidOut : laidOutB Try.prog = true := by kernel_rfl

set_option maxRecDepth 100000 in
theorem lifted (os : Os) (started : os.Started) (H : Type) (enc : TypeId × Value → H) :
    ReturnsInHanded {} Try.checked os 4 .any (Rows.fnExactCompareOffersSpec.pre6 enc Try.prog Try.f4 Rows.fnExactCompareOffersRow.domain false) (Rows.fnExactCompareOffersSpec.post enc Try.prog Try.f4 false true false false) := by
  refine returnsInHanded_of_change (C := Try.checked) own started (by kernel_rfl) Try.func4
    (ChangeSpec.witness6 (enc := enc) (C := Try.checked) false ⟨#[], #[.agg #[.int .i64 0, .int .i64 0, .slice none 0 0, .int .i64 0, .int .i64 0, .int .i64 0, .slice none 0 0], .agg #[.int .i64 0, .int .i64 0, .slice none 0 0, .int .i64 0, .int .i64 0, .int .i64 0, .slice none 0 0]], []⟩ 8 (by kernel_rfl) (by kernel_rfl) (by kernel_rfl) (by kernel_rfl)) ?_
  intro W base args ds gs before hval0 hW hcnd _
  have hval : ∀ (j : Nat) t v, Try.f4.params[j]? = some t → args[j]? = some v → Value.okWide Try.prog W .any base t v := hval0
  have hW' := hW
  obtain ⟨p, q, hA0, hV, rfl, hfz, hnd⟩ := hW
  have hA : DataW.TrodAll enc Try.prog W 0 (fun _ => true) true Try.f4.params.toList args.toList ds p := hA0
  rw [Try.params4] at hA hval
  obtain ⟨v0, vs0, d0, ds0, p0, q0, hargs, rfl, rfl, h0, r0⟩ := trodAll_cons hA
  obtain ⟨v1, vs1, d1, ds1, p1, q1, rfl, rfl, rfl, h1, r1⟩ := trodAll_cons r0
  obtain ⟨rfl, rfl, rfl⟩ := trodAll_nil r1
  obtain rfl : args = #[v0, v1] := by cases args; simp_all
  obtain ⟨rfl, rfl⟩ := trodVars_none hV
  have k0 := h0
  have lt0 : ∀ x ∈ p0, x.block < W.heap.size := by obtain ⟨m, hm⟩ := k0; exact DataW.trod_lt m _ _ _ hm
  obtain ⟨pa0, pc0, qa0, qc0, t0, rfl, hp0, hq0, hT0⟩ : ∃ (a0 : Option Addr) (c0 : Nat) (a1 : Option Addr) (c1 : Nat) (t : Oc), v0 = .agg #[.int .i64 t.pe, .int .i64 t.o, .slice a0 t.n0 c0, .int .i64 t.nx, .int .i64 t.md, .int .i64 t.pf, .slice a1 t.n1 c1] ∧ t.n0 ≤ maxLen ∧ t.n1 ≤ maxLen ∧ OfIn a0 a1 t W := by
    obtain ⟨cs, rfl, hsz⟩ := okWide_struct Try.underlying33 (hval 0 33 v0 rfl rfl)
    have h7 : Try.prog.cellsOf 33 = 7 := by kernel_rfl
    obtain ⟨q0, q1, q2, q3, q4, q5, q6, rfl⟩ := arr7 (hsz.trans h7)
    obtain ⟨fuel, hf⟩ := h0
    obtain ⟨pa0, pc0, qa0, qc0, t0, hvs, g0, g1, g2⟩ := open_offer (vs := [q0, q1, q2, q3, q4, q5, q6]) rfl (by simpa [Value.cells] using hf)
    simp at hvs
    obtain ⟨rfl, rfl, rfl, rfl, rfl, rfl, rfl⟩ := hvs
    exact ⟨pa0, pc0, qa0, qc0, t0, rfl, g0, g1, g2⟩
  have k1 := h1
  have lt1 : ∀ x ∈ p1, x.block < W.heap.size := by obtain ⟨m, hm⟩ := k1; exact DataW.trod_lt m _ _ _ hm
  obtain ⟨pa1, pc1, qa1, qc1, t1, rfl, hp1, hq1, hT1⟩ : ∃ (a0 : Option Addr) (c0 : Nat) (a1 : Option Addr) (c1 : Nat) (t : Oc), v1 = .agg #[.int .i64 t.pe, .int .i64 t.o, .slice a0 t.n0 c0, .int .i64 t.nx, .int .i64 t.md, .int .i64 t.pf, .slice a1 t.n1 c1] ∧ t.n0 ≤ maxLen ∧ t.n1 ≤ maxLen ∧ OfIn a0 a1 t W := by
    obtain ⟨cs, rfl, hsz⟩ := okWide_struct Try.underlying33 (hval 1 33 v1 rfl rfl)
    have h7 : Try.prog.cellsOf 33 = 7 := by kernel_rfl
    obtain ⟨q0, q1, q2, q3, q4, q5, q6, rfl⟩ := arr7 (hsz.trans h7)
    obtain ⟨fuel, hf⟩ := h1
    obtain ⟨pa1, pc1, qa1, qc1, t1, hvs, g0, g1, g2⟩ := open_offer (vs := [q0, q1, q2, q3, q4, q5, q6]) rfl (by simpa [Value.cells] using hf)
    simp at hvs
    obtain ⟨rfl, rfl, rfl, rfl, rfl, rfl, rfl⟩ := hvs
    exact ⟨pa1, pc1, qa1, qc1, t1, rfl, g0, g1, g2⟩
  clear hA0 hval0
  refine (w_compareOffers pa0 pc0 qa0 qc0 t0 pa1 pc1 qa1 qc1 t1 W hp0 hq0 hT0 hp1 hq1 hT1).mono fun e W' ⟨he, bel⟩ => ?_
  subst he
  exact ⟨_, rfl, _, _, _, [], _, [], hW', trodAll_mk1 (shut_bool Try.underlying4 _), (trodAll_cons_mk (Below.trod laidOut (by kernel_rfl) (of_decide_eq_true (by kernel_rfl)) k0 bel lt0) (trodAll_cons_mk (Below.trod laidOut (by kernel_rfl) (of_decide_eq_true (by kernel_rfl)) k1 bel lt1) trodAll_mk0)), rfl, bel.frame _, fun h => by cases h⟩

end RFnExactCompareOffers

theorem fnExactCompareOffers_holds : Rows.FnExactCompareOffersSaid :=
  OpenClaim.holds_of_wide 4 Try.f4 rfl rfl rfl rfl rfl rfl rfl ⟨rfl, rfl, rfl, rfl, rfl⟩ rfl rfl rfl rfl rfl (by kernel_rfl) Try.func4 (by kernel_rfl)
    (of_decide_eq_true (by kernel_rfl)) (by unfold Func.isWrapper; first | (rw [if_pos (by decide +kernel)]; kernel_rfl) | (rw [if_neg (by decide +kernel)]; exact ⟨rfl, rfl⟩))
    (fun os started H enc _ => RFnExactCompareOffers.lifted os started H enc)

#print axioms fnExactCompareOffers_holds
end Go.Proofs.Ytgkjokobbeahfaa
