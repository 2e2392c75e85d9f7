/- For every reader and every string FnExactFeedReader answers true: the program's FeedReader answers as the specification's, in memory of its own, and writes into nothing. No conditions. -/
import Derived.Test.YtoeephmdklmpfaaW5f
import Derived.Test.YtoeephmdklmpfaaOpenReader
import Derived.ProofKit
import Derived.OpenShut
import Derived.ShutString
import Derived.Lib.SmallJoins
namespace Go.Proofs.Ytoeephmdklmpfaa
open Go.ChangeShapes Go.WideShapes Go.ChangeAt Go.RowKit Go.Joins
open Go.ChangeMaps (open_string shut_string)

namespace RFnExactFeedReader
theorem own : ownKnob Try.prog.godebug = none := by kernel_rfl
theorem laidOut : laidOutB Try.prog = true := by kernel_rfl

set_option maxRecDepth 100000 in
theorem lifted (os : Os) (started : os.Started) (H : Type) (enc : TypeId × Value → H) :
    ReturnsInHanded {} Try.checked os 9 .any (Rows.fnExactFeedReaderSpec.pre6 enc Try.prog Try.f9 Rows.fnExactFeedReaderRow.domain false) (Rows.fnExactFeedReaderSpec.post enc Try.prog Try.f9 false true false false) := by
  refine returnsInHanded_of_change (C := Try.checked) own started (by kernel_rfl) Try.func9
    (ChangeSpec.witness6 (enc := enc) (C := Try.checked) false ⟨#[], #[.agg #[.string ByteArray.empty, .slice none 0 0, .int .i64 0], .string ByteArray.empty], []⟩ 8 (by kernel_rfl) (by kernel_rfl) (by kernel_rfl) (by kernel_rfl)) ?_
  intro W base args ds gs before hval0 hW hcnd _
  have hval : ∀ (j : Nat) t v, Try.f9.params[j]? = some t → args[j]? = some v → Value.okWide Try.prog W .any base t v := hval0
  have hW' := hW
  obtain ⟨p, q, hA0, hV, rfl, hfz, hnd⟩ := hW
  have hA : DataW.TrodAll enc Try.prog W 0 (fun _ => true) true Try.f9.params.toList args.toList ds p := hA0
  rw [Try.params9] at hA hval
  obtain ⟨v0, vs0, d0, ds0, p0, q0, hargs, rfl, rfl, h0, r0⟩ := trodAll_cons hA
  obtain ⟨v1, vs1, d1, ds1, p1, q1, rfl, rfl, rfl, h1, r1⟩ := trodAll_cons r0
  obtain ⟨rfl, rfl, rfl⟩ := trodAll_nil r1
  obtain rfl : args = #[v0, v1] := by cases args; simp_all
  obtain ⟨rfl, rfl⟩ := trodVars_none hV
  have k0 := h0
  have lt0 : ∀ x ∈ p0, x.block < W.heap.size := by obtain ⟨m, hm⟩ := k0; exact DataW.trod_lt m _ _ _ hm
  obtain ⟨X0, ra0, rn0, rc0, rf0, rg0, B0, rfl, hX0, hn0, hR0, hb0⟩ : ∃ X ra rn rc rf rg B, v0 = .agg #[.string X, .slice ra rn rc, .int .i64 B] ∧ X.size ≤ maxLen ∧ rn ≤ maxLen ∧ RowMsg ra rn rf rg W ∧ ∀ i, i < rn → (rg i).size ≤ maxLen := by
    obtain ⟨cs, rfl, hsz⟩ := okWide_struct Try.underlying55 (hval 0 55 v0 rfl rfl)
    have h3 : Try.prog.cellsOf 55 = 3 := by kernel_rfl
    obtain ⟨q0, q1, q2, rfl⟩ := array3 (hsz.trans h3)
    obtain ⟨fuel, hf⟩ := h0
    obtain ⟨X, ra, rn, rc, rf, rg, B, hvs, hh⟩ := open_reader (vs := [q0, q1, q2]) rfl (by simpa [Value.cells] using hf)
    simp at hvs
    obtain ⟨rfl, rfl, rfl⟩ := hvs
    exact ⟨X, ra, rn, rc, rf, rg, B, rfl, hh⟩
  have k1 := h1
  have lt1 : ∀ x ∈ p1, x.block < W.heap.size := by obtain ⟨m, hm⟩ := k1; exact DataW.trod_lt m _ _ _ hm
  obtain ⟨s1, rfl, hs1⟩ : ∃ s : ByteArray, v1 = .string s ∧ s.size ≤ maxLen := by
    obtain ⟨s, rfl, _, _, hs⟩ := open_string Try.underlying9 (hval 1 9 v1 rfl rfl) h1
    exact ⟨s, rfl, hs⟩
  clear hA0 hval0
  refine (w_feedReader X0 ra0 rn0 rc0 rf0 rg0 B0 s1 W hX0 hn0 hR0 hb0 hs1).mono fun e W' ⟨he, bel⟩ => ?_
  subst he
  exact ⟨_, rfl, _, _, _, [], _, [], hW', trodAll_mk1 (shut_bool Try.underlying4 _), (trodAll_cons_mk (Below.trod laidOut (by kernel_rfl) (of_decide_eq_true (by kernel_rfl)) k0 bel lt0) (trodAll_cons_mk (Below.trod laidOut (by kernel_rfl) (of_decide_eq_true (by kernel_rfl)) k1 bel lt1) trodAll_mk0)), rfl, bel.frame _, fun h => by cases h⟩

end RFnExactFeedReader

theorem fnExactFeedReader_holds : Rows.FnExactFeedReaderSaid :=
  OpenClaim.holds_of_wide 9 Try.f9 rfl rfl rfl rfl rfl rfl rfl ⟨rfl, rfl, rfl, rfl, rfl⟩ rfl rfl rfl rfl rfl (by kernel_rfl) Try.func9 (by kernel_rfl)
    (of_decide_eq_true (by kernel_rfl)) (by unfold Func.isWrapper; first | (rw [if_pos (by decide +kernel)]; kernel_rfl) | (rw [if_neg (by decide +kernel)]; exact ⟨rfl, rfl⟩))
    (fun os started H enc _ => RFnExactFeedReader.lifted os started H enc)

#print axioms fnExactFeedReader_holds
end Go.Proofs.Ytoeephmdklmpfaa
