/- GoodDisk of the program answers as the specification: for every disk in any memory. -/
import Derived.Test.YtddjefmokpfplaaW17a
import Derived.Test.YtddjefmokpfplaaOpenDisk
import Derived.ProofKit
import Derived.OpenShut
import Derived.ShutString
import Derived.Lib.SmallJoins
namespace Go.Proofs.Ytddjefmokpfplaa
open Go.ChangeShapes Go.WideShapes Go.ChangeAt Go.RowKit Go.Joins
open Go.ChangeMaps (open_string shut_string)

namespace RFnExactGoodDisk
theorem own : ownKnob Try.prog.godebug = none := by kernel_rfl
theorem laidOut : laidOutB Try.prog = true := by kernel_rfl

set_option maxRecDepth 100000 in
theorem lifted (os : Os) (started : os.Started) (H : Type) (enc : TypeId × Value → H) :
    ReturnsInHanded {} Try.checked os 4 .any (Rows.fnExactGoodDiskSpec.pre6 enc Try.prog Try.f4 Rows.fnExactGoodDiskRow.domain false) (Rows.fnExactGoodDiskSpec.post enc Try.prog Try.f4 false true false false) := by
  refine returnsInHanded_of_change (C := Try.checked) own started (by kernel_rfl) Try.func4
    (ChangeSpec.witness6 (enc := enc) (C := Try.checked) false ⟨#[], #[.agg #[.slice none 0 0, .slice none 0 0]], []⟩ 8 (by kernel_rfl) (by kernel_rfl) (by kernel_rfl) (by kernel_rfl)) ?_
  intro W base args ds gs before hval0 hW hcnd _
  have hval : ∀ (j : Nat) t v, Try.f4.params[j]? = some t → args[j]? = some v → Value.okWide Try.prog W .any base t v := hval0
  have hW' := hW
  obtain ⟨p, q, hA0, hV, rfl, hfz, hnd⟩ := hW
  have hA : DataW.TrodAll enc Try.prog W 0 (fun _ => true) true Try.f4.params.toList args.toList ds p := hA0
  rw [Try.params4] at hA hval
  obtain ⟨v0, vs0, d0, ds0, p0, q0, hargs, rfl, rfl, h0, r0⟩ := trodAll_cons hA
  obtain ⟨rfl, rfl, rfl⟩ := trodAll_nil r0
  obtain rfl : args = #[v0] := by cases args; simp_all
  obtain ⟨rfl, rfl⟩ := trodVars_none hV
  have k0 := h0
  have lt0 : ∀ x ∈ p0, x.block < W.heap.size := by obtain ⟨m, hm⟩ := k0; exact DataW.trod_lt m _ _ _ hm
  obtain ⟨a0, b0, c0, e0, d0k, rfl, hn0, hm0, hf0, hD0, hR0⟩ : ∃ (a0 b0 : Option Addr) (c0 e0 : Nat) (d0k : Dk), v0 = .agg #[.slice a0 d0k.n c0, .slice b0 d0k.m e0] ∧ d0k.n ≤ maxLen ∧ d0k.m ≤ maxLen ∧ (∀ i, i < d0k.n → (d0k.f i).size ≤ maxLen) ∧ (∀ i, i < d0k.m → (d0k.D i).size ≤ maxLen) ∧ RowD a0 b0 d0k W := by
    obtain ⟨cs, rfl, hsz⟩ := okWide_struct Try.underlying32 (hval 0 32 v0 rfl rfl)
    have h2 : Try.prog.cellsOf 32 = 2 := by kernel_rfl
    obtain ⟨q0, q1, rfl⟩ := arr2d (hsz.trans h2)
    obtain ⟨fuel, hf⟩ := h0
    obtain ⟨a0, b0, c0, e0, d0k, hvs, hh⟩ := open_disk (vs := [q0, q1]) rfl (by simpa [Value.cells] using hf)
    simp only [List.cons.injEq, and_true] at hvs
    obtain ⟨rfl, rfl⟩ := hvs
    exact ⟨a0, b0, c0, e0, d0k, rfl, hh⟩
  clear hA0 hval0
  refine (w_goodDisk a0 b0 c0 e0 d0k W hn0 hm0 hf0 hD0 hR0).mono fun e W' ⟨he, bel⟩ => ?_
  subst he
  exact ⟨_, rfl, _, _, _, [], _, [], hW', trodAll_mk1 (shut_bool Try.underlying4 _), (trodAll_cons_mk (Below.trod laidOut (by kernel_rfl) (of_decide_eq_true (by kernel_rfl)) k0 bel lt0) trodAll_mk0), rfl, bel.frame _, fun h => by cases h⟩

end RFnExactGoodDisk

theorem fnExactGoodDisk_holds : Rows.FnExactGoodDiskSaid :=
  OpenClaim.holds_of_wide 4 Try.f4 rfl rfl rfl rfl rfl rfl rfl ⟨rfl, rfl, rfl, rfl, rfl⟩ rfl rfl rfl rfl rfl (by kernel_rfl) Try.func4 (by kernel_rfl)
    (of_decide_eq_true (by kernel_rfl)) (by unfold Func.isWrapper; first | (rw [if_pos (by decide +kernel)]; kernel_rfl) | (rw [if_neg (by decide +kernel)]; exact ⟨rfl, rfl⟩))
    (fun os started H enc _ => RFnExactGoodDisk.lifted os started H enc)

#print axioms fnExactGoodDisk_holds
end Go.Proofs.Ytddjefmokpfplaa
