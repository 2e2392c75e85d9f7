/- At every rib and peer HeardFrom of the program answers as the specification does, writes into no argument, and its answer owns its memory. -/
import Derived.Test.YtjjdfniemlcnnaaRib13
import Derived.Test.YtjjdfniemlcnnaaAll15
import Derived.Test.YtjjdfniemlcnnaaW13h
import Derived.ProofKit
import Derived.OpenShut
import Derived.ShutString
import Derived.Lib.SmallJoins
/- Ribs that came in, opened. -/
namespace Go.Proofs.Ytjjdfniemlcnnaa
open Go.ChangeShapes Go.WideShapes Go.ChangeAt Go.RowKit Go.Deep Go.Joins

theorem choose_rc {len : Nat} {p : Nat → Rc → Prop} (h : ∀ i, i < len → ∃ q, p i q) : ∃ f : Nat → Rc, ∀ i, i < len → p i (f i) := by
  refine ⟨fun i => if hi : i < len then Classical.choose (h i hi) else rc0, fun i hi => ?_⟩
  simp only [dif_pos hi]
  exact Classical.choose_spec (h i hi)
theorem threeR {α : Type} {l : List α} (h : l.length = 3) : ∃ a b c, l = [a, b, c] := by
  match l, h with
  | [a, b, c], _ => exact ⟨a, b, c, rfl⟩
theorem arr2r {α : Type} {cs : Array α} (h : cs.size = 2) : ∃ a b, cs = #[a, b] := by
  obtain ⟨l⟩ := cs
  obtain ⟨a, b, rfl⟩ := twoO h
  exact ⟨a, b, rfl⟩
set_option maxRecDepth 100000 in
theorem open_row13 {H : Type} {enc : TypeId × Value → H} {W : World} {base : Nat} {spare : Nat → Bool} {held : Bool} {fuel : Nat} {vs : List Value} {y : DataW H × List MemPlace} (hvs : vs.length = 3)
    (h : DataW.trod enc Try.prog W base spare held fuel 89 vs = some y) : ∃ (a0 : Option Addr) (c0 : Nat) (t : Rc), vs = [.int .i64 t.ad, .int .i64 t.ln, .slice a0 t.n c0] ∧ t.n ≤ maxLen ∧ MaxO t.n t.T ∧ RowO a0 t.n t.T W := by
  have ci : Try.prog.cellsOf 3 = 1 := by kernel_rfl
  have cp : Try.prog.cellsOf 44 = 2 := by kernel_rfl
  have ca : Try.prog.cellsOf 87 = 1 := by kernel_rfl
  obtain ⟨v0, v1, v2, rfl⟩ := threeR hvs
  obtain ⟨xs, k, hk, hxy, _, hxl, hf⟩ := DataW.trod_struct Try.underlying89 h
  obtain ⟨y0, y1, rfl⟩ := twoO (show xs.length = 2 by rw [hxl]; rfl)
  have g0 := hf 0 _ rfl
  have g1 := hf 1 _ rfl
  simp [cp, ca] at g0 g1
  obtain ⟨xs', k', hk', hxy', _, hxl', hf'⟩ := DataW.trod_struct Try.underlying44 g0
  obtain ⟨z0, z1, rfl⟩ := twoO (show xs'.length = 2 by rw [hxl']; rfl)
  have q0 := hf' 0 _ rfl
  have q1 := hf' 1 _ rfl
  simp [ci] at q0 q1
  obtain ⟨ad, hw0, _⟩ := DataW.trod_int Try.underlying3 q0
  obtain ⟨ln, hw1, _⟩ := DataW.trod_int Try.underlying3 q1
  simp at hw0 hw1
  subst hw0 hw1
  obtain ⟨a0, n0, c0, hw2⟩ := slice_form Try.underlying87 g1
  simp at hw2
  subst hw2
  obtain ⟨hl, T, hR, hX⟩ := open_offers g1
  exact ⟨a0, c0, ⟨ad, ln, n0, T⟩, rfl, hl, hX, hR⟩
set_option maxRecDepth 100000 in
theorem open_rows13 {H : Type} {enc : TypeId × Value → H} {W : World} {base : Nat} {spare : Nat → Bool} {held : Bool} {fuel : Nat} {a : Option Addr} {len cap : Nat} {y : DataW H × List MemPlace}
    (h : DataW.trod enc Try.prog W base spare held fuel 30 [.slice a len cap] = some y) : len ≤ maxLen ∧ ∃ U, RowR a len U W ∧ MaxR len U := by
  rcases open_slice Try.underlying30 h with ⟨hcs, _⟩ | ⟨x, l, c, m, n, D, Pl, hcs, _, hl, hm, hmm, _, hel⟩
  · simp at hcs
    obtain ⟨rfl, rfl, rfl⟩ := hcs
    exact ⟨Nat.zero_le _, fun _ => rc0, fun i hi => absurd hi (Nat.not_lt_zero _), fun i hi => absurd hi (Nat.not_lt_zero _)⟩
  · simp at hcs
    obtain ⟨rfl, rfl, rfl⟩ := hcs
    have hlm : len ≤ m := by rw [hmm]; split <;> omega
    have hce : Try.prog.cellsOf 89 = 3 := by kernel_rfl
    have each : ∀ i, i < len → ∃ t : Rc, (∃ (b off : Nat) (a0 : Option Addr) (c0 : Nat), x = ⟨b, off, none⟩ ∧ b < W.heap.size ∧
        W.cell? ⟨b, off + i * 3, none⟩ = some (.int .i64 t.ad) ∧ W.cell? ⟨b, off + i * 3 + 1, none⟩ = some (.int .i64 t.ln) ∧ W.cell? ⟨b, off + i * 3 + 2, none⟩ = some (.slice a0 t.n c0) ∧ RowO a0 t.n t.T W) ∧ t.n ≤ maxLen ∧ MaxO t.n t.T := by
      intro i hi
      have hx : ∃ b off, x = ⟨b, off, none⟩ := by
        obtain ⟨cs0, h1, _⟩ := hel 0 (by omega)
        rw [hce] at h1
        obtain ⟨_, hlen, hcell⟩ := World.cells?_some h1
        have := hcell 0 (by omega)
        rw [List.getElem?_eq_getElem (by omega)] at this
        exact addr_plain (by simpa [Addr.add] using this)
      obtain ⟨b, off, rfl⟩ := hx
      obtain ⟨cs', h1, h2⟩ := hel i (by omega)
      rw [hce] at h1
      obtain ⟨_, hlen, hcell⟩ := World.cells?_some h1
      obtain ⟨a0, c0, t, rfl, l0, l1, hin⟩ := open_row13 hlen h2
      have c0 := hcell 0 (by omega)
      have c1 := hcell 1 (by omega)
      have c2 := hcell 2 (by omega)
      rw [add_add, Addr.add_mid] at c0 c1 c2
      have hb := World.block_lt_of_cell? W _ c0
      exact ⟨t, ⟨b, off, a0, _, rfl, hb, by simpa using c0, by simpa [Nat.add_assoc] using c1, by simpa [Nat.add_assoc] using c2, hin⟩, l0, l1⟩
    obtain ⟨T, hT⟩ := choose_rc each
    refine ⟨Nat.le_trans hl hm, T, fun i hi => ?_, fun i hi => (hT i hi).2⟩
    obtain ⟨b, off, a0, c0, hx, hr⟩ := (hT i hi).1
    exact ⟨b, off, a0, c0, by rw [hx], hr⟩
set_option maxRecDepth 100000 in
theorem open_rib {H : Type} {enc : TypeId × Value → H} {W : World} {base : Nat} {spare : Nat → Bool} {held : Bool} {fuel : Nat} {vs : List Value} {y : DataW H × List MemPlace} (hvs : vs.length = 2)
    (h : DataW.trod enc Try.prog W base spare held fuel 32 vs = some y) : ∃ (ow : Int) (a : Option Addr) (n c : Nat) (U : Nat → Rc), vs = [.int .i64 ow, .slice a n c] ∧ n ≤ maxLen ∧ MaxR n U ∧ RowR a n U W := by
  have ci : Try.prog.cellsOf 3 = 1 := by kernel_rfl
  have cl : Try.prog.cellsOf 30 = 1 := by kernel_rfl
  obtain ⟨v0, v1, rfl⟩ := twoO hvs
  obtain ⟨xs, k, hk, hxy, _, hxl, hf⟩ := DataW.trod_struct Try.underlying32 h
  obtain ⟨y0, y1, rfl⟩ := twoO (show xs.length = 2 by rw [hxl]; rfl)
  have g0 := hf 0 _ rfl
  have g1 := hf 1 _ rfl
  simp [ci, cl] at g0 g1
  obtain ⟨ow, hw0, _⟩ := DataW.trod_int Try.underlying3 g0
  simp at hw0
  subst hw0
  obtain ⟨a0, n0, c0, hw1⟩ := slice_form Try.underlying30 g1
  simp at hw1
  subst hw1
  obtain ⟨hl, U, hR, hX⟩ := open_rows13 g1
  exact ⟨ow, a0, n0, c0, U, rfl, hl, hX, hR⟩
end Go.Proofs.Ytjjdfniemlcnnaa

namespace Go.Proofs.Ytjjdfniemlcnnaa
open Go.ChangeShapes Go.WideShapes Go.ChangeAt Go.RowKit Go.Joins
open Go.ChangeMaps (open_string shut_string)

namespace RFnExactHeardFrom
theorem own : ownKnob Try.prog.godebug = none := by kernel_rfl
theorem laidOut : laidOutB Try.prog = true := by kernel_rfl

set_option maxRecDepth 100000 in
theorem lifted (os : Os) (started : os.Started) (H : Type) (enc : TypeId × Value → H) :
    ReturnsInHanded {} Try.checked os 5 .any (Rows.fnExactHeardFromSpec.pre6 enc Try.prog Try.f5 Rows.fnExactHeardFromRow.domain false) (Rows.fnExactHeardFromSpec.post enc Try.prog Try.f5 false true false false) := by
  refine returnsInHanded_of_change (C := Try.checked) own started (by kernel_rfl) Try.func5
    (ChangeSpec.witness6 (enc := enc) (C := Try.checked) false ⟨#[], #[.agg #[.int .i64 0, .slice none 0 0], .int .i64 0], []⟩ 8 (by kernel_rfl) (by kernel_rfl) (by kernel_rfl) (by kernel_rfl)) ?_
  intro W base args ds gs before hval0 hW hcnd _
  have hval : ∀ (j : Nat) t v, Try.f5.params[j]? = some t → args[j]? = some v → Value.okWide Try.prog W .any base t v := hval0
  have hW' := hW
  obtain ⟨p, q, hA0, hV, rfl, hfz, hnd⟩ := hW
  have hA : DataW.TrodAll enc Try.prog W 0 (fun _ => true) true Try.f5.params.toList args.toList ds p := hA0
  rw [Try.params5] at hA hval
  obtain ⟨v0, vs0, d0, ds0, p0, q0, hargs, rfl, rfl, h0, r0⟩ := trodAll_cons hA
  obtain ⟨v1, vs1, d1, ds1, p1, q1, rfl, rfl, rfl, h1, r1⟩ := trodAll_cons r0
  obtain ⟨rfl, rfl, rfl⟩ := trodAll_nil r1
  obtain rfl : args = #[v0, v1] := by cases args; simp_all
  obtain ⟨rfl, rfl⟩ := trodVars_none hV
  have k0 := h0
  have lt0 : ∀ x ∈ p0, x.block < W.heap.size := by obtain ⟨m, hm⟩ := k0; exact DataW.trod_lt m _ _ _ hm
  obtain ⟨ow0, a0, n0, c0, U0, rfl, hn0, hX0, hR0⟩ : ∃ ow0 a0 n0 c0 U0, v0 = .agg #[.int .i64 ow0, .slice a0 n0 c0] ∧ n0 ≤ maxLen ∧ MaxR n0 U0 ∧ RowR a0 n0 U0 W := by
    obtain ⟨cs, rfl, hsz⟩ := okWide_struct Try.underlying32 (hval 0 32 v0 rfl rfl)
    have h2 : Try.prog.cellsOf 32 = 2 := by kernel_rfl
    obtain ⟨q0, q1, rfl⟩ := arr2r (hsz.trans h2)
    obtain ⟨fuel, hf⟩ := h0
    obtain ⟨ow0, a0, n0, c0, U0, hvs, g0, g1, g2⟩ := open_rib (vs := [q0, q1]) rfl (by simpa [Value.cells] using hf)
    simp at hvs
    obtain ⟨rfl, rfl⟩ := hvs
    exact ⟨ow0, a0, n0, c0, U0, rfl, g0, g1, g2⟩
  have k1 := h1
  have lt1 : ∀ x ∈ p1, x.block < W.heap.size := by obtain ⟨m, hm⟩ := k1; exact DataW.trod_lt m _ _ _ hm
  obtain ⟨x1, rfl⟩ : ∃ x : Int, v1 = .int .i64 x := by
    obtain ⟨x, rfl, _⟩ := open_int Try.underlying3 (hval 1 3 v1 rfl rfl) h1
    exact ⟨x, rfl⟩
  clear hA0 hval0
  refine (w_heardFrom ow0 a0 n0 c0 U0 x1 W hn0 hX0 hR0).mono fun e W' ⟨he, bel⟩ => ?_
  subst he
  exact ⟨_, rfl, _, _, _, [], _, [], hW', trodAll_mk1 (shut_bool Try.underlying4 _), (trodAll_cons_mk (Below.trod laidOut (by kernel_rfl) (of_decide_eq_true (by kernel_rfl)) k0 bel lt0) (trodAll_cons_mk (Below.trod laidOut (by kernel_rfl) (of_decide_eq_true (by kernel_rfl)) k1 bel lt1) trodAll_mk0)), rfl, bel.frame _, fun h => by cases h⟩

end RFnExactHeardFrom

theorem fnExactHeardFrom_holds : Rows.FnExactHeardFromSaid :=
  OpenClaim.holds_of_wide 5 Try.f5 rfl rfl rfl rfl rfl rfl rfl ⟨rfl, rfl, rfl, rfl, rfl⟩ rfl rfl rfl rfl rfl (by kernel_rfl) Try.func5 (by kernel_rfl)
    (of_decide_eq_true (by kernel_rfl)) (by unfold Func.isWrapper; first | (rw [if_pos (by decide +kernel)]; kernel_rfl) | (rw [if_neg (by decide +kernel)]; exact ⟨rfl, rfl⟩))
    (fun os started H enc _ => RFnExactHeardFrom.lifted os started H enc)

#print axioms fnExactHeardFrom_holds
end Go.Proofs.Ytjjdfniemlcnnaa
