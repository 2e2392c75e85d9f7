/- Policies that came in, opened: their terms, and how their lists lie. -/
import Derived.Test.YtocgghhlfmgndaaLawT
import Derived.Test.YtocgghhlfmgndaaOpenRange
import Derived.Test.YtocgghhlfmgndaaOpenAct
import Derived.Test.YtocgghhlfmgndaaOpenReCell
import Derived.Test.YtocgghhlfmgndaaOpenKit
import Derived.Lib.SmallJoins
namespace Go.Proofs.Ytocgghhlfmgndaa
open Go.ChangeShapes Go.WideShapes Go.ChangeAt Go.RowKit Go.Deep Go.Joins

theorem choose_tm {len : Nat} {p : Nat → Tc → Prop} (h : ∀ i, i < len → ∃ q, p i q) : ∃ f : Nat → Tc, ∀ i, i < len → p i (f i) := by
  refine ⟨fun i => if hi : i < len then Classical.choose (h i hi) else ⟨0, 0, 0, fun _ => 0, fun _ => 0, fun _ => 0, fun _ => 0, fun _ => 0, fun _ => 0, fun _ => 0, fun _ => 0, 0, 0⟩, fun i hi => ?_⟩
  simp only [dif_pos hi]
  exact Classical.choose_spec (h i hi)
theorem five {α : Type} {l : List α} (h : l.length = 5) : ∃ a b c d e, l = [a, b, c, d, e] := by
  match l, h with
  | [a, b, c, d, e], _ => exact ⟨a, b, c, d, e, rfl⟩
theorem two {α : Type} {l : List α} (h : l.length = 2) : ∃ a b, l = [a, b] := by
  match l, h with
  | [a, b], _ => exact ⟨a, b, rfl⟩
theorem arr2 {α : Type} {cs : Array α} (h : cs.size = 2) : ∃ a b, cs = #[a, b] := by
  obtain ⟨l⟩ := cs
  obtain ⟨a, b, rfl⟩ := two h
  exact ⟨a, b, rfl⟩
set_option maxRecDepth 100000 in
theorem cap_rowReCell {H : Type} {enc : TypeId × Value → H} {W : World} {base : Nat} {spare : Nat → Bool} {held : Bool} {fuel : Nat} {a : Option Addr} {len cap : Nat} {y : DataW H × List MemPlace}
    (h : DataW.trod enc Try.prog W base spare held fuel 61 [.slice a len cap] = some y) : len ≤ cap := by
  rcases open_slice Try.underlying61 h with ⟨hcs, _⟩ | ⟨x, l, c, m, n, D, Pl, hcs, _, hl, _⟩
  · simp at hcs
    obtain ⟨rfl, rfl, rfl⟩ := hcs
    exact Nat.le_refl _
  · simp at hcs
    obtain ⟨rfl, rfl, rfl⟩ := hcs
    exact hl
set_option maxRecDepth 100000 in
theorem open_terms {H : Type} {enc : TypeId × Value → H} {W : World} {base : Nat} {spare : Nat → Bool} {held : Bool} {fuel : Nat} {a : Option Addr} {len cap : Nat} {y : DataW H × List MemPlace}
    (h : DataW.trod enc Try.prog W base spare held fuel 38 [.slice a len cap] = some y) : len ≤ maxLen ∧ ∃ T, RowT a len T W ∧ MaxT len T := by
  rcases open_slice Try.underlying38 h with ⟨hcs, _⟩ | ⟨x, l, c, m, n, D, Pl, hcs, _, hl, hm, hmm, _, hel⟩
  · simp at hcs
    obtain ⟨rfl, rfl, rfl⟩ := hcs
    exact ⟨Nat.zero_le _, fun _ => ⟨0, 0, 0, fun _ => 0, fun _ => 0, fun _ => 0, fun _ => 0, fun _ => 0, fun _ => 0, fun _ => 0, fun _ => 0, 0, 0⟩, fun i hi => absurd hi (Nat.not_lt_zero _), fun i hi => absurd hi (Nat.not_lt_zero _)⟩
  · simp at hcs
    obtain ⟨rfl, rfl, rfl⟩ := hcs
    have hlm : len ≤ m := by rw [hmm]; split <;> omega
    have hce : Try.prog.cellsOf 183 = 5 := by kernel_rfl
    have ci : Try.prog.cellsOf 3 = 1 := by kernel_rfl
    have cr : Try.prog.cellsOf 180 = 1 := by kernel_rfl
    have cq : Try.prog.cellsOf 61 = 1 := by kernel_rfl
    have ca : Try.prog.cellsOf 181 = 1 := by kernel_rfl
    have each : ∀ i, i < len → ∃ t : Tc, (∃ (b off : Nat) (ra : Option Addr) (rc : Nat) (pa : Option Addr) (pc : Nat) (aa : Option Addr) (ac : Nat), x = ⟨b, off, none⟩ ∧ b < W.heap.size ∧
        W.cell? ⟨b, off + i * 5, none⟩ = some (.slice ra t.nr rc) ∧ W.cell? ⟨b, off + i * 5 + 1, none⟩ = some (.slice pa t.np pc) ∧ W.cell? ⟨b, off + i * 5 + 2, none⟩ = some (.int .i64 t.cm) ∧
        W.cell? ⟨b, off + i * 5 + 3, none⟩ = some (.slice aa t.na ac) ∧ W.cell? ⟨b, off + i * 5 + 4, none⟩ = some (.int .i64 t.vd) ∧ TmIn ra pa pc aa t W) ∧ t.nr ≤ maxLen ∧ t.np ≤ maxLen ∧ t.na ≤ maxLen := by
      intro i hi
      have hx : ∃ b off, x = ⟨b, off, none⟩ := by
        obtain ⟨cs0, h1, _⟩ := hel 0 (by omega)
        rw [hce] at h1
        obtain ⟨_, hlen, hcell⟩ := World.cells?_some h1
        have := hcell 0 (by omega)
        rw [List.getElem?_eq_getElem (by omega)] at this
        exact addr_plain (by simpa [Addr.add] using this)
      obtain ⟨b, off, rfl⟩ := hx
      obtain ⟨cs', h1, h2⟩ := hel i (by omega)
      rw [hce] at h1
      obtain ⟨_, hlen, hcell⟩ := World.cells?_some h1
      obtain ⟨v0, v1, v2, v3, v4, rfl⟩ := five hlen
      obtain ⟨xs, k, hk, hxy, _, hxl, hf⟩ := DataW.trod_struct Try.underlying183 h2
      obtain ⟨y0, y1, y2, y3, y4, rfl⟩ := five (show xs.length = 5 by rw [hxl]; rfl)
      have g0 := hf 0 _ rfl
      have g1 := hf 1 _ rfl
      have g2 := hf 2 _ rfl
      have g3 := hf 3 _ rfl
      have g4 := hf 4 _ rfl
      simp [ci, cr, cq, ca] at g0 g1 g2 g3 g4
      obtain ⟨ra, nr, rc, hw0⟩ := slice_form Try.underlying180 g0
      obtain ⟨pa, np, pc, hw1⟩ := slice_form Try.underlying61 g1
      obtain ⟨aa, na, ac, hw3⟩ := slice_form Try.underlying181 g3
      obtain ⟨cm, hw2, _⟩ := DataW.trod_int Try.underlying3 g2
      obtain ⟨vd, hw4, _⟩ := DataW.trod_int Try.underlying3 g4
      simp at hw0 hw1 hw2 hw3 hw4
      subst hw0 hw1 hw2 hw3 hw4
      obtain ⟨lr, f0, f1, f2, f3, RR⟩ := open_rowRange g0
      obtain ⟨lp, q0, q1, RP⟩ := open_rowReCell g1
      have lpc := cap_rowReCell g1
      obtain ⟨la, a0, a1, RA⟩ := open_rowAct g3
      have c0 := hcell 0 (by omega)
      have c1 := hcell 1 (by omega)
      have c2 := hcell 2 (by omega)
      have c3 := hcell 3 (by omega)
      have c4 := hcell 4 (by omega)
      rw [add_add, Addr.add_mid] at c0 c1 c2 c3 c4
      have hb := World.block_lt_of_cell? W _ c0
      exact ⟨⟨nr, np, na, f0, f1, f2, f3, q0, q1, a0, a1, cm, vd⟩, ⟨b, off, ra, rc, pa, pc, aa, ac, rfl, hb, by simpa using c0, by simpa [Nat.add_assoc] using c1, by simpa [Nat.add_assoc] using c2, by simpa [Nat.add_assoc] using c3, by simpa [Nat.add_assoc] using c4, lpc, RR, RP, RA⟩, lr, lp, la⟩
    obtain ⟨T, hT⟩ := choose_tm each
    refine ⟨Nat.le_trans hl hm, T, fun i hi => ?_, fun i hi => (hT i hi).2⟩
    obtain ⟨b, off, ra, rc, pa, pc, aa, ac, hx, hr⟩ := (hT i hi).1
    exact ⟨b, off, ra, rc, pa, pc, aa, ac, by rw [hx], hr⟩
set_option maxRecDepth 100000 in
theorem open_policy {H : Type} {enc : TypeId × Value → H} {W : World} {base : Nat} {spare : Nat → Bool} {held : Bool} {fuel : Nat} {vs : List Value} {y : DataW H × List MemPlace} (hvs : vs.length = 2)
    (h : DataW.trod enc Try.prog W base spare held fuel 40 vs = some y) : ∃ a n c acc T, vs = [.slice a n c, .bool acc] ∧ n ≤ maxLen ∧ MaxT n T ∧ RowT a n T W := by
  have ct : Try.prog.cellsOf 38 = 1 := by kernel_rfl
  have cb : Try.prog.cellsOf 4 = 1 := by kernel_rfl
  obtain ⟨v0, v1, rfl⟩ := two hvs
  obtain ⟨xs, k, hk, hxy, _, hxl, hf⟩ := DataW.trod_struct Try.underlying40 h
  obtain ⟨y0, y1, rfl⟩ := two (show xs.length = 2 by rw [hxl]; rfl)
  have g0 := hf 0 _ rfl
  have g1 := hf 1 _ rfl
  simp [ct, cb] at g0 g1
  obtain ⟨a, n, c, hw0⟩ := slice_form Try.underlying38 g0
  obtain ⟨acc, hw1, _⟩ := DataW.trod_bool Try.underlying4 g1
  simp at hw0 hw1
  subst hw0 hw1
  obtain ⟨hn, T, hT, hX⟩ := open_terms g0
  exact ⟨a, n, c, acc, T, rfl, hn, hX, hT⟩
end Go.Proofs.Ytocgghhlfmgndaa
