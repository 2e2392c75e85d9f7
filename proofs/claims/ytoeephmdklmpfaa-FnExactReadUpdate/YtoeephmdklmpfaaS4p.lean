/- A path made longer: what the specification's l4Own and PrependPath answer. -/
import Derived.Test.YtoeephmdklmpfaaS4
import Derived.Test.YtoeephmdklmpfaaFlatAttrs2
namespace Go.Proofs.Ytoeephmdklmpfaa
open Go.RowKit

/-- The longer path. -/
def lon (asn : Int) (m : Nat) (n0 : Nat) (f : Nat → Int) : List Int := List.replicate m asn ++ (List.range n0).map f
theorem lon_len (asn : Int) (m n0 : Nat) (f : Nat → Int) : (lon asn m n0 f).length = m + n0 := by simp [lon]
theorem lon_lo (asn : Int) {m n0 i : Nat} (f : Nat → Int) (h : i < m) : (lon asn m n0 f).getD i 0 = asn := by
  unfold lon
  rw [List.getD_eq_getElem?_getD, List.getElem?_append_left (by simpa using h)]
  simp [h]
theorem lon_hi (asn : Int) {m n0 i : Nat} (f : Nat → Int) (h : i < n0) : (lon asn m n0 f).getD (m + i) 0 = f i := by
  unfold lon
  rw [List.getD_eq_getElem?_getD, List.getElem?_append_right (by simp)]
  simp [h]
theorem lon_path (asn : Int) {m n0 : Nat} (f : Nat → Int) (hm : 1 ≤ m) : pathB (m + n0) (fun i => (lon asn m n0 f).getD i 0) = (inB asn 1 65535 && pathB n0 f) := by
  cases h1 : inB asn 1 65535 with
  | false => exact rall_no (k := 0) (by omega) (by unfold pathOk; dsimp only; rw [lon_lo asn f (by omega)]; exact h1)
  | true =>
    rw [Bool.true_and]
    cases h2 : pathB n0 f with
    | true =>
      refine List.all_eq_true.2 (fun i hi => ?_)
      rw [List.mem_range] at hi
      unfold pathOk
      dsimp only
      by_cases hl : i < m
      · rw [lon_lo asn f hl]; exact h1
      · obtain ⟨j, rfl⟩ : ∃ j, i = m + j := ⟨i - m, by omega⟩
        rw [lon_hi asn f (by omega)]
        exact (List.all_eq_true.1 h2) j (List.mem_range.2 (by omega))
    | false =>
      unfold pathB at h2
      rw [List.all_eq_false] at h2
      obtain ⟨j, hj, h3⟩ := h2
      rw [List.mem_range] at hj
      refine rall_no (k := m + j) (by omega) ?_
      unfold pathOk
      dsimp only
      rw [lon_hi asn f hj]
      unfold pathOk at h3
      simpa using h3
/-- PrependPath answers yes. -/
def preB (o nx md pf : Int) (n0 : Nat) (f : Nat → Int) (n1 : Nat) (g : Nat → Int) (asn many : Int) : Bool :=
  attrB o nx md pf n0 f n1 g && inB asn 1 65535 && decide (1 ≤ many ∧ many + n0 ≤ 10)
theorem lon_attr {o nx md pf : Int} {n0 : Nat} {f : Nat → Int} {n1 : Nat} {g : Nat → Int} {asn : Int} {m : Nat} (hm : 1 ≤ m) (ha : attrB o nx md pf n0 f n1 g = true) (hs : inB asn 1 65535 = true) :
    attrB o nx md pf (m + n0) (fun i => (lon asn m n0 f).getD i 0) n1 g = decide (m + n0 ≤ 10) := by
  unfold attrB at ha ⊢
  simp only [Bool.and_eq_true] at ha
  obtain ⟨⟨⟨⟨⟨⟨⟨h1, h2⟩, h3⟩, h4⟩, h5⟩, h6⟩, h7⟩, h8⟩ := ha
  rw [lon_path asn f hm, hs, h1, h2, h3, h4, h6, h7, h8]
  simp
theorem ownN_only {e : TypeId} {k : IntKind} {w w' : World} {base c : Nat} {v : Value} {L : List Int} (h : OwnN e k base v L w) (o : Only c w w') (hn : v.ownBlock ≠ some c) : OwnN e k base v L w' :=
  World.ownsRow.kept h (row := some c) ⟨o.1, o.2.1, o.2.2.1, o.2.2.2.1, fun i hi hne => o.2.2.2.2 i hi (fun e => hne (by rw [e]))⟩ (.inr hn)
end Go.Proofs.Ytoeephmdklmpfaa
