/- A reader as an argument of a law: its list told as a list. -/
import Derived.Test.YtoeephmdklmpfaaRdr5
namespace Go.Proofs.Ytoeephmdklmpfaa
open Go.RowKit

theorem listM_self (K : List Ms) : listM K.length (fun i => (mAt K i).1) (fun i => (mAt K i).2) = K := by
  apply List.ext_getElem
  · rw [listM_len]
  · intro i h1 h2
    have e := listM_at (fun i => (mAt K i).1) (fun i => (mAt K i).2) h2
    rw [mAt_eq h1] at e
    rw [e, mAt_eq h2]
theorem w_toR (X : ByteArray) (a : Option Addr) (cap : Nat) (K : List Ms) (B : Int) (w : World) (hl : K.length ≤ 1048576) (hR : RowM a K w) :
    Calls Try.prog 38 #[.agg #[.string X, .slice a K.length cap, .int .i64 B]] w fun e w' => ∃ c, e = .returned (.agg #[.string X, .slice (some ⟨c, 0, none⟩) K.length K.length, .int .i64 B]) ∧ w.heap.size ≤ c ∧ c < w'.heap.size ∧ WrM (some ⟨c, 0, none⟩) c K w' ∧ Below w.heap.size w w' := by
  refine (w_toReader X a K.length cap _ _ B w hl hR.row).mono ?_
  rintro e w' ⟨c, rfl, hc, ho, hb⟩
  have hW := WrM.of ho
  rw [listM_self] at hW
  exact ⟨c, rfl, hc, ho.1, hW, hb⟩
theorem w_szR (X : ByteArray) (a : Option Addr) (cap : Nat) (K : List Ms) (B : Int) (w : World) (hX : X.size ≤ maxLen) (hl : K.length ≤ maxLen) (hR : RowM a K w) (hb : ∀ i, i < K.length → (mAt K i).2.size ≤ maxLen) :
    Calls Try.prog 36 #[.agg #[.string X, .slice a K.length cap, .int .i64 B], .int .i64 1048576] w fun e w' => ∃ r : Int, e = .returned (.int .i64 r) ∧ (r = -1 ∨ (0 ≤ r ∧ X.size ≤ 1048576 ∧ K.length ≤ 1048576)) ∧ Below w.heap.size w w' := by
  refine (w_szReader X a K.length cap _ _ B w hX hl hR.row hb).mono ?_
  rintro e w' ⟨r, rfl, hr, hb⟩
  refine ⟨r, rfl, ?_, hb⟩
  rcases hr with h | ⟨h0, _, h2, h3, _⟩
  · exact .inl h
  · exact .inr ⟨h0, h2, h3⟩
theorem in_bodies {len : Nat} {f0 : Nat → Int} {f1 : Nat → ByteArray} (hb : ∀ i, i < len → (f1 i).size ≤ maxLen) : ∀ i, i < (listM len f0 f1).length → (mAt (listM len f0 f1) i).2.size ≤ maxLen := by
  intro i hi
  rw [listM_len] at hi
  rw [listM_at f0 f1 hi]
  exact hb i hi
end Go.Proofs.Ytoeephmdklmpfaa
