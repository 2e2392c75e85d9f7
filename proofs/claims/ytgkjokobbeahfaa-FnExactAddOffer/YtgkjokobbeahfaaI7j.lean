/- slices.Clone, slices.BinarySearch and slices.Delete (of one) at lists of numbers. -/
import Derived.Test.YtgkjokobbeahfaaI7i
import Derived.Lib.RowBridge
namespace Go.Proofs.Ytgkjokobbeahfaa
open Go.RowKit

theorem own_cells {e : TypeId} {base g cap : Nat} {L : List Int} {w : World} (h : OwnN e .i64 base (.slice (some ⟨g, 0, none⟩) L.length cap) L w) : ∀ j, j < L.length → w.cell? ⟨g, 0 + j, none⟩ = some (.int .i64 (L.getD j 0)) := fun j hj => by
  rw [Nat.zero_add]
  exact ownN_at h hj
theorem i_cloneL (b off c : Nat) (L : List Int) (w : World) (hl : L.length ≤ 1048576) (hR : RowN .i64 (some ⟨b, off, none⟩) L w) :
    Calls Try.prog 140 #[.slice (some ⟨b, off, none⟩) L.length c] w fun e w' => ∃ g cap, e = .returned (.slice (some ⟨g, 0, none⟩) L.length cap) ∧ OwnN 3 .i64 w.heap.size (.slice (some ⟨g, 0, none⟩) L.length cap) L w' ∧ Below w.heap.size w w' := by
  have h := Any.slices_Clone_int Try.laysClone b off L.length c L w (Nat.le_refl _) (by omega) (fun j hj => by
    obtain ⟨b', off', e, _, h⟩ := hR j hj
    simp at e
    obtain ⟨rfl, rfl⟩ := e
    exact h)
  refine Calls.mono h ?_
  rintro e w1 ⟨v, rfl, ho, hn, hb⟩
  rw [List.take_of_length_le (Nat.le_refl _)] at ho
  rcases ho.2 with ⟨h1, _⟩ | ⟨g, cap, cur, rfl, _⟩
  · exact absurd h1 hn
  · exact ⟨g, cap, rfl, ho, hb⟩
theorem i_searchI (base g cap : Nat) (L : List Int) (x : Int) (w : World) (hl : L.length ≤ 1048576) (hs : L.Pairwise (· ≤ ·)) (hO : OwnN 3 .i64 base (.slice (some ⟨g, 0, none⟩) L.length cap) L w) :
    Calls Try.prog 177 #[.slice (some ⟨g, 0, none⟩) L.length cap, .int .i64 x] w fun e w' => e = .returned (.tuple #[.int .i64 (L.countP (· < x) : Nat), .bool (L.contains x)]) ∧ Below w.heap.size w w' := by
  have h := Any.slices_BinarySearch_int Try.laysSearch g 0 L.length cap L x w (Nat.le_refl _) (by omega) (own_cells hO) (by rw [List.take_of_length_le (Nat.le_refl _)]; exact hs)
  rw [List.take_of_length_le (Nat.le_refl _)] at h
  refine Calls.mono h ?_
  rintro e w1 ⟨rfl, q, rfl⟩
  exact ⟨rfl, below_drewN (Below.refl _ _) q⟩
theorem i_deleteI (base g cap i : Nat) (L : List Int) (w : World) (hi : i < L.length) (hO : OwnN 3 .i64 base (.slice (some ⟨g, 0, none⟩) L.length cap) L w) :
    Calls Try.prog 179 #[.slice (some ⟨g, 0, none⟩) L.length cap, .int .i64 i, .int .i64 ((i + 1 : Nat) : Int)] w fun e w' => e = .returned (.slice (some ⟨g, 0, none⟩) (L.length - 1) cap) ∧ base ≤ g ∧ Mut w' g (ncells .i64 (L.take i ++ L.drop (i + 1))) ∧ Below base w w' ∧ Only g w w' := by
  obtain ⟨hb, hg, h1, h2, hc, hs, hf, hsh⟩ := own_parts hO
  have hc63 : cap ≤ 9223372036854775807 := by unfold maxLen at h2; omega
  have hH := Go.Lib.holds_of_ints (n := L.length) (Nat.le_refl _) (own_cells hO) (fun j _ => hf _)
  rw [List.take_of_length_le (Nat.le_refl _)] at hH
  have h := Any.slices_Delete_int Try.laysDelete g 0 cap i (i + 1) L w hH h1 hc63 (by omega) (by omega)
  refine Calls.mono h ?_
  rintro e w1 ⟨rfl, q, rfl⟩
  have hlen : (L.take i ++ L.drop (i + 1) ++ List.replicate (i + 1 - i) 0).length = L.toArray.size := by simp; omega
  rw [Go.Lib.putRow_eq_setCells _ w g 0 L.toArray _ q hH hlen]
  generalize hW : w.drewN q = W
  have dW : Below base w W := hW ▸ below_drewN (Below.refl _ _) q
  have oW : Only g w W := hW ▸ Only.of_below (below_drewN (Below.refl _ _) q)
  refine ⟨by rw [show i + 1 - i = 1 by omega], hb, ?_, below_setCells7 g hb _ _ dW, only_setCells7 g _ _ oW⟩
  have hsW : ∀ j, j < cap → (W.cell? ⟨g, j, none⟩).isSome = true := by subst hW; exact hs
  have hfW : ∀ j, W.frozen? ⟨g, j, none⟩ = false := by subst hW; exact hf
  have hgW : g < W.heap.size := by subst hW; exact hg
  have hM : Mut (W.setCells g 0 ((L.take i ++ L.drop (i + 1) ++ List.replicate (i + 1 - i) 0).map (Value.int .i64))) g ((L.take i ++ L.drop (i + 1) ++ List.replicate (i + 1 - i) 0).map (Value.int .i64)) := by
    refine ⟨by rw [size_setCells]; exact hgW, fun j v hv => ?_, fun j hj => by rw [World.frozen?_setCells]; exact hfW j⟩
    have hj := (List.getElem?_eq_some_iff.1 hv).1
    have := World.cell?_setCells_in g ((L.take i ++ L.drop (i + 1) ++ List.replicate (i + 1 - i) 0).map (Value.int .i64)) 0 W (fun k hk => by rw [Nat.zero_add]; exact hsW k (by rw [List.length_map, hlen] at hk; simp at hk; omega)) j hj
    rw [Nat.zero_add] at this
    rw [this, ← hv, List.getElem?_eq_getElem hj]
  rw [List.map_append] at hM
  rw [List.map_append]
  exact hM.front
end Go.Proofs.Ytgkjokobbeahfaa
