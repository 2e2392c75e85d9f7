/- What the program's withPref, withMed and ownAttrs answer. -/
import Derived.Test.YtjjdfniemlcnnaaAll13
import Derived.Lib.RowBridge
/- slices.Insert of one number into a list of one's own. -/
namespace Go.Proofs.Ytjjdfniemlcnnaa
open Go.RowKit

theorem below_setCells7 {B : Nat} {a : World} (b : Nat) (hb : B ≤ b) : ∀ (vs : List Value) (o : Nat) {w : World}, Below B a w → Below B a (w.setCells b o vs)
  | [], _, _, h => h
  | v :: r, o, _, h => below_setCells7 b hb r (o + 1) (h.setCell (p := ⟨b, o, none⟩) hb v)
theorem only_setCells7 {a : World} (b : Nat) : ∀ (vs : List Value) (o : Nat) {w : World}, Only b a w → Only b a (w.setCells b o vs)
  | [], _, _, h => h
  | v :: r, o, _, h => only_setCells7 b r (o + 1) (h.setCell o v)
theorem nc_ins (k : IntKind) (L : List Int) (i : Nat) (x : Int) : (ncells k L).take i ++ .int k x :: (ncells k L).drop i = ncells k (L.take i ++ x :: L.drop i) := by
  simp [ncells, List.map_take, List.map_drop]
/-- What an owned list's block tells. -/
theorem own_parts {e : TypeId} {k : IntKind} {base g cap : Nat} {L : List Int} {w : World} (h : OwnN e k base (.slice (some ⟨g, 0, none⟩) L.length cap) L w) :
    base ≤ g ∧ g < w.heap.size ∧ L.length ≤ cap ∧ cap ≤ maxLen ∧ (∀ j v, (ncells k L)[j]? = some v → w.cell? ⟨g, j, none⟩ = some v) ∧ (∀ j, j < cap → (w.cell? ⟨g, j, none⟩).isSome = true) ∧ (∀ j, w.frozen? ⟨g, j, none⟩ = false) ∧ w.shape? g = some (e, cap) := by
  rcases h.2 with ⟨h1, _⟩ | ⟨g', cap', cur, hv, hb, hg, h1, h2, h3, h4⟩
  · exact absurd h1 (by simp)
  · simp at hv
    obtain ⟨rfl, rfl⟩ := hv
    rw [Nat.mul_one] at h3
    refine ⟨hb, (Array.getElem?_eq_some_iff.1 hg).1, h1, h2, fun j v hj => ?_, fun j hj => ?_, fun j => ?_, ?_⟩
    · have hlt : j < L.length := by have := (List.getElem?_eq_some_iff.1 hj).1; rwa [nc_len] at this
      exact (ownN_at h hlt).trans ((nc_at k hlt).symm.trans hj)
    · simp [World.cell?, hg, h3, hj]
    · simp [World.frozen?, hg]
    · simp [World.shape?, hg, h3]
end Go.Proofs.Ytjjdfniemlcnnaa

/- slices.Clone, slices.BinarySearch and slices.Delete (of one) at lists of numbers. -/
namespace Go.Proofs.Ytjjdfniemlcnnaa
open Go.RowKit

theorem own_cells {e : TypeId} {base g cap : Nat} {L : List Int} {w : World} (h : OwnN e .i64 base (.slice (some ⟨g, 0, none⟩) L.length cap) L w) : ∀ j, j < L.length → w.cell? ⟨g, 0 + j, none⟩ = some (.int .i64 (L.getD j 0)) := fun j hj => by
  rw [Nat.zero_add]
  exact ownN_at h hj
theorem i_cloneL (b off c : Nat) (L : List Int) (w : World) (hl : L.length ≤ 1048576) (hR : RowN .i64 (some ⟨b, off, none⟩) L w) :
    Calls Try.prog 80 #[.slice (some ⟨b, off, none⟩) L.length c] w fun e w' => ∃ g cap, e = .returned (.slice (some ⟨g, 0, none⟩) L.length cap) ∧ OwnN 3 .i64 w.heap.size (.slice (some ⟨g, 0, none⟩) L.length cap) L w' ∧ Below w.heap.size w w' := by
  have h := Any.slices_Clone_int Try.laysClone b off L.length c L w (Nat.le_refl _) (by omega) (fun j hj => by
    obtain ⟨b', off', e, _, h⟩ := hR j hj
    simp at e
    obtain ⟨rfl, rfl⟩ := e
    exact h)
  refine Calls.mono h ?_
  rintro e w1 ⟨v, rfl, ho, hn, hb⟩
  rw [List.take_of_length_le (Nat.le_refl _)] at ho
  rcases ho.2 with ⟨h1, _⟩ | ⟨g, cap, cur, rfl, _⟩
  · exact absurd h1 hn
  · exact ⟨g, cap, rfl, ho, hb⟩
end Go.Proofs.Ytjjdfniemlcnnaa

namespace Go.Proofs.Ytjjdfniemlcnnaa
open Go.RowKit

set_option maxRecDepth 100000 in
set_option maxHeartbeats 800000 in
theorem i_ownAttrs (o nx md pf : Int) (b0 f0 c0 b1 f1 c1 : Nat) (K L : List Int) (w : World) (hk : K.length ≤ 1048576) (hl : L.length ≤ 1048576) (R0 : RowN .i64 (some ⟨b0, f0, none⟩) K w) (R1 : RowN .i64 (some ⟨b1, f1, none⟩) L w) :
    Calls Try.prog 66 #[.agg #[.int .i64 o, .slice (some ⟨b0, f0, none⟩) K.length c0, .int .i64 nx, .int .i64 md, .int .i64 pf, .slice (some ⟨b1, f1, none⟩) L.length c1]] w fun e w' => ∃ g k h l, e = .returned (.agg #[.int .i64 o, .slice (some ⟨g, 0, none⟩) K.length k, .int .i64 nx, .int .i64 md, .int .i64 pf, .slice (some ⟨h, 0, none⟩) L.length l]) ∧
      OwnN 3 .i64 w.heap.size (.slice (some ⟨g, 0, none⟩) K.length k) K w' ∧ OwnN 3 .i64 w.heap.size (.slice (some ⟨h, 0, none⟩) L.length l) L w' ∧ g < h ∧ Below w.heap.size w w' := by
  have C0 := hide (fun w R => i_cloneL b0 f0 c0 K w hk R)
  have C1 := hide (fun w R => i_cloneL b1 f1 c1 L w hl R)
  have M0 := (Mut.new w #[.int .i64 o, .slice (some ⟨b0, f0, none⟩) K.length c0, .int .i64 nx, .int .i64 md, .int .i64 pf, .slice (some ⟨b1, f1, none⟩) L.length c1] 47).alloc (.cells #[.int .i64 0, .slice none 0 0, .int .i64 0, .int .i64 0, .int .i64 0, .slice none 0 0] 47)
  have M1 := Mut.new (w.alloc (.cells #[.int .i64 o, .slice (some ⟨b0, f0, none⟩) K.length c0, .int .i64 nx, .int .i64 md, .int .i64 pf, .slice (some ⟨b1, f1, none⟩) L.length c1] 47)) #[.int .i64 0, .slice none 0 0, .int .i64 0, .int .i64 0, .int .i64 0, .slice none 0 0] 47
  have d0 : Below w.heap.size w ((w.alloc (.cells #[.int .i64 o, .slice (some ⟨b0, f0, none⟩) K.length c0, .int .i64 nx, .int .i64 md, .int .i64 pf, .slice (some ⟨b1, f1, none⟩) L.length c1] 47)).alloc (.cells #[.int .i64 0, .slice none 0 0, .int .i64 0, .int .i64 0, .int .i64 0, .slice none 0 0] 47)) := below_box2 (Below.refl _ _)
  have hz0 : ((w.alloc (.cells #[.int .i64 o, .slice (some ⟨b0, f0, none⟩) K.length c0, .int .i64 nx, .int .i64 md, .int .i64 pf, .slice (some ⟨b1, f1, none⟩) L.length c1] 47)).alloc (.cells #[.int .i64 0, .slice none 0 0, .int .i64 0, .int .i64 0, .int .i64 0, .slice none 0 0] 47)).heap.size = w.heap.size + 1 + 1 := by simp
  rw [World.size_alloc] at M1
  clear hk hl
  go_enter Try.func66, Try.ntmps66
  go_wp2_with fail
  generalize (w.alloc (.cells #[.int .i64 o, .slice (some ⟨b0, f0, none⟩) K.length c0, .int .i64 nx, .int .i64 md, .int .i64 pf, .slice (some ⟨b1, f1, none⟩) L.length c1] 47)).alloc (.cells #[.int .i64 0, .slice none 0 0, .int .i64 0, .int .i64 0, .int .i64 0, .slice none 0 0] 47) = w0 at *
  refine (C0.out _ (R0.below d0)).mono ?_
  rintro e w1 ⟨g, k, rfl, O0, e1⟩
  have d1 := d0.trans (e1.mono d0.size)
  replace M0 := M0.below e1
  replace M1 := M1.below e1
  have hs1 := e1.size
  clear e1 d0
  have m0 := M0.2.1 0 _ rfl
  have m1 := M0.2.1 1 _ rfl
  have m2 := M0.2.1 2 _ rfl
  have m3 := M0.2.1 3 _ rfl
  have m4 := M0.2.1 4 _ rfl
  have m5 := M0.2.1 5 _ rfl
  have z1 := M0.2.2 1 (by simp)
  go_wp2_with fail
  have d2 := d1.setCell (p := ⟨w.heap.size, 1, none⟩) (Nat.le_refl _) (.slice (some ⟨g, 0, none⟩) K.length k)
  replace M0 := M0.set 1 (.slice (some ⟨g, 0, none⟩) K.length k)
  replace M1 := M1.other (show w.heap.size + 1 ≠ w.heap.size by omega) 1 (.slice (some ⟨g, 0, none⟩) K.length k)
  have O0 := show OwnN 3 .i64 w0.heap.size (.slice (some ⟨g, 0, none⟩) K.length k) K (w1.setCell ⟨w.heap.size, 1, none⟩ (.slice (some ⟨g, 0, none⟩) K.length k)) from ownsRow_setCell_below O0 (a := ⟨w.heap.size, 1, none⟩) (show w.heap.size < w0.heap.size by omega) _
  clear d1 m0 m1 m2 m3 m4 m5 z1
  generalize w1.setCell ⟨w.heap.size, 1, none⟩ (.slice (some ⟨g, 0, none⟩) K.length k) = w2 at *
  refine (C1.out _ (R1.below d2)).mono ?_
  rintro e w3 ⟨h, l, rfl, O1, e3⟩
  have d3 := d2.trans (e3.mono d2.size)
  have hgh : g < h := Nat.lt_of_lt_of_le (own_parts O0).2.1 (own_parts O1).1
  have hs3 : w0.heap.size ≤ w2.heap.size := Nat.le_trans (own_parts O0).1 (Nat.le_of_lt (own_parts O0).2.1)
  replace M0 := M0.below e3
  replace M1 := M1.below e3
  replace O0 := ownN_below O0 e3
  clear e3 d2
  have m0 := M0.2.1 0 _ rfl
  have m1 := M0.2.1 1 _ rfl
  have m2 := M0.2.1 2 _ rfl
  have m3 := M0.2.1 3 _ rfl
  have m4 := M0.2.1 4 _ rfl
  have m5 := M0.2.1 5 _ rfl
  have r0 := M1.2.1 0 _ rfl
  have r1 := M1.2.1 1 _ rfl
  have r2 := M1.2.1 2 _ rfl
  have r3 := M1.2.1 3 _ rfl
  have r4 := M1.2.1 4 _ rfl
  have r5 := M1.2.1 5 _ rfl
  have z0 := M0.2.2 0 (by simp)
  have z1 := M0.2.2 1 (by simp)
  have z2 := M0.2.2 2 (by simp)
  have z3 := M0.2.2 3 (by simp)
  have z4 := M0.2.2 4 (by simp)
  have z5 := M0.2.2 5 (by simp)
  have q0 := M1.2.2 0 (by simp)
  have q1 := M1.2.2 1 (by simp)
  have q2 := M1.2.2 2 (by simp)
  have q3 := M1.2.2 3 (by simp)
  have q4 := M1.2.2 4 (by simp)
  have q5 := M1.2.2 5 (by simp)
  go_wp2_with fail
  refine bodyPost_ret (v := .agg #[.int .i64 o, .slice (some ⟨g, 0, none⟩) K.length k, .int .i64 nx, .int .i64 md, .int .i64 pf, .slice (some ⟨h, 0, none⟩) L.length l]) (by simp [results, Try.results66, go_sem, r0, r1, r2, r3, r4, r5]) rfl ⟨g, k, h, l, rfl, ?_, ?_, hgh, ?_⟩
  · refine ownN_base (base := w0.heap.size) ?_ (by omega)
    iterate 7 refine ownsRow_setCell_below ?_ (by first | (show w.heap.size < w0.heap.size; omega) | (show w.heap.size + 1 < w0.heap.size; omega)) _
    exact O0
  · refine ownN_base (base := w2.heap.size) ?_ (by omega)
    iterate 7 refine ownsRow_setCell_below ?_ (by first | (show w.heap.size < w2.heap.size; omega) | (show w.heap.size + 1 < w2.heap.size; omega)) _
    exact O1
  · iterate 7 refine Below.setCell ?_ (by first | (show w.heap.size ≤ w.heap.size; omega) | (show w.heap.size ≤ w.heap.size + 1; omega)) _
    exact d3
end Go.Proofs.Ytjjdfniemlcnnaa
