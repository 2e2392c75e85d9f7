/- What the program's withAsnAhead answers. -/
import Derived.Test.YtflakkbodbnndaaAll13
import Derived.Lib.RowBridge
/- slices.Clone, slices.BinarySearch and slices.Delete (of one) at lists of numbers. -/
namespace Go.Proofs.Ytflakkbodbnndaa
open Go.RowKit

theorem own_cells {e : TypeId} {base g cap : Nat} {L : List Int} {w : World} (h : OwnN e .i64 base (.slice (some ⟨g, 0, none⟩) L.length cap) L w) : ∀ j, j < L.length → w.cell? ⟨g, 0 + j, none⟩ = some (.int .i64 (L.getD j 0)) := fun j hj => by
  rw [Nat.zero_add]
  exact ownN_at h hj
theorem i_cloneL (b off c : Nat) (L : List Int) (w : World) (hl : L.length ≤ 1048576) (hR : RowN .i64 (some ⟨b, off, none⟩) L w) :
    Calls Try.prog 61 #[.slice (some ⟨b, off, none⟩) L.length c] w fun e w' => ∃ g cap, e = .returned (.slice (some ⟨g, 0, none⟩) L.length cap) ∧ OwnN 3 .i64 w.heap.size (.slice (some ⟨g, 0, none⟩) L.length cap) L w' ∧ Below w.heap.size w w' := by
  have h := Any.slices_Clone_int Try.laysClone b off L.length c L w (Nat.le_refl _) (by omega) (fun j hj => by
    obtain ⟨b', off', e, _, h⟩ := hR j hj
    simp at e
    obtain ⟨rfl, rfl⟩ := e
    exact h)
  refine Calls.mono h ?_
  rintro e w1 ⟨v, rfl, ho, hn, hb⟩
  rw [List.take_of_length_le (Nat.le_refl _)] at ho
  rcases ho.2 with ⟨h1, _⟩ | ⟨g, cap, cur, rfl, _⟩
  · exact absurd h1 hn
  · exact ⟨g, cap, rfl, ho, hb⟩
theorem i_searchI (base g cap : Nat) (L : List Int) (x : Int) (w : World) (hl : L.length ≤ 1048576) (hs : L.Pairwise (· ≤ ·)) (hO : OwnN 3 .i64 base (.slice (some ⟨g, 0, none⟩) L.length cap) L w) :
    Calls Try.prog 83 #[.slice (some ⟨g, 0, none⟩) L.length cap, .int .i64 x] w fun e w' => e = .returned (.tuple #[.int .i64 (L.countP (· < x) : Nat), .bool (L.contains x)]) ∧ Below w.heap.size w w' := by
  have h := Any.slices_BinarySearch_int Try.laysSearch g 0 L.length cap L x w (Nat.le_refl _) (by omega) (own_cells hO) (by rw [List.take_of_length_le (Nat.le_refl _)]; exact hs)
  rw [List.take_of_length_le (Nat.le_refl _)] at h
  refine Calls.mono h ?_
  rintro e w1 ⟨rfl, q, rfl⟩
  exact ⟨rfl, below_drewN (Below.refl _ _) q⟩
theorem i_deleteI (base g cap i : Nat) (L : List Int) (w : World) (hi : i < L.length) (hO : OwnN 3 .i64 base (.slice (some ⟨g, 0, none⟩) L.length cap) L w) :
    Calls Try.prog 85 #[.slice (some ⟨g, 0, none⟩) L.length cap, .int .i64 i, .int .i64 ((i + 1 : Nat) : Int)] w fun e w' => e = .returned (.slice (some ⟨g, 0, none⟩) (L.length - 1) cap) ∧ base ≤ g ∧ Mut w' g (ncells .i64 (L.take i ++ L.drop (i + 1))) ∧ Below base w w' ∧ Only g w w' := by
  obtain ⟨hb, hg, h1, h2, hc, hs, hf, hsh⟩ := own_parts hO
  have hc63 : cap ≤ 9223372036854775807 := by unfold maxLen at h2; omega
  have hH := Go.Lib.holds_of_ints (n := L.length) (Nat.le_refl _) (own_cells hO) (fun j _ => hf _)
  rw [List.take_of_length_le (Nat.le_refl _)] at hH
  have h := Any.slices_Delete_int Try.laysDelete g 0 cap i (i + 1) L w hH h1 hc63 (by omega) (by omega)
  refine Calls.mono h ?_
  rintro e w1 ⟨rfl, q, rfl⟩
  have hlen : (L.take i ++ L.drop (i + 1) ++ List.replicate (i + 1 - i) 0).length = L.toArray.size := by simp; omega
  rw [Go.Lib.putRow_eq_setCells _ w g 0 L.toArray _ q hH hlen]
  generalize hW : w.drewN q = W
  have dW : Below base w W := hW ▸ below_drewN (Below.refl _ _) q
  have oW : Only g w W := hW ▸ Only.of_below (below_drewN (Below.refl _ _) q)
  refine ⟨by rw [show i + 1 - i = 1 by omega], hb, ?_, below_setCells7 g hb _ _ dW, only_setCells7 g _ _ oW⟩
  have hsW : ∀ j, j < cap → (W.cell? ⟨g, j, none⟩).isSome = true := by subst hW; exact hs
  have hfW : ∀ j, W.frozen? ⟨g, j, none⟩ = false := by subst hW; exact hf
  have hgW : g < W.heap.size := by subst hW; exact hg
  have hM : Mut (W.setCells g 0 ((L.take i ++ L.drop (i + 1) ++ List.replicate (i + 1 - i) 0).map (Value.int .i64))) g ((L.take i ++ L.drop (i + 1) ++ List.replicate (i + 1 - i) 0).map (Value.int .i64)) := by
    refine ⟨by rw [size_setCells]; exact hgW, fun j v hv => ?_, fun j hj => by rw [World.frozen?_setCells]; exact hfW j⟩
    have hj := (List.getElem?_eq_some_iff.1 hv).1
    have := World.cell?_setCells_in g ((L.take i ++ L.drop (i + 1) ++ List.replicate (i + 1 - i) 0).map (Value.int .i64)) 0 W (fun k hk => by rw [Nat.zero_add]; exact hsW k (by rw [List.length_map, hlen] at hk; simp at hk; omega)) j hj
    rw [Nat.zero_add] at this
    rw [this, ← hv, List.getElem?_eq_getElem hj]
  rw [List.map_append] at hM
  rw [List.map_append]
  exact hM.front
end Go.Proofs.Ytflakkbodbnndaa

/- What the program's withPref, withMed and ownAttrs answer. -/
namespace Go.Proofs.Ytflakkbodbnndaa
open Go.RowKit

set_option maxRecDepth 100000 in
set_option maxHeartbeats 800000 in
theorem i_withPref (o nx md pf n : Int) (a0 : Option Addr) (n0 c0 : Nat) (a1 : Option Addr) (n1 c1 : Nat) (w : World) :
    Calls Try.prog 53 #[.agg #[.int .i64 o, .slice a0 n0 c0, .int .i64 nx, .int .i64 md, .int .i64 pf, .slice a1 n1 c1], .int .i64 n] w fun e w' => e = .returned (.agg #[.int .i64 o, .slice a0 n0 c0, .int .i64 nx, .int .i64 md, .int .i64 n, .slice a1 n1 c1]) ∧ Below w.heap.size w w' := by
  go_enter Try.func53, Try.ntmps53
  go_wp2_with fail
  exact bodyPost_ret (v := .agg #[.int .i64 o, .slice a0 n0 c0, .int .i64 nx, .int .i64 md, .int .i64 n, .slice a1 n1 c1]) (by simp [results, Try.results53, go_sem]) rfl ⟨rfl, below_box2 (Below.refl _ _)⟩
set_option maxRecDepth 100000 in
set_option maxHeartbeats 800000 in
theorem i_withMed (o nx md pf n : Int) (a0 : Option Addr) (n0 c0 : Nat) (a1 : Option Addr) (n1 c1 : Nat) (w : World) :
    Calls Try.prog 54 #[.agg #[.int .i64 o, .slice a0 n0 c0, .int .i64 nx, .int .i64 md, .int .i64 pf, .slice a1 n1 c1], .int .i64 n] w fun e w' => e = .returned (.agg #[.int .i64 o, .slice a0 n0 c0, .int .i64 nx, .int .i64 n, .int .i64 pf, .slice a1 n1 c1]) ∧ Below w.heap.size w w' := by
  go_enter Try.func54, Try.ntmps54
  go_wp2_with fail
  exact bodyPost_ret (v := .agg #[.int .i64 o, .slice a0 n0 c0, .int .i64 nx, .int .i64 n, .int .i64 pf, .slice a1 n1 c1]) (by simp [results, Try.results54, go_sem]) rfl ⟨rfl, below_box2 (Below.refl _ _)⟩
set_option maxRecDepth 100000 in
set_option maxHeartbeats 800000 in
theorem i_ownAttrs (o nx md pf : Int) (b0 f0 c0 b1 f1 c1 : Nat) (K L : List Int) (w : World) (hk : K.length ≤ 1048576) (hl : L.length ≤ 1048576) (R0 : RowN .i64 (some ⟨b0, f0, none⟩) K w) (R1 : RowN .i64 (some ⟨b1, f1, none⟩) L w) :
    Calls Try.prog 28 #[.agg #[.int .i64 o, .slice (some ⟨b0, f0, none⟩) K.length c0, .int .i64 nx, .int .i64 md, .int .i64 pf, .slice (some ⟨b1, f1, none⟩) L.length c1]] w fun e w' => ∃ g k h l, e = .returned (.agg #[.int .i64 o, .slice (some ⟨g, 0, none⟩) K.length k, .int .i64 nx, .int .i64 md, .int .i64 pf, .slice (some ⟨h, 0, none⟩) L.length l]) ∧
      OwnN 3 .i64 w.heap.size (.slice (some ⟨g, 0, none⟩) K.length k) K w' ∧ OwnN 3 .i64 w.heap.size (.slice (some ⟨h, 0, none⟩) L.length l) L w' ∧ g < h ∧ Below w.heap.size w w' := by
  have C0 := hide (fun w R => i_cloneL b0 f0 c0 K w hk R)
  have C1 := hide (fun w R => i_cloneL b1 f1 c1 L w hl R)
  have M0 := (Mut.new w #[.int .i64 o, .slice (some ⟨b0, f0, none⟩) K.length c0, .int .i64 nx, .int .i64 md, .int .i64 pf, .slice (some ⟨b1, f1, none⟩) L.length c1] 33).alloc (.cells #[.int .i64 0, .slice none 0 0, .int .i64 0, .int .i64 0, .int .i64 0, .slice none 0 0] 33)
  have M1 := Mut.new (w.alloc (.cells #[.int .i64 o, .slice (some ⟨b0, f0, none⟩) K.length c0, .int .i64 nx, .int .i64 md, .int .i64 pf, .slice (some ⟨b1, f1, none⟩) L.length c1] 33)) #[.int .i64 0, .slice none 0 0, .int .i64 0, .int .i64 0, .int .i64 0, .slice none 0 0] 33
  have d0 : Below w.heap.size w ((w.alloc (.cells #[.int .i64 o, .slice (some ⟨b0, f0, none⟩) K.length c0, .int .i64 nx, .int .i64 md, .int .i64 pf, .slice (some ⟨b1, f1, none⟩) L.length c1] 33)).alloc (.cells #[.int .i64 0, .slice none 0 0, .int .i64 0, .int .i64 0, .int .i64 0, .slice none 0 0] 33)) := below_box2 (Below.refl _ _)
  have hz0 : ((w.alloc (.cells #[.int .i64 o, .slice (some ⟨b0, f0, none⟩) K.length c0, .int .i64 nx, .int .i64 md, .int .i64 pf, .slice (some ⟨b1, f1, none⟩) L.length c1] 33)).alloc (.cells #[.int .i64 0, .slice none 0 0, .int .i64 0, .int .i64 0, .int .i64 0, .slice none 0 0] 33)).heap.size = w.heap.size + 1 + 1 := by simp
  rw [World.size_alloc] at M1
  clear hk hl
  go_enter Try.func28, Try.ntmps28
  go_wp2_with fail
  generalize (w.alloc (.cells #[.int .i64 o, .slice (some ⟨b0, f0, none⟩) K.length c0, .int .i64 nx, .int .i64 md, .int .i64 pf, .slice (some ⟨b1, f1, none⟩) L.length c1] 33)).alloc (.cells #[.int .i64 0, .slice none 0 0, .int .i64 0, .int .i64 0, .int .i64 0, .slice none 0 0] 33) = w0 at *
  refine (C0.out _ (R0.below d0)).mono ?_
  rintro e w1 ⟨g, k, rfl, O0, e1⟩
  have d1 := d0.trans (e1.mono d0.size)
  replace M0 := M0.below e1
  replace M1 := M1.below e1
  have hs1 := e1.size
  clear e1 d0
  have m0 := M0.2.1 0 _ rfl
  have m1 := M0.2.1 1 _ rfl
  have m2 := M0.2.1 2 _ rfl
  have m3 := M0.2.1 3 _ rfl
  have m4 := M0.2.1 4 _ rfl
  have m5 := M0.2.1 5 _ rfl
  have z1 := M0.2.2 1 (by simp)
  go_wp2_with fail
  have d2 := d1.setCell (p := ⟨w.heap.size, 1, none⟩) (Nat.le_refl _) (.slice (some ⟨g, 0, none⟩) K.length k)
  replace M0 := M0.set 1 (.slice (some ⟨g, 0, none⟩) K.length k)
  replace M1 := M1.other (show w.heap.size + 1 ≠ w.heap.size by omega) 1 (.slice (some ⟨g, 0, none⟩) K.length k)
  have O0 := show OwnN 3 .i64 w0.heap.size (.slice (some ⟨g, 0, none⟩) K.length k) K (w1.setCell ⟨w.heap.size, 1, none⟩ (.slice (some ⟨g, 0, none⟩) K.length k)) from ownsRow_setCell_below O0 (a := ⟨w.heap.size, 1, none⟩) (show w.heap.size < w0.heap.size by omega) _
  clear d1 m0 m1 m2 m3 m4 m5 z1
  generalize w1.setCell ⟨w.heap.size, 1, none⟩ (.slice (some ⟨g, 0, none⟩) K.length k) = w2 at *
  refine (C1.out _ (R1.below d2)).mono ?_
  rintro e w3 ⟨h, l, rfl, O1, e3⟩
  have d3 := d2.trans (e3.mono d2.size)
  have hgh : g < h := Nat.lt_of_lt_of_le (own_parts O0).2.1 (own_parts O1).1
  have hs3 : w0.heap.size ≤ w2.heap.size := Nat.le_trans (own_parts O0).1 (Nat.le_of_lt (own_parts O0).2.1)
  replace M0 := M0.below e3
  replace M1 := M1.below e3
  replace O0 := ownN_below O0 e3
  clear e3 d2
  have m0 := M0.2.1 0 _ rfl
  have m1 := M0.2.1 1 _ rfl
  have m2 := M0.2.1 2 _ rfl
  have m3 := M0.2.1 3 _ rfl
  have m4 := M0.2.1 4 _ rfl
  have m5 := M0.2.1 5 _ rfl
  have r0 := M1.2.1 0 _ rfl
  have r1 := M1.2.1 1 _ rfl
  have r2 := M1.2.1 2 _ rfl
  have r3 := M1.2.1 3 _ rfl
  have r4 := M1.2.1 4 _ rfl
  have r5 := M1.2.1 5 _ rfl
  have z0 := M0.2.2 0 (by simp)
  have z1 := M0.2.2 1 (by simp)
  have z2 := M0.2.2 2 (by simp)
  have z3 := M0.2.2 3 (by simp)
  have z4 := M0.2.2 4 (by simp)
  have z5 := M0.2.2 5 (by simp)
  have q0 := M1.2.2 0 (by simp)
  have q1 := M1.2.2 1 (by simp)
  have q2 := M1.2.2 2 (by simp)
  have q3 := M1.2.2 3 (by simp)
  have q4 := M1.2.2 4 (by simp)
  have q5 := M1.2.2 5 (by simp)
  go_wp2_with fail
  refine bodyPost_ret (v := .agg #[.int .i64 o, .slice (some ⟨g, 0, none⟩) K.length k, .int .i64 nx, .int .i64 md, .int .i64 pf, .slice (some ⟨h, 0, none⟩) L.length l]) (by simp [results, Try.results28, go_sem, r0, r1, r2, r3, r4, r5]) rfl ⟨g, k, h, l, rfl, ?_, ?_, hgh, ?_⟩
  · refine ownN_base (base := w0.heap.size) ?_ (by omega)
    iterate 7 refine ownsRow_setCell_below ?_ (by first | (show w.heap.size < w0.heap.size; omega) | (show w.heap.size + 1 < w0.heap.size; omega)) _
    exact O0
  · refine ownN_base (base := w2.heap.size) ?_ (by omega)
    iterate 7 refine ownsRow_setCell_below ?_ (by first | (show w.heap.size < w2.heap.size; omega) | (show w.heap.size + 1 < w2.heap.size; omega)) _
    exact O1
  · iterate 7 refine Below.setCell ?_ (by first | (show w.heap.size ≤ w.heap.size; omega) | (show w.heap.size ≤ w.heap.size + 1; omega)) _
    exact d3
end Go.Proofs.Ytflakkbodbnndaa

namespace Go.Proofs.Ytflakkbodbnndaa
open Go.RowKit

set_option maxRecDepth 100000 in
set_option maxHeartbeats 800000 in
theorem i_withAhead (o nx md pf n : Int) (base g k : Nat) (K : List Int) (a1 : Option Addr) (n1 c1 : Nat) (w : World) (hk : K.length ≤ 1048576) (hbs : base ≤ w.heap.size) (O0 : OwnN 3 .i64 base (.slice (some ⟨g, 0, none⟩) K.length k) K w) :
    Calls Try.prog 58 #[.agg #[.int .i64 o, .slice (some ⟨g, 0, none⟩) K.length k, .int .i64 nx, .int .i64 md, .int .i64 pf, .slice a1 n1 c1], .int .i64 n] w fun e w' => ∃ c cp, e = .returned (.agg #[.int .i64 o, .slice (some ⟨c, 0, none⟩) (K.length + 1) cp, .int .i64 nx, .int .i64 md, .int .i64 pf, .slice a1 n1 c1]) ∧ base ≤ c ∧ Mut w' c (ncells .i64 (n :: K)) ∧ Below base w w' ∧ Only g w w' ∧ (c = g ∨ w.heap.size ≤ c) := by
  have hg := (own_parts O0).2.1
  have dA : Below w.heap.size w ((w.alloc (.cells #[.int .i64 o, .slice (some ⟨g, 0, none⟩) K.length k, .int .i64 nx, .int .i64 md, .int .i64 pf, .slice a1 n1 c1] 33)).alloc (.cells #[.int .i64 0, .slice none 0 0, .int .i64 0, .int .i64 0, .int .i64 0, .slice none 0 0] 33)) := below_box2 (Below.refl _ _)
  have d0 : Below w.heap.size w (((w.alloc (.cells #[.int .i64 o, .slice (some ⟨g, 0, none⟩) K.length k, .int .i64 nx, .int .i64 md, .int .i64 pf, .slice a1 n1 c1] 33)).alloc (.cells #[.int .i64 0, .slice none 0 0, .int .i64 0, .int .i64 0, .int .i64 0, .slice none 0 0] 33)).alloc (.cells #[.int .i64 n] 3)) := dA.alloc dA.size _
  have M0 := ((Mut.new w #[.int .i64 o, .slice (some ⟨g, 0, none⟩) K.length k, .int .i64 nx, .int .i64 md, .int .i64 pf, .slice a1 n1 c1] 33).alloc (.cells #[.int .i64 0, .slice none 0 0, .int .i64 0, .int .i64 0, .int .i64 0, .slice none 0 0] 33)).alloc (.cells #[.int .i64 n] 3)
  have M1 := (Mut.new (w.alloc (.cells #[.int .i64 o, .slice (some ⟨g, 0, none⟩) K.length k, .int .i64 nx, .int .i64 md, .int .i64 pf, .slice a1 n1 c1] 33)) #[.int .i64 0, .slice none 0 0, .int .i64 0, .int .i64 0, .int .i64 0, .slice none 0 0] 33).alloc (.cells #[.int .i64 n] 3)
  have hV := heap_alloc_new ((w.alloc (.cells #[.int .i64 o, .slice (some ⟨g, 0, none⟩) K.length k, .int .i64 nx, .int .i64 md, .int .i64 pf, .slice a1 n1 c1] 33)).alloc (.cells #[.int .i64 0, .slice none 0 0, .int .i64 0, .int .i64 0, .int .i64 0, .slice none 0 0] 33)) (.cells #[.int .i64 n] 3)
  have hz : (((w.alloc (.cells #[.int .i64 o, .slice (some ⟨g, 0, none⟩) K.length k, .int .i64 nx, .int .i64 md, .int .i64 pf, .slice a1 n1 c1] 33)).alloc (.cells #[.int .i64 0, .slice none 0 0, .int .i64 0, .int .i64 0, .int .i64 0, .slice none 0 0] 33)).alloc (.cells #[.int .i64 n] 3)).heap.size = w.heap.size + 1 + 1 + 1 := by simp
  rw [World.size_alloc] at M1
  rw [World.size_alloc, World.size_alloc] at hV
  clear dA
  go_enter Try.func58, Try.ntmps58
  go_wp2_with fail
  generalize ((w.alloc (.cells #[.int .i64 o, .slice (some ⟨g, 0, none⟩) K.length k, .int .i64 nx, .int .i64 md, .int .i64 pf, .slice a1 n1 c1] 33)).alloc (.cells #[.int .i64 0, .slice none 0 0, .int .i64 0, .int .i64 0, .int .i64 0, .slice none 0 0] 33)).alloc (.cells #[.int .i64 n] 3) = w0 at *
  refine (i_insertI base g k 0 (w.heap.size + 1 + 1) K n w0 (ownN_below O0 d0) (Nat.zero_le _) hk (by omega) (by omega) hV).mono ?_
  rintro e w1 ⟨c, cp, rfl, hc, MC, b1, o1, hor⟩
  simp only [List.take_zero, List.nil_append, List.drop_zero] at MC
  replace M0 := M0.only o1 (by omega)
  replace M1 := M1.only o1 (by omega)
  have d1 : Below base w w1 := (d0.mono hbs).trans b1
  have u1 : Only g w w1 := (Only.of_below d0).trans o1
  have hs1 := o1.2.2.2.1
  have m0 := M0.2.1 0 _ rfl
  have m1 := M0.2.1 1 _ rfl
  have m2 := M0.2.1 2 _ rfl
  have m3 := M0.2.1 3 _ rfl
  have m4 := M0.2.1 4 _ rfl
  have m5 := M0.2.1 5 _ rfl
  have r0 := M1.2.1 0 _ rfl
  have r1 := M1.2.1 1 _ rfl
  have r2 := M1.2.1 2 _ rfl
  have r3 := M1.2.1 3 _ rfl
  have r4 := M1.2.1 4 _ rfl
  have r5 := M1.2.1 5 _ rfl
  have z0 := M0.2.2 0 (by simp)
  have z1 := M0.2.2 1 (by simp)
  have z2 := M0.2.2 2 (by simp)
  have z3 := M0.2.2 3 (by simp)
  have z4 := M0.2.2 4 (by simp)
  have z5 := M0.2.2 5 (by simp)
  have q0 := M1.2.2 0 (by simp)
  have q1 := M1.2.2 1 (by simp)
  have q2 := M1.2.2 2 (by simp)
  have q3 := M1.2.2 3 (by simp)
  have q4 := M1.2.2 4 (by simp)
  have q5 := M1.2.2 5 (by simp)
  go_wp2_with fail
  refine bodyPost_ret (v := .agg #[.int .i64 o, .slice (some ⟨c, 0, none⟩) (K.length + 1) cp, .int .i64 nx, .int .i64 md, .int .i64 pf, .slice a1 n1 c1]) (by simp [results, Try.results58, go_sem, r0, r1, r2, r3, r4, r5]) rfl ⟨c, cp, rfl, hc, ?_, ?_, ?_, by omega⟩
  · iterate 7 refine Mut.other ?_ (by omega) _ _
    exact MC
  · iterate 7 refine Below.setCell ?_ (by first | (show base ≤ w.heap.size; omega) | (show base ≤ w.heap.size + 1; omega)) _
    exact d1
  · iterate 7 refine Only.setNew ?_ (by omega) _ _
    exact u1
end Go.Proofs.Ytflakkbodbnndaa
