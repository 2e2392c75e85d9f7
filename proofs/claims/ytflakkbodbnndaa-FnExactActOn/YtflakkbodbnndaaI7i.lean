/- slices.Insert of one number into a list of one's own. -/
import Derived.Test.YtflakkbodbnndaaAll13
namespace Go.Proofs.Ytflakkbodbnndaa
open Go.RowKit

theorem below_setCells7 {B : Nat} {a : World} (b : Nat) (hb : B ≤ b) : ∀ (vs : List Value) (o : Nat) {w : World}, Below B a w → Below B a (w.setCells b o vs)
  | [], _, _, h => h
  | v :: r, o, _, h => below_setCells7 b hb r (o + 1) (h.setCell (p := ⟨b, o, none⟩) hb v)
theorem only_setCells7 {a : World} (b : Nat) : ∀ (vs : List Value) (o : Nat) {w : World}, Only b a w → Only b a (w.setCells b o vs)
  | [], _, _, h => h
  | v :: r, o, _, h => only_setCells7 b r (o + 1) (h.setCell o v)
theorem nc_ins (k : IntKind) (L : List Int) (i : Nat) (x : Int) : (ncells k L).take i ++ .int k x :: (ncells k L).drop i = ncells k (L.take i ++ x :: L.drop i) := by
  simp [ncells, List.map_take, List.map_drop]
/-- What an owned list's block tells. -/
theorem own_parts {e : TypeId} {k : IntKind} {base g cap : Nat} {L : List Int} {w : World} (h : OwnN e k base (.slice (some ⟨g, 0, none⟩) L.length cap) L w) :
    base ≤ g ∧ g < w.heap.size ∧ L.length ≤ cap ∧ cap ≤ maxLen ∧ (∀ j v, (ncells k L)[j]? = some v → w.cell? ⟨g, j, none⟩ = some v) ∧ (∀ j, j < cap → (w.cell? ⟨g, j, none⟩).isSome = true) ∧ (∀ j, w.frozen? ⟨g, j, none⟩ = false) ∧ w.shape? g = some (e, cap) := by
  rcases h.2 with ⟨h1, _⟩ | ⟨g', cap', cur, hv, hb, hg, h1, h2, h3, h4⟩
  · exact absurd h1 (by simp)
  · simp at hv
    obtain ⟨rfl, rfl⟩ := hv
    rw [Nat.mul_one] at h3
    refine ⟨hb, (Array.getElem?_eq_some_iff.1 hg).1, h1, h2, fun j v hj => ?_, fun j hj => ?_, fun j => ?_, ?_⟩
    · have hlt : j < L.length := by have := (List.getElem?_eq_some_iff.1 hj).1; rwa [nc_len] at this
      exact (ownN_at h hlt).trans ((nc_at k hlt).symm.trans hj)
    · simp [World.cell?, hg, h3, hj]
    · simp [World.frozen?, hg]
    · simp [World.shape?, hg, h3]
theorem i_insertI (base g cap i vb : Nat) (L : List Int) (x : Int) (w : World) (hO : OwnN 3 .i64 base (.slice (some ⟨g, 0, none⟩) L.length cap) L w) (hi : i ≤ L.length) (hl : L.length ≤ 1048576) (hbs : base ≤ w.heap.size) (hne : vb ≠ g) (hV : w.heap[vb]? = some (.cells #[.int .i64 x] 3 (0, 0))) :
    Calls Try.prog 84 #[.slice (some ⟨g, 0, none⟩) L.length cap, .int .i64 i, .slice (some ⟨vb, 0, none⟩) 1 1] w fun e w' => ∃ c cp, e = .returned (.slice (some ⟨c, 0, none⟩) (L.length + 1) cp) ∧ base ≤ c ∧ Mut w' c (ncells .i64 (L.take i ++ x :: L.drop i)) ∧ Below base w w' ∧ Only g w w' ∧ (c = g ∨ w.heap.size ≤ c) := by
  obtain ⟨hb, hg, h1, h2, hc, hs, hf, hsh⟩ := own_parts hO
  have hnl := nc_len .i64 L
  have hv0 : ∀ j v, [Value.int .i64 x][j]? = some v → w.cell? ⟨vb, 0 + j, none⟩ = some v := fun j v hj => by
    have hj0 : j = 0 := by have := (List.getElem?_eq_some_iff.1 hj).1; simp at this; exact this
    subst hj0
    simp at hj
    subst hj
    simp [World.cell?, hV]
  have hsv : w.shape? vb = some (3, 1) := by simp [World.shape?, hV]
  have hfv : ∀ j, w.frozen? ⟨vb, j, none⟩ = false := fun j => by simp [World.frozen?, hV]
  have hone := nc_one .i64 L
  have hc63 : cap ≤ 9223372036854775807 := by unfold maxLen at h2; omega
  have hc0 : ∀ j v, (ncells .i64 L)[j]? = some v → w.cell? ⟨g, 0 + j, none⟩ = some v := fun j v h => by rw [Nat.zero_add]; exact hc j v h
  have hone1 : ∀ v ∈ [Value.int .i64 x], v.oneCell' = true := by simp [Value.oneCell']
  rw [← nc_ins]
  by_cases hroom : L.length + 1 ≤ cap
  · by_cases hlt : i < L.length
    · have h := Any2.slices_Insert_int_shift Try.laysInsert g 0 L.length cap i vb 0 1 1 (ncells .i64 L) [.int .i64 x] w hlt (by decide) hroom hc63 hne hnl rfl hc0 (fun j hj => by rw [Nat.zero_add]; exact hs j (by omega)) (fun j _ => hf _) hv0 hone hone1 _ _ _ _ hsv hsh (by omega) (hfv _) (hfv _)
      refine Calls.mono h ?_
      rintro e w1 ⟨rfl, rfl⟩
      refine ⟨g, cap, rfl, hb, ?_, below_setCells7 g hb _ _ (below_setCells7 g hb _ _ (Below.refl _ _).drew), only_setCells7 g _ _ (only_setCells7 g _ _ (Only.of_below (Below.refl _ _).drew)), .inl rfl⟩
      have := ins_shift (w := w.drew) (g := g) (i := i) (cs := ncells .i64 L) (x := .int .i64 x) hg (by omega) hc (fun j hj => hs j (by omega)) (fun j _ => hf j)
      rw [Nat.zero_add, Nat.zero_add]
      exact this
    · obtain rfl : i = L.length := by omega
      have h := Any2.slices_Insert_int_end_room Try.laysInsert g 0 L.length cap vb 0 1 1 [.int .i64 x] w (by decide) hroom hc63 rfl (fun j hj => hs _ (by omega)) (fun j _ => hf _) hv0 hone1
      refine Calls.mono h ?_
      rintro e w1 ⟨rfl, rfl⟩
      refine ⟨g, cap, rfl, hb, ?_, below_setCells7 g hb _ _ (Below.refl _ _), only_setCells7 g _ _ (Only.refl g w), .inl rfl⟩
      have := ins_shift (w := w) (g := g) (i := L.length) (cs := ncells .i64 L) (x := .int .i64 x) hg (by omega) hc (fun j hj => hs j (by omega)) (fun j _ => hf j)
      rw [List.drop_of_length_le (show (ncells .i64 L).length ≤ L.length by omega)] at this ⊢
      rw [Nat.zero_add]
      exact this
  · by_cases hlt : i < L.length
    · have h := Any2.slices_Insert_int_grow Try.laysInsert g 0 L.length cap i vb 0 1 1 (ncells .i64 L) [.int .i64 x] w hlt (by decide) h1 (by omega) (by omega) hnl rfl hc0 hv0 hone hone1
      refine Calls.mono h ?_
      rintro e w1 ⟨rfl, rfl⟩
      refine ⟨w.heap.size, _, rfl, hbs, ?_, below_setCells7 _ hbs _ _ (Below.drew (below_setCells7 _ hbs _ _ (Below.drew ((Below.refl _ _).alloc hbs _)))), Only.of_below (below_setCells7 _ (Nat.le_refl _) _ _ (Below.drew (below_setCells7 _ (Nat.le_refl _) _ _ (Below.drew ((Below.refl _ _).alloc (Nat.le_refl _) _))))), .inr (Nat.le_refl _)⟩
      have MN := Mut.new w (((ncells .i64 L).take i).toArray ++ Builtin.zeroCells (Value.int .i64 0).cells (L.length + 1 - i) ++ Builtin.zeroCells (Value.int .i64 0).cells (grownCap w (L.length + 1) cap 3 - (L.length + 1))) 3
      have hz : ∀ n, (Builtin.zeroCells (Value.int .i64 0).cells n).size = n := fun n => by simp [Builtin.zeroCells, Value.cells]
      have hsz : L.length + 1 ≤ (((ncells .i64 L).take i).toArray ++ Builtin.zeroCells (Value.int .i64 0).cells (L.length + 1 - i) ++ Builtin.zeroCells (Value.int .i64 0).cells (grownCap w (L.length + 1) cap 3 - (L.length + 1))).toList.length := by
        rw [Array.toList_append, Array.toList_append, List.length_append, List.length_append, List.length_take, Array.length_toList (xs := Builtin.zeroCells (Value.int .i64 0).cells (L.length + 1 - i)), hz]
        omega
      refine ins_fresh (g := w.heap.size) MN.1 (by omega) (fun j v hj hv => ?_) (fun j hj => ?_) (fun j hj => MN.2.2 j (by omega))
      · refine MN.2.1 j v ?_
        rw [Array.toList_append, Array.toList_append, List.append_assoc, List.getElem?_append_left (by rw [List.length_take]; omega), List.getElem?_take_of_lt hj]
        exact hv
      · have hj2 := Nat.lt_of_lt_of_le (show j < L.length + 1 by omega) hsz
        exact Option.isSome_iff_exists.2 ⟨_, MN.2.1 j _ (List.getElem?_eq_getElem hj2)⟩
    · obtain rfl : i = L.length := by omega
      have h := Any2.slices_Insert_int_end_grow Try.laysInsert (some ⟨g, 0, none⟩) L.length cap vb 0 1 1 (ncells .i64 L) [.int .i64 x] w (by decide) h1 (by omega) (by omega) hnl rfl (fun h => absurd h (by simp)) (fun a ha j v hj => by simp at ha; subst ha; rw [Addr.add_lit]; exact hc0 j v hj) hv0 hone1
      refine Calls.mono h ?_
      rintro e w1 ⟨rfl, rfl⟩
      refine ⟨w.heap.size, _, rfl, hbs, ?_, (Below.refl _ _).drew.alloc hbs _, Only.of_below ((Below.refl _ _).drew.alloc (Nat.le_refl _) _), .inr (Nat.le_refl _)⟩
      have := Mut.new w.drew ((ncells .i64 L ++ [Value.int .i64 x]).toArray ++ Builtin.zeroCells (Value.int .i64 0).cells (grownCap w (L.length + 1) cap 3 - (L.length + 1))) 3
      rw [List.take_of_length_le (show (ncells .i64 L).length ≤ L.length by omega), List.drop_of_length_le (show (ncells .i64 L).length ≤ L.length by omega)]
      rw [Array.toList_append] at this
      exact this.front
end Go.Proofs.Ytflakkbodbnndaa
