/- slices.Insert of one number into a list of one's own. -/
import Derived.Shelf.Slices.Clone
import Derived.Shelf.Slices.SearchI
import Derived.Shelf.Slices.Delete
import Derived.Shelf.Spec.SlicesInsert
import Derived.Shelf.Spec.SlicesInsertGrow
import Derived.Ground.Names2Prog
import Derived.Test.YtflakkbodbnndaaProg
import Derived.Test.YtflakkbodbnndaaMemN
import Derived.Test.YtflakkbodbnndaaAll2
/- slices.Clone, slices.BinarySearch, slices.Insert and slices.Delete of the library's shelf at []int, laid at this program. -/
namespace Go.Proofs
open Go.Shelf
def Try.laysClone_ren : Go.Shelf.Ren := ⟨fun | 15 => 61 | n => n, fun | 22 => 26 | 3 => 3 | 4 => 4 | n => n, fun | n => n⟩
theorem Try.laysClone : Go.Proofs.Lays2.n15 Try.prog Try.laysClone_ren := {
  mixed := by kernel_rfl
  f15 := Try.func61.trans (congrArg some (by kernel_rfl))
  t3 := Try.underlying3
  a3 := Try.isAgg3
  z3 := Try.sizeOf3
  v3 := Try.zeroValue3
  t4 := Try.underlying4
  a4 := Try.isAgg4
  z4 := Try.sizeOf4
  v4 := Try.zeroValue4
  t22 := Try.underlying26
  a22 := Try.isAgg26
  z22 := Try.sizeOf26
  v22 := Try.zeroValue26
  i3 := by kernel_rfl }
open Go.RowKit Go.Lib in
/-- slices.Clone at nil. -/
theorem Try.slices_Clone_int_nil (m c : Nat) (w : World) : Calls Try.prog 61 #[.slice none m c] w fun e w' => e = .returned (.slice none 0 0) ∧ w' = w := Any.slices_Clone_int_nil Try.laysClone m c w
def Try.laysSearch_ren : Go.Shelf.Ren := ⟨fun | 25 => 83 | 31 => 104 | 32 => 105 | 37 => 117 | n => n, fun | 22 => 26 | 3 => 3 | 4 => 4 | 40 => 134 | 0 => 0 | n => n, fun | n => n⟩
theorem Try.laysSearch : Go.Proofs.Lays2.n25 Try.prog Try.laysSearch_ren := {
  mixed := by kernel_rfl
  f25 := Try.func83.trans (congrArg some (by kernel_rfl))
  f31 := Try.func104.trans (congrArg some (by kernel_rfl))
  f32 := Try.func105.trans (congrArg some (by kernel_rfl))
  f37 := Try.func117.trans (congrArg some (by kernel_rfl))
  t0 := Try.underlying0
  a0 := Try.isAgg0
  z0 := Try.sizeOf0
  v0 := Try.zeroValue0
  t3 := Try.underlying3
  a3 := Try.isAgg3
  z3 := Try.sizeOf3
  v3 := Try.zeroValue3
  t4 := Try.underlying4
  a4 := Try.isAgg4
  z4 := Try.sizeOf4
  v4 := Try.zeroValue4
  t22 := Try.underlying26
  a22 := Try.isAgg26
  z22 := Try.sizeOf26
  v22 := Try.zeroValue26
  t40 := Try.underlying134
  a40 := Try.isAgg134
  z40 := Try.sizeOf134
  v40 := Try.zeroValue134 }
def Try.laysInsert_ren : Go.Shelf.Ren := ⟨fun | 21 => 84 | 27 => 106 | 28 => 107 | 35 => 118 | 39 => 121 | n => n, fun | 22 => 26 | 3 => 3 | 4 => 4 | 0 => 0 | n => n, fun | n => n⟩
theorem Try.laysInsert : Go.Proofs.Lays2.n21 Try.prog Try.laysInsert_ren := {
  mixed := by kernel_rfl
  f21 := Try.func84.trans (congrArg some (by kernel_rfl))
  f27 := Try.func106.trans (congrArg some (by kernel_rfl))
  f28 := Try.func107.trans (congrArg some (by kernel_rfl))
  f35 := Try.func118.trans (congrArg some (by kernel_rfl))
  f39 := Try.func121.trans (congrArg some (by kernel_rfl))
  t0 := Try.underlying0
  a0 := Try.isAgg0
  z0 := Try.sizeOf0
  v0 := Try.zeroValue0
  t3 := Try.underlying3
  a3 := Try.isAgg3
  z3 := Try.sizeOf3
  v3 := Try.zeroValue3
  t4 := Try.underlying4
  a4 := Try.isAgg4
  z4 := Try.sizeOf4
  v4 := Try.zeroValue4
  t22 := Try.underlying26
  a22 := Try.isAgg26
  z22 := Try.sizeOf26
  v22 := Try.zeroValue26
  i3 := by kernel_rfl }
def Try.laysDelete_ren : Go.Shelf.Ren := ⟨fun | 23 => 85 | n => n, fun | 22 => 26 | 3 => 3 | 4 => 4 | 0 => 0 | n => n, fun | n => n⟩
theorem Try.laysDelete : Go.Proofs.Lays2.n23 Try.prog Try.laysDelete_ren := {
  mixed := by kernel_rfl
  f23 := Try.func85.trans (congrArg some (by kernel_rfl))
  t0 := Try.underlying0
  a0 := Try.isAgg0
  z0 := Try.sizeOf0
  v0 := Try.zeroValue0
  t3 := Try.underlying3
  a3 := Try.isAgg3
  z3 := Try.sizeOf3
  v3 := Try.zeroValue3
  t4 := Try.underlying4
  a4 := Try.isAgg4
  z4 := Try.sizeOf4
  v4 := Try.zeroValue4
  t22 := Try.underlying26
  a22 := Try.isAgg26
  z22 := Try.sizeOf26
  v22 := Try.zeroValue26
  i3 := by kernel_rfl }
end Go.Proofs

/- A number put in among a list's numbers, in memory. -/
namespace Go.Proofs.Ytflakkbodbnndaa
open Go.RowKit

theorem size_setCells (b : Nat) : ∀ (vs : List Value) (o : Nat) (w : World), (w.setCells b o vs).heap.size = w.heap.size
  | [], _, _ => rfl
  | v :: r, o, w => by rw [World.setCells, size_setCells b r]; simp
theorem Mut.front {w : World} {b : Nat} {A B : List Value} (h : Mut w b (A ++ B)) : Mut w b A :=
  ⟨h.1, fun i v hv => h.2.1 i v (by rw [List.getElem?_append_left (List.getElem?_eq_some_iff.1 hv).1]; exact hv), fun i hi => h.2.2 i (by rw [List.length_append]; omega)⟩
theorem ins_mut {W : World} {g i : Nat} {cs : List Value} {x : Value} (hg : g < W.heap.size) (hi : i ≤ cs.length) (h2 : ∀ j v, j < i → cs[j]? = some v → W.cell? ⟨g, j, none⟩ = some v) (h3 : W.cell? ⟨g, i, none⟩ = some x)
    (h4 : ∀ k v, (cs.drop i)[k]? = some v → W.cell? ⟨g, i + 1 + k, none⟩ = some v) (h5 : ∀ j, j < cs.length + 1 → W.frozen? ⟨g, j, none⟩ = false) : Mut W g (cs.take i ++ x :: cs.drop i) := by
  refine ⟨hg, fun j v hv => ?_, fun j hj => h5 j (by simp at hj; omega)⟩
  rcases Nat.lt_trichotomy j i with h | rfl | h
  · rw [List.getElem?_append_left (by simp; omega), List.getElem?_take_of_lt h] at hv
    exact h2 j v h hv
  · rw [List.getElem?_append_right (by simp; omega)] at hv
    simp [Nat.min_eq_left hi] at hv
    rw [← hv]
    exact h3
  · rw [List.getElem?_append_right (by simp; omega), List.length_take, Nat.min_eq_left hi, show j - i = (j - i - 1) + 1 by omega, List.getElem?_cons_succ] at hv
    have := h4 _ _ hv
    rwa [show i + 1 + (j - i - 1) = j by omega] at this
/-- The shift in place: what stood from i on goes one further, then x stands at i. -/
theorem ins_shift {w : World} {g i : Nat} {cs : List Value} {x : Value} (hg : g < w.heap.size) (hi : i ≤ cs.length) (hcs : ∀ j v, cs[j]? = some v → w.cell? ⟨g, j, none⟩ = some v) (hsp : ∀ j, j < cs.length + 1 → (w.cell? ⟨g, j, none⟩).isSome = true) (hfz : ∀ j, j < cs.length + 1 → w.frozen? ⟨g, j, none⟩ = false) :
    Mut ((w.setCells g (i + 1) (cs.drop i)).setCells g i [x]) g (cs.take i ++ x :: cs.drop i) := by
  have hdl : (cs.drop i).length = cs.length - i := by simp
  have hs1 : ∀ j, j < cs.length + 1 → ((w.setCells g (i + 1) (cs.drop i)).cell? ⟨g, j, none⟩).isSome = true := fun j hj => by
    by_cases hl : j < i + 1
    · rw [World.cell?_setCells_out _ _ _ _ _ (fun _ _ => .inl hl)]
      exact hsp j hj
    · have := World.cell?_setCells_in g (cs.drop i) (i + 1) w (fun k hk => hsp _ (by omega)) (j - (i + 1)) (by omega)
      rw [show i + 1 + (j - (i + 1)) = j by omega] at this
      rw [this]
      rfl
  refine ins_mut (by rw [size_setCells, size_setCells]; exact hg) hi (fun j v h hv => ?_) ?_ (fun k v hv => ?_) (fun j hj => by rw [World.frozen?_setCells, World.frozen?_setCells]; exact hfz j hj)
  · rw [World.cell?_setCells_out _ _ _ _ _ (fun _ _ => .inl h), World.cell?_setCells_out _ _ _ _ _ (fun _ _ => .inl (show j < i + 1 by omega))]
    exact hcs j v hv
  · have := World.cell?_setCells_in g [x] i (w.setCells g (i + 1) (cs.drop i)) (fun k hk => hs1 _ (by simp at hk; omega)) 0 (by simp)
    simpa using this
  · have hk : k < (cs.drop i).length := (List.getElem?_eq_some_iff.1 hv).1
    rw [World.cell?_setCells_out _ _ _ _ _ (fun _ _ => .inr (show i + 1 ≤ i + 1 + k by omega))]
    rw [World.cell?_setCells_in g (cs.drop i) (i + 1) w (fun k hk => hsp _ (by omega)) k hk, ← hv, List.getElem?_eq_getElem hk]
/-- The same the other way round. -/
theorem ins_fresh {w : World} {g i : Nat} {cs : List Value} {x : Value} (hg : g < w.heap.size) (hi : i ≤ cs.length) (hcs : ∀ j v, j < i → cs[j]? = some v → w.cell? ⟨g, j, none⟩ = some v) (hsp : ∀ j, j < cs.length + 1 → (w.cell? ⟨g, j, none⟩).isSome = true) (hfz : ∀ j, j < cs.length + 1 → w.frozen? ⟨g, j, none⟩ = false) :
    Mut (((w.drew.setCells g i [x]).drew).setCells g (i + 1) (cs.drop i)) g (cs.take i ++ x :: cs.drop i) := by
  have hdl : (cs.drop i).length = cs.length - i := by simp
  have hs1 : ∀ j, j < cs.length + 1 → (((w.drew.setCells g i [x]).drew).cell? ⟨g, j, none⟩).isSome = true := fun j hj => by
    show ((w.drew.setCells g i [x]).cell? ⟨g, j, none⟩).isSome = true
    by_cases hl : j = i
    · subst hl
      have := World.cell?_setCells_in g [x] j w.drew (fun k hk => hsp _ (by simp at hk; omega)) 0 (by simp)
      rw [Nat.add_zero] at this
      rw [this]
      rfl
    · rw [World.cell?_setCells_out _ _ _ _ _ (fun _ _ => by simp; omega)]
      exact hsp j hj
  refine ins_mut (by rw [size_setCells]; show g < (w.drew.setCells g i [x]).heap.size; rw [size_setCells]; exact hg) hi (fun j v h hv => ?_) ?_ (fun k v hv => ?_) (fun j hj => by rw [World.frozen?_setCells]; show (w.drew.setCells g i [x]).frozen? _ = false; rw [World.frozen?_setCells]; exact hfz j hj)
  · rw [World.cell?_setCells_out _ _ _ _ _ (fun _ _ => .inl (show j < i + 1 by omega))]
    show (w.drew.setCells g i [x]).cell? _ = _
    rw [World.cell?_setCells_out _ _ _ _ _ (fun _ _ => .inl h)]
    exact hcs j v h hv
  · rw [World.cell?_setCells_out _ _ _ _ _ (fun _ _ => .inl (show i < i + 1 by omega))]
    show (w.drew.setCells g i [x]).cell? _ = _
    have := World.cell?_setCells_in g [x] i w.drew (fun k hk => hsp _ (by simp at hk; omega)) 0 (by simp)
    simpa using this
  · have hk : k < (cs.drop i).length := (List.getElem?_eq_some_iff.1 hv).1
    rw [World.cell?_setCells_in g (cs.drop i) (i + 1) _ (fun k hk => hs1 _ (by omega)) k hk, ← hv, List.getElem?_eq_getElem hk]
end Go.Proofs.Ytflakkbodbnndaa

namespace Go.Proofs.Ytflakkbodbnndaa
open Go.RowKit

theorem below_setCells7 {B : Nat} {a : World} (b : Nat) (hb : B ≤ b) : ∀ (vs : List Value) (o : Nat) {w : World}, Below B a w → Below B a (w.setCells b o vs)
  | [], _, _, h => h
  | v :: r, o, _, h => below_setCells7 b hb r (o + 1) (h.setCell (p := ⟨b, o, none⟩) hb v)
theorem only_setCells7 {a : World} (b : Nat) : ∀ (vs : List Value) (o : Nat) {w : World}, Only b a w → Only b a (w.setCells b o vs)
  | [], _, _, h => h
  | v :: r, o, _, h => only_setCells7 b r (o + 1) (h.setCell o v)
theorem nc_ins (k : IntKind) (L : List Int) (i : Nat) (x : Int) : (ncells k L).take i ++ .int k x :: (ncells k L).drop i = ncells k (L.take i ++ x :: L.drop i) := by
  simp [ncells, List.map_take, List.map_drop]
/-- What an owned list's block tells. -/
theorem own_parts {e : TypeId} {k : IntKind} {base g cap : Nat} {L : List Int} {w : World} (h : OwnN e k base (.slice (some ⟨g, 0, none⟩) L.length cap) L w) :
    base ≤ g ∧ g < w.heap.size ∧ L.length ≤ cap ∧ cap ≤ maxLen ∧ (∀ j v, (ncells k L)[j]? = some v → w.cell? ⟨g, j, none⟩ = some v) ∧ (∀ j, j < cap → (w.cell? ⟨g, j, none⟩).isSome = true) ∧ (∀ j, w.frozen? ⟨g, j, none⟩ = false) ∧ w.shape? g = some (e, cap) := by
  rcases h.2 with ⟨h1, _⟩ | ⟨g', cap', cur, hv, hb, hg, h1, h2, h3, h4⟩
  · exact absurd h1 (by simp)
  · simp at hv
    obtain ⟨rfl, rfl⟩ := hv
    rw [Nat.mul_one] at h3
    refine ⟨hb, (Array.getElem?_eq_some_iff.1 hg).1, h1, h2, fun j v hj => ?_, fun j hj => ?_, fun j => ?_, ?_⟩
    · have hlt : j < L.length := by have := (List.getElem?_eq_some_iff.1 hj).1; rwa [nc_len] at this
      exact (ownN_at h hlt).trans ((nc_at k hlt).symm.trans hj)
    · simp [World.cell?, hg, h3, hj]
    · simp [World.frozen?, hg]
    · simp [World.shape?, hg, h3]
theorem i_insertI (base g cap i vb : Nat) (L : List Int) (x : Int) (w : World) (hO : OwnN 3 .i64 base (.slice (some ⟨g, 0, none⟩) L.length cap) L w) (hi : i ≤ L.length) (hl : L.length ≤ 1048576) (hbs : base ≤ w.heap.size) (hne : vb ≠ g) (hV : w.heap[vb]? = some (.cells #[.int .i64 x] 3 (0, 0))) :
    Calls Try.prog 84 #[.slice (some ⟨g, 0, none⟩) L.length cap, .int .i64 i, .slice (some ⟨vb, 0, none⟩) 1 1] w fun e w' => ∃ c cp, e = .returned (.slice (some ⟨c, 0, none⟩) (L.length + 1) cp) ∧ base ≤ c ∧ Mut w' c (ncells .i64 (L.take i ++ x :: L.drop i)) ∧ Below base w w' ∧ Only g w w' ∧ (c = g ∨ w.heap.size ≤ c) := by
  obtain ⟨hb, hg, h1, h2, hc, hs, hf, hsh⟩ := own_parts hO
  have hnl := nc_len .i64 L
  have hv0 : ∀ j v, [Value.int .i64 x][j]? = some v → w.cell? ⟨vb, 0 + j, none⟩ = some v := fun j v hj => by
    have hj0 : j = 0 := by have := (List.getElem?_eq_some_iff.1 hj).1; simp at this; exact this
    subst hj0
    simp at hj
    subst hj
    simp [World.cell?, hV]
  have hsv : w.shape? vb = some (3, 1) := by simp [World.shape?, hV]
  have hfv : ∀ j, w.frozen? ⟨vb, j, none⟩ = false := fun j => by simp [World.frozen?, hV]
  have hone := nc_one .i64 L
  have hc63 : cap ≤ 9223372036854775807 := by unfold maxLen at h2; omega
  have hc0 : ∀ j v, (ncells .i64 L)[j]? = some v → w.cell? ⟨g, 0 + j, none⟩ = some v := fun j v h => by rw [Nat.zero_add]; exact hc j v h
  have hone1 : ∀ v ∈ [Value.int .i64 x], v.oneCell' = true := by simp [Value.oneCell']
  rw [← nc_ins]
  by_cases hroom : L.length + 1 ≤ cap
  · by_cases hlt : i < L.length
    · have h := Any2.slices_Insert_int_shift Try.laysInsert g 0 L.length cap i vb 0 1 1 (ncells .i64 L) [.int .i64 x] w hlt (by decide) hroom hc63 hne hnl rfl hc0 (fun j hj => by rw [Nat.zero_add]; exact hs j (by omega)) (fun j _ => hf _) hv0 hone hone1 _ _ _ _ hsv hsh (by omega) (hfv _) (hfv _)
      refine Calls.mono h ?_
      rintro e w1 ⟨rfl, rfl⟩
      refine ⟨g, cap, rfl, hb, ?_, below_setCells7 g hb _ _ (below_setCells7 g hb _ _ (Below.refl _ _).drew), only_setCells7 g _ _ (only_setCells7 g _ _ (Only.of_below (Below.refl _ _).drew)), .inl rfl⟩
      have := ins_shift (w := w.drew) (g := g) (i := i) (cs := ncells .i64 L) (x := .int .i64 x) hg (by omega) hc (fun j hj => hs j (by omega)) (fun j _ => hf j)
      rw [Nat.zero_add, Nat.zero_add]
      exact this
    · obtain rfl : i = L.length := by omega
      have h := Any2.slices_Insert_int_end_room Try.laysInsert g 0 L.length cap vb 0 1 1 [.int .i64 x] w (by decide) hroom hc63 rfl (fun j hj => hs _ (by omega)) (fun j _ => hf _) hv0 hone1
      refine Calls.mono h ?_
      rintro e w1 ⟨rfl, rfl⟩
      refine ⟨g, cap, rfl, hb, ?_, below_setCells7 g hb _ _ (Below.refl _ _), only_setCells7 g _ _ (Only.refl g w), .inl rfl⟩
      have := ins_shift (w := w) (g := g) (i := L.length) (cs := ncells .i64 L) (x := .int .i64 x) hg (by omega) hc (fun j hj => hs j (by omega)) (fun j _ => hf j)
      rw [List.drop_of_length_le (show (ncells .i64 L).length ≤ L.length by omega)] at this ⊢
      rw [Nat.zero_add]
      exact this
  · by_cases hlt : i < L.length
    · have h := Any2.slices_Insert_int_grow Try.laysInsert g 0 L.length cap i vb 0 1 1 (ncells .i64 L) [.int .i64 x] w hlt (by decide) h1 (by omega) (by omega) hnl rfl hc0 hv0 hone hone1
      refine Calls.mono h ?_
      rintro e w1 ⟨rfl, rfl⟩
      refine ⟨w.heap.size, _, rfl, hbs, ?_, below_setCells7 _ hbs _ _ (Below.drew (below_setCells7 _ hbs _ _ (Below.drew ((Below.refl _ _).alloc hbs _)))), Only.of_below (below_setCells7 _ (Nat.le_refl _) _ _ (Below.drew (below_setCells7 _ (Nat.le_refl _) _ _ (Below.drew ((Below.refl _ _).alloc (Nat.le_refl _) _))))), .inr (Nat.le_refl _)⟩
      have MN := Mut.new w (((ncells .i64 L).take i).toArray ++ Builtin.zeroCells (Value.int .i64 0).cells (L.length + 1 - i) ++ Builtin.zeroCells (Value.int .i64 0).cells (grownCap w (L.length + 1) cap 3 - (L.length + 1))) 3
      have hz : ∀ n, (Builtin.zeroCells (Value.int .i64 0).cells n).size = n := fun n => by simp [Builtin.zeroCells, Value.cells]
      have hsz : L.length + 1 ≤ (((ncells .i64 L).take i).toArray ++ Builtin.zeroCells (Value.int .i64 0).cells (L.length + 1 - i) ++ Builtin.zeroCells (Value.int .i64 0).cells (grownCap w (L.length + 1) cap 3 - (L.length + 1))).toList.length := by
        rw [Array.toList_append, Array.toList_append, List.length_append, List.length_append, List.length_take, Array.length_toList (xs := Builtin.zeroCells (Value.int .i64 0).cells (L.length + 1 - i)), hz]
        omega
      refine ins_fresh (g := w.heap.size) MN.1 (by omega) (fun j v hj hv => ?_) (fun j hj => ?_) (fun j hj => MN.2.2 j (by omega))
      · refine MN.2.1 j v ?_
        rw [Array.toList_append, Array.toList_append, List.append_assoc, List.getElem?_append_left (by rw [List.length_take]; omega), List.getElem?_take_of_lt hj]
        exact hv
      · have hj2 := Nat.lt_of_lt_of_le (show j < L.length + 1 by omega) hsz
        exact Option.isSome_iff_exists.2 ⟨_, MN.2.1 j _ (List.getElem?_eq_getElem hj2)⟩
    · obtain rfl : i = L.length := by omega
      have h := Any2.slices_Insert_int_end_grow Try.laysInsert (some ⟨g, 0, none⟩) L.length cap vb 0 1 1 (ncells .i64 L) [.int .i64 x] w (by decide) h1 (by omega) (by omega) hnl rfl (fun h => absurd h (by simp)) (fun a ha j v hj => by simp at ha; subst ha; rw [Addr.add_lit]; exact hc0 j v hj) hv0 hone1
      refine Calls.mono h ?_
      rintro e w1 ⟨rfl, rfl⟩
      refine ⟨w.heap.size, _, rfl, hbs, ?_, (Below.refl _ _).drew.alloc hbs _, Only.of_below ((Below.refl _ _).drew.alloc (Nat.le_refl _) _), .inr (Nat.le_refl _)⟩
      have := Mut.new w.drew ((ncells .i64 L ++ [Value.int .i64 x]).toArray ++ Builtin.zeroCells (Value.int .i64 0).cells (grownCap w (L.length + 1) cap 3 - (L.length + 1))) 3
      rw [List.take_of_length_le (show (ncells .i64 L).length ≤ L.length by omega), List.drop_of_length_le (show (ncells .i64 L).length ≤ L.length by omega)]
      rw [Array.toList_append] at this
      exact this.front
end Go.Proofs.Ytflakkbodbnndaa
