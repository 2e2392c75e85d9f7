/- What the program's TakePrefix answers. -/
import Derived.Test.YtoeephmdklmpfaaI4s
import Derived.Laws.IdiomStrings
namespace Go.Proofs.Ytoeephmdklmpfaa
open Go.RowKit

theorem sbs_extract (s : ByteArray) (p : Nat) : sbs (s.extract p s.size) = (sbs s).drop p := by
  unfold sbs
  rw [ByteArray.data_extract, Array.toList_extract, List.map_drop.symm]
  congr 1
  rw [List.extract_eq_take_drop]
  rw [List.take_of_length_le (by rw [List.length_drop]; exact Nat.le_refl _)]
theorem ext_size (s : ByteArray) (p : Nat) : (s.extract p s.size).size = s.size - p := by
  rw [ByteArray.size_extract]
  omega
theorem front_start (w0 : World) (t : ByteArray) (n cap : Nat) (e f : TypeId) (fr : Nat × Nat) (hn : t.size = n) (h1 : n ≤ cap) (h2 : cap ≤ maxLen) :
    Frt ((w0.alloc (.cells (bytesRow t cap) e fr)).alloc (.cells #[.slice (some ⟨w0.heap.size, 0, none⟩) n cap, .int .i64 0] f)).drew (w0.heap.size + 1) w0.heap.size (sbs t) 0 := by
  have hl : (sbs t).length = n := by rw [sbs_len]; exact hn
  have R : RowN .u8 (some ⟨w0.heap.size, 0, none⟩) (sbs t) (w0.alloc (.cells (bytesRow t cap) e fr)) := by
    intro i hi
    refine ⟨w0.heap.size, 0, rfl, by simp, ?_⟩
    rw [Nat.zero_add, World.cell?_alloc_mark]
    rw [sbs_len] at hi
    have hx := sbs_at (s := t) hi
    have hd : (sbs t).getD i 0 = (t[i].toNat : Int) := by rw [List.getD_eq_getElem?_getD, hx]; rfl
    rw [hd]
    unfold bytesRow
    have hsz : i < (t.data.map (fun b => Value.int .u8 b.toNat)).size := by simpa using hi
    rw [Array.getElem?_append_left hsz, Array.getElem?_map]
    have : t.data[i]? = some t[i] := by
      have hi' : i < t.data.size := hi
      rw [Array.getElem?_eq_getElem hi']
      rfl
    rw [this]
    rfl
  refine ⟨0, cap, ?_, by rw [hl]; exact h1, h2, R.below (below_box (Below.refl _ _)).drew⟩
  rw [hl]
  have M := (Mut.new (w0.alloc (.cells (bytesRow t cap) e fr)) #[.slice (some ⟨w0.heap.size, 0, none⟩) n cap, .int .i64 0] f).drew
  simpa using M

end Go.Proofs.Ytoeephmdklmpfaa
