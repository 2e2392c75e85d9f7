/- The law on PrependPath: the program answers as the specification. -/
import Derived.Test.YtflakkbodbnndaaAll5
import Derived.Test.YtflakkbodbnndaaI4
import Derived.Laws.CopyOwn
import Derived.Deep.RegionHeld3
import Derived.Lib.SliceRun
/- What the program's Clone (of numbers) and PrependPath answer. -/
namespace Go.Proofs.Ytflakkbodbnndaa
open Go.RowKit

/-- Block c, whole: numbers. -/
def BkI (w : World) (c : Nat) (L : List Int) : Prop := w.heap[c]? = some (.cells (ncells .i64 L).toArray 3 (0, 0))
theorem BkI.lt {w : World} {c : Nat} {L : List Int} (h : BkI w c L) : c < w.heap.size := (Array.getElem?_eq_some_iff.1 h).1
theorem BkI.below {w w' : World} {c : Nat} {L : List Int} (h : BkI w c L) (k : Below w.heap.size w w') : BkI w' c L := (k.block c h.lt).trans h
theorem BkI.only {w w' : World} {c d : Nat} {L : List Int} (h : BkI w c L) (k : Only d w w') (hn : c ≠ d) : BkI w' c L := (k.2.2.2.2 c h.lt hn).trans h
theorem BkI.cell {w : World} {c : Nat} {L : List Int} (h : BkI w c L) {i : Nat} (hi : i < L.length) : w.cell? ⟨c, i, none⟩ = some (.int .i64 (L.getD i 0)) := by
  rw [cell_of_row w c i _ _ (0, 0) h]
  simpa using nc_at .i64 hi
theorem BkI.frozen {w : World} {c : Nat} {L : List Int} (h : BkI w c L) (i : Nat) : w.frozen? ⟨c, i, none⟩ = false := by
  unfold BkI at h
  simp [World.frozen?, h]
theorem BkI.set {w : World} {c : Nat} {L : List Int} (h : BkI w c L) (i : Nat) (v : Int) : BkI (w.setCell ⟨c, i, none⟩ (.int .i64 v)) c (L.set i v) := by
  unfold BkI at h ⊢
  have hlt := (Array.getElem?_eq_some_iff.1 h).1
  simp only [World.setCell, Array.getElem?_modify, h]
  simp [ncells, List.map_set]
theorem BkI.out {w : World} {c : Nat} {L : List Int} (h : BkI w c L) : OutInt c L.length L.length (fun i => L.getD i 0) w :=
  ⟨h.lt, fun _ hi => ⟨⟨_, h.cell hi, fun _ => rfl⟩, h.frozen _⟩⟩
theorem BkI.new (w : World) (n : Nat) : BkI (w.alloc (.cells (madeCells #[.int .i64 0] n) 3)) w.heap.size (List.replicate n 0) := by
  unfold BkI
  rw [heap_alloc_new]
  congr 2
  apply Array.ext
  · simp [madeCells, ncells]
  · intro i h1 h2
    simp [madeCells, ncells, Nat.mod_one]
theorem rep_set (asn : Int) (k n : Nat) (h : k < n) : (List.replicate k asn ++ List.replicate (n - k) 0).set k asn = List.replicate (k + 1) asn ++ List.replicate (n - (k + 1)) 0 := by
  obtain ⟨r, hr⟩ : ∃ r, n - k = r + 1 := ⟨n - k - 1, by omega⟩
  rw [hr, show n - (k + 1) = r by omega, List.replicate_succ, List.set_append_right _ _ (by simp), List.replicate_succ']
  simp
theorem splice_lon (asn : Int) (m n0 : Nat) (f : Nat → Int) : splice (ncells .i64 (List.replicate m asn ++ List.replicate (m + n0 - m) 0)) m (ncells .i64 ((List.range n0).map f)) = ncells .i64 (lon asn m n0 f) := by
  unfold splice lon
  rw [nc_len, nc_app, nc_app]
  have e1 : (ncells .i64 (List.replicate m asn)).length = m := by rw [nc_len]; simp
  have e2 : (ncells .i64 (List.replicate (m + n0 - m) (0 : Int))).length = n0 := by rw [nc_len]; simp
  rw [List.take_append_of_le_length (by rw [e1]; exact Nat.le_refl _), List.take_of_length_le (by rw [e1]; exact Nat.le_refl _)]
  congr 1
  rw [List.drop_of_length_le (by rw [List.length_append, e1, e2]; simp), List.append_nil]
set_option maxRecDepth 100000 in
set_option maxHeartbeats 1600000 in
theorem i_cloneI (y n1 c1 : Nat) (g : Nat → Int) (w : World) (h1 : n1 ≤ 10) (R1 : RowInt (some ⟨y, 0, none⟩) n1 g w) :
    Calls Try.prog 61 #[.slice (some ⟨y, 0, none⟩) n1 c1] w fun e w' => ∃ q qc, e = .returned (.slice (some ⟨q, 0, none⟩) n1 qc) ∧ w.heap.size ≤ q ∧ OutInt q n1 n1 g w' ∧ Below w.heap.size w w' := by
  have hm0 : OwnN 3 .i64 w.heap.size (.slice (some ⟨w.heap.size, 0, none⟩) 0 0) [] (w.alloc (.cells #[] 3)) := by
    have := World.ownsRow_made (e := 3) (size := 1) (base := w.heap.size) w #[] 0 (Nat.le_refl _) (by decide) (by decide)
    unfold OwnN
    simpa [ncells] using this
  have d : Below w.heap.size w (w.alloc (.cells #[] 3)) := below_box (Below.refl _ _)
  have hsz : w.heap.size ≤ (w.alloc (.cells #[] 3)).heap.size := by simp
  have S1 : SrcN .i64 (some ⟨y, 0, none⟩) ((List.range n1).map g) c1 (w.alloc (.cells #[] 3)) := ⟨(R1.below d).rowN, .inr ⟨_, _, rfl⟩⟩
  have q22 : ∀ (w : World) (a : Option Addr) (n c n' c' : Nat), (binOp .eql 26 (.slice a n c) (.slice none n' c')).run Try.prog w = .ok (.bool a.isNone) w := fun w a n c n' c' => Lib.run_eql_slice_nil w _ _ a n c n' c' Try.underlying26
  have hl1 := hide (show n1 = ((List.range n1).map g).length by simp)
  have hb1 : Hid (([] : List Int).length + ((List.range n1).map g).length ≤ 8589934593) := by show _ ≤ _; simp; omega
  go_enter Try.func61, Try.ntmps61
  go_wp2_with (first | (at_builtin; refine wpList_appN numInt rfl _ _ rfl w.heap.size _ [] rfl hm0 _ ((List.range n1).map g) n1 c1 rfl hl1.out S1 hb1.out (by decide) hsz ?_))
  intro v2 w2 own2 b2 _ hbl
  obtain ⟨ya, yc, rfl, _, hcase⟩ := ownN_row own2
  obtain ⟨q, rfl, hy1, hy2⟩ : ∃ y, ya = some ⟨y, 0, none⟩ ∧ w.heap.size ≤ y ∧ y < w2.heap.size := by
    rcases hcase with ⟨rfl, _, _⟩ | ⟨q, h1, h2, h3⟩
    · simp [Value.ownBlock] at hbl
    · exact ⟨q, h1, h2, h3⟩
  have h2 := ownN_out own2
  simp only [List.length_map, List.length_range] at h2 ⊢
  have h2 : OutInt q n1 n1 g w2 := h2.congr (fun i hi => map_get g i hi)
  have dF := d.trans b2
  clear hbl hcase own2 S1 hm0
  go_wp2_with fail
  exact bodyPost_ret (v := .slice (some ⟨q, 0, none⟩) n1 yc) (by simp [results, Try.results61, go_sem]) rfl ⟨q, yc, rfl, hy1, h2, dF⟩
end Go.Proofs.Ytflakkbodbnndaa

namespace Go.Proofs.Ytflakkbodbnndaa
open Go.RowKit

set_option maxRecDepth 100000 in
set_option maxHeartbeats 800000 in
theorem w_markAttrs_nil (w : World) :
    Calls Try.prog 31 #[.agg #[.int .i64 0, .slice none 0 0, .int .i64 0, .int .i64 0, .int .i64 0, .slice none 0 0], .int .i64 1] w fun e w' => e = .returned (.int .i64 1) ∧ Below w.heap.size w w' := by
  have s0 := hide (fun k w => w_markIntS_nil none 0 k w)
  have d : Below w.heap.size w (w.alloc (.cells #[.int .i64 0, .slice none 0 0, .int .i64 0, .int .i64 0, .int .i64 0, .slice none 0 0] 33)) := below_box (Below.refl _ _)
  go_enter Try.func31, Try.ntmps31
  go_wp2_with fail
  refine (s0.out _ _).mono ?_
  rintro e w2 ⟨rfl, rfl⟩
  go_wp2_with fail
  refine (s0.out _ _).mono ?_
  rintro e w2 ⟨rfl, rfl⟩
  go_wp2_with fail
  go_ret
  exact ⟨rfl, d⟩
end Go.Proofs.Ytflakkbodbnndaa
