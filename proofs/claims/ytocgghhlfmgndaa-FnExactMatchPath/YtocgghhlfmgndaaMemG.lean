/- How a list of NfaEdge lies in memory. -/
import Derived.Test.YtocgghhlfmgndaaFlatNfaEdge
import Derived.Test.YtocgghhlfmgndaaPlain6b
import Derived.ChangeKeysEq
import Derived.Laws.AppendOwnNone
import Derived.ArgAppend
import Derived.Maps.AppendAt
import Derived.Deep.AppendLies
namespace Go.Proofs.Ytocgghhlfmgndaa
open Go.RowKit

def gAt (L : List Ed) (i : Nat) : Ed := L.getD i (0, 0, false, false, 0)
theorem gAt_eq {L : List Ed} {i : Nat} (h : i < L.length) : gAt L i = L[i] := by
  unfold gAt
  rw [List.getD_eq_getElem?_getD, List.getElem?_eq_getElem h]
  rfl
theorem gAt_mem {L : List Ed} {i : Nat} (h : i < L.length) : gAt L i ∈ L := by rw [gAt_eq h]; exact List.getElem_mem h
theorem gAt_cons (c : Ed) (L : List Ed) (i : Nat) : gAt (c :: L) (i + 1) = gAt L i := by simp [gAt]
theorem gAt_zero (c : Ed) (L : List Ed) : gAt (c :: L) 0 = c := by simp [gAt]
theorem take_succG {L : List Ed} {k : Nat} (h : k < L.length) : L.take (k + 1) = L.take k ++ [gAt L k] := by
  rw [gAt_eq h, List.take_add_one, List.getElem?_eq_getElem h]
  rfl
theorem foldl_takeG {β : Type} (g : β → Ed → β) (b : β) {L : List Ed} {k : Nat} (h : k < L.length) : (L.take (k + 1)).foldl g b = g ((L.take k).foldl g b) (gAt L k) := by
  rw [take_succG h, List.foldl_append]
  rfl
theorem all_takeG (f : Ed → Bool) {L : List Ed} {k : Nat} (h : k < L.length) : (L.take (k + 1)).all f = ((L.take k).all f && f (gAt L k)) := by
  rw [take_succG h, List.all_append]
  simp
theorem any_takeG (f : Ed → Bool) {L : List Ed} {k : Nat} (h : k < L.length) : (L.take (k + 1)).any f = ((L.take k).any f || f (gAt L k)) := by
  rw [take_succG h, List.any_append]
  simp

/-- The list out of what lies. -/
def listG (n : Nat) (f0 : Nat → Int) (f1 : Nat → Int) (f2 : Nat → Bool) (f3 : Nat → Bool) (f4 : Nat → Int) : List Ed := (List.range n).map fun i => (f0 i, f1 i, f2 i, f3 i, f4 i)
theorem listG_len (n : Nat) (f0 : Nat → Int) (f1 : Nat → Int) (f2 : Nat → Bool) (f3 : Nat → Bool) (f4 : Nat → Int) : (listG n f0 f1 f2 f3 f4).length = n := by simp [listG]
theorem listG_at {n : Nat} (f0 : Nat → Int) (f1 : Nat → Int) (f2 : Nat → Bool) (f3 : Nat → Bool) (f4 : Nat → Int) {i : Nat} (h : i < n) : gAt (listG n f0 f1 f2 f3 f4) i = (f0 i, f1 i, f2 i, f3 i, f4 i) := by
  rw [gAt_eq (by rw [listG_len]; exact h)]
  simp [listG]

/-- Their cells. -/
def encG (e : Ed) : List Value := [.int .i64 e.1, .int .i64 e.2.1, .bool e.2.2.1, .bool e.2.2.2.1, .int .i64 e.2.2.2.2]
def gcells (L : List Ed) : List Value := L.flatMap encG
theorem gc_cons (e : Ed) (L : List Ed) : gcells (e :: L) = .int .i64 e.1 :: .int .i64 e.2.1 :: .bool e.2.2.1 :: .bool e.2.2.2.1 :: .int .i64 e.2.2.2.2 :: gcells L := rfl
theorem gc_len (L : List Ed) : (gcells L).length = L.length * 5 := by
  induction L with
  | nil => rfl
  | cons e L ih => rw [gc_cons]; simp only [List.length_cons, ih]; omega
theorem gc_app (L M : List Ed) : gcells (L ++ M) = gcells L ++ gcells M := by unfold gcells; rw [List.flatMap_append]
theorem gc_one (e : Ed) : gcells [e] = encG e := by simp [gcells]
theorem gc_at {L : List Ed} {i : Nat} (h : i < L.length) : (gcells L)[i * 5]? = some (.int .i64 (gAt L i).1) ∧ (gcells L)[i * 5 + 1]? = some (.int .i64 (gAt L i).2.1) ∧ (gcells L)[i * 5 + 2]? = some (.bool (gAt L i).2.2.1) ∧ (gcells L)[i * 5 + 3]? = some (.bool (gAt L i).2.2.2.1) ∧ (gcells L)[i * 5 + 4]? = some (.int .i64 (gAt L i).2.2.2.2) := by
  induction L generalizing i with
  | nil => simp at h
  | cons e L ih =>
    cases i with
    | zero => exact ⟨rfl, rfl, rfl, rfl, rfl⟩
    | succ i =>
      have h1 := ih (i := i) (by simpa using h)
      have e1 : gAt (e :: L) (i + 1) = gAt L i := by simp [gAt]
      rw [e1, gc_cons]
      have e2 : (i + 1) * 5 = i * 5 + 5 := by omega
      rw [e2]
      exact h1
theorem gc_oneCell (L : List Ed) : ∀ u ∈ gcells L, u.oneCell' = true := by
  intro u hu
  unfold gcells at hu
  rw [List.mem_flatMap] at hu
  obtain ⟨n, _, hn⟩ := hu
  simp only [encG, List.mem_cons, List.not_mem_nil, or_false] at hn
  rcases hn with rfl | rfl | rfl | rfl | rfl <;> rfl

/-- The list L lies at a. -/
def RowG (a : Option Addr) (L : List Ed) (w : World) : Prop := ∀ i, i < L.length → ∃ b off, a = some ⟨b, off, none⟩ ∧ b < w.heap.size ∧ w.cell? ⟨b, off + i * 5, none⟩ = some (.int .i64 (gAt L i).1) ∧ w.cell? ⟨b, off + i * 5 + 1, none⟩ = some (.int .i64 (gAt L i).2.1) ∧ w.cell? ⟨b, off + i * 5 + 2, none⟩ = some (.bool (gAt L i).2.2.1) ∧ w.cell? ⟨b, off + i * 5 + 3, none⟩ = some (.bool (gAt L i).2.2.2.1) ∧ w.cell? ⟨b, off + i * 5 + 4, none⟩ = some (.int .i64 (gAt L i).2.2.2.2)
theorem RowG.below {a : Option Addr} {L : List Ed} {w w' : World} (h : RowG a L w) (k : Below w.heap.size w w') : RowG a L w' := by
  intro i hi
  obtain ⟨b, off, ha, hb, h0, h1, h2, h3, h4⟩ := h i hi
  obtain ⟨hc, _⟩ := bcell k
  exact ⟨b, off, ha, Nat.lt_of_lt_of_le hb k.size, (hc _ _ hb).trans h0, (hc _ _ hb).trans h1, (hc _ _ hb).trans h2, (hc _ _ hb).trans h3, (hc _ _ hb).trans h4⟩
/-- Rows lie as they lay where nothing below a bound has turned and they lie below it. -/
theorem RowG.base {a : Option Addr} {base : Nat} {L : List Ed} {w w' : World} (h : RowG a L w) (hb : ∀ b off, a = some ⟨b, off, none⟩ → b < base) (k : Below base w w') : RowG a L w' := by
  intro i hi
  obtain ⟨b, off, ha, hbw, h0, h1, h2, h3, h4⟩ := h i hi
  have hlt := hb b off ha
  have hc : ∀ o, w'.cell? ⟨b, o, none⟩ = w.cell? ⟨b, o, none⟩ := fun o => k.cell (p := ⟨b, o, none⟩) hlt
  exact ⟨b, off, ha, Nat.lt_of_lt_of_le hbw k.size, (hc _).trans h0, (hc _).trans h1, (hc _).trans h2, (hc _).trans h3, (hc _).trans h4⟩
theorem RowG.of {a : Option Addr} {n : Nat} {f0 : Nat → Int} {f1 : Nat → Int} {f2 : Nat → Bool} {f3 : Nat → Bool} {f4 : Nat → Int} {w : World} (h : RowNfaEdge a n f0 f1 f2 f3 f4 w) : RowG a (listG n f0 f1 f2 f3 f4) w := by
  intro i hi
  rw [listG_len] at hi
  rw [listG_at f0 f1 f2 f3 f4 hi]
  exact h i hi
theorem RowG.row {a : Option Addr} {L : List Ed} {w : World} (h : RowG a L w) : RowNfaEdge a L.length (fun i => (gAt L i).1) (fun i => (gAt L i).2.1) (fun i => (gAt L i).2.2.1) (fun i => (gAt L i).2.2.2.1) (fun i => (gAt L i).2.2.2.2) w := h
theorem RowG.nil (a : Option Addr) (w : World) : RowG a [] w := fun _ hi => absurd hi (Nat.not_lt_zero _)
/-- A part of a row. -/
theorem RowG.take {a : Option Addr} {L : List Ed} {w : World} (h : RowG a L w) (k : Nat) : RowG a (L.take k) w := by
  intro i hi
  rw [List.length_take] at hi
  have e : gAt (L.take k) i = gAt L i := by
    rw [gAt_eq (by rw [List.length_take]; exact hi), gAt_eq (by omega)]
    simp
  rw [e]
  exact h i (by omega)
theorem RowG.drop {b off : Nat} {L : List Ed} {w : World} (h : RowG (some ⟨b, off, none⟩) L w) (k : Nat) : RowG (some ⟨b, off + k * 5, none⟩) (L.drop k) w := by
  intro i hi
  rw [List.length_drop] at hi
  have e : gAt (L.drop k) i = gAt L (k + i) := by
    rw [gAt_eq (by rw [List.length_drop]; exact hi), gAt_eq (by omega)]
    simp
  rw [e]
  obtain ⟨b', off', ha, hb, h0, h1, h2, h3, h4⟩ := h (k + i) (by omega)
  simp only [Option.some.injEq, Addr.mk.injEq, and_true] at ha
  obtain ⟨rfl, rfl⟩ := ha
  exact ⟨b, off + k * 5, rfl, hb, by rw [show off + k * 5 + i * 5 = off + (k + i) * 5 by omega]; exact h0, by rw [show off + k * 5 + i * 5 + 1 = off + (k + i) * 5 + 1 by omega]; exact h1, by rw [show off + k * 5 + i * 5 + 2 = off + (k + i) * 5 + 2 by omega]; exact h2, by rw [show off + k * 5 + i * 5 + 3 = off + (k + i) * 5 + 3 by omega]; exact h3, by rw [show off + k * 5 + i * 5 + 4 = off + (k + i) * 5 + 4 by omega]; exact h4⟩
theorem RowG.tail {b off : Nat} {c : Ed} {L : List Ed} {w : World} (h : RowG (some ⟨b, off, none⟩) (c :: L) w) : RowG (some ⟨b, off + 5, none⟩) L w := by
  have := h.drop 1
  simpa using this
/-- What lies, cell by cell. -/
theorem RowG.cells {b off : Nat} {L : List Ed} {w : World} (h : RowG (some ⟨b, off, none⟩) L w) : ∀ j u, (gcells L)[j]? = some u → w.cell? ((⟨b, off, none⟩ : Addr).add j) = some u := by
  intro j u hu
  have hj : j < L.length * 5 := by
    have := (List.getElem?_eq_some_iff.1 hu).1
    rwa [gc_len] at this
  have hi : j / 5 < L.length := by omega
  obtain ⟨b', off', ha, _, h0, h1, h2, h3, h4⟩ := h (j / 5) hi
  simp only [Option.some.injEq, Addr.mk.injEq, and_true] at ha
  obtain ⟨rfl, rfl⟩ := ha
  obtain ⟨p0, p1, p2, p3, p4⟩ := gc_at hi
  have hadd : (⟨b, off, none⟩ : Addr).add j = ⟨b, off + j, none⟩ := by
    simp only [Addr.add]
    split
    · rename_i h; rw [h]; simp
    · rfl
  rw [hadd]
  rcases (show j = j / 5 * 5 ∨ j = j / 5 * 5 + 1 ∨ j = j / 5 * 5 + 2 ∨ j = j / 5 * 5 + 3 ∨ j = j / 5 * 5 + 4 by omega) with e | e | e | e | e
  · rw [e] at hu ⊢
    rw [p0] at hu
    simp at hu
    rw [← hu]
    exact h0
  · rw [e] at hu ⊢
    rw [p1] at hu
    simp at hu
    rw [← hu]
    exact h1
  · rw [e] at hu ⊢
    rw [p2] at hu
    simp at hu
    rw [← hu]
    exact h2
  · rw [e] at hu ⊢
    rw [p3] at hu
    simp at hu
    rw [← hu]
    exact h3
  · rw [e] at hu ⊢
    rw [p4] at hu
    simp at hu
    rw [← hu]
    exact h4

/-- The list L lies in memory of one's own. -/
def OwnG (base : Nat) (v : Value) (L : List Ed) (w : World) : Prop := w.ownsRow base 149 5 v L.length (gcells L)
theorem ownG_nil (base : Nat) (w : World) : OwnG base (.slice none 0 0) [] w := World.ownsRow_nil w base _ 5
theorem ownG_below {w w' : World} {base : Nat} {v : Value} {L : List Ed} (h : OwnG base v L w) (hb : Below w.heap.size w w') : OwnG base v L w' :=
  World.ownsRow.kept h (row := none) ⟨hb.os, hb.tape, hb.output, hb.size, fun k hk _ => hb.block k hk⟩ (by cases hv : v.ownBlock with
    | none => exact .inl rfl
    | some b => exact .inr (by simp))
theorem ownG_base {w : World} {base base' : Nat} {v : Value} {L : List Ed} (h : OwnG base v L w) (hb : base' ≤ base) : OwnG base' v L w := by
  refine ⟨h.1, ?_⟩
  rcases h.2 with h | ⟨g, cap, cur, h1, h2, h3⟩
  · exact .inl h
  · exact .inr ⟨g, cap, cur, h1, Nat.le_trans hb h2, h3⟩
theorem ownG_shape {w : World} {base : Nat} {v : Value} {L : List Ed} (h : OwnG base v L w) (h0 : L ≠ []) : ∃ g cap, v = .slice (some ⟨g, 0, none⟩) L.length cap ∧ base ≤ g ∧ g < w.heap.size := by
  rcases h.2 with ⟨_, h1⟩ | ⟨g, cap, cur, rfl, hb, hg, _⟩
  · exact absurd (List.eq_nil_of_length_eq_zero h1) h0
  · exact ⟨g, cap, rfl, hb, (Array.getElem?_eq_some_iff.1 hg).1⟩
theorem ownG_at {w : World} {base g cap : Nat} {L : List Ed} (h : OwnG base (.slice (some ⟨g, 0, none⟩) L.length cap) L w) {i : Nat} (hi : i < L.length) :
    (w.cell? ⟨g, i * 5, none⟩ = some (.int .i64 (gAt L i).1) ∧ w.cell? ⟨g, i * 5 + 1, none⟩ = some (.int .i64 (gAt L i).2.1) ∧ w.cell? ⟨g, i * 5 + 2, none⟩ = some (.bool (gAt L i).2.2.1) ∧ w.cell? ⟨g, i * 5 + 3, none⟩ = some (.bool (gAt L i).2.2.2.1) ∧ w.cell? ⟨g, i * 5 + 4, none⟩ = some (.int .i64 (gAt L i).2.2.2.2)) ∧
    (∀ j, w.frozen? ⟨g, j, none⟩ = false) := by
  obtain ⟨h0, h1, h2, h3, h4⟩ := gc_at hi
  have hc := fun j hj => World.ownsRow.cellAt (show w.ownsRow base _ 5 (.slice (some ⟨g, 0, none⟩) L.length cap) L.length (gcells L) from h) j hj
  exact ⟨⟨(hc _ (by omega)).trans h0, (hc _ (by omega)).trans h1, (hc _ (by omega)).trans h2, (hc _ (by omega)).trans h3, (hc _ (by omega)).trans h4⟩, fun j => World.ownsRow.frozenAt (show w.ownsRow base _ 5 (.slice (some ⟨g, 0, none⟩) L.length cap) L.length (gcells L) from h) j⟩
theorem ownG_row {w : World} {base : Nat} {v : Value} {L : List Ed} (h : OwnG base v L w) : ∃ a cap, v = .slice a L.length cap ∧ RowG a L w ∧ ((a = none ∧ cap = 0 ∧ L = []) ∨ ∃ g, a = some ⟨g, 0, none⟩ ∧ base ≤ g ∧ g < w.heap.size ∧ L.length ≤ cap ∧ cap ≤ maxLen) := by
  rcases h.2 with ⟨rfl, h1⟩ | ⟨g, cap, cur, rfl, hb, hg, hr⟩
  · have e : L = [] := List.eq_nil_of_length_eq_zero h1
    subst e
    exact ⟨none, 0, rfl, RowG.nil _ _, .inl ⟨rfl, rfl, rfl⟩⟩
  · have hgl : g < w.heap.size := (Array.getElem?_eq_some_iff.1 hg).1
    refine ⟨some ⟨g, 0, none⟩, cap, rfl, fun i hi => ?_,   .inr ⟨g, rfl, hb, hgl, hr.1, hr.2.1⟩⟩
    obtain ⟨⟨h0, h1, h2, h3, h4⟩, _⟩ := ownG_at h hi
    exact ⟨g, 0, rfl, hgl, by simpa using h0, by simpa using h1, by simpa using h2, by simpa using h3, by simpa using h4⟩
theorem ownG_out {w : World} {base g cap : Nat} {L : List Ed} (h : OwnG base (.slice (some ⟨g, 0, none⟩) L.length cap) L w) (hg : g < w.heap.size) :
    OutNfaEdge g L.length L.length (fun i => (gAt L i).1) (fun i => (gAt L i).2.1) (fun i => (gAt L i).2.2.1) (fun i => (gAt L i).2.2.2.1) (fun i => (gAt L i).2.2.2.2) w := by
  refine ⟨hg, fun i hi => ?_⟩
  obtain ⟨⟨h0, h1, h2, h3, h4⟩, hf⟩ := ownG_at h hi
  exact ⟨⟨_, _, _, _, _, h0, h1, h2, h3, h4, fun _ => ⟨rfl, rfl, rfl, rfl, rfl⟩⟩, hf _, hf _, hf _, hf _, hf _⟩
theorem grown_belowG {w w' : World} {base : Nat} {v : Value} {L : List Ed} (h : OwnG base v L w) (hg : w.grownBy w' v.ownBlock) (hb : base ≤ w.heap.size) : Below base w w' := by
  refine ⟨hg.os, hg.tape, hg.output, hg.size, fun k hk => hg.block k (by omega) (fun e => ?_)⟩
  rcases h.2 with ⟨rfl, _⟩ | ⟨g, cap, cur, rfl, hbg, _⟩
  · simp [Value.ownBlock] at e
  · simp [Value.ownBlock] at e
    omega
theorem info_partsG {P : Program} {t : TypeId} {z : Value} {s b : Nat} (h : (P.info? t).map (fun i => (i.zero, i.size, i.bytes)) = some (some z, s, b)) : ∃ i, P.info? t = some i ∧ i.zero = some z ∧ i.size = s ∧ i.bytes = b := by
  obtain ⟨i, hi, hz⟩ := Option.map_eq_some_iff.1 h
  simp only [Prod.mk.injEq] at hz
  exact ⟨i, hi, hz.1, hz.2.1, hz.2.2⟩
theorem infoNfaEdge : (Try.prog.info? 149).map (fun i => (i.zero, i.size, i.bytes)) = some (some (.agg #[.int .i64 0, .int .i64 0, .bool false, .bool false, .int .i64 0]), 5, 32) := by kernel_rfl
/-- Block b as it stands, whole. -/
def BkG (w : World) (b : Nat) (arr : Array Value) (e : TypeId) : Prop := w.heap[b]? = some (.cells arr e (0, 0))
theorem BkG.lt {w : World} {b : Nat} {arr : Array Value} {e : TypeId} (h : BkG w b arr e) : b < w.heap.size := (Array.getElem?_eq_some_iff.1 h).1
theorem BkG.below {w w' : World} {b : Nat} {arr : Array Value} {e : TypeId} (h : BkG w b arr e) (k : Below w.heap.size w w') : BkG w' b arr e := (k.block b h.lt).trans h
theorem BkG.base {w w' : World} {b base : Nat} {arr : Array Value} {e : TypeId} (h : BkG w b arr e) (k : Below base w w') (hb : b < base) : BkG w' b arr e := (k.block b hb).trans h
theorem BkG.new (w : World) (arr : Array Value) (e : TypeId) : BkG (w.alloc (.cells arr e)) w.heap.size arr e := heap_alloc_new w _
theorem BkG.cell {w : World} {b : Nat} {arr : Array Value} {e : TypeId} (h : BkG w b arr e) (j : Nat) : w.cell? ⟨b, j, none⟩ = arr[j]? := cell_of_row w b j arr e (0, 0) h
theorem bkG_frozen {w : World} {b : Nat} {arr : Array Value} {e : TypeId} (h : BkG w b arr e) (j : Nat) : w.frozen? ⟨b, j, none⟩ = false := by
  unfold BkG at h
  simp [World.frozen?, h]
/-- One in a block of its own is a row. -/
theorem RowG.one {w : World} {b : Nat} {p : Ed} (hb : b < w.heap.size) (h0 : w.cell? ⟨b, 0, none⟩ = some (.int .i64 p.1)) (h1 : w.cell? ⟨b, 1, none⟩ = some (.int .i64 p.2.1)) (h2 : w.cell? ⟨b, 2, none⟩ = some (.bool p.2.2.1)) (h3 : w.cell? ⟨b, 3, none⟩ = some (.bool p.2.2.2.1)) (h4 : w.cell? ⟨b, 4, none⟩ = some (.int .i64 p.2.2.2.2)) : RowG (some ⟨b, 0, none⟩) [p] w := by
  intro i hi
  have : i = 0 := by simpa using hi
  subst this
  exact ⟨b, 0, rfl, hb, h0, h1, h2, h3, h4⟩

/-- A source of an append: nil, or at an address. -/
def SrcG (a : Option Addr) (M : List Ed) (c : Nat) (w : World) : Prop := RowG a M w ∧ ((a = none ∧ M = [] ∧ c = 0) ∨ ∃ b off, a = some ⟨b, off, none⟩)
theorem SrcG.below {a : Option Addr} {M : List Ed} {c : Nat} {w w' : World} (h : SrcG a M c w) (k : Below w.heap.size w w') : SrcG a M c w' := ⟨h.1.below k, h.2⟩
theorem SrcG.own {w : World} {base : Nat} {v : Value} {L : List Ed} (h : OwnG base v L w) : ∃ a cap, v = .slice a L.length cap ∧ SrcG a L cap w := by
  obtain ⟨a, cap, h1, h2, h3⟩ := ownG_row h
  refine ⟨a, cap, h1, h2, ?_⟩
  rcases h3 with ⟨e1, e2, e3⟩ | ⟨g, e1, _⟩
  · exact .inl ⟨e1, e3, e2⟩
  · exact .inr ⟨g, 0, e1⟩
set_option maxRecDepth 100000 in
theorem wpList_appG {ops : Array Oper} {rest : List Oper} {o : Oper} {a : Act} {w : World} {Q : Exit → Act → World → Prop} (hgd : o.guard = none) (s x : Operand)
    (ho : o.op = .call { callee := .builtin .append, args := #[s, x], argTypes := #[77, 77] })
    (base : Nat) (v : Value) (L : List Ed) (hs : a.eval s = v) (hown : OwnG base v L w)
    (sa : Option Addr) (M : List Ed) (c : Nat) (hx : a.eval x = .slice sa M.length c) (hM : SrcG sa M c w) (hlen : L.length + M.length ≤ 8589934593) (hbase : base ≤ w.heap.size)
    (h : ∀ v' w', OwnG base v' (L ++ M) w' → Below base w w' → w.grownBy w' v.ownBlock → wpList Try.prog ops Q rest (a.put o.dst v') w') : wpList Try.prog ops Q (o :: rest) a w := by
  obtain ⟨i0, hi, hz0, hz1, hz2⟩ := info_partsG infoNfaEdge
  rcases hM with ⟨hR, ⟨rfl, rfl, rfl⟩ | ⟨b, off, rfl⟩⟩
  · refine wpList_append_own_none hgd s x 77 ho base 149 i0 5 Try.underlying77 hi v L.length (gcells L) hs hown hx ?_
    refine h v w (by simpa using hown) (Below.refl _ _) ⟨rfl, rfl, rfl, Nat.le_refl _, fun _ _ _ => rfl⟩
  · refine wpList_append_own w hgd s x 77 ho base 149 i0 (.agg #[.int .i64 0, .int .i64 0, .bool false, .bool false, .int .i64 0]) 5 32 Try.underlying77 hi hz0 hz1 hz2 rfl (by decide) v L.length (gcells L) hs hown ⟨b, off, none⟩ M.length c (gcells M) hx (gc_len M) hR.cells (gc_oneCell M) (by unfold maxLen; omega) (by omega) hbase ?_
    intro v' w' hown' hgrow _
    refine h v' w' ?_ (grown_belowG hown hgrow hbase) hgrow
    unfold OwnG
    rw [gc_app, List.length_append]
    exact hown'
theorem run_appG (ty : TypeId) (w : World) (base : Nat) (v : Value) (L : List Ed) (hown : OwnG base v L w) (sa : Option Addr) (M : List Ed) (c : Nat) (hM : SrcG sa M c w) (hlen : L.length + M.length ≤ 8589934593) (hbase : base ≤ w.heap.size) :
    ∃ v' w', (Builtin.append_ #[77, 77] ty #[v, .slice sa M.length c]).run Try.prog w = .ok v' w' ∧ OwnG base v' (L ++ M) w' ∧ Below base w w' ∧ w.grownBy w' v.ownBlock := by
  obtain ⟨i0, hi, hz0, hz1, hz2⟩ := info_partsG infoNfaEdge
  rcases hM with ⟨hR, ⟨rfl, rfl, rfl⟩ | ⟨b, off, rfl⟩⟩
  · have hrun := run_append_owned_none (P := Try.prog) (w := w) base 77 ty 149 i0 5 Try.underlying77 hi v L.length (gcells L) hown
    exact ⟨v, w, hrun, by simpa using hown, Below.refl _ _, ⟨rfl, rfl, rfl, Nat.le_refl _, fun _ _ _ => rfl⟩⟩
  · obtain ⟨v', w', hr, h2, h3, _, h5⟩ := run_append_own_at (P := Try.prog) w base 77 ty 149 i0 (.agg #[.int .i64 0, .int .i64 0, .bool false, .bool false, .int .i64 0]) 5 32 Try.underlying77 hi hz0 hz1 hz2 rfl (by decide) v L.length (gcells L) hown ⟨b, off, none⟩ M.length c (gcells M) (gc_len M) hR.cells (gc_oneCell M) (by unfold maxLen; omega) (by omega) hbase
    refine ⟨v', w', hr, ?_, grown_belowG hown h3 hbase, h3⟩
    unfold OwnG
    rw [gc_app, List.length_append]
    exact h2
theorem step_appG {ops : Array Oper} {o : Oper} {a : Act} {w : World} {K : Act → World → Prop} {Q : Exit → Act → World → Prop} {E : Prop} (hgd : o.guard = none) (s x : Operand)
    (ho : o.op = .call { callee := .builtin .append, args := #[s, x], argTypes := #[77, 77] })
    (base : Nat) (v : Value) (L : List Ed) (hs : a.eval s = v) (hown : OwnG base v L w) (sa : Option Addr) (M : List Ed) (n c : Nat) (hx : a.eval x = .slice sa n c) (hn : n = M.length) (hM : SrcG sa M c w)
    (hlen : L.length + M.length ≤ 8589934593) (hbase : base ≤ w.heap.size)
    (h : ∀ v' w', OwnG base v' (L ++ M) w' → Below base w w' → w.grownBy w' v.ownBlock → K (a.put o.dst v') w') :
    if Region.wanted o (yielded ops a.tmps) = true then Oper.wp Try.prog o a w K Q else E := by
  have hw : Region.wanted o (yielded ops a.tmps) = true := by simp [Region.wanted, hgd]
  rw [if_pos hw]
  subst hn
  obtain ⟨v', w', hr, h2, h3, h4⟩ := run_appG o.type w base v L hown sa M c hM hlen hbase
  unfold Oper.wp execOp
  simp only [ho, resolve, invoke, builtin, Sem.run_bind, Sem.run_pure, Result.andThen_ok, List.map_toArray, List.map_cons, List.map_nil, hs, hx, hr]
  exact h v' w' h2 h3 h4
end Go.Proofs.Ytocgghhlfmgndaa
