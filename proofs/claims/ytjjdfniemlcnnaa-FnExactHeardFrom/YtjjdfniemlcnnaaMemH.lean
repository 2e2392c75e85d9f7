/- How a list of Route lies in memory. -/
import Derived.Test.YtjjdfniemlcnnaaAll1
import Derived.Test.YtjjdfniemlcnnaaRge13
import Derived.ChangeKeysEq
import Derived.Laws.AppendOwnNone
import Derived.ArgAppend
import Derived.Maps.AppendAt
import Derived.Deep.AppendLies
namespace Go.Proofs.Ytjjdfniemlcnnaa
open Go.RowKit

def hAt (L : List Rge) (i : Nat) : Rge := L.getD i rge0
theorem hAt_eq {L : List Rge} {i : Nat} (h : i < L.length) : hAt L i = L[i] := by
  unfold hAt
  rw [List.getD_eq_getElem?_getD, List.getElem?_eq_getElem h]
  rfl
theorem hAt_mem {L : List Rge} {i : Nat} (h : i < L.length) : hAt L i ∈ L := by rw [hAt_eq h]; exact List.getElem_mem h
theorem hAt_cons (c : Rge) (L : List Rge) (i : Nat) : hAt (c :: L) (i + 1) = hAt L i := by simp [hAt]
theorem hAt_zero (c : Rge) (L : List Rge) : hAt (c :: L) 0 = c := by simp [hAt]
theorem take_succH {L : List Rge} {k : Nat} (h : k < L.length) : L.take (k + 1) = L.take k ++ [hAt L k] := by
  rw [hAt_eq h, List.take_add_one, List.getElem?_eq_getElem h]
  rfl
theorem foldl_takeH {β : Type} (g : β → Rge → β) (b : β) {L : List Rge} {k : Nat} (h : k < L.length) : (L.take (k + 1)).foldl g b = g ((L.take k).foldl g b) (hAt L k) := by
  rw [take_succH h, List.foldl_append]
  rfl
theorem all_takeH (f : Rge → Bool) {L : List Rge} {k : Nat} (h : k < L.length) : (L.take (k + 1)).all f = ((L.take k).all f && f (hAt L k)) := by
  rw [take_succH h, List.all_append]
  simp
theorem any_takeH (f : Rge → Bool) {L : List Rge} {k : Nat} (h : k < L.length) : (L.take (k + 1)).any f = ((L.take k).any f || f (hAt L k)) := by
  rw [take_succH h, List.any_append]
  simp


/-- Their cells. -/
def encH (e : Rge) : List Value := [.int .i64 e.t.pa, .int .i64 e.t.pl, .int .i64 e.t.o, .slice e.a0 e.t.n0 e.c0, .int .i64 e.t.nx, .int .i64 e.t.md, .int .i64 e.t.pf, .slice e.a1 e.t.n1 e.c1]
def hcells (L : List Rge) : List Value := L.flatMap encH
theorem hc_cons (e : Rge) (L : List Rge) : hcells (e :: L) = .int .i64 e.t.pa :: .int .i64 e.t.pl :: .int .i64 e.t.o :: .slice e.a0 e.t.n0 e.c0 :: .int .i64 e.t.nx :: .int .i64 e.t.md :: .int .i64 e.t.pf :: .slice e.a1 e.t.n1 e.c1 :: hcells L := rfl
theorem hc_len (L : List Rge) : (hcells L).length = L.length * 8 := by
  induction L with
  | nil => rfl
  | cons e L ih => rw [hc_cons]; simp only [List.length_cons, ih]; omega
theorem hc_app (L M : List Rge) : hcells (L ++ M) = hcells L ++ hcells M := by unfold hcells; rw [List.flatMap_append]
theorem hc_one (e : Rge) : hcells [e] = encH e := by simp [hcells]
theorem hc_at {L : List Rge} {i : Nat} (h : i < L.length) : (hcells L)[i * 8]? = some (.int .i64 (hAt L i).t.pa) ∧ (hcells L)[i * 8 + 1]? = some (.int .i64 (hAt L i).t.pl) ∧ (hcells L)[i * 8 + 2]? = some (.int .i64 (hAt L i).t.o) ∧ (hcells L)[i * 8 + 3]? = some (.slice (hAt L i).a0 (hAt L i).t.n0 (hAt L i).c0) ∧ (hcells L)[i * 8 + 4]? = some (.int .i64 (hAt L i).t.nx) ∧ (hcells L)[i * 8 + 5]? = some (.int .i64 (hAt L i).t.md) ∧ (hcells L)[i * 8 + 6]? = some (.int .i64 (hAt L i).t.pf) ∧ (hcells L)[i * 8 + 7]? = some (.slice (hAt L i).a1 (hAt L i).t.n1 (hAt L i).c1) := by
  induction L generalizing i with
  | nil => simp at h
  | cons e L ih =>
    cases i with
    | zero => exact ⟨rfl, rfl, rfl, rfl, rfl, rfl, rfl, rfl⟩
    | succ i =>
      have h1 := ih (i := i) (by simpa using h)
      have e1 : hAt (e :: L) (i + 1) = hAt L i := by simp [hAt]
      rw [e1, hc_cons]
      have e2 : (i + 1) * 8 = i * 8 + 8 := by omega
      rw [e2]
      exact h1
theorem hc_oneCell (L : List Rge) : ∀ u ∈ hcells L, u.oneCell' = true := by
  intro u hu
  unfold hcells at hu
  rw [List.mem_flatMap] at hu
  obtain ⟨n, _, hn⟩ := hu
  simp only [encH, List.mem_cons, List.not_mem_nil, or_false] at hn
  rcases hn with rfl | rfl | rfl | rfl | rfl | rfl | rfl | rfl <;> rfl

/-- The list L lies at a. -/
def RowH (a : Option Addr) (L : List Rge) (w : World) : Prop := ∀ i, i < L.length → ∃ b off, a = some ⟨b, off, none⟩ ∧ b < w.heap.size ∧ w.cell? ⟨b, off + i * 8, none⟩ = some (.int .i64 (hAt L i).t.pa) ∧ w.cell? ⟨b, off + i * 8 + 1, none⟩ = some (.int .i64 (hAt L i).t.pl) ∧ w.cell? ⟨b, off + i * 8 + 2, none⟩ = some (.int .i64 (hAt L i).t.o) ∧ w.cell? ⟨b, off + i * 8 + 3, none⟩ = some (.slice (hAt L i).a0 (hAt L i).t.n0 (hAt L i).c0) ∧ w.cell? ⟨b, off + i * 8 + 4, none⟩ = some (.int .i64 (hAt L i).t.nx) ∧ w.cell? ⟨b, off + i * 8 + 5, none⟩ = some (.int .i64 (hAt L i).t.md) ∧ w.cell? ⟨b, off + i * 8 + 6, none⟩ = some (.int .i64 (hAt L i).t.pf) ∧ w.cell? ⟨b, off + i * 8 + 7, none⟩ = some (.slice (hAt L i).a1 (hAt L i).t.n1 (hAt L i).c1)
theorem RowH.below {a : Option Addr} {L : List Rge} {w w' : World} (h : RowH a L w) (k : Below w.heap.size w w') : RowH a L w' := by
  intro i hi
  obtain ⟨b, off, ha, hb, h0, h1, h2, h3, h4, h5, h6, h7⟩ := h i hi
  obtain ⟨hc, _⟩ := bcell k
  exact ⟨b, off, ha, Nat.lt_of_lt_of_le hb k.size, (hc _ _ hb).trans h0, (hc _ _ hb).trans h1, (hc _ _ hb).trans h2, (hc _ _ hb).trans h3, (hc _ _ hb).trans h4, (hc _ _ hb).trans h5, (hc _ _ hb).trans h6, (hc _ _ hb).trans h7⟩
/-- Rows lie as they lay where nothing below a bound has turned and they lie below it. -/
theorem RowH.base {a : Option Addr} {base : Nat} {L : List Rge} {w w' : World} (h : RowH a L w) (hb : ∀ b off, a = some ⟨b, off, none⟩ → b < base) (k : Below base w w') : RowH a L w' := by
  intro i hi
  obtain ⟨b, off, ha, hbw, h0, h1, h2, h3, h4, h5, h6, h7⟩ := h i hi
  have hlt := hb b off ha
  have hc : ∀ o, w'.cell? ⟨b, o, none⟩ = w.cell? ⟨b, o, none⟩ := fun o => k.cell (p := ⟨b, o, none⟩) hlt
  exact ⟨b, off, ha, Nat.lt_of_lt_of_le hbw k.size, (hc _).trans h0, (hc _).trans h1, (hc _).trans h2, (hc _).trans h3, (hc _).trans h4, (hc _).trans h5, (hc _).trans h6, (hc _).trans h7⟩

theorem RowH.nil (a : Option Addr) (w : World) : RowH a [] w := fun _ hi => absurd hi (Nat.not_lt_zero _)
/-- A part of a row. -/
theorem RowH.take {a : Option Addr} {L : List Rge} {w : World} (h : RowH a L w) (k : Nat) : RowH a (L.take k) w := by
  intro i hi
  rw [List.length_take] at hi
  have e : hAt (L.take k) i = hAt L i := by
    rw [hAt_eq (by rw [List.length_take]; exact hi), hAt_eq (by omega)]
    simp
  rw [e]
  exact h i (by omega)
theorem RowH.drop {b off : Nat} {L : List Rge} {w : World} (h : RowH (some ⟨b, off, none⟩) L w) (k : Nat) : RowH (some ⟨b, off + k * 8, none⟩) (L.drop k) w := by
  intro i hi
  rw [List.length_drop] at hi
  have e : hAt (L.drop k) i = hAt L (k + i) := by
    rw [hAt_eq (by rw [List.length_drop]; exact hi), hAt_eq (by omega)]
    simp
  rw [e]
  obtain ⟨b', off', ha, hb, h0, h1, h2, h3, h4, h5, h6, h7⟩ := h (k + i) (by omega)
  simp only [Option.some.injEq, Addr.mk.injEq, and_true] at ha
  obtain ⟨rfl, rfl⟩ := ha
  exact ⟨b, off + k * 8, rfl, hb, by rw [show off + k * 8 + i * 8 = off + (k + i) * 8 by omega]; exact h0, by rw [show off + k * 8 + i * 8 + 1 = off + (k + i) * 8 + 1 by omega]; exact h1, by rw [show off + k * 8 + i * 8 + 2 = off + (k + i) * 8 + 2 by omega]; exact h2, by rw [show off + k * 8 + i * 8 + 3 = off + (k + i) * 8 + 3 by omega]; exact h3, by rw [show off + k * 8 + i * 8 + 4 = off + (k + i) * 8 + 4 by omega]; exact h4, by rw [show off + k * 8 + i * 8 + 5 = off + (k + i) * 8 + 5 by omega]; exact h5, by rw [show off + k * 8 + i * 8 + 6 = off + (k + i) * 8 + 6 by omega]; exact h6, by rw [show off + k * 8 + i * 8 + 7 = off + (k + i) * 8 + 7 by omega]; exact h7⟩
theorem RowH.tail {b off : Nat} {c : Rge} {L : List Rge} {w : World} (h : RowH (some ⟨b, off, none⟩) (c :: L) w) : RowH (some ⟨b, off + 8, none⟩) L w := by
  have := h.drop 1
  simpa using this
/-- What lies, cell by cell. -/
theorem RowH.cells {b off : Nat} {L : List Rge} {w : World} (h : RowH (some ⟨b, off, none⟩) L w) : ∀ j u, (hcells L)[j]? = some u → w.cell? ((⟨b, off, none⟩ : Addr).add j) = some u := by
  intro j u hu
  have hj : j < L.length * 8 := by
    have := (List.getElem?_eq_some_iff.1 hu).1
    rwa [hc_len] at this
  have hi : j / 8 < L.length := by omega
  obtain ⟨b', off', ha, _, h0, h1, h2, h3, h4, h5, h6, h7⟩ := h (j / 8) hi
  simp only [Option.some.injEq, Addr.mk.injEq, and_true] at ha
  obtain ⟨rfl, rfl⟩ := ha
  obtain ⟨p0, p1, p2, p3, p4, p5, p6, p7⟩ := hc_at hi
  have hadd : (⟨b, off, none⟩ : Addr).add j = ⟨b, off + j, none⟩ := by
    simp only [Addr.add]
    split
    · rename_i h; rw [h]; simp
    · rfl
  rw [hadd]
  rcases (show j = j / 8 * 8 ∨ j = j / 8 * 8 + 1 ∨ j = j / 8 * 8 + 2 ∨ j = j / 8 * 8 + 3 ∨ j = j / 8 * 8 + 4 ∨ j = j / 8 * 8 + 5 ∨ j = j / 8 * 8 + 6 ∨ j = j / 8 * 8 + 7 by omega) with e | e | e | e | e | e | e | e
  · rw [e] at hu ⊢
    rw [p0] at hu
    simp at hu
    rw [← hu]
    exact h0
  · rw [e] at hu ⊢
    rw [p1] at hu
    simp at hu
    rw [← hu]
    exact h1
  · rw [e] at hu ⊢
    rw [p2] at hu
    simp at hu
    rw [← hu]
    exact h2
  · rw [e] at hu ⊢
    rw [p3] at hu
    simp at hu
    rw [← hu]
    exact h3
  · rw [e] at hu ⊢
    rw [p4] at hu
    simp at hu
    rw [← hu]
    exact h4
  · rw [e] at hu ⊢
    rw [p5] at hu
    simp at hu
    rw [← hu]
    exact h5
  · rw [e] at hu ⊢
    rw [p6] at hu
    simp at hu
    rw [← hu]
    exact h6
  · rw [e] at hu ⊢
    rw [p7] at hu
    simp at hu
    rw [← hu]
    exact h7

/-- The list L lies in memory of one's own. -/
def OwnH (base : Nat) (v : Value) (L : List Rge) (w : World) : Prop := w.ownsRow base 75 8 v L.length (hcells L)
theorem ownH_nil (base : Nat) (w : World) : OwnH base (.slice none 0 0) [] w := World.ownsRow_nil w base _ 8
theorem ownH_below {w w' : World} {base : Nat} {v : Value} {L : List Rge} (h : OwnH base v L w) (hb : Below w.heap.size w w') : OwnH base v L w' :=
  World.ownsRow.kept h (row := none) ⟨hb.os, hb.tape, hb.output, hb.size, fun k hk _ => hb.block k hk⟩ (by cases hv : v.ownBlock with
    | none => exact .inl rfl
    | some b => exact .inr (by simp))
theorem ownH_base {w : World} {base base' : Nat} {v : Value} {L : List Rge} (h : OwnH base v L w) (hb : base' ≤ base) : OwnH base' v L w := by
  refine ⟨h.1, ?_⟩
  rcases h.2 with h | ⟨g, cap, cur, h1, h2, h3⟩
  · exact .inl h
  · exact .inr ⟨g, cap, cur, h1, Nat.le_trans hb h2, h3⟩
theorem ownH_shape {w : World} {base : Nat} {v : Value} {L : List Rge} (h : OwnH base v L w) (h0 : L ≠ []) : ∃ g cap, v = .slice (some ⟨g, 0, none⟩) L.length cap ∧ base ≤ g ∧ g < w.heap.size := by
  rcases h.2 with ⟨_, h1⟩ | ⟨g, cap, cur, rfl, hb, hg, _⟩
  · exact absurd (List.eq_nil_of_length_eq_zero h1) h0
  · exact ⟨g, cap, rfl, hb, (Array.getElem?_eq_some_iff.1 hg).1⟩
theorem ownH_at {w : World} {base g cap : Nat} {L : List Rge} (h : OwnH base (.slice (some ⟨g, 0, none⟩) L.length cap) L w) {i : Nat} (hi : i < L.length) :
    (w.cell? ⟨g, i * 8, none⟩ = some (.int .i64 (hAt L i).t.pa) ∧ w.cell? ⟨g, i * 8 + 1, none⟩ = some (.int .i64 (hAt L i).t.pl) ∧ w.cell? ⟨g, i * 8 + 2, none⟩ = some (.int .i64 (hAt L i).t.o) ∧ w.cell? ⟨g, i * 8 + 3, none⟩ = some (.slice (hAt L i).a0 (hAt L i).t.n0 (hAt L i).c0) ∧ w.cell? ⟨g, i * 8 + 4, none⟩ = some (.int .i64 (hAt L i).t.nx) ∧ w.cell? ⟨g, i * 8 + 5, none⟩ = some (.int .i64 (hAt L i).t.md) ∧ w.cell? ⟨g, i * 8 + 6, none⟩ = some (.int .i64 (hAt L i).t.pf) ∧ w.cell? ⟨g, i * 8 + 7, none⟩ = some (.slice (hAt L i).a1 (hAt L i).t.n1 (hAt L i).c1)) ∧
    (∀ j, w.frozen? ⟨g, j, none⟩ = false) := by
  obtain ⟨h0, h1, h2, h3, h4, h5, h6, h7⟩ := hc_at hi
  have hc := fun j hj => World.ownsRow.cellAt (show w.ownsRow base _ 8 (.slice (some ⟨g, 0, none⟩) L.length cap) L.length (hcells L) from h) j hj
  exact ⟨⟨(hc _ (by omega)).trans h0, (hc _ (by omega)).trans h1, (hc _ (by omega)).trans h2, (hc _ (by omega)).trans h3, (hc _ (by omega)).trans h4, (hc _ (by omega)).trans h5, (hc _ (by omega)).trans h6, (hc _ (by omega)).trans h7⟩, fun j => World.ownsRow.frozenAt (show w.ownsRow base _ 8 (.slice (some ⟨g, 0, none⟩) L.length cap) L.length (hcells L) from h) j⟩
theorem ownH_row {w : World} {base : Nat} {v : Value} {L : List Rge} (h : OwnH base v L w) : ∃ a cap, v = .slice a L.length cap ∧ RowH a L w ∧ ((a = none ∧ cap = 0 ∧ L = []) ∨ ∃ g, a = some ⟨g, 0, none⟩ ∧ base ≤ g ∧ g < w.heap.size ∧ L.length ≤ cap ∧ cap ≤ maxLen) := by
  rcases h.2 with ⟨rfl, h1⟩ | ⟨g, cap, cur, rfl, hb, hg, hr⟩
  · have e : L = [] := List.eq_nil_of_length_eq_zero h1
    subst e
    exact ⟨none, 0, rfl, RowH.nil _ _, .inl ⟨rfl, rfl, rfl⟩⟩
  · have hgl : g < w.heap.size := (Array.getElem?_eq_some_iff.1 hg).1
    refine ⟨some ⟨g, 0, none⟩, cap, rfl, fun i hi => ?_,   .inr ⟨g, rfl, hb, hgl, hr.1, hr.2.1⟩⟩
    obtain ⟨⟨h0, h1, h2, h3, h4, h5, h6, h7⟩, _⟩ := ownH_at h hi
    exact ⟨g, 0, rfl, hgl, by simpa using h0, by simpa using h1, by simpa using h2, by simpa using h3, by simpa using h4, by simpa using h5, by simpa using h6, by simpa using h7⟩

theorem grown_belowH {w w' : World} {base : Nat} {v : Value} {L : List Rge} (h : OwnH base v L w) (hg : w.grownBy w' v.ownBlock) (hb : base ≤ w.heap.size) : Below base w w' := by
  refine ⟨hg.os, hg.tape, hg.output, hg.size, fun k hk => hg.block k (by omega) (fun e => ?_)⟩
  rcases h.2 with ⟨rfl, _⟩ | ⟨g, cap, cur, rfl, hbg, _⟩
  · simp [Value.ownBlock] at e
  · simp [Value.ownBlock] at e
    omega
theorem info_partsH {P : Program} {t : TypeId} {z : Value} {s b : Nat} (h : (P.info? t).map (fun i => (i.zero, i.size, i.bytes)) = some (some z, s, b)) : ∃ i, P.info? t = some i ∧ i.zero = some z ∧ i.size = s ∧ i.bytes = b := by
  obtain ⟨i, hi, hz⟩ := Option.map_eq_some_iff.1 h
  simp only [Prod.mk.injEq] at hz
  exact ⟨i, hi, hz.1, hz.2.1, hz.2.2⟩
theorem infoRoute : (Try.prog.info? 75).map (fun i => (i.zero, i.size, i.bytes)) = some (some (.agg #[.int .i64 0, .int .i64 0, .int .i64 0, .slice none 0 0, .int .i64 0, .int .i64 0, .int .i64 0, .slice none 0 0]), 8, 96) := by kernel_rfl
/-- Block b as it stands, whole. -/
def BkH (w : World) (b : Nat) (arr : Array Value) (e : TypeId) : Prop := w.heap[b]? = some (.cells arr e (0, 0))
theorem BkH.lt {w : World} {b : Nat} {arr : Array Value} {e : TypeId} (h : BkH w b arr e) : b < w.heap.size := (Array.getElem?_eq_some_iff.1 h).1
theorem BkH.below {w w' : World} {b : Nat} {arr : Array Value} {e : TypeId} (h : BkH w b arr e) (k : Below w.heap.size w w') : BkH w' b arr e := (k.block b h.lt).trans h
theorem BkH.base {w w' : World} {b base : Nat} {arr : Array Value} {e : TypeId} (h : BkH w b arr e) (k : Below base w w') (hb : b < base) : BkH w' b arr e := (k.block b hb).trans h
theorem BkH.new (w : World) (arr : Array Value) (e : TypeId) : BkH (w.alloc (.cells arr e)) w.heap.size arr e := heap_alloc_new w _
theorem BkH.cell {w : World} {b : Nat} {arr : Array Value} {e : TypeId} (h : BkH w b arr e) (j : Nat) : w.cell? ⟨b, j, none⟩ = arr[j]? := cell_of_row w b j arr e (0, 0) h
theorem bkH_frozen {w : World} {b : Nat} {arr : Array Value} {e : TypeId} (h : BkH w b arr e) (j : Nat) : w.frozen? ⟨b, j, none⟩ = false := by
  unfold BkH at h
  simp [World.frozen?, h]
/-- One in a block of its own is a row. -/
theorem RowH.one {w : World} {b : Nat} {p : Rge} (hb : b < w.heap.size) (h0 : w.cell? ⟨b, 0, none⟩ = some (.int .i64 p.t.pa)) (h1 : w.cell? ⟨b, 1, none⟩ = some (.int .i64 p.t.pl)) (h2 : w.cell? ⟨b, 2, none⟩ = some (.int .i64 p.t.o)) (h3 : w.cell? ⟨b, 3, none⟩ = some (.slice p.a0 p.t.n0 p.c0)) (h4 : w.cell? ⟨b, 4, none⟩ = some (.int .i64 p.t.nx)) (h5 : w.cell? ⟨b, 5, none⟩ = some (.int .i64 p.t.md)) (h6 : w.cell? ⟨b, 6, none⟩ = some (.int .i64 p.t.pf)) (h7 : w.cell? ⟨b, 7, none⟩ = some (.slice p.a1 p.t.n1 p.c1)) : RowH (some ⟨b, 0, none⟩) [p] w := by
  intro i hi
  have : i = 0 := by simpa using hi
  subst this
  exact ⟨b, 0, rfl, hb, h0, h1, h2, h3, h4, h5, h6, h7⟩

/-- A source of an append: nil, or at an address. -/
def SrcH (a : Option Addr) (M : List Rge) (c : Nat) (w : World) : Prop := RowH a M w ∧ ((a = none ∧ M = [] ∧ c = 0) ∨ ∃ b off, a = some ⟨b, off, none⟩)
theorem SrcH.below {a : Option Addr} {M : List Rge} {c : Nat} {w w' : World} (h : SrcH a M c w) (k : Below w.heap.size w w') : SrcH a M c w' := ⟨h.1.below k, h.2⟩
theorem SrcH.own {w : World} {base : Nat} {v : Value} {L : List Rge} (h : OwnH base v L w) : ∃ a cap, v = .slice a L.length cap ∧ SrcH a L cap w := by
  obtain ⟨a, cap, h1, h2, h3⟩ := ownH_row h
  refine ⟨a, cap, h1, h2, ?_⟩
  rcases h3 with ⟨e1, e2, e3⟩ | ⟨g, e1, _⟩
  · exact .inl ⟨e1, e3, e2⟩
  · exact .inr ⟨g, 0, e1⟩
set_option maxRecDepth 100000 in
theorem wpList_appH {ops : Array Oper} {rest : List Oper} {o : Oper} {a : Act} {w : World} {Q : Exit → Act → World → Prop} (hgd : o.guard = none) (s x : Operand)
    (ho : o.op = .call { callee := .builtin .append, args := #[s, x], argTypes := #[37, 37] })
    (base : Nat) (v : Value) (L : List Rge) (hs : a.eval s = v) (hown : OwnH base v L w)
    (sa : Option Addr) (M : List Rge) (c : Nat) (hx : a.eval x = .slice sa M.length c) (hM : SrcH sa M c w) (hlen : L.length + M.length ≤ 8589934593) (hbase : base ≤ w.heap.size)
    (h : ∀ v' w', OwnH base v' (L ++ M) w' → Below base w w' → w.grownBy w' v.ownBlock → wpList Try.prog ops Q rest (a.put o.dst v') w') : wpList Try.prog ops Q (o :: rest) a w := by
  obtain ⟨i0, hi, hz0, hz1, hz2⟩ := info_partsH infoRoute
  rcases hM with ⟨hR, ⟨rfl, rfl, rfl⟩ | ⟨b, off, rfl⟩⟩
  · refine wpList_append_own_none hgd s x 37 ho base 75 i0 8 Try.underlying37 hi v L.length (hcells L) hs hown hx ?_
    refine h v w (by simpa using hown) (Below.refl _ _) ⟨rfl, rfl, rfl, Nat.le_refl _, fun _ _ _ => rfl⟩
  · refine wpList_append_own w hgd s x 37 ho base 75 i0 (.agg #[.int .i64 0, .int .i64 0, .int .i64 0, .slice none 0 0, .int .i64 0, .int .i64 0, .int .i64 0, .slice none 0 0]) 8 96 Try.underlying37 hi hz0 hz1 hz2 rfl (by decide) v L.length (hcells L) hs hown ⟨b, off, none⟩ M.length c (hcells M) hx (hc_len M) hR.cells (hc_oneCell M) (by unfold maxLen; omega) (by omega) hbase ?_
    intro v' w' hown' hgrow _
    refine h v' w' ?_ (grown_belowH hown hgrow hbase) hgrow
    unfold OwnH
    rw [hc_app, List.length_append]
    exact hown'
theorem run_appH (ty : TypeId) (w : World) (base : Nat) (v : Value) (L : List Rge) (hown : OwnH base v L w) (sa : Option Addr) (M : List Rge) (c : Nat) (hM : SrcH sa M c w) (hlen : L.length + M.length ≤ 8589934593) (hbase : base ≤ w.heap.size) :
    ∃ v' w', (Builtin.append_ #[37, 37] ty #[v, .slice sa M.length c]).run Try.prog w = .ok v' w' ∧ OwnH base v' (L ++ M) w' ∧ Below base w w' ∧ w.grownBy w' v.ownBlock := by
  obtain ⟨i0, hi, hz0, hz1, hz2⟩ := info_partsH infoRoute
  rcases hM with ⟨hR, ⟨rfl, rfl, rfl⟩ | ⟨b, off, rfl⟩⟩
  · have hrun := run_append_owned_none (P := Try.prog) (w := w) base 37 ty 75 i0 8 Try.underlying37 hi v L.length (hcells L) hown
    exact ⟨v, w, hrun, by simpa using hown, Below.refl _ _, ⟨rfl, rfl, rfl, Nat.le_refl _, fun _ _ _ => rfl⟩⟩
  · obtain ⟨v', w', hr, h2, h3, _, h5⟩ := run_append_own_at (P := Try.prog) w base 37 ty 75 i0 (.agg #[.int .i64 0, .int .i64 0, .int .i64 0, .slice none 0 0, .int .i64 0, .int .i64 0, .int .i64 0, .slice none 0 0]) 8 96 Try.underlying37 hi hz0 hz1 hz2 rfl (by decide) v L.length (hcells L) hown ⟨b, off, none⟩ M.length c (hcells M) (hc_len M) hR.cells (hc_oneCell M) (by unfold maxLen; omega) (by omega) hbase
    refine ⟨v', w', hr, ?_, grown_belowH hown h3 hbase, h3⟩
    unfold OwnH
    rw [hc_app, List.length_append]
    exact h2
theorem step_appH {ops : Array Oper} {o : Oper} {a : Act} {w : World} {K : Act → World → Prop} {Q : Exit → Act → World → Prop} {E : Prop} (hgd : o.guard = none) (s x : Operand)
    (ho : o.op = .call { callee := .builtin .append, args := #[s, x], argTypes := #[37, 37] })
    (base : Nat) (v : Value) (L : List Rge) (hs : a.eval s = v) (hown : OwnH base v L w) (sa : Option Addr) (M : List Rge) (n c : Nat) (hx : a.eval x = .slice sa n c) (hn : n = M.length) (hM : SrcH sa M c w)
    (hlen : L.length + M.length ≤ 8589934593) (hbase : base ≤ w.heap.size)
    (h : ∀ v' w', OwnH base v' (L ++ M) w' → Below base w w' → w.grownBy w' v.ownBlock → K (a.put o.dst v') w') :
    if Region.wanted o (yielded ops a.tmps) = true then Oper.wp Try.prog o a w K Q else E := by
  have hw : Region.wanted o (yielded ops a.tmps) = true := by simp [Region.wanted, hgd]
  rw [if_pos hw]
  subst hn
  obtain ⟨v', w', hr, h2, h3, h4⟩ := run_appH o.type w base v L hown sa M c hM hlen hbase
  unfold Oper.wp execOp
  simp only [ho, resolve, invoke, builtin, Sem.run_bind, Sem.run_pure, Result.andThen_ok, List.map_toArray, List.map_cons, List.map_nil, hs, hx, hr]
  exact h v' w' h2 h3 h4
end Go.Proofs.Ytjjdfniemlcnnaa
