/- How a list of Offer lies in memory. -/
import Derived.Test.YtjjdfniemlcnnaaAll1
import Derived.Test.YtjjdfniemlcnnaaOff8b
import Derived.ChangeKeysEq
import Derived.Laws.AppendOwnNone
import Derived.ArgAppend
import Derived.Maps.AppendAt
import Derived.Deep.AppendLies
namespace Go.Proofs.Ytjjdfniemlcnnaa
open Go.RowKit

def uAt (L : List Oe) (i : Nat) : Oe := L.getD i oe0
theorem uAt_eq {L : List Oe} {i : Nat} (h : i < L.length) : uAt L i = L[i] := by
  unfold uAt
  rw [List.getD_eq_getElem?_getD, List.getElem?_eq_getElem h]
  rfl
theorem uAt_mem {L : List Oe} {i : Nat} (h : i < L.length) : uAt L i ∈ L := by rw [uAt_eq h]; exact List.getElem_mem h
theorem uAt_cons (c : Oe) (L : List Oe) (i : Nat) : uAt (c :: L) (i + 1) = uAt L i := by simp [uAt]
theorem uAt_zero (c : Oe) (L : List Oe) : uAt (c :: L) 0 = c := by simp [uAt]
theorem take_succU {L : List Oe} {k : Nat} (h : k < L.length) : L.take (k + 1) = L.take k ++ [uAt L k] := by
  rw [uAt_eq h, List.take_add_one, List.getElem?_eq_getElem h]
  rfl
theorem foldl_takeU {β : Type} (g : β → Oe → β) (b : β) {L : List Oe} {k : Nat} (h : k < L.length) : (L.take (k + 1)).foldl g b = g ((L.take k).foldl g b) (uAt L k) := by
  rw [take_succU h, List.foldl_append]
  rfl
theorem all_takeU (f : Oe → Bool) {L : List Oe} {k : Nat} (h : k < L.length) : (L.take (k + 1)).all f = ((L.take k).all f && f (uAt L k)) := by
  rw [take_succU h, List.all_append]
  simp
theorem any_takeU (f : Oe → Bool) {L : List Oe} {k : Nat} (h : k < L.length) : (L.take (k + 1)).any f = ((L.take k).any f || f (uAt L k)) := by
  rw [take_succU h, List.any_append]
  simp


/-- Their cells. -/
def encU (e : Oe) : List Value := [.int .i64 e.t.pe, .int .i64 e.t.o, .slice e.a0 e.t.n0 e.c0, .int .i64 e.t.nx, .int .i64 e.t.md, .int .i64 e.t.pf, .slice e.a1 e.t.n1 e.c1]
def ucells (L : List Oe) : List Value := L.flatMap encU
theorem uc_cons (e : Oe) (L : List Oe) : ucells (e :: L) = .int .i64 e.t.pe :: .int .i64 e.t.o :: .slice e.a0 e.t.n0 e.c0 :: .int .i64 e.t.nx :: .int .i64 e.t.md :: .int .i64 e.t.pf :: .slice e.a1 e.t.n1 e.c1 :: ucells L := rfl
theorem uc_len (L : List Oe) : (ucells L).length = L.length * 7 := by
  induction L with
  | nil => rfl
  | cons e L ih => rw [uc_cons]; simp only [List.length_cons, ih]; omega
theorem uc_app (L M : List Oe) : ucells (L ++ M) = ucells L ++ ucells M := by unfold ucells; rw [List.flatMap_append]
theorem uc_one (e : Oe) : ucells [e] = encU e := by simp [ucells]
theorem uc_at {L : List Oe} {i : Nat} (h : i < L.length) : (ucells L)[i * 7]? = some (.int .i64 (uAt L i).t.pe) ∧ (ucells L)[i * 7 + 1]? = some (.int .i64 (uAt L i).t.o) ∧ (ucells L)[i * 7 + 2]? = some (.slice (uAt L i).a0 (uAt L i).t.n0 (uAt L i).c0) ∧ (ucells L)[i * 7 + 3]? = some (.int .i64 (uAt L i).t.nx) ∧ (ucells L)[i * 7 + 4]? = some (.int .i64 (uAt L i).t.md) ∧ (ucells L)[i * 7 + 5]? = some (.int .i64 (uAt L i).t.pf) ∧ (ucells L)[i * 7 + 6]? = some (.slice (uAt L i).a1 (uAt L i).t.n1 (uAt L i).c1) := by
  induction L generalizing i with
  | nil => simp at h
  | cons e L ih =>
    cases i with
    | zero => exact ⟨rfl, rfl, rfl, rfl, rfl, rfl, rfl⟩
    | succ i =>
      have h1 := ih (i := i) (by simpa using h)
      have e1 : uAt (e :: L) (i + 1) = uAt L i := by simp [uAt]
      rw [e1, uc_cons]
      have e2 : (i + 1) * 7 = i * 7 + 7 := by omega
      rw [e2]
      exact h1
theorem uc_oneCell (L : List Oe) : ∀ u ∈ ucells L, u.oneCell' = true := by
  intro u hu
  unfold ucells at hu
  rw [List.mem_flatMap] at hu
  obtain ⟨n, _, hn⟩ := hu
  simp only [encU, List.mem_cons, List.not_mem_nil, or_false] at hn
  rcases hn with rfl | rfl | rfl | rfl | rfl | rfl | rfl <;> rfl

/-- The list L lies at a. -/
def RowU (a : Option Addr) (L : List Oe) (w : World) : Prop := ∀ i, i < L.length → ∃ b off, a = some ⟨b, off, none⟩ ∧ b < w.heap.size ∧ w.cell? ⟨b, off + i * 7, none⟩ = some (.int .i64 (uAt L i).t.pe) ∧ w.cell? ⟨b, off + i * 7 + 1, none⟩ = some (.int .i64 (uAt L i).t.o) ∧ w.cell? ⟨b, off + i * 7 + 2, none⟩ = some (.slice (uAt L i).a0 (uAt L i).t.n0 (uAt L i).c0) ∧ w.cell? ⟨b, off + i * 7 + 3, none⟩ = some (.int .i64 (uAt L i).t.nx) ∧ w.cell? ⟨b, off + i * 7 + 4, none⟩ = some (.int .i64 (uAt L i).t.md) ∧ w.cell? ⟨b, off + i * 7 + 5, none⟩ = some (.int .i64 (uAt L i).t.pf) ∧ w.cell? ⟨b, off + i * 7 + 6, none⟩ = some (.slice (uAt L i).a1 (uAt L i).t.n1 (uAt L i).c1)
theorem RowU.below {a : Option Addr} {L : List Oe} {w w' : World} (h : RowU a L w) (k : Below w.heap.size w w') : RowU a L w' := by
  intro i hi
  obtain ⟨b, off, ha, hb, h0, h1, h2, h3, h4, h5, h6⟩ := h i hi
  obtain ⟨hc, _⟩ := bcell k
  exact ⟨b, off, ha, Nat.lt_of_lt_of_le hb k.size, (hc _ _ hb).trans h0, (hc _ _ hb).trans h1, (hc _ _ hb).trans h2, (hc _ _ hb).trans h3, (hc _ _ hb).trans h4, (hc _ _ hb).trans h5, (hc _ _ hb).trans h6⟩
/-- Rows lie as they lay where nothing below a bound has turned and they lie below it. -/
theorem RowU.base {a : Option Addr} {base : Nat} {L : List Oe} {w w' : World} (h : RowU a L w) (hb : ∀ b off, a = some ⟨b, off, none⟩ → b < base) (k : Below base w w') : RowU a L w' := by
  intro i hi
  obtain ⟨b, off, ha, hbw, h0, h1, h2, h3, h4, h5, h6⟩ := h i hi
  have hlt := hb b off ha
  have hc : ∀ o, w'.cell? ⟨b, o, none⟩ = w.cell? ⟨b, o, none⟩ := fun o => k.cell (p := ⟨b, o, none⟩) hlt
  exact ⟨b, off, ha, Nat.lt_of_lt_of_le hbw k.size, (hc _).trans h0, (hc _).trans h1, (hc _).trans h2, (hc _).trans h3, (hc _).trans h4, (hc _).trans h5, (hc _).trans h6⟩

theorem RowU.nil (a : Option Addr) (w : World) : RowU a [] w := fun _ hi => absurd hi (Nat.not_lt_zero _)
/-- A part of a row. -/
theorem RowU.take {a : Option Addr} {L : List Oe} {w : World} (h : RowU a L w) (k : Nat) : RowU a (L.take k) w := by
  intro i hi
  rw [List.length_take] at hi
  have e : uAt (L.take k) i = uAt L i := by
    rw [uAt_eq (by rw [List.length_take]; exact hi), uAt_eq (by omega)]
    simp
  rw [e]
  exact h i (by omega)
theorem RowU.drop {b off : Nat} {L : List Oe} {w : World} (h : RowU (some ⟨b, off, none⟩) L w) (k : Nat) : RowU (some ⟨b, off + k * 7, none⟩) (L.drop k) w := by
  intro i hi
  rw [List.length_drop] at hi
  have e : uAt (L.drop k) i = uAt L (k + i) := by
    rw [uAt_eq (by rw [List.length_drop]; exact hi), uAt_eq (by omega)]
    simp
  rw [e]
  obtain ⟨b', off', ha, hb, h0, h1, h2, h3, h4, h5, h6⟩ := h (k + i) (by omega)
  simp only [Option.some.injEq, Addr.mk.injEq, and_true] at ha
  obtain ⟨rfl, rfl⟩ := ha
  exact ⟨b, off + k * 7, rfl, hb, by rw [show off + k * 7 + i * 7 = off + (k + i) * 7 by omega]; exact h0, by rw [show off + k * 7 + i * 7 + 1 = off + (k + i) * 7 + 1 by omega]; exact h1, by rw [show off + k * 7 + i * 7 + 2 = off + (k + i) * 7 + 2 by omega]; exact h2, by rw [show off + k * 7 + i * 7 + 3 = off + (k + i) * 7 + 3 by omega]; exact h3, by rw [show off + k * 7 + i * 7 + 4 = off + (k + i) * 7 + 4 by omega]; exact h4, by rw [show off + k * 7 + i * 7 + 5 = off + (k + i) * 7 + 5 by omega]; exact h5, by rw [show off + k * 7 + i * 7 + 6 = off + (k + i) * 7 + 6 by omega]; exact h6⟩
theorem RowU.tail {b off : Nat} {c : Oe} {L : List Oe} {w : World} (h : RowU (some ⟨b, off, none⟩) (c :: L) w) : RowU (some ⟨b, off + 7, none⟩) L w := by
  have := h.drop 1
  simpa using this
/-- What lies, cell by cell. -/
theorem RowU.cells {b off : Nat} {L : List Oe} {w : World} (h : RowU (some ⟨b, off, none⟩) L w) : ∀ j u, (ucells L)[j]? = some u → w.cell? ((⟨b, off, none⟩ : Addr).add j) = some u := by
  intro j u hu
  have hj : j < L.length * 7 := by
    have := (List.getElem?_eq_some_iff.1 hu).1
    rwa [uc_len] at this
  have hi : j / 7 < L.length := by omega
  obtain ⟨b', off', ha, _, h0, h1, h2, h3, h4, h5, h6⟩ := h (j / 7) hi
  simp only [Option.some.injEq, Addr.mk.injEq, and_true] at ha
  obtain ⟨rfl, rfl⟩ := ha
  obtain ⟨p0, p1, p2, p3, p4, p5, p6⟩ := uc_at hi
  have hadd : (⟨b, off, none⟩ : Addr).add j = ⟨b, off + j, none⟩ := by
    simp only [Addr.add]
    split
    · rename_i h; rw [h]; simp
    · rfl
  rw [hadd]
  rcases (show j = j / 7 * 7 ∨ j = j / 7 * 7 + 1 ∨ j = j / 7 * 7 + 2 ∨ j = j / 7 * 7 + 3 ∨ j = j / 7 * 7 + 4 ∨ j = j / 7 * 7 + 5 ∨ j = j / 7 * 7 + 6 by omega) with e | e | e | e | e | e | e
  · rw [e] at hu ⊢
    rw [p0] at hu
    simp at hu
    rw [← hu]
    exact h0
  · rw [e] at hu ⊢
    rw [p1] at hu
    simp at hu
    rw [← hu]
    exact h1
  · rw [e] at hu ⊢
    rw [p2] at hu
    simp at hu
    rw [← hu]
    exact h2
  · rw [e] at hu ⊢
    rw [p3] at hu
    simp at hu
    rw [← hu]
    exact h3
  · rw [e] at hu ⊢
    rw [p4] at hu
    simp at hu
    rw [← hu]
    exact h4
  · rw [e] at hu ⊢
    rw [p5] at hu
    simp at hu
    rw [← hu]
    exact h5
  · rw [e] at hu ⊢
    rw [p6] at hu
    simp at hu
    rw [← hu]
    exact h6

/-- The list L lies in memory of one's own. -/
def OwnU (base : Nat) (v : Value) (L : List Oe) (w : World) : Prop := w.ownsRow base 49 7 v L.length (ucells L)
theorem ownU_nil (base : Nat) (w : World) : OwnU base (.slice none 0 0) [] w := World.ownsRow_nil w base _ 7
theorem ownU_below {w w' : World} {base : Nat} {v : Value} {L : List Oe} (h : OwnU base v L w) (hb : Below w.heap.size w w') : OwnU base v L w' :=
  World.ownsRow.kept h (row := none) ⟨hb.os, hb.tape, hb.output, hb.size, fun k hk _ => hb.block k hk⟩ (by cases hv : v.ownBlock with
    | none => exact .inl rfl
    | some b => exact .inr (by simp))
theorem ownU_base {w : World} {base base' : Nat} {v : Value} {L : List Oe} (h : OwnU base v L w) (hb : base' ≤ base) : OwnU base' v L w := by
  refine ⟨h.1, ?_⟩
  rcases h.2 with h | ⟨g, cap, cur, h1, h2, h3⟩
  · exact .inl h
  · exact .inr ⟨g, cap, cur, h1, Nat.le_trans hb h2, h3⟩
theorem ownU_shape {w : World} {base : Nat} {v : Value} {L : List Oe} (h : OwnU base v L w) (h0 : L ≠ []) : ∃ g cap, v = .slice (some ⟨g, 0, none⟩) L.length cap ∧ base ≤ g ∧ g < w.heap.size := by
  rcases h.2 with ⟨_, h1⟩ | ⟨g, cap, cur, rfl, hb, hg, _⟩
  · exact absurd (List.eq_nil_of_length_eq_zero h1) h0
  · exact ⟨g, cap, rfl, hb, (Array.getElem?_eq_some_iff.1 hg).1⟩
theorem ownU_at {w : World} {base g cap : Nat} {L : List Oe} (h : OwnU base (.slice (some ⟨g, 0, none⟩) L.length cap) L w) {i : Nat} (hi : i < L.length) :
    (w.cell? ⟨g, i * 7, none⟩ = some (.int .i64 (uAt L i).t.pe) ∧ w.cell? ⟨g, i * 7 + 1, none⟩ = some (.int .i64 (uAt L i).t.o) ∧ w.cell? ⟨g, i * 7 + 2, none⟩ = some (.slice (uAt L i).a0 (uAt L i).t.n0 (uAt L i).c0) ∧ w.cell? ⟨g, i * 7 + 3, none⟩ = some (.int .i64 (uAt L i).t.nx) ∧ w.cell? ⟨g, i * 7 + 4, none⟩ = some (.int .i64 (uAt L i).t.md) ∧ w.cell? ⟨g, i * 7 + 5, none⟩ = some (.int .i64 (uAt L i).t.pf) ∧ w.cell? ⟨g, i * 7 + 6, none⟩ = some (.slice (uAt L i).a1 (uAt L i).t.n1 (uAt L i).c1)) ∧
    (∀ j, w.frozen? ⟨g, j, none⟩ = false) := by
  obtain ⟨h0, h1, h2, h3, h4, h5, h6⟩ := uc_at hi
  have hc := fun j hj => World.ownsRow.cellAt (show w.ownsRow base _ 7 (.slice (some ⟨g, 0, none⟩) L.length cap) L.length (ucells L) from h) j hj
  exact ⟨⟨(hc _ (by omega)).trans h0, (hc _ (by omega)).trans h1, (hc _ (by omega)).trans h2, (hc _ (by omega)).trans h3, (hc _ (by omega)).trans h4, (hc _ (by omega)).trans h5, (hc _ (by omega)).trans h6⟩, fun j => World.ownsRow.frozenAt (show w.ownsRow base _ 7 (.slice (some ⟨g, 0, none⟩) L.length cap) L.length (ucells L) from h) j⟩
theorem ownU_row {w : World} {base : Nat} {v : Value} {L : List Oe} (h : OwnU base v L w) : ∃ a cap, v = .slice a L.length cap ∧ RowU a L w ∧ ((a = none ∧ cap = 0 ∧ L = []) ∨ ∃ g, a = some ⟨g, 0, none⟩ ∧ base ≤ g ∧ g < w.heap.size ∧ L.length ≤ cap ∧ cap ≤ maxLen) := by
  rcases h.2 with ⟨rfl, h1⟩ | ⟨g, cap, cur, rfl, hb, hg, hr⟩
  · have e : L = [] := List.eq_nil_of_length_eq_zero h1
    subst e
    exact ⟨none, 0, rfl, RowU.nil _ _, .inl ⟨rfl, rfl, rfl⟩⟩
  · have hgl : g < w.heap.size := (Array.getElem?_eq_some_iff.1 hg).1
    refine ⟨some ⟨g, 0, none⟩, cap, rfl, fun i hi => ?_,   .inr ⟨g, rfl, hb, hgl, hr.1, hr.2.1⟩⟩
    obtain ⟨⟨h0, h1, h2, h3, h4, h5, h6⟩, _⟩ := ownU_at h hi
    exact ⟨g, 0, rfl, hgl, by simpa using h0, by simpa using h1, by simpa using h2, by simpa using h3, by simpa using h4, by simpa using h5, by simpa using h6⟩

theorem grown_belowU {w w' : World} {base : Nat} {v : Value} {L : List Oe} (h : OwnU base v L w) (hg : w.grownBy w' v.ownBlock) (hb : base ≤ w.heap.size) : Below base w w' := by
  refine ⟨hg.os, hg.tape, hg.output, hg.size, fun k hk => hg.block k (by omega) (fun e => ?_)⟩
  rcases h.2 with ⟨rfl, _⟩ | ⟨g, cap, cur, rfl, hbg, _⟩
  · simp [Value.ownBlock] at e
  · simp [Value.ownBlock] at e
    omega
theorem info_partsU {P : Program} {t : TypeId} {z : Value} {s b : Nat} (h : (P.info? t).map (fun i => (i.zero, i.size, i.bytes)) = some (some z, s, b)) : ∃ i, P.info? t = some i ∧ i.zero = some z ∧ i.size = s ∧ i.bytes = b := by
  obtain ⟨i, hi, hz⟩ := Option.map_eq_some_iff.1 h
  simp only [Prod.mk.injEq] at hz
  exact ⟨i, hi, hz.1, hz.2.1, hz.2.2⟩
theorem infoOffer : (Try.prog.info? 49).map (fun i => (i.zero, i.size, i.bytes)) = some (some (.agg #[.int .i64 0, .int .i64 0, .slice none 0 0, .int .i64 0, .int .i64 0, .int .i64 0, .slice none 0 0]), 7, 88) := by kernel_rfl
/-- Block b as it stands, whole. -/
def BkU (w : World) (b : Nat) (arr : Array Value) (e : TypeId) : Prop := w.heap[b]? = some (.cells arr e (0, 0))
theorem BkU.lt {w : World} {b : Nat} {arr : Array Value} {e : TypeId} (h : BkU w b arr e) : b < w.heap.size := (Array.getElem?_eq_some_iff.1 h).1
theorem BkU.below {w w' : World} {b : Nat} {arr : Array Value} {e : TypeId} (h : BkU w b arr e) (k : Below w.heap.size w w') : BkU w' b arr e := (k.block b h.lt).trans h
theorem BkU.base {w w' : World} {b base : Nat} {arr : Array Value} {e : TypeId} (h : BkU w b arr e) (k : Below base w w') (hb : b < base) : BkU w' b arr e := (k.block b hb).trans h
theorem BkU.new (w : World) (arr : Array Value) (e : TypeId) : BkU (w.alloc (.cells arr e)) w.heap.size arr e := heap_alloc_new w _
theorem BkU.cell {w : World} {b : Nat} {arr : Array Value} {e : TypeId} (h : BkU w b arr e) (j : Nat) : w.cell? ⟨b, j, none⟩ = arr[j]? := cell_of_row w b j arr e (0, 0) h
theorem bkU_frozen {w : World} {b : Nat} {arr : Array Value} {e : TypeId} (h : BkU w b arr e) (j : Nat) : w.frozen? ⟨b, j, none⟩ = false := by
  unfold BkU at h
  simp [World.frozen?, h]
/-- One in a block of its own is a row. -/
theorem RowU.one {w : World} {b : Nat} {p : Oe} (hb : b < w.heap.size) (h0 : w.cell? ⟨b, 0, none⟩ = some (.int .i64 p.t.pe)) (h1 : w.cell? ⟨b, 1, none⟩ = some (.int .i64 p.t.o)) (h2 : w.cell? ⟨b, 2, none⟩ = some (.slice p.a0 p.t.n0 p.c0)) (h3 : w.cell? ⟨b, 3, none⟩ = some (.int .i64 p.t.nx)) (h4 : w.cell? ⟨b, 4, none⟩ = some (.int .i64 p.t.md)) (h5 : w.cell? ⟨b, 5, none⟩ = some (.int .i64 p.t.pf)) (h6 : w.cell? ⟨b, 6, none⟩ = some (.slice p.a1 p.t.n1 p.c1)) : RowU (some ⟨b, 0, none⟩) [p] w := by
  intro i hi
  have : i = 0 := by simpa using hi
  subst this
  exact ⟨b, 0, rfl, hb, h0, h1, h2, h3, h4, h5, h6⟩

/-- A source of an append: nil, or at an address. -/
def SrcU (a : Option Addr) (M : List Oe) (c : Nat) (w : World) : Prop := RowU a M w ∧ ((a = none ∧ M = [] ∧ c = 0) ∨ ∃ b off, a = some ⟨b, off, none⟩)
theorem SrcU.below {a : Option Addr} {M : List Oe} {c : Nat} {w w' : World} (h : SrcU a M c w) (k : Below w.heap.size w w') : SrcU a M c w' := ⟨h.1.below k, h.2⟩
theorem SrcU.own {w : World} {base : Nat} {v : Value} {L : List Oe} (h : OwnU base v L w) : ∃ a cap, v = .slice a L.length cap ∧ SrcU a L cap w := by
  obtain ⟨a, cap, h1, h2, h3⟩ := ownU_row h
  refine ⟨a, cap, h1, h2, ?_⟩
  rcases h3 with ⟨e1, e2, e3⟩ | ⟨g, e1, _⟩
  · exact .inl ⟨e1, e3, e2⟩
  · exact .inr ⟨g, 0, e1⟩
set_option maxRecDepth 100000 in
theorem wpList_appU {ops : Array Oper} {rest : List Oper} {o : Oper} {a : Act} {w : World} {Q : Exit → Act → World → Prop} (hgd : o.guard = none) (s x : Operand)
    (ho : o.op = .call { callee := .builtin .append, args := #[s, x], argTypes := #[61, 61] })
    (base : Nat) (v : Value) (L : List Oe) (hs : a.eval s = v) (hown : OwnU base v L w)
    (sa : Option Addr) (M : List Oe) (c : Nat) (hx : a.eval x = .slice sa M.length c) (hM : SrcU sa M c w) (hlen : L.length + M.length ≤ 8589934593) (hbase : base ≤ w.heap.size)
    (h : ∀ v' w', OwnU base v' (L ++ M) w' → Below base w w' → w.grownBy w' v.ownBlock → wpList Try.prog ops Q rest (a.put o.dst v') w') : wpList Try.prog ops Q (o :: rest) a w := by
  obtain ⟨i0, hi, hz0, hz1, hz2⟩ := info_partsU infoOffer
  rcases hM with ⟨hR, ⟨rfl, rfl, rfl⟩ | ⟨b, off, rfl⟩⟩
  · refine wpList_append_own_none hgd s x 61 ho base 49 i0 7 Try.underlying61 hi v L.length (ucells L) hs hown hx ?_
    refine h v w (by simpa using hown) (Below.refl _ _) ⟨rfl, rfl, rfl, Nat.le_refl _, fun _ _ _ => rfl⟩
  · refine wpList_append_own w hgd s x 61 ho base 49 i0 (.agg #[.int .i64 0, .int .i64 0, .slice none 0 0, .int .i64 0, .int .i64 0, .int .i64 0, .slice none 0 0]) 7 88 Try.underlying61 hi hz0 hz1 hz2 rfl (by decide) v L.length (ucells L) hs hown ⟨b, off, none⟩ M.length c (ucells M) hx (uc_len M) hR.cells (uc_oneCell M) (by unfold maxLen; omega) (by omega) hbase ?_
    intro v' w' hown' hgrow _
    refine h v' w' ?_ (grown_belowU hown hgrow hbase) hgrow
    unfold OwnU
    rw [uc_app, List.length_append]
    exact hown'
theorem run_appU (ty : TypeId) (w : World) (base : Nat) (v : Value) (L : List Oe) (hown : OwnU base v L w) (sa : Option Addr) (M : List Oe) (c : Nat) (hM : SrcU sa M c w) (hlen : L.length + M.length ≤ 8589934593) (hbase : base ≤ w.heap.size) :
    ∃ v' w', (Builtin.append_ #[61, 61] ty #[v, .slice sa M.length c]).run Try.prog w = .ok v' w' ∧ OwnU base v' (L ++ M) w' ∧ Below base w w' ∧ w.grownBy w' v.ownBlock := by
  obtain ⟨i0, hi, hz0, hz1, hz2⟩ := info_partsU infoOffer
  rcases hM with ⟨hR, ⟨rfl, rfl, rfl⟩ | ⟨b, off, rfl⟩⟩
  · have hrun := run_append_owned_none (P := Try.prog) (w := w) base 61 ty 49 i0 7 Try.underlying61 hi v L.length (ucells L) hown
    exact ⟨v, w, hrun, by simpa using hown, Below.refl _ _, ⟨rfl, rfl, rfl, Nat.le_refl _, fun _ _ _ => rfl⟩⟩
  · obtain ⟨v', w', hr, h2, h3, _, h5⟩ := run_append_own_at (P := Try.prog) w base 61 ty 49 i0 (.agg #[.int .i64 0, .int .i64 0, .slice none 0 0, .int .i64 0, .int .i64 0, .int .i64 0, .slice none 0 0]) 7 88 Try.underlying61 hi hz0 hz1 hz2 rfl (by decide) v L.length (ucells L) hown ⟨b, off, none⟩ M.length c (ucells M) (uc_len M) hR.cells (uc_oneCell M) (by unfold maxLen; omega) (by omega) hbase
    refine ⟨v', w', hr, ?_, grown_belowU hown h3 hbase, h3⟩
    unfold OwnU
    rw [uc_app, List.length_append]
    exact h2
theorem step_appU {ops : Array Oper} {o : Oper} {a : Act} {w : World} {K : Act → World → Prop} {Q : Exit → Act → World → Prop} {E : Prop} (hgd : o.guard = none) (s x : Operand)
    (ho : o.op = .call { callee := .builtin .append, args := #[s, x], argTypes := #[61, 61] })
    (base : Nat) (v : Value) (L : List Oe) (hs : a.eval s = v) (hown : OwnU base v L w) (sa : Option Addr) (M : List Oe) (n c : Nat) (hx : a.eval x = .slice sa n c) (hn : n = M.length) (hM : SrcU sa M c w)
    (hlen : L.length + M.length ≤ 8589934593) (hbase : base ≤ w.heap.size)
    (h : ∀ v' w', OwnU base v' (L ++ M) w' → Below base w w' → w.grownBy w' v.ownBlock → K (a.put o.dst v') w') :
    if Region.wanted o (yielded ops a.tmps) = true then Oper.wp Try.prog o a w K Q else E := by
  have hw : Region.wanted o (yielded ops a.tmps) = true := by simp [Region.wanted, hgd]
  rw [if_pos hw]
  subst hn
  obtain ⟨v', w', hr, h2, h3, h4⟩ := run_appU o.type w base v L hown sa M c hM hlen hbase
  unfold Oper.wp execOp
  simp only [ho, resolve, invoke, builtin, Sem.run_bind, Sem.run_pure, Result.andThen_ok, List.map_toArray, List.map_cons, List.map_nil, hs, hx, hr]
  exact h v' w' h2 h3 h4
end Go.Proofs.Ytjjdfniemlcnnaa
