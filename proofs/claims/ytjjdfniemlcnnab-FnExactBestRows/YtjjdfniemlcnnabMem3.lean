/- How a list of prefixes lies in memory. -/
import Derived.Test.YtjjdfniemlcnnabAll6
import Derived.Test.YtjjdfniemlcnnabPlain3d
import Derived.ChangeKeysEq
import Derived.Laws.AppendOwnNone
import Derived.ArgAppend
namespace Go.Proofs.Ytjjdfniemlcnnab
open Go.RowKit

def pAt (L : List Pf) (i : Nat) : Pf := L.getD i (0, 0)
theorem pAt_eq {L : List Pf} {i : Nat} (h : i < L.length) : pAt L i = L[i] := by
  unfold pAt
  rw [List.getD_eq_getElem?_getD, List.getElem?_eq_getElem h]
  rfl
theorem pAt_mem {L : List Pf} {i : Nat} (h : i < L.length) : pAt L i ∈ L := by rw [pAt_eq h]; exact List.getElem_mem h
theorem take_succ {L : List Pf} {k : Nat} (h : k < L.length) : L.take (k + 1) = L.take k ++ [pAt L k] := by
  rw [pAt_eq h, List.take_add_one, List.getElem?_eq_getElem h]
  rfl
theorem foldl_take {β : Type} (g : β → Pf → β) (b : β) {L : List Pf} {k : Nat} (h : k < L.length) : (L.take (k + 1)).foldl g b = g ((L.take k).foldl g b) (pAt L k) := by
  rw [take_succ h, List.foldl_append]
  rfl
theorem filter_take (f : Pf → Bool) {L : List Pf} {k : Nat} (h : k < L.length) : (L.take (k + 1)).filter f = (L.take k).filter f ++ (if f (pAt L k) then [pAt L k] else []) := by
  rw [take_succ h, List.filter_append]
  congr 1
  cases hf : f (pAt L k) <;> simp [List.filter, hf]
theorem any_take (f : Pf → Bool) {L : List Pf} {k : Nat} (h : k < L.length) : (L.take (k + 1)).any f = ((L.take k).any f || f (pAt L k)) := by
  rw [take_succ h, List.any_append]
  simp

/-- The list out of what lies. -/
def listOf (n : Nat) (f0 f1 : Nat → Int) : List Pf := (List.range n).map fun i => (f0 i, f1 i)
theorem listOf_len (n : Nat) (f0 f1 : Nat → Int) : (listOf n f0 f1).length = n := by simp [listOf]
theorem listOf_at {n : Nat} (f0 f1 : Nat → Int) {i : Nat} (h : i < n) : pAt (listOf n f0 f1) i = (f0 i, f1 i) := by
  rw [pAt_eq (by rw [listOf_len]; exact h)]
  simp [listOf]

/-- Prefixes' cells. -/
def encP (e : Pf) : List Value := [.int .i64 e.1, .int .i64 e.2]
def pcells (L : List Pf) : List Value := L.flatMap encP
theorem pc_cons (e : Pf) (L : List Pf) : pcells (e :: L) = .int .i64 e.1 :: .int .i64 e.2 :: pcells L := rfl
theorem pc_len (L : List Pf) : (pcells L).length = L.length * 2 := by
  induction L with
  | nil => rfl
  | cons e L ih => rw [pc_cons]; simp only [List.length_cons, ih]; omega
theorem pc_app (L M : List Pf) : pcells (L ++ M) = pcells L ++ pcells M := by unfold pcells; rw [List.flatMap_append]
theorem pc_one (e : Pf) : pcells [e] = encP e := by simp [pcells]
theorem pc_at {L : List Pf} {i : Nat} (h : i < L.length) : (pcells L)[i * 2]? = some (.int .i64 (pAt L i).1) ∧ (pcells L)[i * 2 + 1]? = some (.int .i64 (pAt L i).2) := by
  induction L generalizing i with
  | nil => simp at h
  | cons e L ih =>
    cases i with
    | zero => exact ⟨rfl, rfl⟩
    | succ i =>
      have h1 := ih (i := i) (by simpa using h)
      have e1 : pAt (e :: L) (i + 1) = pAt L i := by simp [pAt]
      rw [e1, pc_cons]
      have e2 : (i + 1) * 2 = i * 2 + 2 := by omega
      rw [e2]
      exact h1
theorem pc_oneCell (L : List Pf) : ∀ u ∈ pcells L, u.oneCell' = true := by
  intro u hu
  unfold pcells at hu
  rw [List.mem_flatMap] at hu
  obtain ⟨n, _, hn⟩ := hu
  simp only [encP, List.mem_cons, List.not_mem_nil, or_false] at hn
  rcases hn with rfl | rfl <;> rfl

/-- The list L lies at a. -/
def RowP (a : Option Addr) (L : List Pf) (w : World) : Prop := ∀ i, i < L.length → ∃ b off, a = some ⟨b, off, none⟩ ∧ b < w.heap.size ∧
  w.cell? ⟨b, off + i * 2, none⟩ = some (.int .i64 (pAt L i).1) ∧ w.cell? ⟨b, off + i * 2 + 1, none⟩ = some (.int .i64 (pAt L i).2)
theorem RowP.below {a : Option Addr} {L : List Pf} {w w' : World} (h : RowP a L w) (k : Below w.heap.size w w') : RowP a L w' := by
  intro i hi
  obtain ⟨b, off, ha, hb, h0, h1⟩ := h i hi
  obtain ⟨hc, _⟩ := bcell k
  exact ⟨b, off, ha, Nat.lt_of_lt_of_le hb k.size, (hc _ _ hb).trans h0, (hc _ _ hb).trans h1⟩
/-- Rows lie as they lay where nothing below a bound has turned and they lie below it. -/
theorem RowP.base {a : Option Addr} {base : Nat} {L : List Pf} {w w' : World} (h : RowP a L w) (hb : ∀ b off, a = some ⟨b, off, none⟩ → b < base) (k : Below base w w') : RowP a L w' := by
  intro i hi
  obtain ⟨b, off, ha, hbw, h0, h1⟩ := h i hi
  have hlt := hb b off ha
  have hc : ∀ o, w'.cell? ⟨b, o, none⟩ = w.cell? ⟨b, o, none⟩ := fun o => k.cell (p := ⟨b, o, none⟩) hlt
  exact ⟨b, off, ha, Nat.lt_of_lt_of_le hbw k.size, (hc _).trans h0, (hc _).trans h1⟩
theorem RowP.of {a : Option Addr} {n : Nat} {f0 f1 : Nat → Int} {w : World} (h : RowPrefix a n f0 f1 w) : RowP a (listOf n f0 f1) w := by
  intro i hi
  rw [listOf_len] at hi
  rw [listOf_at f0 f1 hi]
  exact h i hi
theorem RowP.row {a : Option Addr} {L : List Pf} {w : World} (h : RowP a L w) : RowPrefix a L.length (fun i => (pAt L i).1) (fun i => (pAt L i).2) w := h
theorem RowP.nil (a : Option Addr) (w : World) : RowP a [] w := fun _ hi => absurd hi (Nat.not_lt_zero _)
/-- A part of a row. -/
theorem RowP.take {a : Option Addr} {L : List Pf} {w : World} (h : RowP a L w) (k : Nat) : RowP a (L.take k) w := by
  intro i hi
  rw [List.length_take] at hi
  have e : pAt (L.take k) i = pAt L i := by
    rw [pAt_eq (by rw [List.length_take]; exact hi), pAt_eq (by omega)]
    simp
  rw [e]
  exact h i (by omega)
theorem RowP.drop {b off : Nat} {L : List Pf} {w : World} (h : RowP (some ⟨b, off, none⟩) L w) (k : Nat) : RowP (some ⟨b, off + k * 2, none⟩) (L.drop k) w := by
  intro i hi
  rw [List.length_drop] at hi
  have e : pAt (L.drop k) i = pAt L (k + i) := by
    rw [pAt_eq (by rw [List.length_drop]; exact hi), pAt_eq (by omega)]
    simp
  rw [e]
  obtain ⟨b', off', ha, hb, h0, h1⟩ := h (k + i) (by omega)
  simp only [Option.some.injEq, Addr.mk.injEq, and_true] at ha
  obtain ⟨rfl, rfl⟩ := ha
  exact ⟨b, off + k * 2, rfl, hb, by rw [show off + k * 2 + i * 2 = off + (k + i) * 2 by omega]; exact h0, by rw [show off + k * 2 + i * 2 + 1 = off + (k + i) * 2 + 1 by omega]; exact h1⟩
/-- What lies, cell by cell. -/
theorem RowP.cells {b off : Nat} {L : List Pf} {w : World} (h : RowP (some ⟨b, off, none⟩) L w) : ∀ j u, (pcells L)[j]? = some u → w.cell? ((⟨b, off, none⟩ : Addr).add j) = some u := by
  intro j u hu
  have hj : j < L.length * 2 := by
    have := (List.getElem?_eq_some_iff.1 hu).1
    rwa [pc_len] at this
  have hi : j / 2 < L.length := by omega
  obtain ⟨b', off', ha, _, h0, h1⟩ := h (j / 2) hi
  simp only [Option.some.injEq, Addr.mk.injEq, and_true] at ha
  obtain ⟨rfl, rfl⟩ := ha
  obtain ⟨p0, p1⟩ := pc_at hi
  have hadd : (⟨b, off, none⟩ : Addr).add j = ⟨b, off + j, none⟩ := by
    simp only [Addr.add]
    split
    · rename_i h; rw [h]; simp
    · rfl
  rw [hadd]
  rcases (show j = j / 2 * 2 ∨ j = j / 2 * 2 + 1 by omega) with e | e
  · rw [e] at hu ⊢
    rw [p0] at hu
    simp at hu
    rw [← hu]
    exact h0
  · rw [e] at hu ⊢
    rw [p1] at hu
    simp at hu
    rw [← hu]
    exact h1

/-- The list L lies in memory of one's own. -/
def OwnP (base : Nat) (v : Value) (L : List Pf) (w : World) : Prop := w.ownsRow base 44 2 v L.length (pcells L)
theorem ownP_nil (base : Nat) (w : World) : OwnP base (.slice none 0 0) [] w := World.ownsRow_nil w base _ 2
theorem ownP_below {w w' : World} {base : Nat} {v : Value} {L : List Pf} (h : OwnP base v L w) (hb : Below w.heap.size w w') : OwnP base v L w' :=
  World.ownsRow.kept h (row := none) ⟨hb.os, hb.tape, hb.output, hb.size, fun k hk _ => hb.block k hk⟩ (by cases hv : v.ownBlock with
    | none => exact .inl rfl
    | some b => exact .inr (by simp))
theorem ownP_base {w : World} {base base' : Nat} {v : Value} {L : List Pf} (h : OwnP base v L w) (hb : base' ≤ base) : OwnP base' v L w := by
  refine ⟨h.1, ?_⟩
  rcases h.2 with h | ⟨g, cap, cur, h1, h2, h3⟩
  · exact .inl h
  · exact .inr ⟨g, cap, cur, h1, Nat.le_trans hb h2, h3⟩
theorem ownP_shape {w : World} {base : Nat} {v : Value} {L : List Pf} (h : OwnP base v L w) (h0 : L ≠ []) : ∃ g cap, v = .slice (some ⟨g, 0, none⟩) L.length cap ∧ base ≤ g ∧ g < w.heap.size := by
  rcases h.2 with ⟨_, h1⟩ | ⟨g, cap, cur, rfl, hb, hg, _⟩
  · exact absurd (List.eq_nil_of_length_eq_zero h1) h0
  · exact ⟨g, cap, rfl, hb, (Array.getElem?_eq_some_iff.1 hg).1⟩
theorem ownP_at {w : World} {base g cap : Nat} {L : List Pf} (h : OwnP base (.slice (some ⟨g, 0, none⟩) L.length cap) L w) {i : Nat} (hi : i < L.length) :
    (w.cell? ⟨g, i * 2, none⟩ = some (.int .i64 (pAt L i).1) ∧ w.cell? ⟨g, i * 2 + 1, none⟩ = some (.int .i64 (pAt L i).2)) ∧
    (∀ j, w.frozen? ⟨g, j, none⟩ = false) := by
  obtain ⟨h0, h1⟩ := pc_at hi
  have hc := fun j hj => World.ownsRow.cellAt (show w.ownsRow base _ 2 (.slice (some ⟨g, 0, none⟩) L.length cap) L.length (pcells L) from h) j hj
  exact ⟨⟨(hc _ (by omega)).trans h0, (hc _ (by omega)).trans h1⟩, fun j => World.ownsRow.frozenAt (show w.ownsRow base _ 2 (.slice (some ⟨g, 0, none⟩) L.length cap) L.length (pcells L) from h) j⟩
theorem ownP_row {w : World} {base : Nat} {v : Value} {L : List Pf} (h : OwnP base v L w) : ∃ a cap, v = .slice a L.length cap ∧ RowP a L w ∧ ((a = none ∧ cap = 0 ∧ L = []) ∨ ∃ g, a = some ⟨g, 0, none⟩ ∧ base ≤ g ∧ g < w.heap.size ∧ L.length ≤ cap ∧ cap ≤ maxLen) := by
  rcases h.2 with ⟨rfl, h1⟩ | ⟨g, cap, cur, rfl, hb, hg, hr⟩
  · have e : L = [] := List.eq_nil_of_length_eq_zero h1
    subst e
    exact ⟨none, 0, rfl, RowP.nil _ _, .inl ⟨rfl, rfl, rfl⟩⟩
  · have hgl : g < w.heap.size := (Array.getElem?_eq_some_iff.1 hg).1
    refine ⟨some ⟨g, 0, none⟩, cap, rfl, fun i hi => ?_,   .inr ⟨g, rfl, hb, hgl, hr.1, hr.2.1⟩⟩
    obtain ⟨⟨h0, h1⟩, _⟩ := ownP_at h hi
    exact ⟨g, 0, rfl, hgl, by simpa using h0, by simpa using h1⟩
theorem ownP_out {w : World} {base g cap : Nat} {L : List Pf} (h : OwnP base (.slice (some ⟨g, 0, none⟩) L.length cap) L w) (hg : g < w.heap.size) :
    OutPrefix g L.length L.length (fun i => (pAt L i).1) (fun i => (pAt L i).2) w := by
  refine ⟨hg, fun i hi => ?_⟩
  obtain ⟨⟨h0, h1⟩, hf⟩ := ownP_at h hi
  exact ⟨⟨_, _, h0, h1, fun _ => ⟨rfl, rfl⟩⟩, hf _, hf _⟩
theorem grown_belowP {w w' : World} {base : Nat} {v : Value} {L : List Pf} (h : OwnP base v L w) (hg : w.grownBy w' v.ownBlock) (hb : base ≤ w.heap.size) : Below base w w' := by
  refine ⟨hg.os, hg.tape, hg.output, hg.size, fun k hk => hg.block k (by omega) (fun e => ?_)⟩
  rcases h.2 with ⟨rfl, _⟩ | ⟨g, cap, cur, rfl, hbg, _⟩
  · simp [Value.ownBlock] at e
  · simp [Value.ownBlock] at e
    omega
theorem info_partsP {P : Program} {t : TypeId} {z : Value} {s b : Nat} (h : (P.info? t).map (fun i => (i.zero, i.size, i.bytes)) = some (some z, s, b)) : ∃ i, P.info? t = some i ∧ i.zero = some z ∧ i.size = s ∧ i.bytes = b := by
  obtain ⟨i, hi, hz⟩ := Option.map_eq_some_iff.1 h
  simp only [Prod.mk.injEq] at hz
  exact ⟨i, hi, hz.1, hz.2.1, hz.2.2⟩
theorem infoPrefix : (Try.prog.info? 44).map (fun i => (i.zero, i.size, i.bytes)) = some (some (.agg #[.int .i64 0, .int .i64 0]), 2, 16) := by kernel_rfl
/-- Block b as it stands, whole. -/
def Bk (w : World) (b : Nat) (arr : Array Value) (e : TypeId) : Prop := w.heap[b]? = some (.cells arr e (0, 0))
theorem Bk.lt {w : World} {b : Nat} {arr : Array Value} {e : TypeId} (h : Bk w b arr e) : b < w.heap.size := (Array.getElem?_eq_some_iff.1 h).1
theorem Bk.below {w w' : World} {b : Nat} {arr : Array Value} {e : TypeId} (h : Bk w b arr e) (k : Below w.heap.size w w') : Bk w' b arr e := (k.block b h.lt).trans h
theorem Bk.base {w w' : World} {b base : Nat} {arr : Array Value} {e : TypeId} (h : Bk w b arr e) (k : Below base w w') (hb : b < base) : Bk w' b arr e := (k.block b hb).trans h
theorem Bk.new (w : World) (arr : Array Value) (e : TypeId) : Bk (w.alloc (.cells arr e)) w.heap.size arr e := heap_alloc_new w _
theorem Bk.cell {w : World} {b : Nat} {arr : Array Value} {e : TypeId} (h : Bk w b arr e) (j : Nat) : w.cell? ⟨b, j, none⟩ = arr[j]? := cell_of_row w b j arr e (0, 0) h
theorem bk_frozen {w : World} {b : Nat} {arr : Array Value} {e : TypeId} (h : Bk w b arr e) (j : Nat) : w.frozen? ⟨b, j, none⟩ = false := by
  unfold Bk at h
  simp [World.frozen?, h]
/-- One prefix in a block of its own is a row. -/
theorem RowP.one {w : World} {b : Nat} {p : Pf} (hb : b < w.heap.size) (h0 : w.cell? ⟨b, 0, none⟩ = some (.int .i64 p.1)) (h1 : w.cell? ⟨b, 1, none⟩ = some (.int .i64 p.2)) : RowP (some ⟨b, 0, none⟩) [p] w := by
  intro i hi
  have : i = 0 := by simpa using hi
  subst this
  exact ⟨b, 0, rfl, hb, h0, h1⟩

/-- A source of an append: nil, or at an address. -/
def SrcP (a : Option Addr) (M : List Pf) (c : Nat) (w : World) : Prop := RowP a M w ∧ ((a = none ∧ M = [] ∧ c = 0) ∨ ∃ b off, a = some ⟨b, off, none⟩)
set_option maxRecDepth 100000 in
theorem wpList_appP {ops : Array Oper} {rest : List Oper} {o : Oper} {a : Act} {w : World} {Q : Exit → Act → World → Prop} (hgd : o.guard = none) (s x : Operand)
    (ho : o.op = .call { callee := .builtin .append, args := #[s, x], argTypes := #[27, 27] })
    (base : Nat) (v : Value) (L : List Pf) (hs : a.eval s = v) (hown : OwnP base v L w)
    (sa : Option Addr) (M : List Pf) (c : Nat) (hx : a.eval x = .slice sa M.length c) (hM : SrcP sa M c w) (hlen : L.length + M.length ≤ 8589934593) (hbase : base ≤ w.heap.size)
    (h : ∀ v' w', OwnP base v' (L ++ M) w' → Below base w w' → w.grownBy w' v.ownBlock → wpList Try.prog ops Q rest (a.put o.dst v') w') : wpList Try.prog ops Q (o :: rest) a w := by
  obtain ⟨i0, hi, hz0, hz1, hz2⟩ := info_partsP infoPrefix
  rcases hM with ⟨hR, ⟨rfl, rfl, rfl⟩ | ⟨b, off, rfl⟩⟩
  · refine wpList_append_own_none hgd s x 27 ho base 44 i0 2 Try.underlying27 hi v L.length (pcells L) hs hown hx ?_
    refine h v w (by simpa using hown) (Below.refl _ _) ⟨rfl, rfl, rfl, Nat.le_refl _, fun _ _ _ => rfl⟩
  · refine wpList_append_own w hgd s x 27 ho base 44 i0 (.agg #[.int .i64 0, .int .i64 0]) 2 16 Try.underlying27 hi hz0 hz1 hz2 rfl (by decide) v L.length (pcells L) hs hown ⟨b, off, none⟩ M.length c (pcells M) hx (pc_len M) hR.cells (pc_oneCell M) (by unfold maxLen; omega) (by omega) hbase ?_
    intro v' w' hown' hgrow _
    refine h v' w' ?_ (grown_belowP hown hgrow hbase) hgrow
    unfold OwnP
    rw [pc_app, List.length_append]
    exact hown'
theorem SrcP.own {w : World} {base : Nat} {v : Value} {L : List Pf} (h : OwnP base v L w) : ∃ a cap, v = .slice a L.length cap ∧ SrcP a L cap w := by
  obtain ⟨a, cap, h1, h2, h3⟩ := ownP_row h
  refine ⟨a, cap, h1, h2, ?_⟩
  rcases h3 with ⟨e1, e2, e3⟩ | ⟨g, e1, _⟩
  · exact .inl ⟨e1, e3, e2⟩
  · exact .inr ⟨g, 0, e1⟩
end Go.Proofs.Ytjjdfniemlcnnab
