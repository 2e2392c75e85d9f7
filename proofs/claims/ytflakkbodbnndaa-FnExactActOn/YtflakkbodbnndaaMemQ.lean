/- How a list of ReCell lies in memory. -/
import Derived.Test.YtflakkbodbnndaaFlatReCell
import Derived.Test.YtflakkbodbnndaaAll7
import Derived.ChangeKeysEq
import Derived.Laws.AppendOwnNone
import Derived.ArgAppend
import Derived.Maps.AppendAt
import Derived.Deep.AppendLies
namespace Go.Proofs.Ytflakkbodbnndaa
open Go.RowKit

def qAt (L : List Cl) (i : Nat) : Cl := L.getD i (0, 0)
theorem qAt_eq {L : List Cl} {i : Nat} (h : i < L.length) : qAt L i = L[i] := by
  unfold qAt
  rw [List.getD_eq_getElem?_getD, List.getElem?_eq_getElem h]
  rfl
theorem qAt_mem {L : List Cl} {i : Nat} (h : i < L.length) : qAt L i ∈ L := by rw [qAt_eq h]; exact List.getElem_mem h
theorem qAt_cons (c : Cl) (L : List Cl) (i : Nat) : qAt (c :: L) (i + 1) = qAt L i := by simp [qAt]
theorem qAt_zero (c : Cl) (L : List Cl) : qAt (c :: L) 0 = c := by simp [qAt]
theorem take_succQ {L : List Cl} {k : Nat} (h : k < L.length) : L.take (k + 1) = L.take k ++ [qAt L k] := by
  rw [qAt_eq h, List.take_add_one, List.getElem?_eq_getElem h]
  rfl
theorem foldl_takeQ {β : Type} (g : β → Cl → β) (b : β) {L : List Cl} {k : Nat} (h : k < L.length) : (L.take (k + 1)).foldl g b = g ((L.take k).foldl g b) (qAt L k) := by
  rw [take_succQ h, List.foldl_append]
  rfl
theorem all_takeQ (f : Cl → Bool) {L : List Cl} {k : Nat} (h : k < L.length) : (L.take (k + 1)).all f = ((L.take k).all f && f (qAt L k)) := by
  rw [take_succQ h, List.all_append]
  simp
theorem any_takeQ (f : Cl → Bool) {L : List Cl} {k : Nat} (h : k < L.length) : (L.take (k + 1)).any f = ((L.take k).any f || f (qAt L k)) := by
  rw [take_succQ h, List.any_append]
  simp

/-- The list out of what lies. -/
def listQ (n : Nat) (f0 : Nat → Int) (f1 : Nat → Int) : List Cl := (List.range n).map fun i => (f0 i, f1 i)
theorem listQ_len (n : Nat) (f0 : Nat → Int) (f1 : Nat → Int) : (listQ n f0 f1).length = n := by simp [listQ]
theorem listQ_at {n : Nat} (f0 : Nat → Int) (f1 : Nat → Int) {i : Nat} (h : i < n) : qAt (listQ n f0 f1) i = (f0 i, f1 i) := by
  rw [qAt_eq (by rw [listQ_len]; exact h)]
  simp [listQ]

/-- Their cells. -/
def encQ (e : Cl) : List Value := [.int .i64 e.1, .int .i64 e.2]
def qcells (L : List Cl) : List Value := L.flatMap encQ
theorem qc_cons (e : Cl) (L : List Cl) : qcells (e :: L) = .int .i64 e.1 :: .int .i64 e.2 :: qcells L := rfl
theorem qc_len (L : List Cl) : (qcells L).length = L.length * 2 := by
  induction L with
  | nil => rfl
  | cons e L ih => rw [qc_cons]; simp only [List.length_cons, ih]; omega
theorem qc_app (L M : List Cl) : qcells (L ++ M) = qcells L ++ qcells M := by unfold qcells; rw [List.flatMap_append]
theorem qc_one (e : Cl) : qcells [e] = encQ e := by simp [qcells]
theorem qc_at {L : List Cl} {i : Nat} (h : i < L.length) : (qcells L)[i * 2]? = some (.int .i64 (qAt L i).1) ∧ (qcells L)[i * 2 + 1]? = some (.int .i64 (qAt L i).2) := by
  induction L generalizing i with
  | nil => simp at h
  | cons e L ih =>
    cases i with
    | zero => exact ⟨rfl, rfl⟩
    | succ i =>
      have h1 := ih (i := i) (by simpa using h)
      have e1 : qAt (e :: L) (i + 1) = qAt L i := by simp [qAt]
      rw [e1, qc_cons]
      have e2 : (i + 1) * 2 = i * 2 + 2 := by omega
      rw [e2]
      exact h1
theorem qc_oneCell (L : List Cl) : ∀ u ∈ qcells L, u.oneCell' = true := by
  intro u hu
  unfold qcells at hu
  rw [List.mem_flatMap] at hu
  obtain ⟨n, _, hn⟩ := hu
  simp only [encQ, List.mem_cons, List.not_mem_nil, or_false] at hn
  rcases hn with rfl | rfl <;> rfl

/-- The list L lies at a. -/
def RowQ (a : Option Addr) (L : List Cl) (w : World) : Prop := ∀ i, i < L.length → ∃ b off, a = some ⟨b, off, none⟩ ∧ b < w.heap.size ∧ w.cell? ⟨b, off + i * 2, none⟩ = some (.int .i64 (qAt L i).1) ∧ w.cell? ⟨b, off + i * 2 + 1, none⟩ = some (.int .i64 (qAt L i).2)
theorem RowQ.below {a : Option Addr} {L : List Cl} {w w' : World} (h : RowQ a L w) (k : Below w.heap.size w w') : RowQ a L w' := by
  intro i hi
  obtain ⟨b, off, ha, hb, h0, h1⟩ := h i hi
  obtain ⟨hc, _⟩ := bcell k
  exact ⟨b, off, ha, Nat.lt_of_lt_of_le hb k.size, (hc _ _ hb).trans h0, (hc _ _ hb).trans h1⟩
/-- Rows lie as they lay where nothing below a bound has turned and they lie below it. -/
theorem RowQ.base {a : Option Addr} {base : Nat} {L : List Cl} {w w' : World} (h : RowQ a L w) (hb : ∀ b off, a = some ⟨b, off, none⟩ → b < base) (k : Below base w w') : RowQ a L w' := by
  intro i hi
  obtain ⟨b, off, ha, hbw, h0, h1⟩ := h i hi
  have hlt := hb b off ha
  have hc : ∀ o, w'.cell? ⟨b, o, none⟩ = w.cell? ⟨b, o, none⟩ := fun o => k.cell (p := ⟨b, o, none⟩) hlt
  exact ⟨b, off, ha, Nat.lt_of_lt_of_le hbw k.size, (hc _).trans h0, (hc _).trans h1⟩
theorem RowQ.of {a : Option Addr} {n : Nat} {f0 : Nat → Int} {f1 : Nat → Int} {w : World} (h : RowReCell a n f0 f1 w) : RowQ a (listQ n f0 f1) w := by
  intro i hi
  rw [listQ_len] at hi
  rw [listQ_at f0 f1 hi]
  exact h i hi
theorem RowQ.row {a : Option Addr} {L : List Cl} {w : World} (h : RowQ a L w) : RowReCell a L.length (fun i => (qAt L i).1) (fun i => (qAt L i).2) w := h
theorem RowQ.nil (a : Option Addr) (w : World) : RowQ a [] w := fun _ hi => absurd hi (Nat.not_lt_zero _)
/-- A part of a row. -/
theorem RowQ.take {a : Option Addr} {L : List Cl} {w : World} (h : RowQ a L w) (k : Nat) : RowQ a (L.take k) w := by
  intro i hi
  rw [List.length_take] at hi
  have e : qAt (L.take k) i = qAt L i := by
    rw [qAt_eq (by rw [List.length_take]; exact hi), qAt_eq (by omega)]
    simp
  rw [e]
  exact h i (by omega)
theorem RowQ.drop {b off : Nat} {L : List Cl} {w : World} (h : RowQ (some ⟨b, off, none⟩) L w) (k : Nat) : RowQ (some ⟨b, off + k * 2, none⟩) (L.drop k) w := by
  intro i hi
  rw [List.length_drop] at hi
  have e : qAt (L.drop k) i = qAt L (k + i) := by
    rw [qAt_eq (by rw [List.length_drop]; exact hi), qAt_eq (by omega)]
    simp
  rw [e]
  obtain ⟨b', off', ha, hb, h0, h1⟩ := h (k + i) (by omega)
  simp only [Option.some.injEq, Addr.mk.injEq, and_true] at ha
  obtain ⟨rfl, rfl⟩ := ha
  exact ⟨b, off + k * 2, rfl, hb, by rw [show off + k * 2 + i * 2 = off + (k + i) * 2 by omega]; exact h0, by rw [show off + k * 2 + i * 2 + 1 = off + (k + i) * 2 + 1 by omega]; exact h1⟩
theorem RowQ.tail {b off : Nat} {c : Cl} {L : List Cl} {w : World} (h : RowQ (some ⟨b, off, none⟩) (c :: L) w) : RowQ (some ⟨b, off + 2, none⟩) L w := by
  have := h.drop 1
  simpa using this
/-- What lies, cell by cell. -/
theorem RowQ.cells {b off : Nat} {L : List Cl} {w : World} (h : RowQ (some ⟨b, off, none⟩) L w) : ∀ j u, (qcells L)[j]? = some u → w.cell? ((⟨b, off, none⟩ : Addr).add j) = some u := by
  intro j u hu
  have hj : j < L.length * 2 := by
    have := (List.getElem?_eq_some_iff.1 hu).1
    rwa [qc_len] at this
  have hi : j / 2 < L.length := by omega
  obtain ⟨b', off', ha, _, h0, h1⟩ := h (j / 2) hi
  simp only [Option.some.injEq, Addr.mk.injEq, and_true] at ha
  obtain ⟨rfl, rfl⟩ := ha
  obtain ⟨p0, p1⟩ := qc_at hi
  have hadd : (⟨b, off, none⟩ : Addr).add j = ⟨b, off + j, none⟩ := by
    simp only [Addr.add]
    split
    · rename_i h; rw [h]; simp
    · rfl
  rw [hadd]
  rcases (show j = j / 2 * 2 ∨ j = j / 2 * 2 + 1 by omega) with e | e
  · rw [e] at hu ⊢
    rw [p0] at hu
    simp at hu
    rw [← hu]
    exact h0
  · rw [e] at hu ⊢
    rw [p1] at hu
    simp at hu
    rw [← hu]
    exact h1

/-- The list L lies in memory of one's own. -/
def OwnQ (base : Nat) (v : Value) (L : List Cl) (w : World) : Prop := w.ownsRow base 109 2 v L.length (qcells L)
theorem ownQ_nil (base : Nat) (w : World) : OwnQ base (.slice none 0 0) [] w := World.ownsRow_nil w base _ 2
theorem ownQ_below {w w' : World} {base : Nat} {v : Value} {L : List Cl} (h : OwnQ base v L w) (hb : Below w.heap.size w w') : OwnQ base v L w' :=
  World.ownsRow.kept h (row := none) ⟨hb.os, hb.tape, hb.output, hb.size, fun k hk _ => hb.block k hk⟩ (by cases hv : v.ownBlock with
    | none => exact .inl rfl
    | some b => exact .inr (by simp))
theorem ownQ_base {w : World} {base base' : Nat} {v : Value} {L : List Cl} (h : OwnQ base v L w) (hb : base' ≤ base) : OwnQ base' v L w := by
  refine ⟨h.1, ?_⟩
  rcases h.2 with h | ⟨g, cap, cur, h1, h2, h3⟩
  · exact .inl h
  · exact .inr ⟨g, cap, cur, h1, Nat.le_trans hb h2, h3⟩
theorem ownQ_shape {w : World} {base : Nat} {v : Value} {L : List Cl} (h : OwnQ base v L w) (h0 : L ≠ []) : ∃ g cap, v = .slice (some ⟨g, 0, none⟩) L.length cap ∧ base ≤ g ∧ g < w.heap.size := by
  rcases h.2 with ⟨_, h1⟩ | ⟨g, cap, cur, rfl, hb, hg, _⟩
  · exact absurd (List.eq_nil_of_length_eq_zero h1) h0
  · exact ⟨g, cap, rfl, hb, (Array.getElem?_eq_some_iff.1 hg).1⟩
theorem ownQ_at {w : World} {base g cap : Nat} {L : List Cl} (h : OwnQ base (.slice (some ⟨g, 0, none⟩) L.length cap) L w) {i : Nat} (hi : i < L.length) :
    (w.cell? ⟨g, i * 2, none⟩ = some (.int .i64 (qAt L i).1) ∧ w.cell? ⟨g, i * 2 + 1, none⟩ = some (.int .i64 (qAt L i).2)) ∧
    (∀ j, w.frozen? ⟨g, j, none⟩ = false) := by
  obtain ⟨h0, h1⟩ := qc_at hi
  have hc := fun j hj => World.ownsRow.cellAt (show w.ownsRow base _ 2 (.slice (some ⟨g, 0, none⟩) L.length cap) L.length (qcells L) from h) j hj
  exact ⟨⟨(hc _ (by omega)).trans h0, (hc _ (by omega)).trans h1⟩, fun j => World.ownsRow.frozenAt (show w.ownsRow base _ 2 (.slice (some ⟨g, 0, none⟩) L.length cap) L.length (qcells L) from h) j⟩
theorem ownQ_row {w : World} {base : Nat} {v : Value} {L : List Cl} (h : OwnQ base v L w) : ∃ a cap, v = .slice a L.length cap ∧ RowQ a L w ∧ ((a = none ∧ cap = 0 ∧ L = []) ∨ ∃ g, a = some ⟨g, 0, none⟩ ∧ base ≤ g ∧ g < w.heap.size ∧ L.length ≤ cap ∧ cap ≤ maxLen) := by
  rcases h.2 with ⟨rfl, h1⟩ | ⟨g, cap, cur, rfl, hb, hg, hr⟩
  · have e : L = [] := List.eq_nil_of_length_eq_zero h1
    subst e
    exact ⟨none, 0, rfl, RowQ.nil _ _, .inl ⟨rfl, rfl, rfl⟩⟩
  · have hgl : g < w.heap.size := (Array.getElem?_eq_some_iff.1 hg).1
    refine ⟨some ⟨g, 0, none⟩, cap, rfl, fun i hi => ?_,   .inr ⟨g, rfl, hb, hgl, hr.1, hr.2.1⟩⟩
    obtain ⟨⟨h0, h1⟩, _⟩ := ownQ_at h hi
    exact ⟨g, 0, rfl, hgl, by simpa using h0, by simpa using h1⟩
theorem ownQ_out {w : World} {base g cap : Nat} {L : List Cl} (h : OwnQ base (.slice (some ⟨g, 0, none⟩) L.length cap) L w) (hg : g < w.heap.size) :
    OutReCell g L.length L.length (fun i => (qAt L i).1) (fun i => (qAt L i).2) w := by
  refine ⟨hg, fun i hi => ?_⟩
  obtain ⟨⟨h0, h1⟩, hf⟩ := ownQ_at h hi
  exact ⟨⟨_, _, h0, h1, fun _ => ⟨rfl, rfl⟩⟩, hf _, hf _⟩
theorem grown_belowQ {w w' : World} {base : Nat} {v : Value} {L : List Cl} (h : OwnQ base v L w) (hg : w.grownBy w' v.ownBlock) (hb : base ≤ w.heap.size) : Below base w w' := by
  refine ⟨hg.os, hg.tape, hg.output, hg.size, fun k hk => hg.block k (by omega) (fun e => ?_)⟩
  rcases h.2 with ⟨rfl, _⟩ | ⟨g, cap, cur, rfl, hbg, _⟩
  · simp [Value.ownBlock] at e
  · simp [Value.ownBlock] at e
    omega
theorem info_partsQ {P : Program} {t : TypeId} {z : Value} {s b : Nat} (h : (P.info? t).map (fun i => (i.zero, i.size, i.bytes)) = some (some z, s, b)) : ∃ i, P.info? t = some i ∧ i.zero = some z ∧ i.size = s ∧ i.bytes = b := by
  obtain ⟨i, hi, hz⟩ := Option.map_eq_some_iff.1 h
  simp only [Prod.mk.injEq] at hz
  exact ⟨i, hi, hz.1, hz.2.1, hz.2.2⟩
theorem infoReCell : (Try.prog.info? 109).map (fun i => (i.zero, i.size, i.bytes)) = some (some (.agg #[.int .i64 0, .int .i64 0]), 2, 16) := by kernel_rfl
/-- Block b as it stands, whole. -/
def BkQ (w : World) (b : Nat) (arr : Array Value) (e : TypeId) : Prop := w.heap[b]? = some (.cells arr e (0, 0))
theorem BkQ.lt {w : World} {b : Nat} {arr : Array Value} {e : TypeId} (h : BkQ w b arr e) : b < w.heap.size := (Array.getElem?_eq_some_iff.1 h).1
theorem BkQ.below {w w' : World} {b : Nat} {arr : Array Value} {e : TypeId} (h : BkQ w b arr e) (k : Below w.heap.size w w') : BkQ w' b arr e := (k.block b h.lt).trans h
theorem BkQ.base {w w' : World} {b base : Nat} {arr : Array Value} {e : TypeId} (h : BkQ w b arr e) (k : Below base w w') (hb : b < base) : BkQ w' b arr e := (k.block b hb).trans h
theorem BkQ.new (w : World) (arr : Array Value) (e : TypeId) : BkQ (w.alloc (.cells arr e)) w.heap.size arr e := heap_alloc_new w _
theorem BkQ.cell {w : World} {b : Nat} {arr : Array Value} {e : TypeId} (h : BkQ w b arr e) (j : Nat) : w.cell? ⟨b, j, none⟩ = arr[j]? := cell_of_row w b j arr e (0, 0) h
theorem bkQ_frozen {w : World} {b : Nat} {arr : Array Value} {e : TypeId} (h : BkQ w b arr e) (j : Nat) : w.frozen? ⟨b, j, none⟩ = false := by
  unfold BkQ at h
  simp [World.frozen?, h]
/-- One in a block of its own is a row. -/
theorem RowQ.one {w : World} {b : Nat} {p : Cl} (hb : b < w.heap.size) (h0 : w.cell? ⟨b, 0, none⟩ = some (.int .i64 p.1)) (h1 : w.cell? ⟨b, 1, none⟩ = some (.int .i64 p.2)) : RowQ (some ⟨b, 0, none⟩) [p] w := by
  intro i hi
  have : i = 0 := by simpa using hi
  subst this
  exact ⟨b, 0, rfl, hb, h0, h1⟩

/-- A source of an append: nil, or at an address. -/
def SrcQ (a : Option Addr) (M : List Cl) (c : Nat) (w : World) : Prop := RowQ a M w ∧ ((a = none ∧ M = [] ∧ c = 0) ∨ ∃ b off, a = some ⟨b, off, none⟩)
theorem SrcQ.below {a : Option Addr} {M : List Cl} {c : Nat} {w w' : World} (h : SrcQ a M c w) (k : Below w.heap.size w w') : SrcQ a M c w' := ⟨h.1.below k, h.2⟩
theorem SrcQ.own {w : World} {base : Nat} {v : Value} {L : List Cl} (h : OwnQ base v L w) : ∃ a cap, v = .slice a L.length cap ∧ SrcQ a L cap w := by
  obtain ⟨a, cap, h1, h2, h3⟩ := ownQ_row h
  refine ⟨a, cap, h1, h2, ?_⟩
  rcases h3 with ⟨e1, e2, e3⟩ | ⟨g, e1, _⟩
  · exact .inl ⟨e1, e3, e2⟩
  · exact .inr ⟨g, 0, e1⟩
set_option maxRecDepth 100000 in
theorem wpList_appQ {ops : Array Oper} {rest : List Oper} {o : Oper} {a : Act} {w : World} {Q : Exit → Act → World → Prop} (hgd : o.guard = none) (s x : Operand)
    (ho : o.op = .call { callee := .builtin .append, args := #[s, x], argTypes := #[76, 76] })
    (base : Nat) (v : Value) (L : List Cl) (hs : a.eval s = v) (hown : OwnQ base v L w)
    (sa : Option Addr) (M : List Cl) (c : Nat) (hx : a.eval x = .slice sa M.length c) (hM : SrcQ sa M c w) (hlen : L.length + M.length ≤ 8589934593) (hbase : base ≤ w.heap.size)
    (h : ∀ v' w', OwnQ base v' (L ++ M) w' → Below base w w' → w.grownBy w' v.ownBlock → wpList Try.prog ops Q rest (a.put o.dst v') w') : wpList Try.prog ops Q (o :: rest) a w := by
  obtain ⟨i0, hi, hz0, hz1, hz2⟩ := info_partsQ infoReCell
  rcases hM with ⟨hR, ⟨rfl, rfl, rfl⟩ | ⟨b, off, rfl⟩⟩
  · refine wpList_append_own_none hgd s x 76 ho base 109 i0 2 Try.underlying76 hi v L.length (qcells L) hs hown hx ?_
    refine h v w (by simpa using hown) (Below.refl _ _) ⟨rfl, rfl, rfl, Nat.le_refl _, fun _ _ _ => rfl⟩
  · refine wpList_append_own w hgd s x 76 ho base 109 i0 (.agg #[.int .i64 0, .int .i64 0]) 2 16 Try.underlying76 hi hz0 hz1 hz2 rfl (by decide) v L.length (qcells L) hs hown ⟨b, off, none⟩ M.length c (qcells M) hx (qc_len M) hR.cells (qc_oneCell M) (by unfold maxLen; omega) (by omega) hbase ?_
    intro v' w' hown' hgrow _
    refine h v' w' ?_ (grown_belowQ hown hgrow hbase) hgrow
    unfold OwnQ
    rw [qc_app, List.length_append]
    exact hown'
theorem run_appQ (ty : TypeId) (w : World) (base : Nat) (v : Value) (L : List Cl) (hown : OwnQ base v L w) (sa : Option Addr) (M : List Cl) (c : Nat) (hM : SrcQ sa M c w) (hlen : L.length + M.length ≤ 8589934593) (hbase : base ≤ w.heap.size) :
    ∃ v' w', (Builtin.append_ #[76, 76] ty #[v, .slice sa M.length c]).run Try.prog w = .ok v' w' ∧ OwnQ base v' (L ++ M) w' ∧ Below base w w' ∧ w.grownBy w' v.ownBlock := by
  obtain ⟨i0, hi, hz0, hz1, hz2⟩ := info_partsQ infoReCell
  rcases hM with ⟨hR, ⟨rfl, rfl, rfl⟩ | ⟨b, off, rfl⟩⟩
  · have hrun := run_append_owned_none (P := Try.prog) (w := w) base 76 ty 109 i0 2 Try.underlying76 hi v L.length (qcells L) hown
    exact ⟨v, w, hrun, by simpa using hown, Below.refl _ _, ⟨rfl, rfl, rfl, Nat.le_refl _, fun _ _ _ => rfl⟩⟩
  · obtain ⟨v', w', hr, h2, h3, _, h5⟩ := run_append_own_at (P := Try.prog) w base 76 ty 109 i0 (.agg #[.int .i64 0, .int .i64 0]) 2 16 Try.underlying76 hi hz0 hz1 hz2 rfl (by decide) v L.length (qcells L) hown ⟨b, off, none⟩ M.length c (qcells M) (qc_len M) hR.cells (qc_oneCell M) (by unfold maxLen; omega) (by omega) hbase
    refine ⟨v', w', hr, ?_, grown_belowQ hown h3 hbase, h3⟩
    unfold OwnQ
    rw [qc_app, List.length_append]
    exact h2
theorem step_appQ {ops : Array Oper} {o : Oper} {a : Act} {w : World} {K : Act → World → Prop} {Q : Exit → Act → World → Prop} {E : Prop} (hgd : o.guard = none) (s x : Operand)
    (ho : o.op = .call { callee := .builtin .append, args := #[s, x], argTypes := #[76, 76] })
    (base : Nat) (v : Value) (L : List Cl) (hs : a.eval s = v) (hown : OwnQ base v L w) (sa : Option Addr) (M : List Cl) (n c : Nat) (hx : a.eval x = .slice sa n c) (hn : n = M.length) (hM : SrcQ sa M c w)
    (hlen : L.length + M.length ≤ 8589934593) (hbase : base ≤ w.heap.size)
    (h : ∀ v' w', OwnQ base v' (L ++ M) w' → Below base w w' → w.grownBy w' v.ownBlock → K (a.put o.dst v') w') :
    if Region.wanted o (yielded ops a.tmps) = true then Oper.wp Try.prog o a w K Q else E := by
  have hw : Region.wanted o (yielded ops a.tmps) = true := by simp [Region.wanted, hgd]
  rw [if_pos hw]
  subst hn
  obtain ⟨v', w', hr, h2, h3, h4⟩ := run_appQ o.type w base v L hown sa M c hM hlen hbase
  unfold Oper.wp execOp
  simp only [ho, resolve, invoke, builtin, Sem.run_bind, Sem.run_pure, Result.andThen_ok, List.map_toArray, List.map_cons, List.map_nil, hs, hx, hr]
  exact h v' w' h2 h3 h4
end Go.Proofs.Ytflakkbodbnndaa
