/- How a list of l6T lies in memory. -/
import Derived.Test.YtflakkbodbnndaaAll1
import Derived.Test.YtflakkbodbnndaaAll7
import Derived.ChangeKeysEq
import Derived.Laws.AppendOwnNone
import Derived.ArgAppend
import Derived.Maps.AppendAt
import Derived.Deep.AppendLies
namespace Go.Proofs.Ytflakkbodbnndaa
open Go.RowKit

def kAt (L : List Kd) (i : Nat) : Kd := L.getD i (0, 0, none, 0, 0)
theorem kAt_eq {L : List Kd} {i : Nat} (h : i < L.length) : kAt L i = L[i] := by
  unfold kAt
  rw [List.getD_eq_getElem?_getD, List.getElem?_eq_getElem h]
  rfl
theorem kAt_mem {L : List Kd} {i : Nat} (h : i < L.length) : kAt L i ∈ L := by rw [kAt_eq h]; exact List.getElem_mem h
theorem kAt_cons (c : Kd) (L : List Kd) (i : Nat) : kAt (c :: L) (i + 1) = kAt L i := by simp [kAt]
theorem kAt_zero (c : Kd) (L : List Kd) : kAt (c :: L) 0 = c := by simp [kAt]
theorem take_succK {L : List Kd} {k : Nat} (h : k < L.length) : L.take (k + 1) = L.take k ++ [kAt L k] := by
  rw [kAt_eq h, List.take_add_one, List.getElem?_eq_getElem h]
  rfl
theorem foldl_takeK {β : Type} (g : β → Kd → β) (b : β) {L : List Kd} {k : Nat} (h : k < L.length) : (L.take (k + 1)).foldl g b = g ((L.take k).foldl g b) (kAt L k) := by
  rw [take_succK h, List.foldl_append]
  rfl
theorem all_takeK (f : Kd → Bool) {L : List Kd} {k : Nat} (h : k < L.length) : (L.take (k + 1)).all f = ((L.take k).all f && f (kAt L k)) := by
  rw [take_succK h, List.all_append]
  simp
theorem any_takeK (f : Kd → Bool) {L : List Kd} {k : Nat} (h : k < L.length) : (L.take (k + 1)).any f = ((L.take k).any f || f (kAt L k)) := by
  rw [take_succK h, List.any_append]
  simp


/-- Their cells. -/
def encK (e : Kd) : List Value := [.int .i64 e.1, .int .i64 e.2.1, .slice e.2.2.1 e.2.2.2.1 e.2.2.2.2]
def kcells (L : List Kd) : List Value := L.flatMap encK
theorem kc_cons (e : Kd) (L : List Kd) : kcells (e :: L) = .int .i64 e.1 :: .int .i64 e.2.1 :: .slice e.2.2.1 e.2.2.2.1 e.2.2.2.2 :: kcells L := rfl
theorem kc_len (L : List Kd) : (kcells L).length = L.length * 3 := by
  induction L with
  | nil => rfl
  | cons e L ih => rw [kc_cons]; simp only [List.length_cons, ih]; omega
theorem kc_app (L M : List Kd) : kcells (L ++ M) = kcells L ++ kcells M := by unfold kcells; rw [List.flatMap_append]
theorem kc_one (e : Kd) : kcells [e] = encK e := by simp [kcells]
theorem kc_at {L : List Kd} {i : Nat} (h : i < L.length) : (kcells L)[i * 3]? = some (.int .i64 (kAt L i).1) ∧ (kcells L)[i * 3 + 1]? = some (.int .i64 (kAt L i).2.1) ∧ (kcells L)[i * 3 + 2]? = some (.slice (kAt L i).2.2.1 (kAt L i).2.2.2.1 (kAt L i).2.2.2.2) := by
  induction L generalizing i with
  | nil => simp at h
  | cons e L ih =>
    cases i with
    | zero => exact ⟨rfl, rfl, rfl⟩
    | succ i =>
      have h1 := ih (i := i) (by simpa using h)
      have e1 : kAt (e :: L) (i + 1) = kAt L i := by simp [kAt]
      rw [e1, kc_cons]
      have e2 : (i + 1) * 3 = i * 3 + 3 := by omega
      rw [e2]
      exact h1
theorem kc_oneCell (L : List Kd) : ∀ u ∈ kcells L, u.oneCell' = true := by
  intro u hu
  unfold kcells at hu
  rw [List.mem_flatMap] at hu
  obtain ⟨n, _, hn⟩ := hu
  simp only [encK, List.mem_cons, List.not_mem_nil, or_false] at hn
  rcases hn with rfl | rfl | rfl <;> rfl

/-- The list L lies at a. -/
def RowK (a : Option Addr) (L : List Kd) (w : World) : Prop := ∀ i, i < L.length → ∃ b off, a = some ⟨b, off, none⟩ ∧ b < w.heap.size ∧ w.cell? ⟨b, off + i * 3, none⟩ = some (.int .i64 (kAt L i).1) ∧ w.cell? ⟨b, off + i * 3 + 1, none⟩ = some (.int .i64 (kAt L i).2.1) ∧ w.cell? ⟨b, off + i * 3 + 2, none⟩ = some (.slice (kAt L i).2.2.1 (kAt L i).2.2.2.1 (kAt L i).2.2.2.2)
theorem RowK.below {a : Option Addr} {L : List Kd} {w w' : World} (h : RowK a L w) (k : Below w.heap.size w w') : RowK a L w' := by
  intro i hi
  obtain ⟨b, off, ha, hb, h0, h1, h2⟩ := h i hi
  obtain ⟨hc, _⟩ := bcell k
  exact ⟨b, off, ha, Nat.lt_of_lt_of_le hb k.size, (hc _ _ hb).trans h0, (hc _ _ hb).trans h1, (hc _ _ hb).trans h2⟩
/-- Rows lie as they lay where nothing below a bound has turned and they lie below it. -/
theorem RowK.base {a : Option Addr} {base : Nat} {L : List Kd} {w w' : World} (h : RowK a L w) (hb : ∀ b off, a = some ⟨b, off, none⟩ → b < base) (k : Below base w w') : RowK a L w' := by
  intro i hi
  obtain ⟨b, off, ha, hbw, h0, h1, h2⟩ := h i hi
  have hlt := hb b off ha
  have hc : ∀ o, w'.cell? ⟨b, o, none⟩ = w.cell? ⟨b, o, none⟩ := fun o => k.cell (p := ⟨b, o, none⟩) hlt
  exact ⟨b, off, ha, Nat.lt_of_lt_of_le hbw k.size, (hc _).trans h0, (hc _).trans h1, (hc _).trans h2⟩

theorem RowK.nil (a : Option Addr) (w : World) : RowK a [] w := fun _ hi => absurd hi (Nat.not_lt_zero _)
/-- A part of a row. -/
theorem RowK.take {a : Option Addr} {L : List Kd} {w : World} (h : RowK a L w) (k : Nat) : RowK a (L.take k) w := by
  intro i hi
  rw [List.length_take] at hi
  have e : kAt (L.take k) i = kAt L i := by
    rw [kAt_eq (by rw [List.length_take]; exact hi), kAt_eq (by omega)]
    simp
  rw [e]
  exact h i (by omega)
theorem RowK.drop {b off : Nat} {L : List Kd} {w : World} (h : RowK (some ⟨b, off, none⟩) L w) (k : Nat) : RowK (some ⟨b, off + k * 3, none⟩) (L.drop k) w := by
  intro i hi
  rw [List.length_drop] at hi
  have e : kAt (L.drop k) i = kAt L (k + i) := by
    rw [kAt_eq (by rw [List.length_drop]; exact hi), kAt_eq (by omega)]
    simp
  rw [e]
  obtain ⟨b', off', ha, hb, h0, h1, h2⟩ := h (k + i) (by omega)
  simp only [Option.some.injEq, Addr.mk.injEq, and_true] at ha
  obtain ⟨rfl, rfl⟩ := ha
  exact ⟨b, off + k * 3, rfl, hb, by rw [show off + k * 3 + i * 3 = off + (k + i) * 3 by omega]; exact h0, by rw [show off + k * 3 + i * 3 + 1 = off + (k + i) * 3 + 1 by omega]; exact h1, by rw [show off + k * 3 + i * 3 + 2 = off + (k + i) * 3 + 2 by omega]; exact h2⟩
theorem RowK.tail {b off : Nat} {c : Kd} {L : List Kd} {w : World} (h : RowK (some ⟨b, off, none⟩) (c :: L) w) : RowK (some ⟨b, off + 3, none⟩) L w := by
  have := h.drop 1
  simpa using this
/-- What lies, cell by cell. -/
theorem RowK.cells {b off : Nat} {L : List Kd} {w : World} (h : RowK (some ⟨b, off, none⟩) L w) : ∀ j u, (kcells L)[j]? = some u → w.cell? ((⟨b, off, none⟩ : Addr).add j) = some u := by
  intro j u hu
  have hj : j < L.length * 3 := by
    have := (List.getElem?_eq_some_iff.1 hu).1
    rwa [kc_len] at this
  have hi : j / 3 < L.length := by omega
  obtain ⟨b', off', ha, _, h0, h1, h2⟩ := h (j / 3) hi
  simp only [Option.some.injEq, Addr.mk.injEq, and_true] at ha
  obtain ⟨rfl, rfl⟩ := ha
  obtain ⟨p0, p1, p2⟩ := kc_at hi
  have hadd : (⟨b, off, none⟩ : Addr).add j = ⟨b, off + j, none⟩ := by
    simp only [Addr.add]
    split
    · rename_i h; rw [h]; simp
    · rfl
  rw [hadd]
  rcases (show j = j / 3 * 3 ∨ j = j / 3 * 3 + 1 ∨ j = j / 3 * 3 + 2 by omega) with e | e | e
  · rw [e] at hu ⊢
    rw [p0] at hu
    simp at hu
    rw [← hu]
    exact h0
  · rw [e] at hu ⊢
    rw [p1] at hu
    simp at hu
    rw [← hu]
    exact h1
  · rw [e] at hu ⊢
    rw [p2] at hu
    simp at hu
    rw [← hu]
    exact h2

/-- The list L lies in memory of one's own. -/
def OwnK (base : Nat) (v : Value) (L : List Kd) (w : World) : Prop := w.ownsRow base 140 3 v L.length (kcells L)
theorem ownK_nil (base : Nat) (w : World) : OwnK base (.slice none 0 0) [] w := World.ownsRow_nil w base _ 3
theorem ownK_below {w w' : World} {base : Nat} {v : Value} {L : List Kd} (h : OwnK base v L w) (hb : Below w.heap.size w w') : OwnK base v L w' :=
  World.ownsRow.kept h (row := none) ⟨hb.os, hb.tape, hb.output, hb.size, fun k hk _ => hb.block k hk⟩ (by cases hv : v.ownBlock with
    | none => exact .inl rfl
    | some b => exact .inr (by simp))
theorem ownK_base {w : World} {base base' : Nat} {v : Value} {L : List Kd} (h : OwnK base v L w) (hb : base' ≤ base) : OwnK base' v L w := by
  refine ⟨h.1, ?_⟩
  rcases h.2 with h | ⟨g, cap, cur, h1, h2, h3⟩
  · exact .inl h
  · exact .inr ⟨g, cap, cur, h1, Nat.le_trans hb h2, h3⟩
theorem ownK_shape {w : World} {base : Nat} {v : Value} {L : List Kd} (h : OwnK base v L w) (h0 : L ≠ []) : ∃ g cap, v = .slice (some ⟨g, 0, none⟩) L.length cap ∧ base ≤ g ∧ g < w.heap.size := by
  rcases h.2 with ⟨_, h1⟩ | ⟨g, cap, cur, rfl, hb, hg, _⟩
  · exact absurd (List.eq_nil_of_length_eq_zero h1) h0
  · exact ⟨g, cap, rfl, hb, (Array.getElem?_eq_some_iff.1 hg).1⟩
theorem ownK_at {w : World} {base g cap : Nat} {L : List Kd} (h : OwnK base (.slice (some ⟨g, 0, none⟩) L.length cap) L w) {i : Nat} (hi : i < L.length) :
    (w.cell? ⟨g, i * 3, none⟩ = some (.int .i64 (kAt L i).1) ∧ w.cell? ⟨g, i * 3 + 1, none⟩ = some (.int .i64 (kAt L i).2.1) ∧ w.cell? ⟨g, i * 3 + 2, none⟩ = some (.slice (kAt L i).2.2.1 (kAt L i).2.2.2.1 (kAt L i).2.2.2.2)) ∧
    (∀ j, w.frozen? ⟨g, j, none⟩ = false) := by
  obtain ⟨h0, h1, h2⟩ := kc_at hi
  have hc := fun j hj => World.ownsRow.cellAt (show w.ownsRow base _ 3 (.slice (some ⟨g, 0, none⟩) L.length cap) L.length (kcells L) from h) j hj
  exact ⟨⟨(hc _ (by omega)).trans h0, (hc _ (by omega)).trans h1, (hc _ (by omega)).trans h2⟩, fun j => World.ownsRow.frozenAt (show w.ownsRow base _ 3 (.slice (some ⟨g, 0, none⟩) L.length cap) L.length (kcells L) from h) j⟩
theorem ownK_row {w : World} {base : Nat} {v : Value} {L : List Kd} (h : OwnK base v L w) : ∃ a cap, v = .slice a L.length cap ∧ RowK a L w ∧ ((a = none ∧ cap = 0 ∧ L = []) ∨ ∃ g, a = some ⟨g, 0, none⟩ ∧ base ≤ g ∧ g < w.heap.size ∧ L.length ≤ cap ∧ cap ≤ maxLen) := by
  rcases h.2 with ⟨rfl, h1⟩ | ⟨g, cap, cur, rfl, hb, hg, hr⟩
  · have e : L = [] := List.eq_nil_of_length_eq_zero h1
    subst e
    exact ⟨none, 0, rfl, RowK.nil _ _, .inl ⟨rfl, rfl, rfl⟩⟩
  · have hgl : g < w.heap.size := (Array.getElem?_eq_some_iff.1 hg).1
    refine ⟨some ⟨g, 0, none⟩, cap, rfl, fun i hi => ?_,   .inr ⟨g, rfl, hb, hgl, hr.1, hr.2.1⟩⟩
    obtain ⟨⟨h0, h1, h2⟩, _⟩ := ownK_at h hi
    exact ⟨g, 0, rfl, hgl, by simpa using h0, by simpa using h1, by simpa using h2⟩

theorem grown_belowK {w w' : World} {base : Nat} {v : Value} {L : List Kd} (h : OwnK base v L w) (hg : w.grownBy w' v.ownBlock) (hb : base ≤ w.heap.size) : Below base w w' := by
  refine ⟨hg.os, hg.tape, hg.output, hg.size, fun k hk => hg.block k (by omega) (fun e => ?_)⟩
  rcases h.2 with ⟨rfl, _⟩ | ⟨g, cap, cur, rfl, hbg, _⟩
  · simp [Value.ownBlock] at e
  · simp [Value.ownBlock] at e
    omega
theorem info_partsK {P : Program} {t : TypeId} {z : Value} {s b : Nat} (h : (P.info? t).map (fun i => (i.zero, i.size, i.bytes)) = some (some z, s, b)) : ∃ i, P.info? t = some i ∧ i.zero = some z ∧ i.size = s ∧ i.bytes = b := by
  obtain ⟨i, hi, hz⟩ := Option.map_eq_some_iff.1 h
  simp only [Prod.mk.injEq] at hz
  exact ⟨i, hi, hz.1, hz.2.1, hz.2.2⟩
theorem infol6T : (Try.prog.info? 140).map (fun i => (i.zero, i.size, i.bytes)) = some (some (.agg #[.int .i64 0, .int .i64 0, .slice none 0 0]), 3, 40) := by kernel_rfl
/-- Block b as it stands, whole. -/
def BkK (w : World) (b : Nat) (arr : Array Value) (e : TypeId) : Prop := w.heap[b]? = some (.cells arr e (0, 0))
theorem BkK.lt {w : World} {b : Nat} {arr : Array Value} {e : TypeId} (h : BkK w b arr e) : b < w.heap.size := (Array.getElem?_eq_some_iff.1 h).1
theorem BkK.below {w w' : World} {b : Nat} {arr : Array Value} {e : TypeId} (h : BkK w b arr e) (k : Below w.heap.size w w') : BkK w' b arr e := (k.block b h.lt).trans h
theorem BkK.base {w w' : World} {b base : Nat} {arr : Array Value} {e : TypeId} (h : BkK w b arr e) (k : Below base w w') (hb : b < base) : BkK w' b arr e := (k.block b hb).trans h
theorem BkK.new (w : World) (arr : Array Value) (e : TypeId) : BkK (w.alloc (.cells arr e)) w.heap.size arr e := heap_alloc_new w _
theorem BkK.cell {w : World} {b : Nat} {arr : Array Value} {e : TypeId} (h : BkK w b arr e) (j : Nat) : w.cell? ⟨b, j, none⟩ = arr[j]? := cell_of_row w b j arr e (0, 0) h
theorem bkK_frozen {w : World} {b : Nat} {arr : Array Value} {e : TypeId} (h : BkK w b arr e) (j : Nat) : w.frozen? ⟨b, j, none⟩ = false := by
  unfold BkK at h
  simp [World.frozen?, h]
/-- One in a block of its own is a row. -/
theorem RowK.one {w : World} {b : Nat} {p : Kd} (hb : b < w.heap.size) (h0 : w.cell? ⟨b, 0, none⟩ = some (.int .i64 p.1)) (h1 : w.cell? ⟨b, 1, none⟩ = some (.int .i64 p.2.1)) (h2 : w.cell? ⟨b, 2, none⟩ = some (.slice p.2.2.1 p.2.2.2.1 p.2.2.2.2)) : RowK (some ⟨b, 0, none⟩) [p] w := by
  intro i hi
  have : i = 0 := by simpa using hi
  subst this
  exact ⟨b, 0, rfl, hb, h0, h1, h2⟩

/-- A source of an append: nil, or at an address. -/
def SrcK (a : Option Addr) (M : List Kd) (c : Nat) (w : World) : Prop := RowK a M w ∧ ((a = none ∧ M = [] ∧ c = 0) ∨ ∃ b off, a = some ⟨b, off, none⟩)
theorem SrcK.below {a : Option Addr} {M : List Kd} {c : Nat} {w w' : World} (h : SrcK a M c w) (k : Below w.heap.size w w') : SrcK a M c w' := ⟨h.1.below k, h.2⟩
theorem SrcK.own {w : World} {base : Nat} {v : Value} {L : List Kd} (h : OwnK base v L w) : ∃ a cap, v = .slice a L.length cap ∧ SrcK a L cap w := by
  obtain ⟨a, cap, h1, h2, h3⟩ := ownK_row h
  refine ⟨a, cap, h1, h2, ?_⟩
  rcases h3 with ⟨e1, e2, e3⟩ | ⟨g, e1, _⟩
  · exact .inl ⟨e1, e3, e2⟩
  · exact .inr ⟨g, 0, e1⟩
set_option maxRecDepth 100000 in
theorem wpList_appK {ops : Array Oper} {rest : List Oper} {o : Oper} {a : Act} {w : World} {Q : Exit → Act → World → Prop} (hgd : o.guard = none) (s x : Operand)
    (ho : o.op = .call { callee := .builtin .append, args := #[s, x], argTypes := #[138, 138] })
    (base : Nat) (v : Value) (L : List Kd) (hs : a.eval s = v) (hown : OwnK base v L w)
    (sa : Option Addr) (M : List Kd) (c : Nat) (hx : a.eval x = .slice sa M.length c) (hM : SrcK sa M c w) (hlen : L.length + M.length ≤ 8589934593) (hbase : base ≤ w.heap.size)
    (h : ∀ v' w', OwnK base v' (L ++ M) w' → Below base w w' → w.grownBy w' v.ownBlock → wpList Try.prog ops Q rest (a.put o.dst v') w') : wpList Try.prog ops Q (o :: rest) a w := by
  obtain ⟨i0, hi, hz0, hz1, hz2⟩ := info_partsK infol6T
  rcases hM with ⟨hR, ⟨rfl, rfl, rfl⟩ | ⟨b, off, rfl⟩⟩
  · refine wpList_append_own_none hgd s x 138 ho base 140 i0 3 Try.underlying138 hi v L.length (kcells L) hs hown hx ?_
    refine h v w (by simpa using hown) (Below.refl _ _) ⟨rfl, rfl, rfl, Nat.le_refl _, fun _ _ _ => rfl⟩
  · refine wpList_append_own w hgd s x 138 ho base 140 i0 (.agg #[.int .i64 0, .int .i64 0, .slice none 0 0]) 3 40 Try.underlying138 hi hz0 hz1 hz2 rfl (by decide) v L.length (kcells L) hs hown ⟨b, off, none⟩ M.length c (kcells M) hx (kc_len M) hR.cells (kc_oneCell M) (by unfold maxLen; omega) (by omega) hbase ?_
    intro v' w' hown' hgrow _
    refine h v' w' ?_ (grown_belowK hown hgrow hbase) hgrow
    unfold OwnK
    rw [kc_app, List.length_append]
    exact hown'
theorem run_appK (ty : TypeId) (w : World) (base : Nat) (v : Value) (L : List Kd) (hown : OwnK base v L w) (sa : Option Addr) (M : List Kd) (c : Nat) (hM : SrcK sa M c w) (hlen : L.length + M.length ≤ 8589934593) (hbase : base ≤ w.heap.size) :
    ∃ v' w', (Builtin.append_ #[138, 138] ty #[v, .slice sa M.length c]).run Try.prog w = .ok v' w' ∧ OwnK base v' (L ++ M) w' ∧ Below base w w' ∧ w.grownBy w' v.ownBlock := by
  obtain ⟨i0, hi, hz0, hz1, hz2⟩ := info_partsK infol6T
  rcases hM with ⟨hR, ⟨rfl, rfl, rfl⟩ | ⟨b, off, rfl⟩⟩
  · have hrun := run_append_owned_none (P := Try.prog) (w := w) base 138 ty 140 i0 3 Try.underlying138 hi v L.length (kcells L) hown
    exact ⟨v, w, hrun, by simpa using hown, Below.refl _ _, ⟨rfl, rfl, rfl, Nat.le_refl _, fun _ _ _ => rfl⟩⟩
  · obtain ⟨v', w', hr, h2, h3, _, h5⟩ := run_append_own_at (P := Try.prog) w base 138 ty 140 i0 (.agg #[.int .i64 0, .int .i64 0, .slice none 0 0]) 3 40 Try.underlying138 hi hz0 hz1 hz2 rfl (by decide) v L.length (kcells L) hown ⟨b, off, none⟩ M.length c (kcells M) (kc_len M) hR.cells (kc_oneCell M) (by unfold maxLen; omega) (by omega) hbase
    refine ⟨v', w', hr, ?_, grown_belowK hown h3 hbase, h3⟩
    unfold OwnK
    rw [kc_app, List.length_append]
    exact h2
theorem step_appK {ops : Array Oper} {o : Oper} {a : Act} {w : World} {K : Act → World → Prop} {Q : Exit → Act → World → Prop} {E : Prop} (hgd : o.guard = none) (s x : Operand)
    (ho : o.op = .call { callee := .builtin .append, args := #[s, x], argTypes := #[138, 138] })
    (base : Nat) (v : Value) (L : List Kd) (hs : a.eval s = v) (hown : OwnK base v L w) (sa : Option Addr) (M : List Kd) (n c : Nat) (hx : a.eval x = .slice sa n c) (hn : n = M.length) (hM : SrcK sa M c w)
    (hlen : L.length + M.length ≤ 8589934593) (hbase : base ≤ w.heap.size)
    (h : ∀ v' w', OwnK base v' (L ++ M) w' → Below base w w' → w.grownBy w' v.ownBlock → K (a.put o.dst v') w') :
    if Region.wanted o (yielded ops a.tmps) = true then Oper.wp Try.prog o a w K Q else E := by
  have hw : Region.wanted o (yielded ops a.tmps) = true := by simp [Region.wanted, hgd]
  rw [if_pos hw]
  subst hn
  obtain ⟨v', w', hr, h2, h3, h4⟩ := run_appK o.type w base v L hown sa M c hM hlen hbase
  unfold Oper.wp execOp
  simp only [ho, resolve, invoke, builtin, Sem.run_bind, Sem.run_pure, Result.andThen_ok, List.map_toArray, List.map_cons, List.map_nil, hs, hx, hr]
  exact h v' w' h2 h3 h4
end Go.Proofs.Ytflakkbodbnndaa
