/- How a list of messages lies in memory. -/
import Derived.Test.YtoeephmdklmpfaaFlatMsg
import Derived.Test.YtoeephmdklmpfaaPlain5
import Derived.Test.YtoeephmdklmpfaaMem3
import Derived.ChangeKeysEq
import Derived.Laws.AppendOwnNone
import Derived.ArgAppend
import Derived.Maps.AppendAt
import Derived.Deep.AppendLies
namespace Go.Proofs.Ytoeephmdklmpfaa
open Go.RowKit

def mAt (L : List Ms) (i : Nat) : Ms := L.getD i (0, ByteArray.empty)
theorem mAt_eq {L : List Ms} {i : Nat} (h : i < L.length) : mAt L i = L[i] := by
  unfold mAt
  rw [List.getD_eq_getElem?_getD, List.getElem?_eq_getElem h]
  rfl
theorem mAt_mem {L : List Ms} {i : Nat} (h : i < L.length) : mAt L i ∈ L := by rw [mAt_eq h]; exact List.getElem_mem h
theorem take_succM {L : List Ms} {k : Nat} (h : k < L.length) : L.take (k + 1) = L.take k ++ [mAt L k] := by
  rw [mAt_eq h, List.take_add_one, List.getElem?_eq_getElem h]
  rfl
theorem foldl_takeM {β : Type} (g : β → Ms → β) (b : β) {L : List Ms} {k : Nat} (h : k < L.length) : (L.take (k + 1)).foldl g b = g ((L.take k).foldl g b) (mAt L k) := by
  rw [take_succM h, List.foldl_append]
  rfl
theorem filter_takeM (f : Ms → Bool) {L : List Ms} {k : Nat} (h : k < L.length) : (L.take (k + 1)).filter f = (L.take k).filter f ++ (if f (mAt L k) then [mAt L k] else []) := by
  rw [take_succM h, List.filter_append]
  congr 1
  cases hf : f (mAt L k) <;> simp [List.filter, hf]
theorem any_takeM (f : Ms → Bool) {L : List Ms} {k : Nat} (h : k < L.length) : (L.take (k + 1)).any f = ((L.take k).any f || f (mAt L k)) := by
  rw [take_succM h, List.any_append]
  simp

/-- The list out of what lies. -/
def listM (n : Nat) (f0 : Nat → Int) (f1 : Nat → ByteArray) : List Ms := (List.range n).map fun i => (f0 i, f1 i)
theorem listM_len (n : Nat) (f0 : Nat → Int) (f1 : Nat → ByteArray) : (listM n f0 f1).length = n := by simp [listM]
theorem listM_at {n : Nat} (f0 : Nat → Int) (f1 : Nat → ByteArray) {i : Nat} (h : i < n) : mAt (listM n f0 f1) i = (f0 i, f1 i) := by
  rw [mAt_eq (by rw [listM_len]; exact h)]
  simp [listM]

/-- Messages' cells. -/
def encM (e : Ms) : List Value := [.int .i64 e.1, .string e.2]
def mcells (L : List Ms) : List Value := L.flatMap encM
theorem mc_cons (e : Ms) (L : List Ms) : mcells (e :: L) = .int .i64 e.1 :: .string e.2 :: mcells L := rfl
theorem mc_len (L : List Ms) : (mcells L).length = L.length * 2 := by
  induction L with
  | nil => rfl
  | cons e L ih => rw [mc_cons]; simp only [List.length_cons, ih]; omega
theorem mc_app (L M : List Ms) : mcells (L ++ M) = mcells L ++ mcells M := by unfold mcells; rw [List.flatMap_append]
theorem mc_one (e : Ms) : mcells [e] = encM e := by simp [mcells]
theorem mc_at {L : List Ms} {i : Nat} (h : i < L.length) : (mcells L)[i * 2]? = some (.int .i64 (mAt L i).1) ∧ (mcells L)[i * 2 + 1]? = some (.string (mAt L i).2) := by
  induction L generalizing i with
  | nil => simp at h
  | cons e L ih =>
    cases i with
    | zero => exact ⟨rfl, rfl⟩
    | succ i =>
      have h1 := ih (i := i) (by simpa using h)
      have e1 : mAt (e :: L) (i + 1) = mAt L i := by simp [mAt]
      rw [e1, mc_cons]
      have e2 : (i + 1) * 2 = i * 2 + 2 := by omega
      rw [e2]
      exact h1
theorem mc_oneCell (L : List Ms) : ∀ u ∈ mcells L, u.oneCell' = true := by
  intro u hu
  unfold mcells at hu
  rw [List.mem_flatMap] at hu
  obtain ⟨n, _, hn⟩ := hu
  simp only [encM, List.mem_cons, List.not_mem_nil, or_false] at hn
  rcases hn with rfl | rfl <;> rfl

/-- The list L lies at a. -/
def RowM (a : Option Addr) (L : List Ms) (w : World) : Prop := ∀ i, i < L.length → ∃ b off, a = some ⟨b, off, none⟩ ∧ b < w.heap.size ∧
  w.cell? ⟨b, off + i * 2, none⟩ = some (.int .i64 (mAt L i).1) ∧ w.cell? ⟨b, off + i * 2 + 1, none⟩ = some (.string (mAt L i).2)
theorem RowM.below {a : Option Addr} {L : List Ms} {w w' : World} (h : RowM a L w) (k : Below w.heap.size w w') : RowM a L w' := by
  intro i hi
  obtain ⟨b, off, ha, hb, h0, h1⟩ := h i hi
  obtain ⟨hc, _⟩ := bcell k
  exact ⟨b, off, ha, Nat.lt_of_lt_of_le hb k.size, (hc _ _ hb).trans h0, (hc _ _ hb).trans h1⟩
/-- Rows lie as they lay where nothing below a bound has turned and they lie below it. -/
theorem RowM.base {a : Option Addr} {base : Nat} {L : List Ms} {w w' : World} (h : RowM a L w) (hb : ∀ b off, a = some ⟨b, off, none⟩ → b < base) (k : Below base w w') : RowM a L w' := by
  intro i hi
  obtain ⟨b, off, ha, hbw, h0, h1⟩ := h i hi
  have hlt := hb b off ha
  have hc : ∀ o, w'.cell? ⟨b, o, none⟩ = w.cell? ⟨b, o, none⟩ := fun o => k.cell (p := ⟨b, o, none⟩) hlt
  exact ⟨b, off, ha, Nat.lt_of_lt_of_le hbw k.size, (hc _).trans h0, (hc _).trans h1⟩
theorem RowM.of {a : Option Addr} {n : Nat} {f0 : Nat → Int} {f1 : Nat → ByteArray} {w : World} (h : RowMsg a n f0 f1 w) : RowM a (listM n f0 f1) w := by
  intro i hi
  rw [listM_len] at hi
  rw [listM_at f0 f1 hi]
  exact h i hi
theorem RowM.row {a : Option Addr} {L : List Ms} {w : World} (h : RowM a L w) : RowMsg a L.length (fun i => (mAt L i).1) (fun i => (mAt L i).2) w := h
theorem RowM.nil (a : Option Addr) (w : World) : RowM a [] w := fun _ hi => absurd hi (Nat.not_lt_zero _)
/-- A part of a row. -/
theorem RowM.take {a : Option Addr} {L : List Ms} {w : World} (h : RowM a L w) (k : Nat) : RowM a (L.take k) w := by
  intro i hi
  rw [List.length_take] at hi
  have e : mAt (L.take k) i = mAt L i := by
    rw [mAt_eq (by rw [List.length_take]; exact hi), mAt_eq (by omega)]
    simp
  rw [e]
  exact h i (by omega)
theorem RowM.drop {b off : Nat} {L : List Ms} {w : World} (h : RowM (some ⟨b, off, none⟩) L w) (k : Nat) : RowM (some ⟨b, off + k * 2, none⟩) (L.drop k) w := by
  intro i hi
  rw [List.length_drop] at hi
  have e : mAt (L.drop k) i = mAt L (k + i) := by
    rw [mAt_eq (by rw [List.length_drop]; exact hi), mAt_eq (by omega)]
    simp
  rw [e]
  obtain ⟨b', off', ha, hb, h0, h1⟩ := h (k + i) (by omega)
  simp only [Option.some.injEq, Addr.mk.injEq, and_true] at ha
  obtain ⟨rfl, rfl⟩ := ha
  exact ⟨b, off + k * 2, rfl, hb, by rw [show off + k * 2 + i * 2 = off + (k + i) * 2 by omega]; exact h0, by rw [show off + k * 2 + i * 2 + 1 = off + (k + i) * 2 + 1 by omega]; exact h1⟩
/-- What lies, cell by cell. -/
theorem RowM.cells {b off : Nat} {L : List Ms} {w : World} (h : RowM (some ⟨b, off, none⟩) L w) : ∀ j u, (mcells L)[j]? = some u → w.cell? ((⟨b, off, none⟩ : Addr).add j) = some u := by
  intro j u hu
  have hj : j < L.length * 2 := by
    have := (List.getElem?_eq_some_iff.1 hu).1
    rwa [mc_len] at this
  have hi : j / 2 < L.length := by omega
  obtain ⟨b', off', ha, _, h0, h1⟩ := h (j / 2) hi
  simp only [Option.some.injEq, Addr.mk.injEq, and_true] at ha
  obtain ⟨rfl, rfl⟩ := ha
  obtain ⟨p0, p1⟩ := mc_at hi
  have hadd : (⟨b, off, none⟩ : Addr).add j = ⟨b, off + j, none⟩ := by
    simp only [Addr.add]
    split
    · rename_i h; rw [h]; simp
    · rfl
  rw [hadd]
  rcases (show j = j / 2 * 2 ∨ j = j / 2 * 2 + 1 by omega) with e | e
  · rw [e] at hu ⊢
    rw [p0] at hu
    simp at hu
    rw [← hu]
    exact h0
  · rw [e] at hu ⊢
    rw [p1] at hu
    simp at hu
    rw [← hu]
    exact h1

/-- The list L lies in memory of one's own. -/
def OwnM (base : Nat) (v : Value) (L : List Ms) (w : World) : Prop := w.ownsRow base 37 2 v L.length (mcells L)
theorem ownM_nil (base : Nat) (w : World) : OwnM base (.slice none 0 0) [] w := World.ownsRow_nil w base _ 2
theorem ownM_below {w w' : World} {base : Nat} {v : Value} {L : List Ms} (h : OwnM base v L w) (hb : Below w.heap.size w w') : OwnM base v L w' :=
  World.ownsRow.kept h (row := none) ⟨hb.os, hb.tape, hb.output, hb.size, fun k hk _ => hb.block k hk⟩ (by cases hv : v.ownBlock with
    | none => exact .inl rfl
    | some b => exact .inr (by simp))
theorem ownM_base {w : World} {base base' : Nat} {v : Value} {L : List Ms} (h : OwnM base v L w) (hb : base' ≤ base) : OwnM base' v L w := by
  refine ⟨h.1, ?_⟩
  rcases h.2 with h | ⟨g, cap, cur, h1, h2, h3⟩
  · exact .inl h
  · exact .inr ⟨g, cap, cur, h1, Nat.le_trans hb h2, h3⟩
theorem ownM_shape {w : World} {base : Nat} {v : Value} {L : List Ms} (h : OwnM base v L w) (h0 : L ≠ []) : ∃ g cap, v = .slice (some ⟨g, 0, none⟩) L.length cap ∧ base ≤ g ∧ g < w.heap.size := by
  rcases h.2 with ⟨_, h1⟩ | ⟨g, cap, cur, rfl, hb, hg, _⟩
  · exact absurd (List.eq_nil_of_length_eq_zero h1) h0
  · exact ⟨g, cap, rfl, hb, (Array.getElem?_eq_some_iff.1 hg).1⟩
theorem ownM_at {w : World} {base g cap : Nat} {L : List Ms} (h : OwnM base (.slice (some ⟨g, 0, none⟩) L.length cap) L w) {i : Nat} (hi : i < L.length) :
    (w.cell? ⟨g, i * 2, none⟩ = some (.int .i64 (mAt L i).1) ∧ w.cell? ⟨g, i * 2 + 1, none⟩ = some (.string (mAt L i).2)) ∧
    (∀ j, w.frozen? ⟨g, j, none⟩ = false) := by
  obtain ⟨h0, h1⟩ := mc_at hi
  have hc := fun j hj => World.ownsRow.cellAt (show w.ownsRow base _ 2 (.slice (some ⟨g, 0, none⟩) L.length cap) L.length (mcells L) from h) j hj
  exact ⟨⟨(hc _ (by omega)).trans h0, (hc _ (by omega)).trans h1⟩, fun j => World.ownsRow.frozenAt (show w.ownsRow base _ 2 (.slice (some ⟨g, 0, none⟩) L.length cap) L.length (mcells L) from h) j⟩
theorem ownM_row {w : World} {base : Nat} {v : Value} {L : List Ms} (h : OwnM base v L w) : ∃ a cap, v = .slice a L.length cap ∧ RowM a L w ∧ ((a = none ∧ cap = 0 ∧ L = []) ∨ ∃ g, a = some ⟨g, 0, none⟩ ∧ base ≤ g ∧ g < w.heap.size ∧ L.length ≤ cap ∧ cap ≤ maxLen) := by
  rcases h.2 with ⟨rfl, h1⟩ | ⟨g, cap, cur, rfl, hb, hg, hr⟩
  · have e : L = [] := List.eq_nil_of_length_eq_zero h1
    subst e
    exact ⟨none, 0, rfl, RowM.nil _ _, .inl ⟨rfl, rfl, rfl⟩⟩
  · have hgl : g < w.heap.size := (Array.getElem?_eq_some_iff.1 hg).1
    refine ⟨some ⟨g, 0, none⟩, cap, rfl, fun i hi => ?_,   .inr ⟨g, rfl, hb, hgl, hr.1, hr.2.1⟩⟩
    obtain ⟨⟨h0, h1⟩, _⟩ := ownM_at h hi
    exact ⟨g, 0, rfl, hgl, by simpa using h0, by simpa using h1⟩
theorem ownM_out {w : World} {base g cap : Nat} {L : List Ms} (h : OwnM base (.slice (some ⟨g, 0, none⟩) L.length cap) L w) (hg : g < w.heap.size) :
    OutMsg g L.length L.length (fun i => (mAt L i).1) (fun i => (mAt L i).2) w := by
  refine ⟨hg, fun i hi => ?_⟩
  obtain ⟨⟨h0, h1⟩, hf⟩ := ownM_at h hi
  exact ⟨⟨_, _, h0, h1, fun _ => ⟨rfl, rfl⟩⟩, hf _, hf _⟩
theorem grown_belowM {w w' : World} {base : Nat} {v : Value} {L : List Ms} (h : OwnM base v L w) (hg : w.grownBy w' v.ownBlock) (hb : base ≤ w.heap.size) : Below base w w' := by
  refine ⟨hg.os, hg.tape, hg.output, hg.size, fun k hk => hg.block k (by omega) (fun e => ?_)⟩
  rcases h.2 with ⟨rfl, _⟩ | ⟨g, cap, cur, rfl, hbg, _⟩
  · simp [Value.ownBlock] at e
  · simp [Value.ownBlock] at e
    omega
theorem infoMsg : (Try.prog.info? 37).map (fun i => (i.zero, i.size, i.bytes)) = some (some (.agg #[.int .i64 0, .string ByteArray.empty]), 2, 24) := by kernel_rfl
/-- One message in a block of its own is a row. -/
theorem RowM.one {w : World} {b : Nat} {p : Ms} (hb : b < w.heap.size) (h0 : w.cell? ⟨b, 0, none⟩ = some (.int .i64 p.1)) (h1 : w.cell? ⟨b, 1, none⟩ = some (.string p.2)) : RowM (some ⟨b, 0, none⟩) [p] w := by
  intro i hi
  have : i = 0 := by simpa using hi
  subst this
  exact ⟨b, 0, rfl, hb, h0, h1⟩

/-- A source of an append: nil, or at an address. -/
def SrcM (a : Option Addr) (M : List Ms) (c : Nat) (w : World) : Prop := RowM a M w ∧ ((a = none ∧ M = [] ∧ c = 0) ∨ ∃ b off, a = some ⟨b, off, none⟩)
set_option maxRecDepth 100000 in
theorem wpList_appM {ops : Array Oper} {rest : List Oper} {o : Oper} {a : Act} {w : World} {Q : Exit → Act → World → Prop} (hgd : o.guard = none) (s x : Operand)
    (ho : o.op = .call { callee := .builtin .append, args := #[s, x], argTypes := #[42, 42] })
    (base : Nat) (v : Value) (L : List Ms) (hs : a.eval s = v) (hown : OwnM base v L w)
    (sa : Option Addr) (M : List Ms) (c : Nat) (hx : a.eval x = .slice sa M.length c) (hM : SrcM sa M c w) (hlen : L.length + M.length ≤ 8589934593) (hbase : base ≤ w.heap.size)
    (h : ∀ v' w', OwnM base v' (L ++ M) w' → Below base w w' → w.grownBy w' v.ownBlock → wpList Try.prog ops Q rest (a.put o.dst v') w') : wpList Try.prog ops Q (o :: rest) a w := by
  obtain ⟨i0, hi, hz0, hz1, hz2⟩ := info_partsP infoMsg
  rcases hM with ⟨hR, ⟨rfl, rfl, rfl⟩ | ⟨b, off, rfl⟩⟩
  · refine wpList_append_own_none hgd s x 42 ho base 37 i0 2 Try.underlying42 hi v L.length (mcells L) hs hown hx ?_
    refine h v w (by simpa using hown) (Below.refl _ _) ⟨rfl, rfl, rfl, Nat.le_refl _, fun _ _ _ => rfl⟩
  · refine wpList_append_own w hgd s x 42 ho base 37 i0 (.agg #[.int .i64 0, .string ByteArray.empty]) 2 24 Try.underlying42 hi hz0 hz1 hz2 rfl (by decide) v L.length (mcells L) hs hown ⟨b, off, none⟩ M.length c (mcells M) hx (mc_len M) hR.cells (mc_oneCell M) (by unfold maxLen; omega) (by omega) hbase ?_
    intro v' w' hown' hgrow _
    refine h v' w' ?_ (grown_belowM hown hgrow hbase) hgrow
    unfold OwnM
    rw [mc_app, List.length_append]
    exact hown'
theorem SrcM.own {w : World} {base : Nat} {v : Value} {L : List Ms} (h : OwnM base v L w) : ∃ a cap, v = .slice a L.length cap ∧ SrcM a L cap w := by
  obtain ⟨a, cap, h1, h2, h3⟩ := ownM_row h
  refine ⟨a, cap, h1, h2, ?_⟩
  rcases h3 with ⟨e1, e2, e3⟩ | ⟨g, e1, _⟩
  · exact .inl ⟨e1, e3, e2⟩
  · exact .inr ⟨g, 0, e1⟩
theorem run_appM (ty : TypeId) (w : World) (base : Nat) (v : Value) (L : List Ms) (hown : OwnM base v L w) (sa : Option Addr) (M : List Ms) (c : Nat) (hM : SrcM sa M c w) (hlen : L.length + M.length ≤ 8589934593) (hbase : base ≤ w.heap.size) :
    ∃ v' w', (Builtin.append_ #[42, 42] ty #[v, .slice sa M.length c]).run Try.prog w = .ok v' w' ∧ OwnM base v' (L ++ M) w' ∧ Below base w w' ∧ w.grownBy w' v.ownBlock := by
  obtain ⟨i0, hi, hz0, hz1, hz2⟩ := info_partsP infoMsg
  rcases hM with ⟨hR, ⟨rfl, rfl, rfl⟩ | ⟨b, off, rfl⟩⟩
  · have hrun := run_append_owned_none (P := Try.prog) (w := w) base 42 ty 37 i0 2 Try.underlying42 hi v L.length (mcells L) hown
    exact ⟨v, w, hrun, by simpa using hown, Below.refl _ _, ⟨rfl, rfl, rfl, Nat.le_refl _, fun _ _ _ => rfl⟩⟩
  · obtain ⟨v', w', hr, h2, h3, _, h5⟩ := run_append_own_at (P := Try.prog) w base 42 ty 37 i0 (.agg #[.int .i64 0, .string ByteArray.empty]) 2 24 Try.underlying42 hi hz0 hz1 hz2 rfl (by decide) v L.length (mcells L) hown ⟨b, off, none⟩ M.length c (mcells M) (mc_len M) hR.cells (mc_oneCell M) (by unfold maxLen; omega) (by omega) hbase
    refine ⟨v', w', hr, ?_, grown_belowM hown h3 hbase, h3⟩
    unfold OwnM
    rw [mc_app, List.length_append]
    exact h2
theorem step_appM {ops : Array Oper} {o : Oper} {a : Act} {w : World} {K : Act → World → Prop} {Q : Exit → Act → World → Prop} {E : Prop} (hgd : o.guard = none) (s x : Operand)
    (ho : o.op = .call { callee := .builtin .append, args := #[s, x], argTypes := #[42, 42] })
    (base : Nat) (v : Value) (L : List Ms) (hs : a.eval s = v) (hown : OwnM base v L w) (sa : Option Addr) (M : List Ms) (n c : Nat) (hx : a.eval x = .slice sa n c) (hn : n = M.length) (hM : SrcM sa M c w)
    (hlen : L.length + M.length ≤ 8589934593) (hbase : base ≤ w.heap.size)
    (h : ∀ v' w', OwnM base v' (L ++ M) w' → Below base w w' → w.grownBy w' v.ownBlock → K (a.put o.dst v') w') :
    if Region.wanted o (yielded ops a.tmps) = true then Oper.wp Try.prog o a w K Q else E := by
  have hw : Region.wanted o (yielded ops a.tmps) = true := by simp [Region.wanted, hgd]
  rw [if_pos hw]
  subst hn
  obtain ⟨v', w', hr, h2, h3, h4⟩ := run_appM o.type w base v L hown sa M c hM hlen hbase
  unfold Oper.wp execOp
  simp only [ho, resolve, invoke, builtin, Sem.run_bind, Sem.run_pure, Result.andThen_ok, List.map_toArray, List.map_cons, List.map_nil, hs, hx, hr]
  exact h v' w' h2 h3 h4
end Go.Proofs.Ytoeephmdklmpfaa
