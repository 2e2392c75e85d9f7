/- Lists of whole numbers (of one kind) in memory: as they lie, and in memory of one's own; what append does with them. -/
import Derived.Test.YtddjefmokpfplaaKit
import Derived.ChangeKeysEq
import Derived.Laws.AppendOwnNone
import Derived.Maps.AppendAt
import Derived.Deep.AppendLies
namespace Go.Proofs.Ytddjefmokpfplaa
open Go.RowKit

def ncells (k : IntKind) (L : List Int) : List Value := L.map (.int k)
theorem nc_len (k : IntKind) (L : List Int) : (ncells k L).length = L.length := by simp [ncells]
theorem nc_app (k : IntKind) (L M : List Int) : ncells k (L ++ M) = ncells k L ++ ncells k M := by simp [ncells]
theorem nc_one (k : IntKind) (L : List Int) : ∀ u ∈ ncells k L, u.oneCell' = true := by
  intro u hu
  simp only [ncells, List.mem_map] at hu
  obtain ⟨x, _, rfl⟩ := hu
  rfl
theorem nc_at (k : IntKind) {L : List Int} {i : Nat} (h : i < L.length) : (ncells k L)[i]? = some (.int k (L.getD i 0)) := by
  simp [ncells, List.getElem?_eq_getElem h]

/-- The numbers L lie at a. -/
def RowN (k : IntKind) (a : Option Addr) (L : List Int) (w : World) : Prop := ∀ i, i < L.length → ∃ b off, a = some ⟨b, off, none⟩ ∧ b < w.heap.size ∧ w.cell? ⟨b, off + i, none⟩ = some (.int k (L.getD i 0))
theorem RowN.below {k : IntKind} {a : Option Addr} {L : List Int} {w w' : World} (h : RowN k a L w) (hb : Below w.heap.size w w') : RowN k a L w' := by
  intro i hi
  obtain ⟨b, off, ha, hlt, h0⟩ := h i hi
  exact ⟨b, off, ha, Nat.lt_of_lt_of_le hlt hb.size, ((bcell hb).1 _ _ hlt).trans h0⟩
theorem RowN.base {k : IntKind} {a : Option Addr} {base : Nat} {L : List Int} {w w' : World} (h : RowN k a L w) (hb : ∀ b off, a = some ⟨b, off, none⟩ → b < base) (d : Below base w w') : RowN k a L w' := by
  intro i hi
  obtain ⟨b, off, ha, hlt, h0⟩ := h i hi
  exact ⟨b, off, ha, Nat.lt_of_lt_of_le hlt d.size, (d.cell (p := ⟨b, off + i, none⟩) (hb b off ha)).trans h0⟩
theorem RowN.nil (k : IntKind) (a : Option Addr) (w : World) : RowN k a [] w := fun _ hi => absurd hi (Nat.not_lt_zero _)
theorem RowN.take {k : IntKind} {a : Option Addr} {L : List Int} {w : World} (h : RowN k a L w) (n : Nat) : RowN k a (L.take n) w := by
  intro i hi
  rw [List.length_take] at hi
  obtain ⟨b, off, ha, hlt, h0⟩ := h i (by omega)
  refine ⟨b, off, ha, hlt, ?_⟩
  rw [h0]
  congr 2
  rw [List.getD_eq_getElem?_getD, List.getD_eq_getElem?_getD, List.getElem?_take]
  rw [if_pos (by omega)]
theorem RowN.cells {k : IntKind} {b off : Nat} {L : List Int} {w : World} (h : RowN k (some ⟨b, off, none⟩) L w) : ∀ j u, (ncells k L)[j]? = some u → w.cell? ((⟨b, off, none⟩ : Addr).add j) = some u := by
  intro j u hu
  have hj : j < L.length := by
    have := (List.getElem?_eq_some_iff.1 hu).1
    rwa [nc_len] at this
  obtain ⟨b', off', ha, _, h0⟩ := h j hj
  simp only [Option.some.injEq, Addr.mk.injEq, and_true] at ha
  obtain ⟨rfl, rfl⟩ := ha
  rw [nc_at k hj] at hu
  have hadd : (⟨b, off, none⟩ : Addr).add j = ⟨b, off + j, none⟩ := by
    simp only [Addr.add]
    split
    · rename_i h; rw [h]; simp
    · rfl
  rw [hadd, h0]
  exact hu

/-- The list L lies in memory of one's own. -/
def OwnN (e : TypeId) (k : IntKind) (base : Nat) (v : Value) (L : List Int) (w : World) : Prop := w.ownsRow base e 1 v L.length (ncells k L)
theorem ownN_nil (e : TypeId) (k : IntKind) (base : Nat) (w : World) : OwnN e k base (.slice none 0 0) [] w := World.ownsRow_nil w base e 1
theorem ownN_below {e : TypeId} {k : IntKind} {w w' : World} {base : Nat} {v : Value} {L : List Int} (h : OwnN e k base v L w) (hb : Below w.heap.size w w') : OwnN e k base v L w' :=
  World.ownsRow.kept h (row := none) ⟨hb.os, hb.tape, hb.output, hb.size, fun k hk _ => hb.block k hk⟩ (by cases hv : v.ownBlock with
    | none => exact .inl rfl
    | some b => exact .inr (by simp))
theorem ownN_base {e : TypeId} {k : IntKind} {w : World} {base base' : Nat} {v : Value} {L : List Int} (h : OwnN e k base v L w) (hb : base' ≤ base) : OwnN e k base' v L w := by
  refine ⟨h.1, ?_⟩
  rcases h.2 with h | ⟨g, cap, cur, h1, h2, h3⟩
  · exact .inl h
  · exact .inr ⟨g, cap, cur, h1, Nat.le_trans hb h2, h3⟩
theorem ownN_shape {e : TypeId} {k : IntKind} {w : World} {base : Nat} {v : Value} {L : List Int} (h : OwnN e k base v L w) (h0 : L ≠ []) : ∃ g cap, v = .slice (some ⟨g, 0, none⟩) L.length cap ∧ base ≤ g ∧ g < w.heap.size := by
  rcases h.2 with ⟨_, h1⟩ | ⟨g, cap, cur, rfl, hb, hg, _⟩
  · exact absurd (List.eq_nil_of_length_eq_zero h1) h0
  · exact ⟨g, cap, rfl, hb, (Array.getElem?_eq_some_iff.1 hg).1⟩
theorem ownN_at {e : TypeId} {k : IntKind} {w : World} {base g cap : Nat} {L : List Int} (h : OwnN e k base (.slice (some ⟨g, 0, none⟩) L.length cap) L w) {i : Nat} (hi : i < L.length) : w.cell? ⟨g, i, none⟩ = some (.int k (L.getD i 0)) :=
  (World.ownsRow.cellAt (show w.ownsRow base e 1 (.slice (some ⟨g, 0, none⟩) L.length cap) L.length (ncells k L) from h) i (by omega)).trans (nc_at k hi)
theorem ownN_row {e : TypeId} {k : IntKind} {w : World} {base : Nat} {v : Value} {L : List Int} (h : OwnN e k base v L w) : ∃ a cap, v = .slice a L.length cap ∧ RowN k a L w ∧ ((a = none ∧ cap = 0 ∧ L = []) ∨ ∃ g, a = some ⟨g, 0, none⟩ ∧ base ≤ g ∧ g < w.heap.size) := by
  by_cases h0 : L = []
  · subst h0
    rcases h.2 with ⟨rfl, h1⟩ | ⟨g, cap, cur, rfl, hb, hg, _⟩
    · exact ⟨none, 0, rfl, RowN.nil _ _ _, .inl ⟨rfl, rfl, rfl⟩⟩
    · exact ⟨some ⟨g, 0, none⟩, cap, rfl, RowN.nil _ _ _, .inr ⟨g, rfl, hb, (Array.getElem?_eq_some_iff.1 hg).1⟩⟩
  · obtain ⟨g, cap, rfl, hb, hg⟩ := ownN_shape h h0
    exact ⟨some ⟨g, 0, none⟩, cap, rfl, fun i hi => ⟨g, 0, rfl, hg, by rw [Nat.zero_add]; exact ownN_at h hi⟩, .inr ⟨g, rfl, hb, hg⟩⟩
theorem grown_belowN {e : TypeId} {k : IntKind} {w w' : World} {base : Nat} {v : Value} {L : List Int} (h : OwnN e k base v L w) (hg : w.grownBy w' v.ownBlock) (hb : base ≤ w.heap.size) : Below base w w' := by
  refine ⟨hg.os, hg.tape, hg.output, hg.size, fun k hk => hg.block k (by omega) (fun e => ?_)⟩
  rcases h.2 with ⟨rfl, _⟩ | ⟨g, cap, cur, rfl, hbg, _⟩
  · simp [Value.ownBlock] at e
  · simp [Value.ownBlock] at e
    omega
/-- A block that was made whole. -/
theorem ownN_made (e : TypeId) (k : IntKind) (w : World) (L : List Int) (hL : L.length ≤ maxLen) : OwnN e k w.heap.size (.slice (some ⟨w.heap.size, 0, none⟩) L.length L.length) L (w.alloc (.cells (ncells k L).toArray e)) :=
  ⟨by rw [nc_len, Nat.mul_one], .inr ⟨w.heap.size, L.length, (ncells k L).toArray, rfl, Nat.le_refl _, heap_alloc_new w _, Nat.le_refl _, hL, by simp [nc_len], by
    rw [Nat.mul_one, ← nc_len k L]
    simp⟩⟩

/-- A source of an append: nil, or at an address. -/
def SrcN (k : IntKind) (a : Option Addr) (M : List Int) (c : Nat) (w : World) : Prop := RowN k a M w ∧ ((a = none ∧ M = [] ∧ c = 0) ∨ ∃ b off, a = some ⟨b, off, none⟩)
theorem SrcN.below {k : IntKind} {a : Option Addr} {M : List Int} {c : Nat} {w w' : World} (h : SrcN k a M c w) (hb : Below w.heap.size w w') : SrcN k a M c w' := ⟨h.1.below hb, h.2⟩
theorem SrcN.own {e : TypeId} {k : IntKind} {w : World} {base : Nat} {v : Value} {L : List Int} (h : OwnN e k base v L w) : ∃ a cap, v = .slice a L.length cap ∧ SrcN k a L cap w := by
  obtain ⟨a, cap, h1, h2, h3⟩ := ownN_row h
  refine ⟨a, cap, h1, h2, ?_⟩
  rcases h3 with ⟨e1, e2, e3⟩ | ⟨g, e1, _⟩
  · exact .inl ⟨e1, e3, e2⟩
  · exact .inr ⟨g, 0, e1⟩

/-- What is known of a type of whole numbers. -/
def NumT (P : Program) (t e : TypeId) (k : IntKind) (bytes : Nat) : Prop := P.underlying t = some (.slice e) ∧ (P.info? e).map (fun i => (i.zero, i.size, i.bytes)) = some (some (.int k 0), 1, bytes)
theorem run_appN {P : Program} {t e : TypeId} {k : IntKind} {bytes : Nat} (hT : NumT P t e k bytes) (ty : TypeId) (w : World) (base : Nat) (v : Value) (L : List Int) (hown : OwnN e k base v L w) (sa : Option Addr) (M : List Int) (c : Nat) (hM : SrcN k sa M c w)
    (hlen : L.length + M.length ≤ 8589934593) (hby : bytes ≤ 8) (hbase : base ≤ w.heap.size) :
    ∃ v' w', (Builtin.append_ #[t, t] ty #[v, .slice sa M.length c]).run P w = .ok v' w' ∧ OwnN e k base v' (L ++ M) w' ∧ Below base w w' ∧ w.grownBy w' v.ownBlock ∧ (v'.ownBlock = v.ownBlock ∨ v'.ownBlock = some w.heap.size) := by
  obtain ⟨ht, hinfo⟩ := hT
  obtain ⟨i, hi, hz⟩ := Option.map_eq_some_iff.1 hinfo
  simp only [Prod.mk.injEq] at hz
  obtain ⟨hz0, hz1, hz2⟩ := hz
  have hnb : (L.length + M.length) * bytes ≤ 140737488355328 := by
    have := Nat.mul_le_mul_left (L.length + M.length) hby
    omega
  rcases hM with ⟨hR, ⟨rfl, rfl, rfl⟩ | ⟨b, off, rfl⟩⟩
  · have hrun := run_append_owned_none (P := P) (w := w) base t ty e i 1 ht hi v L.length (ncells k L) hown
    exact ⟨v, w, hrun, by simpa using hown, Below.refl _ _, ⟨rfl, rfl, rfl, Nat.le_refl _, fun _ _ _ => rfl⟩, .inl rfl⟩
  · obtain ⟨v', w', hr, h2, h3, _, h5⟩ := run_append_own_at (P := P) w base t ty e i (.int k 0) 1 bytes ht hi hz0 hz1 hz2 rfl (by decide) v L.length (ncells k L) hown ⟨b, off, none⟩ M.length c (ncells k M) (by rw [nc_len, Nat.mul_one]) hR.cells (nc_one k M) (by unfold maxLen; omega) hnb hbase
    refine ⟨v', w', hr, ?_, grown_belowN hown h3 hbase, h3, h5⟩
    unfold OwnN
    rw [nc_app, List.length_append]
    exact h2
theorem wp_appN {P : Program} {t e : TypeId} {k : IntKind} {bytes : Nat} (hT : NumT P t e k bytes) {o : Oper} {a : Act} {w : World} {K : Act → World → Prop} {Q : Exit → Act → World → Prop} (s x : Operand)
    (ho : o.op = .call { callee := .builtin .append, args := #[s, x], argTypes := #[t, t] })
    (base : Nat) (v : Value) (L : List Int) (hs : a.eval s = v) (hown : OwnN e k base v L w) (sa : Option Addr) (M : List Int) (n c : Nat) (hx : a.eval x = .slice sa n c) (hn : n = M.length) (hM : SrcN k sa M c w)
    (hlen : L.length + M.length ≤ 8589934593) (hby : bytes ≤ 8) (hbase : base ≤ w.heap.size)
    (h : ∀ v' w', OwnN e k base v' (L ++ M) w' → Below base w w' → w.grownBy w' v.ownBlock → (v'.ownBlock = v.ownBlock ∨ v'.ownBlock = some w.heap.size) → K (a.put o.dst v') w') : o.wp P a w K Q := by
  subst hn
  obtain ⟨v', w', hr, h2, h3, h4, h5⟩ := run_appN hT o.type w base v L hown sa M c hM hlen hby hbase
  unfold Oper.wp execOp
  simp only [ho, resolve, invoke, builtin, Sem.run_bind, Sem.run_pure, Result.andThen_ok, List.map_toArray, List.map_cons, List.map_nil, hs, hx, hr]
  exact h v' w' h2 h3 h4 h5
theorem wpList_appN {P : Program} {t e : TypeId} {k : IntKind} {bytes : Nat} (hT : NumT P t e k bytes) {ops : Array Oper} {rest : List Oper} {o : Oper} {a : Act} {w : World} {Q : Exit → Act → World → Prop} (hgd : o.guard = none) (s x : Operand)
    (ho : o.op = .call { callee := .builtin .append, args := #[s, x], argTypes := #[t, t] })
    (base : Nat) (v : Value) (L : List Int) (hs : a.eval s = v) (hown : OwnN e k base v L w) (sa : Option Addr) (M : List Int) (n c : Nat) (hx : a.eval x = .slice sa n c) (hn : n = M.length) (hM : SrcN k sa M c w)
    (hlen : L.length + M.length ≤ 8589934593) (hby : bytes ≤ 8) (hbase : base ≤ w.heap.size)
    (h : ∀ v' w', OwnN e k base v' (L ++ M) w' → Below base w w' → w.grownBy w' v.ownBlock → (v'.ownBlock = v.ownBlock ∨ v'.ownBlock = some w.heap.size) → wpList P ops Q rest (a.put o.dst v') w') : wpList P ops Q (o :: rest) a w :=
  wpList_plain hgd fun _ hK => wp_appN hT s x ho base v L hs hown sa M n c hx hn hM hlen hby hbase fun v' w' h2 h3 h4 h5 => hK _ _ (h v' w' h2 h3 h4 h5)
theorem step_appN {P : Program} {t e : TypeId} {k : IntKind} {bytes : Nat} (hT : NumT P t e k bytes) {ops : Array Oper} {o : Oper} {a : Act} {w : World} {K : Act → World → Prop} {Q : Exit → Act → World → Prop} {E : Prop} (hgd : o.guard = none) (s x : Operand)
    (ho : o.op = .call { callee := .builtin .append, args := #[s, x], argTypes := #[t, t] })
    (base : Nat) (v : Value) (L : List Int) (hs : a.eval s = v) (hown : OwnN e k base v L w) (sa : Option Addr) (M : List Int) (n c : Nat) (hx : a.eval x = .slice sa n c) (hn : n = M.length) (hM : SrcN k sa M c w)
    (hlen : L.length + M.length ≤ 8589934593) (hby : bytes ≤ 8) (hbase : base ≤ w.heap.size)
    (h : ∀ v' w', OwnN e k base v' (L ++ M) w' → Below base w w' → w.grownBy w' v.ownBlock → (v'.ownBlock = v.ownBlock ∨ v'.ownBlock = some w.heap.size) → K (a.put o.dst v') w') :
    if Region.wanted o (yielded ops a.tmps) = true then Oper.wp P o a w K Q else E := by
  have hw : Region.wanted o (yielded ops a.tmps) = true := by simp [Region.wanted, hgd]
  rw [if_pos hw]
  exact wp_appN hT s x ho base v L hs hown sa M n c hx hn hM hlen hby hbase h
theorem numByte : NumT Try.prog 53 5 .u8 1 := ⟨Try.underlying53, by kernel_rfl⟩
end Go.Proofs.Ytddjefmokpfplaa
