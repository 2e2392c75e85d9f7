/- Lists of one's own whose elements are any cells (m cells an element): where they lie, and what append does with them. -/
import Derived.Test.YtnpnhdaehddnmaaDoorMut4
import Derived.ChangeKeysEq
import Derived.Laws.AppendOwnNone
import Derived.Maps.AppendAt
import Derived.Deep.AppendLies
namespace Go.Proofs.YtnpnhdaehddnmaaDoor
open Go.RowKit

/-- The cells xs lie at a. -/
def RowW (a : Option Addr) (xs : List Value) (w : World) : Prop := ∀ j u, xs[j]? = some u → ∃ b off, a = some ⟨b, off, none⟩ ∧ b < w.heap.size ∧ w.cell? ⟨b, off + j, none⟩ = some u
theorem RowW.below {a : Option Addr} {xs : List Value} {w w' : World} (h : RowW a xs w) (hb : Below w.heap.size w w') : RowW a xs w' := by
  intro j u hu
  obtain ⟨b, off, ha, hlt, h0⟩ := h j u hu
  exact ⟨b, off, ha, Nat.lt_of_lt_of_le hlt hb.size, ((bcell hb).1 _ _ hlt).trans h0⟩
theorem RowW.mut {b : Nat} {xs : List Value} {w : World} (h : Mut w b xs) : RowW (some ⟨b, 0, none⟩) xs w :=
  fun j u hu => ⟨b, 0, rfl, h.1, by rw [Nat.zero_add]; exact h.2.1 j u hu⟩
theorem RowW.nil (a : Option Addr) (w : World) : RowW a [] w := fun j u hu => by simp at hu
theorem RowW.cells {b off : Nat} {xs : List Value} {w : World} (h : RowW (some ⟨b, off, none⟩) xs w) : ∀ j u, xs[j]? = some u → w.cell? ((⟨b, off, none⟩ : Addr).add j) = some u := by
  intro j u hu
  obtain ⟨b', off', ha, _, h0⟩ := h j u hu
  simp only [Option.some.injEq, Addr.mk.injEq, and_true] at ha
  obtain ⟨rfl, rfl⟩ := ha
  have hadd : (⟨b, off, none⟩ : Addr).add j = ⟨b, off + j, none⟩ := by
    simp only [Addr.add]
    split
    · rename_i h; rw [h]; simp
    · rfl
  rw [hadd, h0]

/-- A list of n elements of m cells in memory of one's own; xs: all the cells. -/
def OwnW (e : TypeId) (m base : Nat) (v : Value) (n : Nat) (xs : List Value) (w : World) : Prop := w.ownsRow base e m v n xs
theorem ownW_nil (e : TypeId) (m base : Nat) (w : World) : OwnW e m base (.slice none 0 0) 0 [] w := World.ownsRow_nil w base e m
theorem ownW_below {e : TypeId} {m n : Nat} {w w' : World} {base : Nat} {v : Value} {xs : List Value} (h : OwnW e m base v n xs w) (hb : Below w.heap.size w w') : OwnW e m base v n xs w' :=
  World.ownsRow.kept h (row := none) ⟨hb.os, hb.tape, hb.output, hb.size, fun k hk _ => hb.block k hk⟩ (by cases hv : v.ownBlock with
    | none => exact .inl rfl
    | some b => exact .inr (by simp))
theorem ownW_base {e : TypeId} {m n : Nat} {w : World} {base base' : Nat} {v : Value} {xs : List Value} (h : OwnW e m base v n xs w) (hb : base' ≤ base) : OwnW e m base' v n xs w := by
  refine ⟨h.1, ?_⟩
  rcases h.2 with h | ⟨g, cap, cur, h1, h2, h3⟩
  · exact .inl h
  · exact .inr ⟨g, cap, cur, h1, Nat.le_trans hb h2, h3⟩
theorem ownW_row {e : TypeId} {m n : Nat} {w : World} {base : Nat} {v : Value} {xs : List Value} (h : OwnW e m base v n xs w) : ∃ a cap, v = .slice a n cap ∧ RowW a xs w ∧ ((a = none ∧ cap = 0 ∧ n = 0) ∨ ∃ g, a = some ⟨g, 0, none⟩ ∧ base ≤ g ∧ g < w.heap.size ∧ n ≤ cap ∧ ∀ j, w.frozen? ⟨g, j, none⟩ = false) := by
  rcases h.2 with ⟨rfl, h1⟩ | ⟨g, cap, cur, rfl, hb, hg, hc, hx, _⟩
  · subst h1
    have e0 : xs = [] := List.eq_nil_of_length_eq_zero (by rw [h.1, Nat.zero_mul])
    subst e0
    exact ⟨none, 0, rfl, RowW.nil _ _, .inl ⟨rfl, rfl, rfl⟩⟩
  · have hgl : g < w.heap.size := (Array.getElem?_eq_some_iff.1 hg).1
    refine ⟨some ⟨g, 0, none⟩, cap, rfl, fun j u hu => ?_, .inr ⟨g, rfl, hb, hgl, hc, fun j => World.ownsRow.frozenAt (show w.ownsRow base e m (.slice (some ⟨g, 0, none⟩) n cap) n xs from h) j⟩⟩
    have hj : j < xs.length := (List.getElem?_eq_some_iff.1 hu).1
    refine ⟨g, 0, rfl, hgl, ?_⟩
    rw [Nat.zero_add]
    exact (World.ownsRow.cellAt (show w.ownsRow base e m (.slice (some ⟨g, 0, none⟩) n cap) n xs from h) j (by rw [← h.1]; exact hj)).trans hu
theorem grown_belowW {e : TypeId} {m n : Nat} {w w' : World} {base : Nat} {v : Value} {xs : List Value} (h : OwnW e m base v n xs w) (hg : w.grownBy w' v.ownBlock) (hb : base ≤ w.heap.size) : Below base w w' := by
  refine ⟨hg.os, hg.tape, hg.output, hg.size, fun k hk => hg.block k (by omega) (fun e => ?_)⟩
  rcases h.2 with ⟨rfl, _⟩ | ⟨g, cap, cur, rfl, hbg, _⟩
  · simp [Value.ownBlock] at e
  · simp [Value.ownBlock] at e
    omega
/-- A list of one's own where nothing turned but one block that is not its own. -/
theorem ownW_only {e : TypeId} {m n c : Nat} {w w' : World} {base : Nat} {v : Value} {xs : List Value} (h : OwnW e m base v n xs w) (hb : Only c w w') (hc : v.ownBlock ≠ some c) : OwnW e m base v n xs w' :=
  World.ownsRow.kept h (row := some c) ⟨hb.1, hb.2.1, hb.2.2.1, hb.2.2.2.1, fun k hk hn => hb.2.2.2.2 k hk (fun e => hn (by rw [e]))⟩ (.inr hc)
/-- Nothing that was there has turned but blocks of P. -/
def OnlyP (P : Nat → Prop) (w w' : World) : Prop :=
  w'.os = w.os ∧ w'.tape = w.tape ∧ w'.output = w.output ∧ w.heap.size ≤ w'.heap.size ∧ ∀ k, k < w.heap.size → ¬ P k → w'.heap[k]? = w.heap[k]?
theorem OnlyP.refl (P : Nat → Prop) (w : World) : OnlyP P w w := ⟨rfl, rfl, rfl, Nat.le_refl _, fun _ _ _ => rfl⟩
theorem OnlyP.trans {P : Nat → Prop} {a b d : World} (h : OnlyP P a b) (k : OnlyP P b d) : OnlyP P a d := by
  obtain ⟨h1, h2, h3, h4, h5⟩ := h
  obtain ⟨k1, k2, k3, k4, k5⟩ := k
  exact ⟨k1.trans h1, k2.trans h2, k3.trans h3, Nat.le_trans h4 k4, fun i hi hc => (k5 i (Nat.lt_of_lt_of_le hi h4) hc).trans (h5 i hi hc)⟩
theorem OnlyP.of_below {P : Nat → Prop} {w w' : World} (h : Below w.heap.size w w') : OnlyP P w w' := ⟨h.os, h.tape, h.output, h.size, fun k hk _ => h.block k hk⟩
theorem OnlyP.of_grown {P : Nat → Prop} {w w' : World} {r : Option Nat} (h : w.grownBy w' r) (hr : ∀ k, r = some k → P k) : OnlyP P w w' := ⟨h.os, h.tape, h.output, h.size, fun k hk hc => h.block k hk (fun e => hc (hr k e.symm))⟩
theorem OnlyP.of_only {P : Nat → Prop} {c : Nat} {w w' : World} (h : Only c w w') (hc : P c) : OnlyP P w w' :=
  ⟨h.1, h.2.1, h.2.2.1, h.2.2.2.1, fun k hk hn => h.2.2.2.2 k hk (fun e => hn (e ▸ hc))⟩
theorem OnlyP.mono {P Q : Nat → Prop} {w w' : World} (h : OnlyP P w w') (hq : ∀ k, k < w.heap.size → P k → Q k) : OnlyP Q w w' :=
  ⟨h.1, h.2.1, h.2.2.1, h.2.2.2.1, fun k hk hn => h.2.2.2.2 k hk (fun e => hn (hq k hk e))⟩
theorem OnlyP.cell {P : Nat → Prop} {w w' : World} (h : OnlyP P w w') {b o : Nat} (hb : b < w.heap.size) (hc : ¬ P b) : w'.cell? ⟨b, o, none⟩ = w.cell? ⟨b, o, none⟩ := World.cell?_of_block (w := w) (h.2.2.2.2 b hb hc)
theorem OnlyP.frozen {P : Nat → Prop} {w w' : World} (h : OnlyP P w w') {b o : Nat} (hb : b < w.heap.size) (hc : ¬ P b) : w'.frozen? ⟨b, o, none⟩ = w.frozen? ⟨b, o, none⟩ := World.frozen?_of_block (w := w) (h.2.2.2.2 b hb hc)
theorem OnlyP.below {P : Nat → Prop} {base : Nat} {w w' : World} (h : OnlyP P w w') (hc : ∀ k, k < w.heap.size → P k → base ≤ k) (hb : base ≤ w.heap.size) : Below base w w' :=
  ⟨h.1, h.2.1, h.2.2.1, h.2.2.2.1, fun k hk => h.2.2.2.2 k (by omega) (fun e => by have := hc k (by omega) e; omega)⟩
theorem Mut.onlyP {P : Nat → Prop} {w w' : World} {b : Nat} {vs : List Value} (h : Mut w b vs) (k : OnlyP P w w') (hn : ¬ P b) : Mut w' b vs :=
  ⟨Nat.lt_of_lt_of_le h.1 k.2.2.2.1, fun i v hv => (k.cell h.1 hn).trans (h.2.1 i v hv), fun i hi => (k.frozen h.1 hn).trans (h.2.2 i hi)⟩
theorem ownW_onlyP {P : Nat → Prop} {e : TypeId} {m n : Nat} {w w' : World} {base : Nat} {v : Value} {xs : List Value} (h : OwnW e m base v n xs w) (hb : OnlyP P w w') (hc : ∀ k, v.ownBlock = some k → ¬ P k) : OwnW e m base v n xs w' := by
  refine ⟨h.1, ?_⟩
  rcases h.2 with h | ⟨g, cap, cur, h1, h2, h3, h4⟩
  · exact .inl h
  · exact .inr ⟨g, cap, cur, h1, h2, (hb.2.2.2.2 g (Array.getElem?_eq_some_iff.1 h3).1 (hc g (by rw [h1]; rfl))).trans h3, h4⟩
theorem ownW_lt {e : TypeId} {m n : Nat} {w : World} {base : Nat} {v : Value} {xs : List Value} (h : OwnW e m base v n xs w) {k : Nat} (hk : v.ownBlock = some k) : base ≤ k ∧ k < w.heap.size := by
  rcases h.2 with ⟨rfl, _⟩ | ⟨g, cap, cur, rfl, h2, h3, _⟩
  · simp [Value.ownBlock] at hk
  · simp [Value.ownBlock] at hk
    subst hk
    exact ⟨h2, (Array.getElem?_eq_some_iff.1 h3).1⟩
/-- What is known of a type of elements of m cells. -/
def AggT (P : Program) (t e : TypeId) (z : Value) (m bytes : Nat) : Prop := P.underlying t = some (.slice e) ∧ (P.info? e).map (fun i => (i.zero, i.size, i.bytes)) = some (some z, m, bytes) ∧ z.cells.size = m ∧ 0 < m
theorem run_appW {P : Program} {t e : TypeId} {z : Value} {m bytes : Nat} (hT : AggT P t e z m bytes) (ty : TypeId) (w : World) (base : Nat) (v : Value) (n : Nat) (xs : List Value) (hown : OwnW e m base v n xs w) (b off k c : Nat) (ys : List Value) (hl : ys.length = k * m) (hR : RowW (some ⟨b, off, none⟩) ys w) (h1 : ∀ u ∈ ys, u.oneCell' = true)
    (hlen : n + k ≤ 8589934593) (hby : bytes ≤ 8192) (hbase : base ≤ w.heap.size) :
    ∃ v' w', (Builtin.append_ #[t, t] ty #[v, .slice (some ⟨b, off, none⟩) k c]).run P w = .ok v' w' ∧ OwnW e m base v' (n + k) (xs ++ ys) w' ∧ Below base w w' ∧ w.grownBy w' v.ownBlock ∧ (v'.ownBlock = v.ownBlock ∨ v'.ownBlock = some w.heap.size) := by
  obtain ⟨ht, hinfo, hzs, hm⟩ := hT
  obtain ⟨i, hi, hz⟩ := Option.map_eq_some_iff.1 hinfo
  simp only [Prod.mk.injEq] at hz
  obtain ⟨hz0, hz1, hz2⟩ := hz
  have hnb : (n + k) * bytes ≤ 140737488355328 := by
    have := Nat.mul_le_mul_left (n + k) hby
    omega
  obtain ⟨v', w', hr, h2, h3, _, h5⟩ := run_append_own_at (P := P) w base t ty e i z m bytes ht hi hz0 hz1 hz2 hzs hm v n xs hown ⟨b, off, none⟩ k c ys hl hR.cells h1 (by unfold maxLen; omega) hnb hbase
  exact ⟨v', w', hr, h2, grown_belowW hown h3 hbase, h3, h5⟩
theorem wp_appW {P : Program} {t e : TypeId} {z : Value} {m bytes : Nat} (hT : AggT P t e z m bytes) {o : Oper} {a : Act} {w : World} {K : Act → World → Prop} {Q : Exit → Act → World → Prop} (s x : Operand)
    (ho : o.op = .call { callee := .builtin .append, args := #[s, x], argTypes := #[t, t] })
    (base : Nat) (v : Value) (n : Nat) (xs : List Value) (hs : a.eval s = v) (hown : OwnW e m base v n xs w) (b off k c : Nat) (ys : List Value) (hx : a.eval x = .slice (some ⟨b, off, none⟩) k c) (hl : ys.length = k * m) (hR : RowW (some ⟨b, off, none⟩) ys w) (h1 : ∀ u ∈ ys, u.oneCell' = true)
    (hlen : n + k ≤ 8589934593) (hby : bytes ≤ 8192) (hbase : base ≤ w.heap.size)
    (h : ∀ v' w', OwnW e m base v' (n + k) (xs ++ ys) w' → Below base w w' → w.grownBy w' v.ownBlock → (v'.ownBlock = v.ownBlock ∨ v'.ownBlock = some w.heap.size) → K (a.put o.dst v') w') : o.wp P a w K Q := by
  obtain ⟨v', w', hr, h2, h3, h4, h5⟩ := run_appW hT o.type w base v n xs hown b off k c ys hl hR h1 hlen hby hbase
  unfold Oper.wp execOp
  simp only [ho, resolve, invoke, builtin, Sem.run_bind, Sem.run_pure, Result.andThen_ok, List.map_toArray, List.map_cons, List.map_nil, hs, hx, hr]
  exact h v' w' h2 h3 h4 h5
theorem wpList_appW {P : Program} {t e : TypeId} {z : Value} {m bytes : Nat} (hT : AggT P t e z m bytes) {ops : Array Oper} {rest : List Oper} {o : Oper} {a : Act} {w : World} {Q : Exit → Act → World → Prop} (hgd : o.guard = none) (s x : Operand)
    (ho : o.op = .call { callee := .builtin .append, args := #[s, x], argTypes := #[t, t] })
    (base : Nat) (v : Value) (n : Nat) (xs : List Value) (hs : a.eval s = v) (hown : OwnW e m base v n xs w) (b off k c : Nat) (ys : List Value) (hx : a.eval x = .slice (some ⟨b, off, none⟩) k c) (hl : ys.length = k * m) (hR : RowW (some ⟨b, off, none⟩) ys w) (h1 : ∀ u ∈ ys, u.oneCell' = true)
    (hlen : n + k ≤ 8589934593) (hby : bytes ≤ 8192) (hbase : base ≤ w.heap.size)
    (h : ∀ v' w', OwnW e m base v' (n + k) (xs ++ ys) w' → Below base w w' → w.grownBy w' v.ownBlock → (v'.ownBlock = v.ownBlock ∨ v'.ownBlock = some w.heap.size) → wpList P ops Q rest (a.put o.dst v') w') : wpList P ops Q (o :: rest) a w :=
  wpList_plain hgd fun _ hK => wp_appW hT s x ho base v n xs hs hown b off k c ys hx hl hR h1 hlen hby hbase fun v' w' h2 h3 h4 h5 => hK _ _ (h v' w' h2 h3 h4 h5)
theorem step_appW {P : Program} {t e : TypeId} {z : Value} {m bytes : Nat} (hT : AggT P t e z m bytes) {ops : Array Oper} {o : Oper} {a : Act} {w : World} {K : Act → World → Prop} {Q : Exit → Act → World → Prop} {E : Prop} (hgd : o.guard = none) (s x : Operand)
    (ho : o.op = .call { callee := .builtin .append, args := #[s, x], argTypes := #[t, t] })
    (base : Nat) (v : Value) (n : Nat) (xs : List Value) (hs : a.eval s = v) (hown : OwnW e m base v n xs w) (b off k c : Nat) (ys : List Value) (hx : a.eval x = .slice (some ⟨b, off, none⟩) k c) (hl : ys.length = k * m) (hR : RowW (some ⟨b, off, none⟩) ys w) (h1 : ∀ u ∈ ys, u.oneCell' = true)
    (hlen : n + k ≤ 8589934593) (hby : bytes ≤ 8192) (hbase : base ≤ w.heap.size)
    (h : ∀ v' w', OwnW e m base v' (n + k) (xs ++ ys) w' → Below base w w' → w.grownBy w' v.ownBlock → (v'.ownBlock = v.ownBlock ∨ v'.ownBlock = some w.heap.size) → K (a.put o.dst v') w') :
    if Region.wanted o (yielded ops a.tmps) = true then Oper.wp P o a w K Q else E := by
  have hw : Region.wanted o (yielded ops a.tmps) = true := by simp [Region.wanted, hgd]
  rw [if_pos hw]
  exact wp_appW hT s x ho base v n xs hs hown b off k c ys hx hl hR h1 hlen hby hbase h
end Go.Proofs.YtnpnhdaehddnmaaDoor
