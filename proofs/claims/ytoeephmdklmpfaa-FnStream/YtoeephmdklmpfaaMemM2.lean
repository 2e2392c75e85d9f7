/- Lists of messages that grow in place: what stays, and where they lie then. -/
import Derived.Test.YtoeephmdklmpfaaMemM
import Derived.Test.YtoeephmdklmpfaaMut4
namespace Go.Proofs.Ytoeephmdklmpfaa
open Go.RowKit

theorem run_appM2 (ty : TypeId) (w : World) (base : Nat) (v : Value) (L : List Ms) (hown : OwnM base v L w) (sa : Option Addr) (M : List Ms) (c : Nat) (hM : SrcM sa M c w) (hlen : L.length + M.length ≤ 8589934593) (hbase : base ≤ w.heap.size) :
    ∃ v' w', (Builtin.append_ #[42, 42] ty #[v, .slice sa M.length c]).run Try.prog w = .ok v' w' ∧ OwnM base v' (L ++ M) w' ∧ Below base w w' ∧ w.grownBy w' v.ownBlock ∧ (v'.ownBlock = v.ownBlock ∨ v'.ownBlock = some w.heap.size) := by
  obtain ⟨i0, hi, hz0, hz1, hz2⟩ := info_partsP infoMsg
  rcases hM with ⟨hR, ⟨rfl, rfl, rfl⟩ | ⟨b, off, rfl⟩⟩
  · have hrun := run_append_owned_none (P := Try.prog) (w := w) base 42 ty 37 i0 2 Try.underlying42 hi v L.length (mcells L) hown
    exact ⟨v, w, hrun, by simpa using hown, Below.refl _ _, ⟨rfl, rfl, rfl, Nat.le_refl _, fun _ _ _ => rfl⟩, .inl rfl⟩
  · obtain ⟨v', w', hr, h2, h3, _, h5⟩ := run_append_own_at (P := Try.prog) w base 42 ty 37 i0 (.agg #[.int .i64 0, .string ByteArray.empty]) 2 24 Try.underlying42 hi hz0 hz1 hz2 rfl (by decide) v L.length (mcells L) hown ⟨b, off, none⟩ M.length c (mcells M) (mc_len M) hR.cells (mc_oneCell M) (by unfold maxLen; omega) (by omega) hbase
    refine ⟨v', w', hr, ?_, grown_belowM hown h3 hbase, h3, h5⟩
    unfold OwnM
    rw [mc_app, List.length_append]
    exact h2
theorem step_appM2 {ops : Array Oper} {o : Oper} {a : Act} {w : World} {K : Act → World → Prop} {Q : Exit → Act → World → Prop} {E : Prop} (hgd : o.guard = none) (s x : Operand)
    (ho : o.op = .call { callee := .builtin .append, args := #[s, x], argTypes := #[42, 42] })
    (base : Nat) (v : Value) (L : List Ms) (hs : a.eval s = v) (hown : OwnM base v L w) (sa : Option Addr) (M : List Ms) (n c : Nat) (hx : a.eval x = .slice sa n c) (hn : n = M.length) (hM : SrcM sa M c w)
    (hlen : L.length + M.length ≤ 8589934593) (hbase : base ≤ w.heap.size)
    (h : ∀ v' w', OwnM base v' (L ++ M) w' → Below base w w' → w.grownBy w' v.ownBlock → (v'.ownBlock = v.ownBlock ∨ v'.ownBlock = some w.heap.size) → K (a.put o.dst v') w') :
    if Region.wanted o (yielded ops a.tmps) = true then Oper.wp Try.prog o a w K Q else E := by
  have hw : Region.wanted o (yielded ops a.tmps) = true := by simp [Region.wanted, hgd]
  rw [if_pos hw]
  subst hn
  obtain ⟨v', w', hr, h2, h3, h4, h5⟩ := run_appM2 o.type w base v L hown sa M c hM hlen hbase
  unfold Oper.wp execOp
  simp only [ho, resolve, invoke, builtin, Sem.run_bind, Sem.run_pure, Result.andThen_ok, List.map_toArray, List.map_cons, List.map_nil, hs, hx, hr]
  exact h v' w' h2 h3 h4 h5
theorem wpList_appM2 {ops : Array Oper} {rest : List Oper} {o : Oper} {a : Act} {w : World} {Q : Exit → Act → World → Prop} (hgd : o.guard = none) (s x : Operand)
    (ho : o.op = .call { callee := .builtin .append, args := #[s, x], argTypes := #[42, 42] })
    (base : Nat) (v : Value) (L : List Ms) (hs : a.eval s = v) (hown : OwnM base v L w) (sa : Option Addr) (M : List Ms) (n c : Nat) (hx : a.eval x = .slice sa n c) (hn : n = M.length) (hM : SrcM sa M c w)
    (hlen : L.length + M.length ≤ 8589934593) (hbase : base ≤ w.heap.size)
    (h : ∀ v' w', OwnM base v' (L ++ M) w' → Below base w w' → w.grownBy w' v.ownBlock → (v'.ownBlock = v.ownBlock ∨ v'.ownBlock = some w.heap.size) → wpList Try.prog ops Q rest (a.put o.dst v') w') : wpList Try.prog ops Q (o :: rest) a w := by
  refine wpList_plain hgd fun _ hK => ?_
  subst hn
  obtain ⟨v', w', hr, h2, h3, h4, h5⟩ := run_appM2 o.type w base v L hown sa M c hM hlen hbase
  unfold Oper.wp execOp
  simp only [ho, resolve, invoke, builtin, Sem.run_bind, Sem.run_pure, Result.andThen_ok, List.map_toArray, List.map_cons, List.map_nil, hs, hx, hr]
  exact hK _ _ (h v' w' h2 h3 h4 h5)
theorem ownM_only {w w' : World} {base c : Nat} {v : Value} {L : List Ms} (h : OwnM base v L w) (o : Only c w w') (hn : v.ownBlock ≠ some c) : OwnM base v L w' :=
  World.ownsRow.kept h (row := some c) ⟨o.1, o.2.1, o.2.2.1, o.2.2.2.1, fun i hi hne => o.2.2.2.2 i hi (fun e => hne (by rw [e]))⟩ (.inr hn)
theorem ownM_blk {w : World} {base : Nat} {v : Value} {L : List Ms} (h : OwnM base v L w) {g : Nat} (e : v.ownBlock = some g) : base ≤ g ∧ g < w.heap.size := World.ownsRow.lt h g e
/-- What grows changes no other block. -/
theorem Mut.grown {w w' : World} {b : Nat} {vs : List Value} {v : Value} (h : Mut w b vs) (k : w.grownBy w' v.ownBlock) (hn : v.ownBlock ≠ some b) : Mut w' b vs := by
  have hb := k.block b h.1 (fun e => hn e.symm)
  exact ⟨Nat.lt_of_lt_of_le h.1 k.size, fun i x hx => (World.cell?_of_block (w := w) hb).trans (h.2.1 i x hx), fun i hi => (World.frozen?_of_block (w := w) hb).trans (h.2.2 i hi)⟩
theorem RowM.grown {w w' : World} {a : Option Addr} {L : List Ms} {v : Value} (h : RowM a L w) (k : w.grownBy w' v.ownBlock) (hn : ∀ b off, a = some ⟨b, off, none⟩ → v.ownBlock ≠ some b) : RowM a L w' := by
  intro i hi
  obtain ⟨b, off, ha, hb, h0, h1⟩ := h i hi
  have hbk := k.block b hb (fun e => hn b off ha e.symm)
  exact ⟨b, off, ha, Nat.lt_of_lt_of_le hb k.size, (World.cell?_of_block (w := w) hbk).trans h0, (World.cell?_of_block (w := w) hbk).trans h1⟩
theorem RowM.only {w w' : World} {a : Option Addr} {L : List Ms} {d : Nat} (h : RowM a L w) (k : Only d w w') (hn : ∀ b off, a = some ⟨b, off, none⟩ → b ≠ d) : RowM a L w' := by
  intro i hi
  obtain ⟨b, off, ha, hb, h0, h1⟩ := h i hi
  exact ⟨b, off, ha, Nat.lt_of_lt_of_le hb k.2.2.2.1, (k.cell hb (hn b off ha)).trans h0, (k.cell hb (hn b off ha)).trans h1⟩
end Go.Proofs.Ytoeephmdklmpfaa
