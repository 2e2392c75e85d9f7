/- Lists of offers that grow in place: what stays, and where they lie then. -/
import Derived.Test.YtgkjokobbeahfaaMemU
import Derived.Test.YtgkjokobbeahfaaMut4
namespace Go.Proofs.Ytgkjokobbeahfaa
open Go.RowKit

theorem run_appU2 (ty : TypeId) (w : World) (base : Nat) (v : Value) (L : List Oe) (hown : OwnU base v L w) (sa : Option Addr) (M : List Oe) (c : Nat) (hM : SrcU sa M c w) (hlen : L.length + M.length ≤ 8589934593) (hbase : base ≤ w.heap.size) :
    ∃ v' w', (Builtin.append_ #[25, 25] ty #[v, .slice sa M.length c]).run Try.prog w = .ok v' w' ∧ OwnU base v' (L ++ M) w' ∧ Below base w w' ∧ w.grownBy w' v.ownBlock ∧ (v'.ownBlock = v.ownBlock ∨ v'.ownBlock = some w.heap.size) := by
  obtain ⟨i0, hi, hz0, hz1, hz2⟩ := info_partsU infoOffer
  rcases hM with ⟨hR, ⟨rfl, rfl, rfl⟩ | ⟨b, off, rfl⟩⟩
  · have hrun := run_append_owned_none (P := Try.prog) (w := w) base 25 ty 39 i0 7 Try.underlying25 hi v L.length (ucells L) hown
    exact ⟨v, w, hrun, by simpa using hown, Below.refl _ _, ⟨rfl, rfl, rfl, Nat.le_refl _, fun _ _ _ => rfl⟩, .inl rfl⟩
  · obtain ⟨v', w', hr, h2, h3, _, h5⟩ := run_append_own_at (P := Try.prog) w base 25 ty 39 i0 (.agg #[.int .i64 0, .int .i64 0, .slice none 0 0, .int .i64 0, .int .i64 0, .int .i64 0, .slice none 0 0]) 7 88 Try.underlying25 hi hz0 hz1 hz2 rfl (by decide) v L.length (ucells L) hown ⟨b, off, none⟩ M.length c (ucells M) (uc_len M) hR.cells (uc_oneCell M) (by unfold maxLen; omega) (by omega) hbase
    refine ⟨v', w', hr, ?_, grown_belowU hown h3 hbase, h3, h5⟩
    unfold OwnU
    rw [uc_app, List.length_append]
    exact h2
theorem step_appU2 {ops : Array Oper} {o : Oper} {a : Act} {w : World} {K : Act → World → Prop} {Q : Exit → Act → World → Prop} {E : Prop} (hgd : o.guard = none) (s x : Operand)
    (ho : o.op = .call { callee := .builtin .append, args := #[s, x], argTypes := #[25, 25] })
    (base : Nat) (v : Value) (L : List Oe) (hs : a.eval s = v) (hown : OwnU base v L w) (sa : Option Addr) (M : List Oe) (n c : Nat) (hx : a.eval x = .slice sa n c) (hn : n = M.length) (hM : SrcU sa M c w)
    (hlen : L.length + M.length ≤ 8589934593) (hbase : base ≤ w.heap.size)
    (h : ∀ v' w', OwnU base v' (L ++ M) w' → Below base w w' → w.grownBy w' v.ownBlock → (v'.ownBlock = v.ownBlock ∨ v'.ownBlock = some w.heap.size) → K (a.put o.dst v') w') :
    if Region.wanted o (yielded ops a.tmps) = true then Oper.wp Try.prog o a w K Q else E := by
  have hw : Region.wanted o (yielded ops a.tmps) = true := by simp [Region.wanted, hgd]
  rw [if_pos hw]
  subst hn
  obtain ⟨v', w', hr, h2, h3, h4, h5⟩ := run_appU2 o.type w base v L hown sa M c hM hlen hbase
  unfold Oper.wp execOp
  simp only [ho, resolve, invoke, builtin, Sem.run_bind, Sem.run_pure, Result.andThen_ok, List.map_toArray, List.map_cons, List.map_nil, hs, hx, hr]
  exact h v' w' h2 h3 h4 h5
theorem wpList_appU2 {ops : Array Oper} {rest : List Oper} {o : Oper} {a : Act} {w : World} {Q : Exit → Act → World → Prop} (hgd : o.guard = none) (s x : Operand)
    (ho : o.op = .call { callee := .builtin .append, args := #[s, x], argTypes := #[25, 25] })
    (base : Nat) (v : Value) (L : List Oe) (hs : a.eval s = v) (hown : OwnU base v L w) (sa : Option Addr) (M : List Oe) (n c : Nat) (hx : a.eval x = .slice sa n c) (hn : n = M.length) (hM : SrcU sa M c w)
    (hlen : L.length + M.length ≤ 8589934593) (hbase : base ≤ w.heap.size)
    (h : ∀ v' w', OwnU base v' (L ++ M) w' → Below base w w' → w.grownBy w' v.ownBlock → (v'.ownBlock = v.ownBlock ∨ v'.ownBlock = some w.heap.size) → wpList Try.prog ops Q rest (a.put o.dst v') w') : wpList Try.prog ops Q (o :: rest) a w := by
  refine wpList_plain hgd fun _ hK => ?_
  subst hn
  obtain ⟨v', w', hr, h2, h3, h4, h5⟩ := run_appU2 o.type w base v L hown sa M c hM hlen hbase
  unfold Oper.wp execOp
  simp only [ho, resolve, invoke, builtin, Sem.run_bind, Sem.run_pure, Result.andThen_ok, List.map_toArray, List.map_cons, List.map_nil, hs, hx, hr]
  exact hK _ _ (h v' w' h2 h3 h4 h5)
theorem ownU_only {w w' : World} {base c : Nat} {v : Value} {L : List Oe} (h : OwnU base v L w) (o : Only c w w') (hn : v.ownBlock ≠ some c) : OwnU base v L w' :=
  World.ownsRow.kept h (row := some c) ⟨o.1, o.2.1, o.2.2.1, o.2.2.2.1, fun i hi hne => o.2.2.2.2 i hi (fun e => hne (by rw [e]))⟩ (.inr hn)
theorem ownU_blk {w : World} {base : Nat} {v : Value} {L : List Oe} (h : OwnU base v L w) {g : Nat} (e : v.ownBlock = some g) : base ≤ g ∧ g < w.heap.size := World.ownsRow.lt h g e
/-- What grows changes no other block. -/
theorem Mut.grow8 {w w' : World} {b : Nat} {vs : List Value} {v : Value} (h : Mut w b vs) (k : w.grownBy w' v.ownBlock) (hn : v.ownBlock ≠ some b) : Mut w' b vs := by
  have hb := k.block b h.1 (fun e => hn e.symm)
  exact ⟨Nat.lt_of_lt_of_le h.1 k.size, fun i x hx => (World.cell?_of_block (w := w) hb).trans (h.2.1 i x hx), fun i hi => (World.frozen?_of_block (w := w) hb).trans (h.2.2 i hi)⟩
theorem OutInt.grow8 {w w' : World} {c n k : Nat} {f : Nat → Int} {v : Value} (h : OutInt c n k f w) (q : w.grownBy w' v.ownBlock) (hn : v.ownBlock ≠ some c) : OutInt c n k f w' := by
  have hb := q.block c h.1 (fun e => hn e.symm)
  refine ⟨Nat.lt_of_lt_of_le h.1 q.size, fun i hi => ?_⟩
  obtain ⟨⟨x, h0, hk⟩, g0⟩ := h.2 i hi
  exact ⟨⟨x, (World.cell?_of_block (w := w) hb).trans h0, hk⟩, (World.frozen?_of_block (w := w) hb).trans g0⟩
end Go.Proofs.Ytgkjokobbeahfaa
