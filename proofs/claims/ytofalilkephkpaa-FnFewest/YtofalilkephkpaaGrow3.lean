/- What stays where a list of prefixes of one's own grows in place: every block but the list's. -/
import Derived.Test.YtofalilkephkpaaMem3
import Derived.Deep.AppendLies
namespace Go.Proofs.Ytofalilkephkpaa
open Go.RowKit

/-- From w to w' nothing that was there has turned but v's own block; and v' lies there, or in a new block. -/
def GrowP (w w' : World) (v v' : Value) : Prop := w.grownBy w' v.ownBlock ∧ ∀ g, v'.ownBlock = some g → v.ownBlock = some g ∨ w.heap.size ≤ g
theorem GrowP.of_below {w w' : World} (v : Value) (h : Below w.heap.size w w') : GrowP w w' v v := ⟨⟨h.os, h.tape, h.output, h.size, fun k hk _ => h.block k hk⟩, fun _ e => .inl e⟩
theorem GrowP.trans {a b c : World} {u v x : Value} (h : GrowP a b u v) (k : GrowP b c v x) : GrowP a c u x := by
  obtain ⟨⟨h1, h2, h3, h4, h5⟩, h6⟩ := h
  obtain ⟨⟨k1, k2, k3, k4, k5⟩, k6⟩ := k
  refine ⟨⟨k1.trans h1, k2.trans h2, k3.trans h3, Nat.le_trans h4 k4, fun i hi hn => ?_⟩, fun g e => ?_⟩
  · rw [k5 i (by omega) (fun e => ?_), h5 i hi hn]
    rcases h6 i e.symm with e1 | e1
    · exact hn e1.symm
    · omega
  · rcases k6 g e with e1 | e1
    · exact h6 g e1
    · exact .inr (by omega)
theorem GrowP.bk {w w' : World} {v v' : Value} (h : GrowP w w' v v') {b : Nat} {arr : Array Value} {e : TypeId} (hb : Bk w b arr e) (hn : some b ≠ v.ownBlock) : Bk w' b arr e := (h.1.block b hb.lt hn).trans hb
theorem GrowP.size {w w' : World} {v v' : Value} (h : GrowP w w' v v') : w.heap.size ≤ w'.heap.size := h.1.size
theorem ownP_blk {w : World} {base : Nat} {v : Value} {L : List Pf} (h : OwnP base v L w) {g : Nat} (e : v.ownBlock = some g) : base ≤ g ∧ g < w.heap.size := World.ownsRow.lt h g e
theorem GrowP.below {w w' : World} {v v' : Value} {base : Nat} {L : List Pf} (h : GrowP w w' v v') (ho : OwnP base v L w) (hb : base ≤ w.heap.size) : Below base w w' :=
  ⟨h.1.os, h.1.tape, h.1.output, h.1.size, fun k hk => h.1.block k (by omega) (fun e => by have := (ownP_blk ho e.symm).1; omega)⟩
/-- A box that was made since is not the list's. -/
theorem box_ne {w : World} {base : Nat} {v : Value} {L : List Pf} (ho : OwnP base v L w) {b : Nat} (hb : w.heap.size ≤ b) : some b ≠ v.ownBlock := fun e => by have := (ownP_blk ho e.symm).2; omega
set_option maxRecDepth 100000 in
theorem wpList_app1P {ops : Array Oper} {rest : List Oper} {o : Oper} {a : Act} {w : World} {Q : Exit → Act → World → Prop} (hgd : o.guard = none) (s x : Operand)
    (ho : o.op = .call { callee := .builtin .append, args := #[s, x], argTypes := #[23, 23] })
    (base : Nat) (v : Value) (L : List Pf) (hs : a.eval s = v) (hown : OwnP base v L w)
    (b : Nat) (p : Pf) (c : Nat) (hx : a.eval x = .slice (some ⟨b, 0, none⟩) 1 c) (hM : RowP (some ⟨b, 0, none⟩) [p] w) (hlen : L.length ≤ 8589934592) (hbase : base ≤ w.heap.size)
    (h : ∀ v' w', OwnP base v' (L ++ [p]) w' → GrowP w w' v v' → wpList Try.prog ops Q rest (a.put o.dst v') w') : wpList Try.prog ops Q (o :: rest) a w := by
  obtain ⟨i0, hi, hz0, hz1, hz2⟩ := info_partsP infoPrefix
  refine wpList_append_lies w hgd s x 23 ho base 34 i0 (.agg #[.int .i64 0, .int .i64 0]) 2 16 Try.underlying23 hi hz0 hz1 hz2 rfl (by decide) v L.length (pcells L) hs hown ⟨b, 0, none⟩ 1 c (pcells [p]) hx rfl hM.cells (pc_oneCell _) (by decide) (by unfold maxLen; omega) (by omega) hbase w.heap.size rfl ?_
  intro g cap w' hown' hgrow hg _
  refine h _ w' ?_ ⟨hgrow, fun g' e => ?_⟩
  · unfold OwnP
    rw [pc_app, List.length_append]
    exact hown'
  · simp only [Value.ownBlock, Option.some.injEq] at e
    subst e
    rcases hg with e1 | e1
    · exact .inl e1
    · exact .inr (by omega)
end Go.Proofs.Ytofalilkephkpaa
