/- What the specification's cursor draws as a list of prefixes. -/
import Derived.Test.YtofalilkephkpaaDraw3
namespace Go.Proofs.Ytofalilkephkpaa
open Go.RowKit

/-- The list L lies at a, nowhere or in a block from base on that may be written. -/
def LooseP (base : Nat) (a : Option Addr) (L : List Pf) (cap : Nat) (w : World) : Prop :=
  RowP a L w ∧ ((a = none ∧ L = [] ∧ cap = 0) ∨ ∃ g, a = some ⟨g, 0, none⟩ ∧ base ≤ g ∧ g < w.heap.size ∧ L.length ≤ cap ∧ ∀ j, w.frozen? ⟨g, j, none⟩ = false)
theorem LooseP.src {base : Nat} {a : Option Addr} {L : List Pf} {cap : Nat} {w : World} (h : LooseP base a L cap w) : SrcP a L cap w :=
  ⟨h.1, h.2.elim (fun h => .inl h) (fun ⟨g, e, _⟩ => .inr ⟨g, 0, e⟩)⟩
theorem LooseP.own {base : Nat} {v : Value} {L : List Pf} {w : World} (h : OwnP base v L w) : ∃ a cap, v = .slice a L.length cap ∧ LooseP base a L cap w := by
  obtain ⟨a, cap, e, hR, hs⟩ := ownP_row h
  refine ⟨a, cap, e, hR, ?_⟩
  subst e
  rcases hs with ⟨h1, h2, h3⟩ | ⟨g, rfl, h1, h2, h3, _⟩
  · exact .inl ⟨h1, h3, h2⟩
  · exact .inr ⟨g, rfl, h1, h2, h3, fun j => World.ownsRow.frozenAt (show w.ownsRow base _ 2 (.slice (some ⟨g, 0, none⟩) L.length cap) L.length (pcells L) from h) j⟩
theorem LooseP.only {base c : Nat} {a : Option Addr} {L : List Pf} {cap : Nat} {w w' : World} (h : LooseP base a L cap w) (k : Only c w w') (hc : c < base) : LooseP base a L cap w' := by
  obtain ⟨hR, h⟩ := h
  rcases h with ⟨rfl, rfl, rfl⟩ | ⟨g, rfl, h1, h2, h3, h4⟩
  · exact ⟨RowP.nil _ _, .inl ⟨rfl, rfl, rfl⟩⟩
  · refine ⟨fun i hi => ?_, .inr ⟨g, rfl, h1, Nat.lt_of_lt_of_le h2 k.2.2.2.1, h3, fun j => (k.frozen h2 (by omega)).trans (h4 j)⟩⟩
    obtain ⟨b, off, e, hb, c0, c1⟩ := hR i hi
    simp only [Option.some.injEq, Addr.mk.injEq, and_true] at e
    obtain ⟨rfl, rfl⟩ := e
    exact ⟨_, _, rfl, Nat.lt_of_lt_of_le hb k.2.2.2.1, (k.cell hb (by omega)).trans c0, (k.cell hb (by omega)).trans c1⟩
theorem LooseP.below {base : Nat} {a : Option Addr} {L : List Pf} {cap : Nat} {w w' : World} (h : LooseP base a L cap w) (k : Below w.heap.size w w') : LooseP base a L cap w' := by
  obtain ⟨hR, h⟩ := h
  refine ⟨hR.below k, ?_⟩
  rcases h with h | ⟨g, e, h1, h2, h3, h4⟩
  · exact .inl h
  · exact .inr ⟨g, e, h1, Nat.lt_of_lt_of_le h2 k.size, h3, fun j => ((bcell k).2 _ _ h2).trans (h4 j)⟩
theorem LooseP.take {base : Nat} {a : Option Addr} {L : List Pf} {cap : Nat} {w : World} (h : LooseP base a L cap w) (k : Nat) : LooseP base a (L.take k) cap w := by
  obtain ⟨hR, h⟩ := h
  refine ⟨hR.take k, ?_⟩
  rcases h with ⟨rfl, rfl, rfl⟩ | ⟨g, e, h1, h2, h3, h4⟩
  · exact .inl ⟨rfl, by simp, rfl⟩
  · exact .inr ⟨g, e, h1, h2, by rw [List.length_take]; omega, h4⟩
theorem own_only {base c : Nat} {v : Value} {L : List Pf} {w w' : World} (h : OwnP base v L w) (k : Only c w w') (hc : c < base) : OwnP base v L w' :=
  World.ownsRow.kept h (row := some c) ⟨k.1, k.2.1, k.2.2.1, k.2.2.2.1, fun i hi hn => k.2.2.2.2 i hi (fun e => hn (by rw [e]))⟩ (by
    cases hv : v.ownBlock with
    | none => exact .inl rfl
    | some b => exact .inr (fun e => by have := (ownP_blk h hv).1; simp at e; omega))
theorem only_base {c : Nat} {w x y : World} (h : Only c w x) (k : Below w.heap.size x y) : Only c w y :=
  ⟨k.os.trans h.1, k.tape.trans h.2.1, k.output.trans h.2.2.1, Nat.le_trans h.2.2.2.1 k.size, fun i hi hn => (k.block i hi).trans (h.2.2.2.2 i hi hn)⟩
theorem cur_grown {c n base : Nat} {v u : Value} {L : List Pf} {w w' : World} (h : Cur c v n w) (ho : OwnP base u L w) (hc : c < base) (k : w.grownBy w' u.ownBlock) : Cur c v n w' := by
  obtain ⟨p, s, h0, h1, hcw, c0, c1, c2, hs, f0, f1, f2⟩ := h
  have hb := k.block c hcw (fun e => by have := (ownP_blk ho e.symm).1; omega)
  have hc' : ∀ o, w'.cell? ⟨c, o, none⟩ = w.cell? ⟨c, o, none⟩ := fun o => World.cell?_of_block (w := w) hb
  have hf' : ∀ o, w'.frozen? ⟨c, o, none⟩ = w.frozen? ⟨c, o, none⟩ := fun o => World.frozen?_of_block (w := w) hb
  exact ⟨p, s, h0, h1, Nat.lt_of_lt_of_le hcw k.size, (hc' _).trans c0, (hc' _).trans c1, (hc' _).trans c2, hs, (hf' _).trans f0, (hf' _).trans f1, (hf' _).trans f2⟩
/-- The first of the list is another now. -/
theorem LooseP.set {base g : Nat} {L : List Pf} {cap : Nat} {w : World} (h : LooseP base (some ⟨g, 0, none⟩) L cap w) (h0 : 0 < L.length) (p : Pf) : ∃ M : List Pf, M.length = L.length ∧ LooseP base (some ⟨g, 0, none⟩) M cap ((w.setCell ⟨g, 0, none⟩ (.int .i64 p.1)).setCell ⟨g, 1, none⟩ (.int .i64 p.2)) := by
  obtain ⟨hR, h⟩ := h
  rcases h with ⟨e, _⟩ | ⟨g', e, h1, h2, h3, h4⟩
  · simp at e
  simp only [Option.some.injEq, Addr.mk.injEq, and_true] at e
  subst e
  cases L with
  | nil => simp at h0
  | cons q L =>
    refine ⟨p :: L, rfl, fun i hi => ?_, .inr ⟨g, rfl, h1, by simp; exact h2, h3, fun j => by simp [h4]⟩⟩
    obtain ⟨b, off, e, hb, c0, c1⟩ := hR i hi
    obtain ⟨b0, off0, e0, _, d0, d1⟩ := hR 0 (by simp)
    simp only [Option.some.injEq, Addr.mk.injEq, and_true] at e e0
    obtain ⟨rfl, rfl⟩ := e
    obtain ⟨rfl, rfl⟩ := e0
    simp only [Nat.zero_add, Nat.zero_mul] at c0 c1 d0 d1
    cases i with
    | zero => exact ⟨_, _, rfl, by simp; exact hb, by simp [go_sem, d0, pAt], by simp [go_sem, d1, pAt]⟩
    | succ i =>
      have e1 : pAt (p :: L) (i + 1) = pAt (q :: L) (i + 1) := by simp [pAt]
      rw [e1]
      exact ⟨_, _, rfl, by simp; exact hb, by simp [go_sem, c0], by simp [go_sem, c1]⟩
end Go.Proofs.Ytofalilkephkpaa
