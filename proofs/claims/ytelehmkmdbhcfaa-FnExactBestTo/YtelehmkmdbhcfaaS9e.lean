/- Going back along all paths, of the specification. -/
import Derived.Test.YtelehmkmdbhcfaaS9d
import Derived.Deep.RegionHeld3
import Derived.Deep.DeepCutAuto
import Derived.Deep.CutRange
namespace Go.Proofs.Ytelehmkmdbhcfaa
open Go.RowKit

theorem OutInt.put9 {c n : Nat} {f : Nat → Int} {w : World} (h : OutInt c n n f w) {i : Nat} (hi : i < n) (x : Int) : OutInt c n n (fun v => if v = i then x else f v) (w.setCell ⟨c, i, none⟩ (.int .i64 x)) := by
  refine ⟨by simpa using h.1, fun v hv => ?_⟩
  obtain ⟨⟨y, h0, hy⟩, g0⟩ := h.2 v hv
  by_cases e : v = i
  · subst e
    refine ⟨⟨x, by simp [go_sem, h0], fun _ => by simp⟩, by simpa [go_sem] using g0⟩
  · refine ⟨⟨y, ?_, fun _ => by simp [e, hy hv]⟩, by simpa [go_sem] using g0⟩
    rw [World.cell?_setCell_other _ _ _ _ (by simp <;> omega)]; exact h0
theorem OutInt.congr9 {c n : Nat} {f g : Nat → Int} {w : World} (h : OutInt c n n f w) (e : ∀ i, i < n → f i = g i) : OutInt c n n g w := by
  refine ⟨h.1, fun v hv => ?_⟩
  obtain ⟨⟨y, h0, hy⟩, g0⟩ := h.2 v hv
  exact ⟨⟨y, h0, fun _ => (hy hv).trans (e v hv)⟩, g0⟩
/-- What was seen, as a list in memory that is not block bb. -/
def Seen9 (sb so : Nat) (L : List Int) (s : Nat → Bool) (bb : Nat) (w : World) : Prop := RowN .i64 (some ⟨sb, so, none⟩) L w ∧ (∀ v : Nat, v < 6 → s v = hasN L v) ∧ sb ≠ bb ∧ sb < w.heap.size ∧ L.length + left9 s ≤ 6
theorem Seen9.only {sb so : Nat} {L : List Int} {s : Nat → Bool} {bb : Nat} {w w' : World} (h : Seen9 sb so L s bb w) (k : Only bb w w') : Seen9 sb so L s bb w' := by
  refine ⟨fun i hi => ?_, h.2.1, h.2.2.1, Nat.lt_of_lt_of_le h.2.2.2.1 k.2.2.2.1, h.2.2.2.2⟩
  obtain ⟨b, off, ha, hb, h0⟩ := h.1 i hi
  simp only [Option.some.injEq, Addr.mk.injEq, and_true] at ha
  obtain ⟨rfl, rfl⟩ := ha
  exact ⟨sb, so, rfl, Nat.lt_of_lt_of_le hb k.2.2.2.1, (k.cell hb h.2.2.1).trans h0⟩
/-- What walking back leaves. -/
def WalkP (L : Int → Int → Int) (T : Nat → Lc) (p : Nat) (x : Int) (s : Nat → Bool) (bb : Nat) (o : Nat → Int) (w : World) (e : Ending) (w' : World) : Prop := e = .returned (.tuple #[]) ∧ ∃ r, OutInt bb 6 6 r w' ∧ Only bb w w' ∧ Least (Rch L T p x s) o r
/-- Of the speakers ahead of k. -/
def Upto (L : Int → Int → Int) (T : Nat → Lc) (p : Nat) (x : Int) (s : Nat → Bool) (k : Nat) (v : Nat) (y : Int) : Prop := (v = p ∧ y = x) ∨ ∃ q : Nat, q < k ∧ 0 ≤ L q p ∧ s q = false ∧ Rch L T q (ap9 T (L q p) x) (fun i => if i = q then true else s i) v y
theorem upto_all {L : Int → Int → Int} {T : Nat → Lc} {p : Nat} {x : Int} {s : Nat → Bool} {o r : Nat → Int} (h : Least (Upto L T p x s 6) o r) : Least (Rch L T p x s) o r := h.congr fun _ _ _ => rch_iff.symm
theorem upto_skip {L : Int → Int → Int} {T : Nat → Lc} {p : Nat} {x : Int} {s : Nat → Bool} {k : Nat} {o r : Nat → Int} (h : Least (Upto L T p x s k) o r) (hk : ¬ (0 ≤ L k p ∧ s k = false)) : Least (Upto L T p x s (k + 1)) o r := h.congr fun v _ y => by
  constructor
  · rintro (h | ⟨q, h1, h2⟩)
    · exact .inl h
    · exact .inr ⟨q, by omega, h2⟩
  · rintro (h | ⟨q, h1, h2, h3, h4⟩)
    · exact .inl h
    · by_cases e : q = k
      · subst e; exact absurd ⟨h2, h3⟩ hk
      · exact .inr ⟨q, by omega, h2, h3, h4⟩
theorem upto_take {L : Int → Int → Int} {T : Nat → Lc} {p : Nat} {x : Int} {s : Nat → Bool} {k : Nat} {o r q : Nat → Int} (h : Least (Upto L T p x s k) o r) (h1 : 0 ≤ L k p) (h2 : s k = false) (h3 : Least (Rch L T k (ap9 T (L k p) x) (fun i => if i = k then true else s i)) r q) : Least (Upto L T p x s (k + 1)) o q := (h.trans h3).congr fun v _ y => by
  constructor
  · rintro ((h | ⟨q, g1, g2⟩) | h)
    · exact .inl h
    · exact .inr ⟨q, by omega, g2⟩
    · exact .inr ⟨k, by omega, h1, h2, h⟩
  · rintro (h | ⟨q, g1, g2, g3, g4⟩)
    · exact .inl (.inl h)
    · by_cases e : q = k
      · subst e; exact .inr g4
      · exact .inl (.inr ⟨q, by omega, g2, g3, g4⟩)
theorem upto_zero {L : Int → Int → Int} {T : Nat → Lc} {p : Nat} {x : Int} {s : Nat → Bool} (o : Nat → Int) : Least (Upto L T p x s 0) o (fun v => if v = p then min (o v) x else o v) := (Least.one o p x).congr fun v _ y => by
  constructor
  · exact fun h => .inl h
  · rintro (h | ⟨q, g1, _⟩)
    · exact h
    · exact absurd g1 (by omega)
theorem hasN_snoc {L : List Int} {s : Nat → Bool} {k : Nat} (h : ∀ v : Nat, v < 6 → s v = hasN L v) : ∀ v : Nat, v < 6 → (if v = k then true else s v) = hasN (L ++ [(k : Int)]) v := by
  intro v hv
  unfold hasN
  rw [List.any_append]
  by_cases e : v = k
  · subst e; simp
  · have e' : ((k : Int) == (v : Int)) = false := by simp; omega
    rw [if_neg e, h v hv]
    simp [hasN, e']
theorem keep4 {w0 w' : World} {p q t o1 o2 : Nat} {a b c d : Value} (h : Below w0.heap.size w0 w') (hp : p < w0.heap.size) (hq : q < w0.heap.size) (ht : t < w0.heap.size) (k0 : w0.cell? ⟨p, 0, none⟩ = some a) (k1 : w0.cell? ⟨p, 1, none⟩ = some b) (k2 : w0.cell? ⟨q, o1, none⟩ = some c) (k3 : w0.cell? ⟨t, o2, none⟩ = some d) :
    w'.cell? ⟨p, 0, none⟩ = some a ∧ w'.cell? ⟨p, 1, none⟩ = some b ∧ w'.cell? ⟨q, o1, none⟩ = some c ∧ w'.cell? ⟨t, o2, none⟩ = some d :=
  ⟨((bcell h).1 _ _ hp).trans k0, ((bcell h).1 _ _ hp).trans k1, ((bcell h).1 _ _ hq).trans k2, ((bcell h).1 _ _ ht).trans k3⟩
theorem keep4o {w0 w' : World} {z p q t o1 o2 : Nat} {a b c d : Value} (h : Only z w0 w') (np : p ≠ z) (nq : q ≠ z) (nt : t ≠ z) (hp : p < w0.heap.size) (hq : q < w0.heap.size) (ht : t < w0.heap.size) (k0 : w0.cell? ⟨p, 0, none⟩ = some a) (k1 : w0.cell? ⟨p, 1, none⟩ = some b) (k2 : w0.cell? ⟨q, o1, none⟩ = some c) (k3 : w0.cell? ⟨t, o2, none⟩ = some d) :
    w'.cell? ⟨p, 0, none⟩ = some a ∧ w'.cell? ⟨p, 1, none⟩ = some b ∧ w'.cell? ⟨q, o1, none⟩ = some c ∧ w'.cell? ⟨t, o2, none⟩ = some d :=
  ⟨(h.cell hp np).trans k0, (h.cell hp np).trans k1, (h.cell hq nq).trans k2, (h.cell ht nt).trans k3⟩
theorem srcN_grown {w w' : World} {r : Option Nat} {b : Nat} {M : List Int} {c : Nat} (h : SrcN .i64 (some ⟨b, 0, none⟩) M c w) (gr : w.grownBy w' r) (hb : b < w.heap.size) (hn : r ≠ some b) : SrcN .i64 (some ⟨b, 0, none⟩) M c w' := by
  refine ⟨fun i hi => ?_, .inr ⟨_, _, rfl⟩⟩
  obtain ⟨b', off, ha, hlt, h0⟩ := h.1 i hi
  have e := ha
  simp only [Option.some.injEq, Addr.mk.injEq, and_true] at e
  obtain ⟨rfl, rfl⟩ := e
  exact ⟨b, 0, rfl, Nat.lt_of_lt_of_le hlt gr.size, (World.cell?_of_block (w := w) (gr.block b hb (fun e => hn e.symm))).trans h0⟩
theorem seen_snoc {e : TypeId} {sb so : Nat} {L : List Int} {s : Nat → Bool} {bb k sb2 cap2 base : Nat} {w wS : World} (h : Seen9 sb so L s bb w) (own : OwnN e .i64 base (.slice (some ⟨sb2, 0, none⟩) (L ++ [(k : Int)]).length cap2) (L ++ [(k : Int)]) wS) (hge : base ≤ sb2) (hlt : sb2 < wS.heap.size) (hb : bb < base) (hl : left9 (fun i => if i = k then true else s i) < left9 s) : Seen9 sb2 0 (L ++ [(k : Int)]) (fun i => if i = k then true else s i) bb wS := by
  refine ⟨fun i hi => ⟨sb2, 0, rfl, hlt, by rw [Nat.zero_add]; exact ownN_at own hi⟩, hasN_snoc h.2.1, by omega, hlt, ?_⟩
  have := h.2.2.2.2
  rw [List.length_append, List.length_singleton]
  omega
end Go.Proofs.Ytelehmkmdbhcfaa
