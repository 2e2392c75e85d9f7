/- Lists of lists of numbers of one's own that grow: each list in a block of its own. -/
import Derived.Test.YtcnlabedlcmilaaMemW
import Derived.Test.YtcnlabedlcmilaaOnes10
import Derived.Test.YtcnlabedlcmilaaMark8
namespace Go.Proofs.Ytcnlabedlcmilaa
open Go.RowKit

/-- A list: its block, its room, its numbers. -/
structure El where
  x : Nat
  cap : Nat
  f : Nat → Int
def elc (N : Nat) (e : El) : Value := .slice (some ⟨e.x, 0, none⟩) N e.cap
theorem aggLst : AggT Try.prog 44 31 (.slice none 0 0) 1 24 := ⟨Try.underlying44, by kernel_rfl, rfl, by decide⟩
/-- The lists L of N numbers each, in memory of one's own from base on. -/
def LsL (N base : Nat) (v : Value) (L : List El) (w : World) : Prop := OwnW 31 1 base v L.length (L.map (elc N)) w ∧ (∀ e, e ∈ L → base ≤ e.x ∧ OutInt e.x N N e.f w) ∧ (∀ b, v.ownBlock = some b → ∀ e, e ∈ L → e.x ≠ b) ∧ L.Pairwise (fun a b => a.x ≠ b.x)
theorem lsL_nil (N base : Nat) (w : World) : LsL N base (.slice none 0 0) [] w := ⟨ownW_nil _ _ _ _, fun e h => by simp at h, fun b h => by simp [Value.ownBlock] at h, .nil⟩
theorem LsL.below {N base : Nat} {v : Value} {L : List El} {w w' : World} (h : LsL N base v L w) (hb : Below w.heap.size w w') : LsL N base v L w' :=
  ⟨ownW_below h.1 hb, fun e he => ⟨(h.2.1 e he).1, (h.2.1 e he).2.below hb⟩, h.2.2.1, h.2.2.2⟩
theorem LsL.base {N base base' : Nat} {v : Value} {L : List El} {w : World} (h : LsL N base v L w) (hb : base' ≤ base) : LsL N base' v L w :=
  ⟨ownW_base h.1 hb, fun e he => ⟨Nat.le_trans hb (h.2.1 e he).1, (h.2.1 e he).2⟩, h.2.2.1, h.2.2.2⟩
theorem LsL.set {N base : Nat} {v : Value} {L : List El} {w : World} (h : LsL N base v L w) {g : Nat} (hg : g < base) (o : Nat) (u : Value) : LsL N base v L (w.setCell ⟨g, o, none⟩ u) :=
  ⟨ownW_only h.1 ((Only.refl g w).setCell o u) (fun e => by have := (ownW_lt h.1 e).1; omega), fun e he => ⟨(h.2.1 e he).1, (h.2.1 e he).2.other (by have := (h.2.1 e he).1; omega) _ _⟩, h.2.2.1, h.2.2.2⟩
theorem LsL.push {N base : Nat} {v v' : Value} {L : List El} {w w' : World} (h : LsL N base v L w) {x cap : Nat} {f : Nat → Int} (hb : base ≤ x) (hO : OutInt x N N f w) (hx : ∀ e, e ∈ L → e.x ≠ x) (hv : v.ownBlock ≠ some x)
    (own' : OwnW 31 1 base v' (L.length + 1) (L.map (elc N) ++ [.slice (some ⟨x, 0, none⟩) N cap]) w') (g : w.grownBy w' v.ownBlock) (o : v'.ownBlock = v.ownBlock ∨ v'.ownBlock = some w.heap.size) : LsL N base v' (L ++ [⟨x, cap, f⟩]) w' := by
  have on : OnlyS (fun k => v.ownBlock = some k) w w' := ⟨g.os, g.tape, g.output, g.size, fun k hk hc => g.block k hk (fun e => hc e.symm)⟩
  refine ⟨?_, fun e he => ?_, fun b hbk e he => ?_, ?_⟩
  · rw [List.map_append, List.length_append]
    exact own'
  · rcases List.mem_append.1 he with he | he
    · exact ⟨(h.2.1 e he).1, (h.2.1 e he).2.onlyS on (fun k => h.2.2.1 _ k e he rfl)⟩
    · have : e = ⟨x, cap, f⟩ := by simpa using he
      subst this
      exact ⟨hb, hO.onlyS on hv⟩
  · have hlt : e.x < w.heap.size ∧ v.ownBlock ≠ some e.x := by
      rcases List.mem_append.1 he with he | he
      · exact ⟨(h.2.1 e he).2.1, fun k => h.2.2.1 _ k e he rfl⟩
      · have : e = ⟨x, cap, f⟩ := by simpa using he
        subst this
        exact ⟨hO.1, hv⟩
    rcases o with o | o
    · intro e1
      rw [o] at hbk
      exact hlt.2 (by rw [e1]; exact hbk)
    · rw [o] at hbk
      have hbk' : w.heap.size = b := by simpa using hbk
      omega
  · rw [List.pairwise_append]
    refine ⟨h.2.2.2, by simp, fun a ha b hb => ?_⟩
    have : b = ⟨x, cap, f⟩ := by simpa using hb
    subst this
    exact hx a ha
end Go.Proofs.Ytcnlabedlcmilaa
