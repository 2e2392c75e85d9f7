/- What a copy of a store is. -/
import Derived.Test.YtddbgmknbjdbcaaLst16
import Derived.Test.YtddbgmknbjdbcaaStoreM
namespace Go.Proofs.Ytddbgmknbjdbcaa
open Go.RowKit

/-- Leaves that can be copied. -/
def OwnC (c : Cf) : Prop := c.n ≤ 1048576 ∧ ∀ i, i < c.n → 1 ≤ (c.T i).n ∧ (c.T i).n ≤ 1048576
/-- A store that can be copied. -/
def OwnSt (s : Sto) : Prop := OwnC s.C ∧ OwnC s.R ∧ s.h ≤ 1048576 ∧ ∀ i, i < s.h → OwnC (s.H i)
theorem GC.own {n : Nat} {T : Nat → Lf} (h : GC n T) : OwnC ⟨n, T⟩ := ⟨Nat.le_trans h.2 (by omega), fun i hi => ⟨(h.1 i hi).1.1, Nat.le_trans (h.1 i hi).1.2.1 (by omega)⟩⟩
theorem GS.own {s : Sto} (h : GS s) : OwnSt s := ⟨GC.own h.1, GC.own h.2.1, by have := h.2.2.2.1; omega, fun i hi => GC.own (h.2.2.2.2.1 i hi)⟩
/-- Behind the first part: the box of the copy, and its first two lists. -/
def OwB (w0 : World) (s : Sto) (p : Value) (X : World) : Prop := ∃ (kb : Nat) (ca : Option Addr) (kc : Nat) (ra : Option Addr) (kr m1 m2 : Nat), p = .pointer (some ⟨kb, 0, none⟩) ∧ w0.heap.size ≤ kb ∧ Mut X kb [.slice ca s.C.n kc, .slice ra s.R.n kr, .slice none 0 0, .int .i64 s.l] ∧ w0.heap.size ≤ m1 ∧ m1 ≤ m2 ∧ m2 ≤ X.heap.size ∧ AnsF ca s.C.n s.C.T (fun k => (w0.heap.size ≤ k ∧ k < m1) ∧ k ≠ kb) X ∧ AnsF ra s.R.n s.R.T (fun k => (m1 ≤ k ∧ k < m2) ∧ k ≠ kb) X ∧ Below w0.heap.size w0 X
theorem TX_map {L : List Xl} {H : Nat → Cf} {h : Nat} (hm : L.map (·.c) = (List.range h).map H) (hl : L.length = h) {i : Nat} (hi : i < h) : TX L i = H i := by
  rw [TX_eq (by omega)]
  have e1 : (L.map (·.c))[i]? = some (L[i]'(by omega)).c := by rw [List.getElem?_map, List.getElem?_eq_getElem (by omega)]; rfl
  rw [hm, List.getElem?_map, List.getElem?_range hi] at e1
  simpa using e1.symm
theorem AnsX.congr {a : Option Addr} {h : Nat} {H H' : Nat → Cf} {lo hi : Nat} {w : World} (A : AnsX a h H lo hi w) (e : ∀ i, i < h → H i = H' i) : AnsX a h H' lo hi w := by
  obtain ⟨h0, h1, h5⟩ := A
  refine ⟨h0, h1, ?_⟩
  rcases h5 with q | ⟨B, E, g, h2, h3, ha, hg, hj, l1, l2, h6⟩
  · exact .inl q
  · refine .inr ⟨B, E, g, h2, h3, ha, hg, hj, l1, l2, fun i hi => ?_⟩
    obtain ⟨a0, c0, q, hA⟩ := h6 i hi
    rw [e i hi] at q hA
    exact ⟨a0, c0, q, hA⟩
theorem OnlyP.after {P : Nat → Prop} {w0 w1 w2 : World} (h : OnlyP P w0 w1) (b : Below w0.heap.size w1 w2) : OnlyP P w0 w2 := by
  obtain ⟨h1, h2, h3, h4, h5⟩ := h
  exact ⟨b.os.trans h1, b.tape.trans h2, b.output.trans h3, Nat.le_trans h4 b.size, fun k hk hn => (b.block k hk).trans (h5 k hk hn)⟩
theorem sizeSto : (Try.prog.info? 25).map (·.size) = some 4 := by kernel_rfl
end Go.Proofs.Ytddbgmknbjdbcaa
