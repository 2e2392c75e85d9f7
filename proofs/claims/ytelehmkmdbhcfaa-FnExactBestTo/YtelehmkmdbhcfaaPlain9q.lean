/- Going back by links in their order, in plain words; links that lie apart from a list. -/
import Derived.Test.YtelehmkmdbhcfaaI9p
import Derived.Test.YtelehmkmdbhcfaaLnk9d
import Derived.Test.YtelehmkmdbhcfaaS9e
namespace Go.Proofs.Ytelehmkmdbhcfaa
open Go.RowKit

theorem lk9_lab {f0 f1 f2 : Nat → Int} {n i : Nat} (h : i ∈ lk9 f0 f1 n) : i < n ∧ lab9 f0 f1 f2 (f0 i) (f1 i) n = f2 i := by
  obtain ⟨h1, h2⟩ := lk9_mem.1 h
  exact ⟨h1, by unfold lab9; rw [h2]⟩
/-- Of the links ahead of k. -/
def Bup (L : Int → Int → Int) (T : Nat → Lc) (f0 f2 : Nat → Int) (B : List Nat) (p : Nat) (x : Int) (s : Nat → Bool) (k : Nat) (v : Nat) (y : Int) : Prop := (v = p ∧ y = x) ∨ ∃ j : Nat, j < k ∧ Rch L T (f0 (B.getD j 0)).toNat (ap9 T (f2 (B.getD j 0)) x) (fun i => if i = (f0 (B.getD j 0)).toNat then true else s i) v y
theorem bup_zero {L : Int → Int → Int} {T : Nat → Lc} {f0 f2 : Nat → Int} {B : List Nat} {p : Nat} {x : Int} {s : Nat → Bool} (o : Nat → Int) : Least (Bup L T f0 f2 B p x s 0) o (fun v => if v = p then min (o v) x else o v) := (Least.one o p x).congr fun v _ y => by
  constructor
  · exact fun h => .inl h
  · rintro (h | ⟨q, g1, _⟩)
    · exact h
    · exact absurd g1 (by omega)
theorem bup_take {L : Int → Int → Int} {T : Nat → Lc} {f0 f2 : Nat → Int} {B : List Nat} {p : Nat} {x : Int} {s : Nat → Bool} {k : Nat} {o r q : Nat → Int} (h : Least (Bup L T f0 f2 B p x s k) o r) (h3 : Least (Rch L T (f0 (B.getD k 0)).toNat (ap9 T (f2 (B.getD k 0)) x) (fun i => if i = (f0 (B.getD k 0)).toNat then true else s i)) r q) : Least (Bup L T f0 f2 B p x s (k + 1)) o q := (h.trans h3).congr fun v _ y => by
  constructor
  · rintro ((h | ⟨q, g1, g2⟩) | h)
    · exact .inl h
    · exact .inr ⟨q, by omega, g2⟩
    · exact .inr ⟨k, by omega, h⟩
  · rintro (h | ⟨q, g1, g2⟩)
    · exact .inl (.inl h)
    · by_cases e : q = k
      · subst e; exact .inr g2
      · exact .inl (.inr ⟨q, by omega, g2⟩)
theorem bk9_mem {f0 f1 : Nat → Int} {p : Int} {s : Nat → Bool} {ks : List Nat} {i : Nat} : i ∈ bk9 f0 f1 p s ks ↔ i ∈ ks ∧ f1 i = p ∧ s (f0 i).toNat = false := by
  unfold bk9
  rw [List.mem_filter]
  simp
theorem getD_mem9 {B : List Nat} {j : Nat} (h : j < B.length) : B.getD j 0 ∈ B := by
  rw [List.getD_eq_getElem?_getD, List.getElem?_eq_getElem h]
  simp
theorem bup_all {m : Nat} {T : Nat → Lc} {n : Nat} {f0 f1 f2 : Nat → Int} (hA : ∀ i, i < n → ArOk m (f0 i) (f1 i) (f2 i)) {p : Nat} {x : Int} {s : Nat → Bool} {o r : Nat → Int} (h : Least (Bup (fun x y => lab9 f0 f1 f2 x y n) T f0 f2 (bk9 f0 f1 p s (lk9 f0 f1 n)) p x s (bk9 f0 f1 p s (lk9 f0 f1 n)).length) o r) : Least (Rch (fun x y => lab9 f0 f1 f2 x y n) T p x s) o r := h.congr fun v _ y => by
  rw [rch_iff]
  constructor
  · rintro (h | ⟨j, h1, h2⟩)
    · exact .inl h
    · obtain ⟨m1, m2, m3⟩ := bk9_mem.1 (getD_mem9 h1)
      generalize (bk9 f0 f1 p s (lk9 f0 f1 n)).getD j 0 = i at *
      obtain ⟨l1, l2⟩ := lk9_lab (f2 := f2) m1
      have ar := hA i l1
      obtain ⟨q, hq⟩ : ∃ q : Nat, f0 i = q := ⟨(f0 i).toNat, by have := ar.1; omega⟩
      rw [hq, Int.toNat_natCast] at m3 h2
      rw [hq, m2] at l2
      refine .inr ⟨q, by have := ar.2.1; omega, ?_, m3, ?_⟩
      · show 0 ≤ lab9 f0 f1 f2 (q : Int) (p : Int) n
        rw [l2]; exact ar.2.2.2.2.2.1
      · show Rch _ T q (ap9 T (lab9 f0 f1 f2 (q : Int) (p : Int) n) x) _ v y
        rw [l2]; exact h2
  · rintro (h | ⟨q, h1, h2, h3, h4⟩)
    · exact .inl h
    · have h2' : 0 ≤ lab9 f0 f1 f2 (q : Int) (p : Int) n := h2
      replace h4 : Rch (fun x y => lab9 f0 f1 f2 x y n) T q (ap9 T (lab9 f0 f1 f2 (q : Int) (p : Int) n) x) (fun i => if i = q then true else s i) v y := h4
      cases hf : fst9 f0 f1 (q : Int) (p : Int) n with
      | none =>
        unfold lab9 at h2'
        rw [hf] at h2'
        simp at h2'
      | some i =>
        obtain ⟨g1, g2, g3⟩ := fst9_some.1 hf
        have hl : lab9 f0 f1 f2 (q : Int) (p : Int) n = f2 i := by unfold lab9; rw [hf]
        have hi : i ∈ lk9 f0 f1 n := lk9_mem.2 ⟨g1, by rw [g2.1, g2.2]; exact hf⟩
        have hb : i ∈ bk9 f0 f1 p s (lk9 f0 f1 n) := bk9_mem.2 ⟨hi, g2.2, by rw [g2.1, Int.toNat_natCast]; exact h3⟩
        obtain ⟨j, hj, e⟩ := List.getElem_of_mem hb
        refine .inr ⟨j, hj, ?_⟩
        rw [show (bk9 f0 f1 p s (lk9 f0 f1 n)).getD j 0 = i by rw [List.getD_eq_getElem?_getD, List.getElem?_eq_getElem hj, Option.getD_some, e], g2.1, Int.toNat_natCast]
        rw [hl] at h4
        exact h4
/-- Links and labels that do not lie in block bb; the labels' rows as in w00. -/
def Lks9 (va : Option Addr) (ks : List Nat) (f0 f1 f2 : Nat → Int) (P : Nat → Nat) (m : Nat) (T : Nat → Lc) (bb : Nat) (w00 w : World) : Prop := LnkR va ks f0 f1 f2 P w ∧ (∀ b off, va = some ⟨b, off, none⟩ → b ≠ bb) ∧ ∀ q, q < m → (P q < w.heap.size ∧ ∃ a0 q0, w.cell? ⟨P q, 0, none⟩ = some (.slice a0 (T q).n q0) ∧ RowInt a0 (T q).n (T q).f w00) ∧ P q ≠ bb
theorem LnkR.only9 {va : Option Addr} {ks : List Nat} {f0 f1 f2 : Nat → Int} {P : Nat → Nat} {bb : Nat} {w w' : World} (h : LnkR va ks f0 f1 f2 P w) (hn : ∀ b off, va = some ⟨b, off, none⟩ → b ≠ bb) (k : Only bb w w') : LnkR va ks f0 f1 f2 P w' := by
  intro j hj
  obtain ⟨b, off, rfl, hb, u0, u1, u2⟩ := h j hj
  have hne := hn b off rfl
  exact ⟨b, off, rfl, Nat.lt_of_lt_of_le hb k.2.2.2.1, (k.cell hb hne).trans u0, (k.cell hb hne).trans u1, (k.cell hb hne).trans u2⟩
theorem Lks9.only {va : Option Addr} {ks : List Nat} {f0 f1 f2 : Nat → Int} {P : Nat → Nat} {m : Nat} {T : Nat → Lc} {bb : Nat} {w00 w w' : World} (h : Lks9 va ks f0 f1 f2 P m T bb w00 w) (k : Only bb w w') : Lks9 va ks f0 f1 f2 P m T bb w00 w' := by
  refine ⟨h.1.only9 h.2.1 k, h.2.1, fun q hq => ?_⟩
  obtain ⟨⟨h1, a0, q0, h2, h3⟩, h4⟩ := h.2.2 q hq
  exact ⟨⟨Nat.lt_of_lt_of_le h1 k.2.2.2.1, a0, q0, (k.cell h1 h4).trans h2, h3⟩, h4⟩
theorem Lks9.lab {va : Option Addr} {ks : List Nat} {f0 f1 f2 : Nat → Int} {P : Nat → Nat} {m : Nat} {T : Nat → Lc} {bb : Nat} {w00 w : World} (h : Lks9 va ks f0 f1 f2 P m T bb w00 w) (k : Below w00.heap.size w00 w) {q : Nat} (hq : q < m) : LabF (P q) (T q) w := by
  obtain ⟨⟨h1, a0, q0, h2, h3⟩, h4⟩ := h.2.2 q hq
  exact ⟨h1, a0, q0, h2, h3.below k⟩
end Go.Proofs.Ytelehmkmdbhcfaa
