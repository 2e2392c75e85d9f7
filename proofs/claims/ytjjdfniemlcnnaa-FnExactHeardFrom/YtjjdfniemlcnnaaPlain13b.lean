/- Where a prefix's row stands, and the best offer that counts, plain. -/
import Derived.Test.YtjjdfniemlcnnaaAll7
import Derived.Test.YtjjdfniemlcnnaaAll4
import Derived.Test.YtjjdfniemlcnnaaAll6
namespace Go.Proofs.Ytjjdfniemlcnnaa
open Go.RowKit

/-- How many rows stand ahead of a prefix. -/
def plA (U : Nat → Rc) (a l : Int) : Nat → Nat → Nat
  | 0, k => k
  | m + 1, k => if cmpP (U k).ad (U k).ln a l < 0 then plA U a l m (k + 1) else k
def plN (U : Nat → Rc) (n : Nat) (a l : Int) : Nat := plA U a l n 0
/-- k is the place. -/
def PlIs (U : Nat → Rc) (n : Nat) (a l : Int) (k : Nat) : Prop := k ≤ n ∧ (∀ i, i < k → cmpP (U i).ad (U i).ln a l < 0) ∧ (k < n → ¬ cmpP (U k).ad (U k).ln a l < 0)
theorem plA_is (U : Nat → Rc) (a l : Int) : ∀ (m k : Nat), (∀ i, i < k → cmpP (U i).ad (U i).ln a l < 0) → PlIs U (k + m) a l (plA U a l m k) := by
  intro m
  induction m with
  | zero => intro k h; exact ⟨Nat.le_refl _, h, fun e => by simp [plA] at e⟩
  | succ m ih =>
    intro k h
    unfold plA
    by_cases e : cmpP (U k).ad (U k).ln a l < 0
    · rw [if_pos e]
      have := ih (k + 1) (fun i hi => by
        by_cases c : i = k
        · rw [c]; exact e
        · exact h i (by omega))
      rw [show k + (m + 1) = k + 1 + m by omega]
      exact this
    · rw [if_neg e]
      exact ⟨by omega, h, fun _ => e⟩
theorem plN_is (U : Nat → Rc) (n : Nat) (a l : Int) : PlIs U n a l (plN U n a l) := by
  have := plA_is U a l n 0 (fun i hi => absurd hi (by omega))
  rwa [Nat.zero_add] at this
theorem pl_eq {U : Nat → Rc} {n : Nat} {a l : Int} {k : Nat} (h : PlIs U n a l k) : plN U n a l = k := by
  obtain ⟨h1, h2, h3⟩ := plN_is U n a l
  obtain ⟨g1, g2, g3⟩ := h
  rcases Nat.lt_trichotomy (plN U n a l) k with c | c | c
  · exact absurd (g2 _ c) (h3 (by omega))
  · exact c
  · exact absurd (h2 _ c) (g3 (by omega))
/-- Whether the prefix has a row. -/
def plK (U : Nat → Rc) (n : Nat) (a l : Int) : Bool := decide (plN U n a l < n) && ((U (plN U n a l)).ad == a && (U (plN U n a l)).ln == l)
theorem plK_lt {U : Nat → Rc} {n : Nat} {a l : Int} (h : plK U n a l = true) : plN U n a l < n := by
  simp only [plK, Bool.and_eq_true, decide_eq_true_eq] at h; exact h.1
/-- Whether an offer counts, and the best of those. -/
def bfB (n : Nat) (T : Nat → Oc) (x : Int) : Bool := decide (0 < (flO n T x).length)
def bfT (n : Nat) (T : Nat → Oc) (x : Int) : Oc := if bfB n T x = true then TL (flO n T x) (pkO (TL (flO n T x)) ((flO n T x).length - 1)) else oc0
theorem bfT_no {n : Nat} {T : Nat → Oc} {x : Int} (h : bfB n T x = false) : bfT n T x = oc0 := by simp [bfT, h]
theorem bfT_yes {n : Nat} {T : Nat → Oc} {x : Int} (h : bfB n T x = true) : bfT n T x = TL (flO n T x) (pkO (TL (flO n T x)) ((flO n T x).length - 1)) := by simp [bfT, h]
/-- Offers whose lists lie at places. -/
def RowOS (a : Option Addr) (n : Nat) (T : Nat → Oc) (w : World) : Prop := ∃ L : List Oe, L.length = n ∧ L.map (·.t) = lsO n T ∧ RowU a L w ∧ ∀ e, e ∈ L → SrcO w e
theorem RowOS.below {a : Option Addr} {n : Nat} {T : Nat → Oc} {w w' : World} (h : RowOS a n T w) (b : Below w.heap.size w w') : RowOS a n T w' := by
  obtain ⟨L, h1, h2, h3, h4⟩ := h
  exact ⟨L, h1, h2, h3.below b, fun e he => (h4 e he).below b⟩
theorem RowOS.low {a : Option Addr} {n : Nat} {T : Nat → Oc} {w : World} (h : RowOS a n T w) : LowO n T := by
  obtain ⟨L, h1, h2, h3, h4⟩ := h
  intro i hi
  have hm : T i ∈ L.map (·.t) := by rw [h2]; exact List.mem_map.2 ⟨i, List.mem_range.2 hi, rfl⟩
  obtain ⟨e, he, hT⟩ := List.mem_map.1 hm
  rw [← hT]
  exact (h4 e he).2.2.2
theorem RowOS.row {a : Option Addr} {n : Nat} {T : Nat → Oc} {w : World} (h : RowOS a n T w) : RowO a n T w := by
  obtain ⟨L, h1, h2, h3, h4⟩ := h
  have := h3.offers (fun e he => (h4 e he).2.2.1)
  rw [h2, h1] at this
  intro i hi
  have q := this i hi
  rw [lsO_at T hi] at q
  exact q
/-- Rows whose offers' lists lie at places. -/
def RowRS (a : Option Addr) (m : Nat) (U : Nat → Rc) (w : World) : Prop := ∀ i, i < m → ∃ (b off : Nat) (a0 : Option Addr) (c0 : Nat), a = some ⟨b, off, none⟩ ∧ b < w.heap.size ∧ w.cell? ⟨b, off + i * 3, none⟩ = some (.int .i64 (U i).ad) ∧ w.cell? ⟨b, off + i * 3 + 1, none⟩ = some (.int .i64 (U i).ln) ∧ w.cell? ⟨b, off + i * 3 + 2, none⟩ = some (.slice a0 (U i).n c0) ∧ RowOS a0 (U i).n (U i).T w
theorem RowRS.below {a : Option Addr} {m : Nat} {U : Nat → Rc} {w w' : World} (h : RowRS a m U w) (k : Below w.heap.size w w') : RowRS a m U w' := by
  intro i hi
  obtain ⟨b, off, a0, c0, ha, hb, h0, h1, h2, ht⟩ := h i hi
  obtain ⟨hc, _⟩ := bcell k
  exact ⟨b, off, a0, c0, ha, Nat.lt_of_lt_of_le hb k.size, (hc _ _ hb).trans h0, (hc _ _ hb).trans h1, (hc _ _ hb).trans h2, ht.below k⟩
theorem RowRS.row {a : Option Addr} {m : Nat} {U : Nat → Rc} {w : World} (h : RowRS a m U w) : RowR a m U w := by
  intro i hi
  obtain ⟨b, off, a0, c0, ha, hb, h0, h1, h2, ht⟩ := h i hi
  exact ⟨b, off, a0, c0, ha, hb, h0, h1, h2, ht.row⟩
theorem RowRO.src {c n : Nat} {X H : Nat → Nat} {hi : Nat} {U : Nat → Rc} {w : World} (h : RowRO c n X H hi U w) (hl : LowR n U) : RowRS (some ⟨c, 0, none⟩) n U w := by
  intro i hi
  obtain ⟨h1, h2, h3, hj, h4, c0, c1, c2, F, Y, Z, o1⟩ := h.2 i hi
  obtain ⟨L, q1, q2, q3, q4⟩ := rowOO_list o1 (lowO_of (hl i hi).2)
  exact ⟨c, 0, _, _, rfl, h4, by rw [Nat.zero_add]; exact c0, by rw [Nat.zero_add]; exact c1, by rw [Nat.zero_add]; exact c2, L, q1, q2, q3, q4⟩
/-- Whether a prefix has a best offer, and which. -/
def baB (ow : Int) (n : Nat) (U : Nat → Rc) (a l : Int) : Bool := plK U n a l && bfB (U (plN U n a l)).n (U (plN U n a l)).T ow
def baT (ow : Int) (n : Nat) (U : Nat → Rc) (a l : Int) : Oc := if plK U n a l = true then bfT (U (plN U n a l)).n (U (plN U n a l)).T ow else oc0
/-- What is told of the best offer: where it lies, or nothing. -/
def BfIs (n : Nat) (T : Nat → Oc) (x : Int) (q : Oe) (w : World) : Prop := q.t = bfT n T x ∧ (bfB n T x = true → SrcO w q) ∧ (bfB n T x = false → q = oe0)
theorem BfIs.below {n : Nat} {T : Nat → Oc} {x : Int} {q : Oe} {w w' : World} (h : BfIs n T x q w) (b : Below w.heap.size w w') : BfIs n T x q w' := ⟨h.1, fun e => (h.2.1 e).below b, h.2.2⟩
def BaIs (ow : Int) (n : Nat) (U : Nat → Rc) (a l : Int) (q : Oe) (w : World) : Prop := q.t = baT ow n U a l ∧ (baB ow n U a l = true → SrcO w q) ∧ (baB ow n U a l = false → q = oe0)
theorem ba_no {ow : Int} {n : Nat} {U : Nat → Rc} {a l : Int} (h : plK U n a l = false) : baB ow n U a l = false ∧ baT ow n U a l = oc0 := by simp [baB, baT, h]
theorem ba_yes {ow : Int} {n : Nat} {U : Nat → Rc} {a l : Int} (h : plK U n a l = true) : baB ow n U a l = bfB (U (plN U n a l)).n (U (plN U n a l)).T ow ∧ baT ow n U a l = bfT (U (plN U n a l)).n (U (plN U n a l)).T ow := by simp [baB, baT, h]
theorem baIs_no {ow : Int} {n : Nat} {U : Nat → Rc} {a l : Int} (h : plK U n a l = false) (w : World) : BaIs ow n U a l oe0 w := ⟨(ba_no h).2.symm, fun e => (by rw [(ba_no h).1] at e; cases e), fun _ => rfl⟩
theorem baIs_yes {ow : Int} {n : Nat} {U : Nat → Rc} {a l : Int} (h : plK U n a l = true) {q : Oe} {w : World} (k : BfIs (U (plN U n a l)).n (U (plN U n a l)).T ow q w) : BaIs ow n U a l q w := by
  obtain ⟨e1, e2⟩ := ba_yes (ow := ow) h
  unfold BaIs
  rw [e1, e2]
  exact k
end Go.Proofs.Ytjjdfniemlcnnaa
