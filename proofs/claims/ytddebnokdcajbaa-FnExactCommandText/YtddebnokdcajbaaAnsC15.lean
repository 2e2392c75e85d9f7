/- Commands as an answer: marked, looked at again. -/
import Derived.Test.YtddebnokdcajbaaCmd15
namespace Go.Proofs.Ytddebnokdcajbaa
open Go.RowKit

/-- N leaves in block g, that may be written; path i lies in block X i, with room K i. -/
def OneCA (g : Nat) (X K : Nat → Nat) (T : Nat → Cm15) (w : World) (i : Nat) : Prop := MutF w g (i * 3) [.bool (T i).s, .slice (some ⟨X i, 0, none⟩) (T i).t.n (K i), .string (T i).t.v] ∧ (T i).t.n ≤ K i ∧ OutStr (X i) (T i).t.n (T i).t.n (T i).t.p w
def RowCA (g N : Nat) (X K : Nat → Nat) (T : Nat → Cm15) (w : World) : Prop := ∀ i, i < N → OneCA g X K T w i
theorem RowCA.below {g N : Nat} {X K : Nat → Nat} {T : Nat → Cm15} {w w' : World} (h : RowCA g N X K T w) (b : Below w.heap.size w w') : RowCA g N X K T w' := fun i hi => ⟨(h i hi).1.below b, (h i hi).2.1, (h i hi).2.2.below b⟩
theorem RowCA.onlyP {P : Nat → Prop} {g N : Nat} {X K : Nat → Nat} {T : Nat → Cm15} {w w' : World} (h : RowCA g N X K T w) (b : OnlyP P w w') (hP : ∀ k, BlkF g N X k → ¬ P k) : RowCA g N X K T w' :=
  fun i hi => ⟨(h i hi).1.onlyP b (hP _ (Or.inl rfl)), (h i hi).2.1, (h i hi).2.2.onlyP b (hP _ (Or.inr ⟨i, hi, rfl⟩))⟩
theorem RowCA.row {g N : Nat} {X K : Nat → Nat} {T : Nat → Cm15} {w : World} (h : RowCA g N X K T w) : RowC (some ⟨g, 0, none⟩) N T w := by
  intro i hi
  obtain ⟨M, h2, o⟩ := h i hi
  exact ⟨g, 0, _, _, rfl, M.1, by rw [Nat.zero_add]; exact M.2.1 0 _ rfl, by rw [Nat.zero_add]; exact M.2.1 1 _ rfl, by rw [Nat.zero_add]; exact M.2.1 2 _ rfl, h2, o.row⟩
/-- How many words the first k commands have. -/
def totC (T : Nat → Cm15) : Nat → Nat
  | 0 => 0
  | k + 1 => totC T k + (T k).t.n
theorem totC_mono (T : Nat → Cm15) {k n : Nat} (h : k ≤ n) : totC T k ≤ totC T n := by
  induction n with
  | zero => have : k = 0 := by omega
            subst this; exact Nat.le_refl _
  | succ n ih =>
    by_cases e : k = n + 1
    · subst e; exact Nat.le_refl _
    · exact Nat.le_trans (ih (by omega)) (Nat.le_add_right _ _)
/-- A marked command, from k on. -/
def mkCm (k : Nat) (t : Cm15) : Cm15 := ⟨((k : Int) % 3 == 0), ⟨t.t.n, fun j => mt (k + 1 + j), mt (k + 1 + t.t.n)⟩⟩
/-- The first mark of command i. -/
def kmC (k0 : Nat) (T : Nat → Cm15) (i : Nat) : Nat := k0 + 2 * i + totC T i
theorem kmC_succ (k0 : Nat) (T : Nat → Cm15) (i : Nat) : ((kmC k0 T (i + 1) : Nat) : Int) = (kmC k0 T i : Int) + 1 + ((T i).t.n : Int) + 1 := by
  unfold kmC
  have h2 : totC T (i + 1) = totC T i + (T i).t.n := rfl
  omega
theorem kmC_le (k0 : Nat) (T : Nat → Cm15) {k n : Nat} (h : k ≤ n) (hn : n ≤ 2097152) (ht : totC T n ≤ 2097152) (h0 : k0 ≤ 10000000) : kmC k0 T k ≤ 20000000 := by
  unfold kmC
  have := totC_mono T h
  omega
def halfC (k0 : Nat) (T : Nat → Cm15) (k : Nat) (i : Nat) : Cm15 := if i < k then mkCm (kmC k0 T i) (T i) else T i
theorem halfC_lt {k0 : Nat} {T : Nat → Cm15} {k i : Nat} (h : i < k) : halfC k0 T k i = mkCm (kmC k0 T i) (T i) := if_pos h
theorem halfC_ge {k0 : Nat} {T : Nat → Cm15} {k i : Nat} (h : ¬ i < k) : halfC k0 T k i = T i := if_neg h
theorem halfC_zero (k0 : Nat) (T : Nat → Cm15) : halfC k0 T 0 = T := by
  funext i
  exact halfC_ge (by omega)
theorem halfC_other {k0 : Nat} {T : Nat → Cm15} {k i : Nat} (h : i ≠ k) : halfC k0 T (k + 1) i = halfC k0 T k i := by
  unfold halfC
  by_cases e : i < k
  · rw [if_pos e, if_pos (by omega)]
  · rw [if_neg e, if_neg (by omega)]
/-- All but leaf k. -/
def OthC (g N : Nat) (X K : Nat → Nat) (T : Nat → Cm15) (k : Nat) (w : World) : Prop := ∀ i, i < N → i ≠ k → OneCA g X K T w i
theorem OthC.onlyP {P : Nat → Prop} {g N : Nat} {X K : Nat → Nat} {T : Nat → Cm15} {k : Nat} {w w' : World} (h : OthC g N X K T k w) (b : OnlyP P w w') (hg : ¬ P g) (hP : ∀ i, i < N → i ≠ k → ¬ P (X i)) : OthC g N X K T k w' :=
  fun i hi hne => ⟨(h i hi hne).1.onlyP b hg, (h i hi hne).2.1, (h i hi hne).2.2.onlyP b (hP i hi hne)⟩
theorem OthC.below {g N : Nat} {X K : Nat → Nat} {T : Nat → Cm15} {k : Nat} {w w' : World} (h : OthC g N X K T k w) (b : Below w.heap.size w w') : OthC g N X K T k w' :=
  fun i hi hne => ⟨(h i hi hne).1.below b, (h i hi hne).2.1, (h i hi hne).2.2.below b⟩
theorem OthC.set {g N : Nat} {X K : Nat → Nat} {T : Nat → Cm15} {k : Nat} {w : World} (h : OthC g N X K T k w) (hs : SepF g N X) (j : Nat) (hj : j < 3) (v : Value) : OthC g N X K T k (w.setCell ⟨g, k * 3 + j, none⟩ v) := by
  intro i hi hne
  obtain ⟨M, h2, o⟩ := h i hi hne
  refine ⟨M.far ?_ v, h2, o.other (hs i hi).1 _ _⟩
  show k * 3 + j < i * 3 ∨ i * 3 + 3 ≤ k * 3 + j
  omega
theorem RowCA.step {g N : Nat} {X K : Nat → Nat} {T : Nat → Cm15} {k0 k : Nat} {w : World} (h : OthC g N X K (halfC k0 T k) k w) (M : OneCA g X K (fun _ => mkCm (kmC k0 T k) (T k)) w k) : RowCA g N X K (halfC k0 T (k + 1)) w := by
  intro i hi
  unfold OneCA
  by_cases e : i = k
  · subst e
    rw [halfC_lt (Nat.lt_succ_self i)]
    exact M
  · rw [halfC_other e]
    exact h i hi e
/-- N leaves at va; their blocks are P's. -/
def AnsC (va : Option Addr) (N : Nat) (T : Nat → Cm15) (P : Nat → Prop) (w : World) : Prop := RowC va N T w ∧ (N = 0 ∨ ∃ g X K, va = some ⟨g, 0, none⟩ ∧ RowCA g N X K T w ∧ SepF g N X ∧ ∀ k, BlkF g N X k → P k)
theorem AnsC.below {va : Option Addr} {N : Nat} {T : Nat → Cm15} {P : Nat → Prop} {w w' : World} (h : AnsC va N T P w) (b : Below w.heap.size w w') : AnsC va N T P w' := by
  refine ⟨h.1.below b, ?_⟩
  rcases h.2 with h | ⟨g, X, K, h1, h2, h3, h4⟩
  · exact .inl h
  · exact .inr ⟨g, X, K, h1, h2.below b, h3, h4⟩
theorem AnsC.onlyP {S : Nat → Prop} {va : Option Addr} {N : Nat} {T : Nat → Cm15} {P : Nat → Prop} {w w' : World} (h : AnsC va N T P w) (b : OnlyP S w w') (hS : ∀ k, P k → ¬ S k) : AnsC va N T P w' := by
  rcases h.2 with rfl | ⟨g, X, K, rfl, h2, h3, h4⟩
  · exact ⟨fun _ hi => absurd hi (Nat.not_lt_zero _), .inl rfl⟩
  · have q := h2.onlyP b (fun k hk => hS k (h4 k hk))
    exact ⟨q.row, .inr ⟨g, X, K, rfl, q, h3, h4⟩⟩
end Go.Proofs.Ytddebnokdcajbaa
