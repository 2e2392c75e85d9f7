/- Leaves as an answer: marked, looked at again. -/
import Derived.Test.YtddebnokdcajbaaFlt15
namespace Go.Proofs.Ytddebnokdcajbaa
open Go.RowKit

/-- Cells of block b from off on; they may be written. -/
def MutF (w : World) (b off : Nat) (vs : List Value) : Prop := b < w.heap.size ∧ (∀ i v, vs[i]? = some v → w.cell? ⟨b, off + i, none⟩ = some v) ∧ ∀ i, i < vs.length → w.frozen? ⟨b, off + i, none⟩ = false
theorem MutF.below {w w' : World} {b off : Nat} {vs : List Value} (h : MutF w b off vs) (k : Below w.heap.size w w') : MutF w' b off vs :=
  ⟨Nat.lt_of_lt_of_le h.1 k.size, fun i v hv => ((bcell k).1 _ _ h.1).trans (h.2.1 i v hv), fun i hi => ((bcell k).2 _ _ h.1).trans (h.2.2 i hi)⟩
theorem MutF.onlyP {P : Nat → Prop} {w w' : World} {b off : Nat} {vs : List Value} (h : MutF w b off vs) (k : OnlyP P w w') (hn : ¬ P b) : MutF w' b off vs :=
  ⟨Nat.lt_of_lt_of_le h.1 k.2.2.2.1, fun i v hv => (k.cell h.1 hn).trans (h.2.1 i v hv), fun i hi => (k.frozen h.1 hn).trans (h.2.2 i hi)⟩
theorem MutF.far {w : World} {b off : Nat} {vs : List Value} (h : MutF w b off vs) {q : Nat} (hq : q < off ∨ off + vs.length ≤ q) (v : Value) : MutF (w.setCell ⟨b, q, none⟩ v) b off vs := by
  refine ⟨by simpa using h.1, fun i u hu => ?_, fun i hi => ?_⟩
  · have hi := (List.getElem?_eq_some_iff.1 hu).1
    rw [World.cell?_setCell_other _ _ _ _ (by simp <;> omega)]
    exact h.2.1 i u hu
  · have := h.2.2 i hi
    simpa [go_sem] using this
theorem OnlyP.set15 {P : Nat → Prop} {w w' : World} (h : OnlyP P w w') {c : Nat} (hc : P c) (o : Nat) (v : Value) : OnlyP P w (w'.setCell ⟨c, o, none⟩ v) :=
  h.trans (OnlyP.of_only ((Only.refl c w').setCell o v) hc)

/-- N leaves in block g, that may be written; path i lies in block X i, with room K i. -/
def OneFA (g : Nat) (X K : Nat → Nat) (T : Nat → Lf) (w : World) (i : Nat) : Prop := MutF w g (i * 2) [.slice (some ⟨X i, 0, none⟩) (T i).n (K i), .string (T i).v] ∧ (T i).n ≤ K i ∧ OutStr (X i) (T i).n (T i).n (T i).p w
def RowFA (g N : Nat) (X K : Nat → Nat) (T : Nat → Lf) (w : World) : Prop := ∀ i, i < N → OneFA g X K T w i
/-- The blocks of the paths are each another one's. -/
def SepF (g N : Nat) (X : Nat → Nat) : Prop := ∀ i, i < N → X i ≠ g ∧ ∀ j, j < N → j ≠ i → X j ≠ X i
/-- The blocks of a list of leaves. -/
def BlkF (g N : Nat) (X : Nat → Nat) (b : Nat) : Prop := b = g ∨ ∃ i, i < N ∧ b = X i
theorem RowFA.below {g N : Nat} {X K : Nat → Nat} {T : Nat → Lf} {w w' : World} (h : RowFA g N X K T w) (b : Below w.heap.size w w') : RowFA g N X K T w' := fun i hi => ⟨(h i hi).1.below b, (h i hi).2.1, (h i hi).2.2.below b⟩
theorem RowFA.onlyP {P : Nat → Prop} {g N : Nat} {X K : Nat → Nat} {T : Nat → Lf} {w w' : World} (h : RowFA g N X K T w) (b : OnlyP P w w') (hP : ∀ k, BlkF g N X k → ¬ P k) : RowFA g N X K T w' :=
  fun i hi => ⟨(h i hi).1.onlyP b (hP _ (Or.inl rfl)), (h i hi).2.1, (h i hi).2.2.onlyP b (hP _ (Or.inr ⟨i, hi, rfl⟩))⟩
theorem RowFA.row {g N : Nat} {X K : Nat → Nat} {T : Nat → Lf} {w : World} (h : RowFA g N X K T w) : RowF true (some ⟨g, 0, none⟩) N T w := by
  intro i hi
  obtain ⟨M, h2, o⟩ := h i hi
  exact ⟨g, 0, _, _, rfl, M.1, by rw [Nat.zero_add]; exact M.2.1 0 _ rfl, by rw [Nat.zero_add]; exact M.2.1 1 _ rfl, fun _ => h2, o.row⟩
theorem RowFO.own {c n : Nat} {X : Nat → Nat} {hi : Nat} {T : Nat → Lf} {w : World} (h : RowFO c n X hi T w) (F : FreeC c (n * 2) w) : RowFA c n X (fun i => (T i).n) T w ∧ SepF c n X ∧ ∀ k, BlkF c n X k → k = c ∨ (c < k ∧ k < hi) := by
  refine ⟨fun i hi => ?_, fun i hi => ?_, fun k hk => ?_⟩
  · obtain ⟨h1, h3, hj, h4, c0, c1, o1⟩ := h.2 i hi
    refine ⟨⟨h4, fun q v hv => ?_, fun q hq => ?_⟩, Nat.le_refl _, o1⟩
    · match q, hv with
      | 0, hv => simp at hv; rw [← hv]; exact c0
      | 1, hv => simp at hv; rw [← hv]; exact c1
      | q + 2, hv => simp at hv
    · simp at hq
      exact (F.2 _ (by omega)).2
  · obtain ⟨h1, h3, hj, _⟩ := h.2 i hi
    refine ⟨by omega, fun j hjn hji => ?_⟩
    obtain ⟨g1, g3, gj, _⟩ := h.2 j hjn
    rcases Nat.lt_or_gt_of_ne hji with hlt | hlt
    · have := hj j hlt
      omega
    · have := gj i hlt
      omega
  · rcases hk with rfl | ⟨i, hi, rfl⟩
    · exact Or.inl rfl
    · obtain ⟨h1, h3, _⟩ := h.2 i hi
      exact Or.inr ⟨by omega, by omega⟩

/-- A marked leaf, from k on. -/
def mkLf (k : Nat) (t : Lf) : Lf := ⟨t.n, fun j => mt (k + j), mt (k + t.n)⟩
/-- The first mark of leaf i. -/
def kmF (k0 : Nat) (T : Nat → Lf) (i : Nat) : Nat := k0 + i + totF T i
theorem kmF_succ (k0 : Nat) (T : Nat → Lf) (i : Nat) : ((kmF k0 T (i + 1) : Nat) : Int) = (kmF k0 T i : Int) + ((T i).n : Int) + 1 := by
  unfold kmF
  have h2 : totF T (i + 1) = totF T i + (T i).n := rfl
  omega
theorem kmF_le (k0 : Nat) (T : Nat → Lf) {k n : Nat} (h : k ≤ n) (hn : n ≤ 1048576) (ht : totF T n ≤ 1048576) (h0 : k0 ≤ 10000000) : kmF k0 T k ≤ 20000000 := by
  unfold kmF
  have := totF_mono T h
  omega
def halfF (k0 : Nat) (T : Nat → Lf) (k : Nat) (i : Nat) : Lf := if i < k then mkLf (kmF k0 T i) (T i) else T i
theorem halfF_lt {k0 : Nat} {T : Nat → Lf} {k i : Nat} (h : i < k) : halfF k0 T k i = mkLf (kmF k0 T i) (T i) := if_pos h
theorem halfF_ge {k0 : Nat} {T : Nat → Lf} {k i : Nat} (h : ¬ i < k) : halfF k0 T k i = T i := if_neg h
theorem halfF_zero (k0 : Nat) (T : Nat → Lf) : halfF k0 T 0 = T := by
  funext i
  exact halfF_ge (by omega)
theorem halfF_other {k0 : Nat} {T : Nat → Lf} {k i : Nat} (h : i ≠ k) : halfF k0 T (k + 1) i = halfF k0 T k i := by
  unfold halfF
  by_cases e : i < k
  · rw [if_pos e, if_pos (by omega)]
  · rw [if_neg e, if_neg (by omega)]
/-- All but leaf k. -/
def OthF (g N : Nat) (X K : Nat → Nat) (T : Nat → Lf) (k : Nat) (w : World) : Prop := ∀ i, i < N → i ≠ k → OneFA g X K T w i
theorem OthF.onlyP {P : Nat → Prop} {g N : Nat} {X K : Nat → Nat} {T : Nat → Lf} {k : Nat} {w w' : World} (h : OthF g N X K T k w) (b : OnlyP P w w') (hg : ¬ P g) (hP : ∀ i, i < N → i ≠ k → ¬ P (X i)) : OthF g N X K T k w' :=
  fun i hi hne => ⟨(h i hi hne).1.onlyP b hg, (h i hi hne).2.1, (h i hi hne).2.2.onlyP b (hP i hi hne)⟩
theorem OthF.below {g N : Nat} {X K : Nat → Nat} {T : Nat → Lf} {k : Nat} {w w' : World} (h : OthF g N X K T k w) (b : Below w.heap.size w w') : OthF g N X K T k w' :=
  fun i hi hne => ⟨(h i hi hne).1.below b, (h i hi hne).2.1, (h i hi hne).2.2.below b⟩
theorem OthF.set {g N : Nat} {X K : Nat → Nat} {T : Nat → Lf} {k : Nat} {w : World} (h : OthF g N X K T k w) (hs : SepF g N X) (v : Value) : OthF g N X K T k (w.setCell ⟨g, k * 2 + 1, none⟩ v) := by
  intro i hi hne
  obtain ⟨M, h2, o⟩ := h i hi hne
  refine ⟨M.far ?_ v, h2, o.other (hs i hi).1 _ _⟩
  show k * 2 + 1 < i * 2 ∨ i * 2 + 2 ≤ k * 2 + 1
  omega
theorem RowFA.step {g N : Nat} {X K : Nat → Nat} {T : Nat → Lf} {k0 k : Nat} {w : World} (h : OthF g N X K (halfF k0 T k) k w) (M : OneFA g X K (fun _ => mkLf (kmF k0 T k) (T k)) w k) : RowFA g N X K (halfF k0 T (k + 1)) w := by
  intro i hi
  unfold OneFA
  by_cases e : i = k
  · subst e
    rw [halfF_lt (Nat.lt_succ_self i)]
    exact M
  · rw [halfF_other e]
    exact h i hi e
/-- N leaves at va; their blocks are P's. -/
def AnsF (va : Option Addr) (N : Nat) (T : Nat → Lf) (P : Nat → Prop) (w : World) : Prop := RowF true va N T w ∧ (N = 0 ∨ ∃ g X K, va = some ⟨g, 0, none⟩ ∧ RowFA g N X K T w ∧ SepF g N X ∧ ∀ k, BlkF g N X k → P k)
theorem AnsF.below {va : Option Addr} {N : Nat} {T : Nat → Lf} {P : Nat → Prop} {w w' : World} (h : AnsF va N T P w) (b : Below w.heap.size w w') : AnsF va N T P w' := by
  refine ⟨h.1.below b, ?_⟩
  rcases h.2 with h | ⟨g, X, K, h1, h2, h3, h4⟩
  · exact .inl h
  · exact .inr ⟨g, X, K, h1, h2.below b, h3, h4⟩
theorem AnsF.onlyP {S : Nat → Prop} {va : Option Addr} {N : Nat} {T : Nat → Lf} {P : Nat → Prop} {w w' : World} (h : AnsF va N T P w) (b : OnlyP S w w') (hS : ∀ k, P k → ¬ S k) : AnsF va N T P w' := by
  rcases h.2 with rfl | ⟨g, X, K, rfl, h2, h3, h4⟩
  · exact ⟨fun _ hi => absurd hi (Nat.not_lt_zero _), .inl rfl⟩
  · have q := h2.onlyP b (fun k hk => hS k (h4 k hk))
    exact ⟨q.row, .inr ⟨g, X, K, rfl, q, h3, h4⟩⟩
end Go.Proofs.Ytddebnokdcajbaa
