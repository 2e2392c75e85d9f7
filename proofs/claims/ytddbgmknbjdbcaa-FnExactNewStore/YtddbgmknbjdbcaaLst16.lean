/- Lists of lists of leaves of one's own that grow. -/
import Derived.Test.YtddbgmknbjdbcaaSt16
namespace Go.Proofs.Ytddbgmknbjdbcaa
open Go.RowKit

/-- A list of leaves: where it lies, its room, its leaves. -/
structure Xl where
  a : Option Addr
  k : Nat
  c : Cf
def xlc (e : Xl) : Value := .slice e.a e.c.n e.k
/-- The list at a place. -/
def TX (L : List Xl) (i : Nat) : Cf := (L.getD i ⟨none, 0, cf0⟩).c
theorem TX_eq {L : List Xl} {i : Nat} (h : i < L.length) : TX L i = (L[i]).c := by
  unfold TX
  rw [List.getD_eq_getElem?_getD, List.getElem?_eq_getElem h]
  rfl
theorem leafST : AggT Try.prog 23 22 (.slice none 0 0) 1 24 := ⟨Try.underlying23, by kernel_rfl, rfl, by decide⟩
/-- Lists of leaves of one's own: the blocks of list i lie from B i on and ahead of E i. -/
def LsX (base : Nat) (v : Value) (L : List Xl) (B E : Nat → Nat) (w : World) : Prop := OwnW 22 1 base v L.length (L.map xlc) w ∧ (∀ i, i < L.length → base ≤ B i ∧ B i ≤ E i ∧ E i ≤ w.heap.size) ∧ (∀ i j, i < j → j < L.length → E i ≤ B j) ∧ (∀ i (hi : i < L.length), AnsF (L[i]).a (L[i]).c.n (L[i]).c.T (fun k => B i ≤ k ∧ k < E i) w) ∧ ∀ g, v.ownBlock = some g → ∀ j, j < L.length → g < B j ∨ E j ≤ g
theorem LsX.nil (base : Nat) (w : World) : LsX base (.slice none 0 0) [] (fun _ => 0) (fun _ => 0) w := ⟨ownW_nil _ _ _ _, fun i hi => absurd hi (Nat.not_lt_zero _), fun i j _ hj => absurd hj (Nat.not_lt_zero _), fun i hi => absurd hi (Nat.not_lt_zero _), fun g h => by simp [Value.ownBlock] at h⟩
theorem LsX.below {base : Nat} {v : Value} {L : List Xl} {B E : Nat → Nat} {w w' : World} (h : LsX base v L B E w) (b : Below w.heap.size w w') : LsX base v L B E w' := by
  obtain ⟨h1, h2, h3, h4, h5⟩ := h
  exact ⟨ownW_below h1 b, fun i hi => ⟨(h2 i hi).1, (h2 i hi).2.1, Nat.le_trans (h2 i hi).2.2 b.size⟩, h3, fun i hi => (h4 i hi).below b, h5⟩
theorem LsX.onlyP {P : Nat → Prop} {base : Nat} {v : Value} {L : List Xl} {B E : Nat → Nat} {w w' : World} (h : LsX base v L B E w) (b : OnlyP P w w') (hP : ∀ k, base ≤ k → ¬ P k) : LsX base v L B E w' := by
  obtain ⟨h1, h2, h3, h4, h5⟩ := h
  exact ⟨ownW_onlyP h1 b (fun k hk => hP k (ownW_lt h1 hk).1), fun i hi => ⟨(h2 i hi).1, (h2 i hi).2.1, Nat.le_trans (h2 i hi).2.2 b.2.2.2.1⟩, h3, fun i hi => (h4 i hi).onlyP b (fun k hk => hP k (by have := (h2 i hi).1; omega)), h5⟩
theorem LsX.push {base : Nat} {v v' : Value} {L : List Xl} {B E : Nat → Nat} {w w' : World} (h : LsX base v L B E w) {e : Xl} {lo top : Nat} (hbl : base ≤ lo) (hlo : ∀ i, i < L.length → E i ≤ lo) (hlh : lo ≤ top) (htop : top ≤ w.heap.size) (hA : AnsF e.a e.c.n e.c.T (fun k => lo ≤ k ∧ k < top) w) (hv : ∀ g, v.ownBlock = some g → g < lo)
    (own' : OwnW 22 1 base v' (L.length + 1) (L.map xlc ++ [xlc e]) w') (g : w.grownBy w' v.ownBlock) (o : v'.ownBlock = v.ownBlock ∨ v'.ownBlock = some w.heap.size) :
    ∃ B' E', LsX base v' (L ++ [e]) B' E' w' := by
  obtain ⟨h1, h2, h3, h4, h5⟩ := h
  have on := OnlyP.of_grown (P := fun k => v.ownBlock = some k) g (fun _ hk => hk)
  refine ⟨fun i => if i < L.length then B i else lo, fun i => if i < L.length then E i else top, ?_, fun i hi => ?_, fun i j hij hj => ?_, fun i hi => ?_, fun b hb j hj => ?_⟩
  · rw [List.length_append, List.map_append]
    exact own'
  · rw [List.length_append] at hi
    by_cases q : i < L.length
    · simp only [if_pos q]
      exact ⟨(h2 i q).1, (h2 i q).2.1, Nat.le_trans (h2 i q).2.2 g.size⟩
    · simp only [if_neg q]
      exact ⟨hbl, hlh, Nat.le_trans htop g.size⟩
  · rw [List.length_append] at hj
    have q : i < L.length := by simp at hj; omega
    simp only [if_pos q]
    by_cases q2 : j < L.length
    · rw [if_pos q2]; exact h3 i j hij q2
    · rw [if_neg q2]; exact hlo i q
  · rw [List.length_append] at hi
    by_cases q : i < L.length
    · rw [List.getElem_append_left q]
      simp only [if_pos q]
      refine (h4 i q).onlyP on (fun k hk hk2 => ?_)
      have := h5 k hk2 i q
      omega
    · have e0 : i = L.length := by simp at hi; omega
      subst e0
      rw [List.getElem_append_right (Nat.le_refl _)]
      simp only [if_neg q, Nat.sub_self, List.getElem_cons_zero]
      exact hA.onlyP on (fun k hk hk2 => by have := hv k hk2; omega)
  · rw [List.length_append] at hj
    by_cases q : j < L.length
    · simp only [if_pos q]
      rcases o with o | o
      · rw [o] at hb
        exact h5 b hb j q
      · rw [o] at hb
        simp only [Option.some.injEq] at hb
        subst hb
        exact .inr (h2 j q).2.2
    · simp only [if_neg q]
      rcases o with o | o
      · rw [o] at hb
        exact .inl (hv b hb)
      · rw [o] at hb
        simp only [Option.some.injEq] at hb
        subst hb
        exact .inr htop
/-- As lists of leaves of one's own. -/
theorem LsX.ans {base : Nat} {v : Value} {L : List Xl} {B E : Nat → Nat} {w : World} (h : LsX base v L B E w) (hb : base ≤ w.heap.size) : ∃ a cap, v = .slice a L.length cap ∧ L.length ≤ cap ∧ AnsX a L.length (TX L) base w.heap.size w := by
  obtain ⟨h1, h2, h3, h4, h5⟩ := h
  obtain ⟨a, cap, hv, hr, hc⟩ := ownW_row h1
  rcases hc with ⟨rfl, rfl, hn⟩ | ⟨g, rfl, hg, hgl, hcap, hf⟩
  · exact ⟨_, _, hv, by omega, Nat.le_refl _, hb, .inl hn⟩
  · refine ⟨_, _, hv, hcap, Nat.le_refl _, hb, .inr ⟨B, E, g, h2, h3, rfl, hgl, fun j hj => h5 g (by rw [hv]; rfl) j hj, hg, hgl, fun i hi => ?_⟩⟩
    rw [TX_eq hi]
    obtain ⟨b, off, ha, hb2, c0⟩ := hr i (xlc (L[i])) (by rw [List.getElem?_map, List.getElem?_eq_getElem hi]; rfl)
    simp only [Option.some.injEq, Addr.mk.injEq, and_true] at ha
    obtain ⟨rfl, rfl⟩ := ha
    rw [Nat.zero_add] at c0
    exact ⟨_, _, c0, h4 i hi⟩
end Go.Proofs.Ytddbgmknbjdbcaa
