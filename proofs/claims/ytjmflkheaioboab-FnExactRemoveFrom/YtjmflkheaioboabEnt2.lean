/- How a list of entries lies in memory. -/
import Derived.Test.YtjmflkheaioboabS2f
import Derived.Test.YtjmflkheaioboabEnt2p
namespace Go.Proofs.Ytjmflkheaioboab
open Go.RowKit

/-- Entries' cells. -/
def enc (e : En) : List Value := [.int .i64 e.1, .int .i64 e.2.1, .int .i64 e.2.2]
def ecells (es : List En) : List Value := es.flatMap enc
theorem ec_cons (e : En) (es : List En) : ecells (e :: es) = .int .i64 e.1 :: .int .i64 e.2.1 :: .int .i64 e.2.2 :: ecells es := rfl
theorem ec_len (es : List En) : (ecells es).length = es.length * 3 := by
  induction es with
  | nil => rfl
  | cons e es ih => rw [ec_cons]; simp only [List.length_cons, ih]; omega
theorem ec_app (es es' : List En) : ecells (es ++ es') = ecells es ++ ecells es' := by unfold ecells; rw [List.flatMap_append]
theorem ec_one (e : En) : ecells [e] = enc e := by simp [ecells]
theorem ec_at {es : List En} {i : Nat} (h : i < es.length) : (ecells es)[i * 3]? = some (.int .i64 (eAt es i).1) ∧ (ecells es)[i * 3 + 1]? = some (.int .i64 (eAt es i).2.1) ∧ (ecells es)[i * 3 + 2]? = some (.int .i64 (eAt es i).2.2) := by
  induction es generalizing i with
  | nil => simp at h
  | cons e es ih =>
    cases i with
    | zero => exact ⟨rfl, rfl, rfl⟩
    | succ i =>
      have h1 := ih (i := i) (by simpa using h)
      have e1 : eAt (e :: es) (i + 1) = eAt es i := by simp [eAt]
      rw [e1, ec_cons]
      have e2 : (i + 1) * 3 = i * 3 + 3 := by omega
      rw [e2]
      exact h1
theorem ec_oneCell (es : List En) : ∀ u ∈ ecells es, u.oneCell' = true := by
  intro u hu
  unfold ecells at hu
  rw [List.mem_flatMap] at hu
  obtain ⟨n, _, hn⟩ := hu
  simp only [enc, List.mem_cons, List.not_mem_nil, or_false] at hn
  rcases hn with rfl | rfl | rfl <;> rfl
/-- The list es lies in memory of one's own. -/
def OwnE (base : Nat) (v : Value) (es : List En) (w : World) : Prop := w.ownsRow base 32 3 v es.length (ecells es)
theorem ownE_nil (base : Nat) (w : World) : OwnE base (.slice none 0 0) [] w := World.ownsRow_nil w base _ 3
theorem ownE_below {w w' : World} {base : Nat} {v : Value} {es : List En} (h : OwnE base v es w) (hb : Below w.heap.size w w') : OwnE base v es w' :=
  World.ownsRow.kept h (row := none) ⟨hb.os, hb.tape, hb.output, hb.size, fun k hk _ => hb.block k hk⟩ (by cases hv : v.ownBlock with
    | none => exact .inl rfl
    | some b => exact .inr (by simp))
theorem ownE_base {w : World} {base base' : Nat} {v : Value} {es : List En} (h : OwnE base v es w) (hb : base' ≤ base) : OwnE base' v es w := by
  refine ⟨h.1, ?_⟩
  rcases h.2 with h | ⟨g, cap, cur, h1, h2, h3⟩
  · exact .inl h
  · exact .inr ⟨g, cap, cur, h1, Nat.le_trans hb h2, h3⟩
theorem ownE_shape {w : World} {base : Nat} {v : Value} {es : List En} (h : OwnE base v es w) (h0 : es ≠ []) : ∃ g cap, v = .slice (some ⟨g, 0, none⟩) es.length cap ∧ base ≤ g ∧ g < w.heap.size := by
  rcases h.2 with ⟨_, h1⟩ | ⟨g, cap, cur, rfl, hb, hg, _⟩
  · exact absurd (List.eq_nil_of_length_eq_zero h1) h0
  · exact ⟨g, cap, rfl, hb, (Array.getElem?_eq_some_iff.1 hg).1⟩
theorem ownE_cells {w : World} {base g cap : Nat} {es : List En} (h : OwnE base (.slice (some ⟨g, 0, none⟩) es.length cap) es w) : ∀ j u, (ecells es)[j]? = some u → w.cell? ((⟨g, 0, none⟩ : Addr).add j) = some u := by
  intro j u hu
  have hj : j < es.length * 3 := by
    have := (List.getElem?_eq_some_iff.1 hu).1
    rwa [ec_len] at this
  have hadd : (⟨g, 0, none⟩ : Addr).add j = ⟨g, j, none⟩ := by
    simp only [Addr.add]
    split
    · rename_i h; rw [h]
    · simp
  rw [hadd, World.ownsRow.cellAt (show w.ownsRow base _ 3 (.slice (some ⟨g, 0, none⟩) es.length cap) es.length (ecells es) from h) j hj]
  exact hu
theorem ownE_at {w : World} {base g cap : Nat} {es : List En} (h : OwnE base (.slice (some ⟨g, 0, none⟩) es.length cap) es w) {i : Nat} (hi : i < es.length) :
    (w.cell? ⟨g, i * 3, none⟩ = some (.int .i64 (eAt es i).1) ∧ w.cell? ⟨g, i * 3 + 1, none⟩ = some (.int .i64 (eAt es i).2.1) ∧ w.cell? ⟨g, i * 3 + 2, none⟩ = some (.int .i64 (eAt es i).2.2)) ∧
    (∀ j, w.frozen? ⟨g, j, none⟩ = false) := by
  obtain ⟨h0, h1, h2⟩ := ec_at hi
  have hc := fun j hj => World.ownsRow.cellAt (show w.ownsRow base _ 3 (.slice (some ⟨g, 0, none⟩) es.length cap) es.length (ecells es) from h) j hj
  exact ⟨⟨(hc _ (by omega)).trans h0, (hc _ (by omega)).trans h1, (hc _ (by omega)).trans h2⟩, fun j => World.ownsRow.frozenAt (show w.ownsRow base _ 3 (.slice (some ⟨g, 0, none⟩) es.length cap) es.length (ecells es) from h) j⟩
theorem ownE_row {w : World} {base : Nat} {v : Value} {es : List En} (h : OwnE base v es w) : ∃ a cap, v = .slice a es.length cap ∧ RowEntry a es.length (fun i => (eAt es i).1) (fun i => (eAt es i).2.1) (fun i => (eAt es i).2.2) w ∧ (∀ b off, a = some ⟨b, off, none⟩ → base ≤ b) := by
  by_cases h0 : es = []
  · subst h0
    rcases h.2 with ⟨rfl, _⟩ | ⟨g, cap, cur, rfl, hb, hg, _⟩
    · exact ⟨none, 0, rfl, fun i hi => absurd hi (Nat.not_lt_zero _), fun b off e => by simp at e⟩
    · exact ⟨some ⟨g, 0, none⟩, cap, rfl, fun i hi => absurd hi (Nat.not_lt_zero _), fun b off e => by simp at e; omega⟩
  · obtain ⟨g, cap, rfl, hb, hg⟩ := ownE_shape h h0
    refine ⟨some ⟨g, 0, none⟩, cap, rfl, fun i hi => ?_, fun b off e => by simp at e; omega⟩
    obtain ⟨⟨h0, h1, h2⟩, _⟩ := ownE_at h hi
    exact ⟨g, 0, rfl, hg, by simpa using h0, by simpa using h1, by simpa using h2⟩
/-- Rows lie as they lay where nothing below a bound has turned and they lie below it. -/
theorem RowT.base {a : Option Addr} {n base : Nat} {T : Nat → Nd} {w w' : World} (h : RowT a n T w) (hb : ∀ b off, a = some ⟨b, off, none⟩ → b < base) (k : Below base w w') : RowT a n T w' := by
  intro i hi
  obtain ⟨b, off, ha, hbw, h0, h1, h2, h3⟩ := h i hi
  have hlt := hb b off ha
  have hc : ∀ o, w'.cell? ⟨b, o, none⟩ = w.cell? ⟨b, o, none⟩ := fun o => k.cell (p := ⟨b, o, none⟩) hlt
  exact ⟨b, off, ha, Nat.lt_of_lt_of_le hbw k.size, (hc _).trans h0, (hc _).trans h1, (hc _).trans h2, (hc _).trans h3⟩
theorem tab_list {es : List En} (h1 : es.Pairwise ltE) (h2 : ∀ e, e ∈ es → okE e) (h3 : es.length ≤ 30) : tabB (fun i => (eAt es i).1) (fun i => (eAt es i).2.1) (fun i => (eAt es i).2.2) es.length = true := by
  unfold tabB
  rw [Bool.and_eq_true]
  refine ⟨?_, by simpa using h3⟩
  rw [List.all_eq_true]
  intro k hk
  rw [List.mem_range] at hk
  have hat : ∀ i, (hi : i < es.length) → eAt es i = es[i] := by
    intro i hi
    unfold eAt
    rw [List.getD_eq_getElem?_getD, List.getElem?_eq_getElem hi]
    rfl
  have hm : eAt es k ∈ es := by rw [hat k hk]; exact List.getElem_mem hk
  obtain ⟨g1, g2⟩ := h2 _ hm
  unfold entOk
  rw [g1, g2, Bool.true_and, Bool.true_and, Bool.or_eq_true]
  by_cases h0 : k = 0
  · exact .inl (by simp [h0])
  · refine .inr ?_
    rw [decide_eq_true_eq]
    have := List.pairwise_iff_getElem.1 h1 (k - 1) k (by omega) hk (by omega)
    rw [← hat, ← hat] at this
    exact this
end Go.Proofs.Ytjmflkheaioboab
