/- Putting an entry into a trie, as lists of nodes, and how such a list lies in memory. -/
import Derived.Test.YtjmflkheaioboabS2e
import Derived.Laws.OwnMore
namespace Go.Proofs.Ytjmflkheaioboab
open Go.RowKit

def nAt (ts : List Nd) (i : Nat) : Nd := ts.getD i nd0
def halfOf (n : Nd) (bit : Int) : Int := halfN n.z n.o bit
def setHalf (n : Nd) (bit x : Int) : Nd := if bit = 1 then { n with o := x } else { n with z := x }
def insStep (bit : Int) (s : List Nd × Nat) : List Nd × Nat :=
  if halfOf (nAt s.1 s.2) bit = 0 then (s.1.set s.2 (setHalf (nAt s.1 s.2) bit s.1.length) ++ [nd0], s.1.length) else (s.1, (halfOf (nAt s.1 s.2) bit).toNat)
def insTo (a : Int) (ts : List Nd) : Nat → List Nd × Nat
  | 0 => (ts, 0)
  | k + 1 => insStep (bitA a k) (insTo a ts k)
def insT (a : Int) (l : Nat) (v : Int) (ts : List Nd) : List Nd :=
  (insTo a ts l).1.set (insTo a ts l).2 { nAt (insTo a ts l).1 (insTo a ts l).2 with h := true, v := v }

/-- Every half is a node's number. -/
def OkT (ts : List Nd) : Prop := ∀ i, i < ts.length → (0 ≤ (nAt ts i).z ∧ (nAt ts i).z < ts.length) ∧ (0 ≤ (nAt ts i).o ∧ (nAt ts i).o < ts.length)

theorem nAt_set {ts : List Nd} {i j : Nat} {n : Nd} (hi : i < ts.length) : nAt (ts.set i n) j = if j = i then n else nAt ts j := by
  unfold nAt
  rw [List.getD_eq_getElem?_getD, List.getD_eq_getElem?_getD, List.getElem?_set]
  by_cases h : j = i
  · subst h; simp [hi]
  · rw [if_neg (fun e => h e.symm), if_neg h]
theorem nAt_app {ts : List Nd} {j : Nat} {n : Nd} : nAt (ts ++ [n]) j = if j < ts.length then nAt ts j else if j = ts.length then n else nd0 := by
  unfold nAt
  rw [List.getD_eq_getElem?_getD, List.getD_eq_getElem?_getD, List.getElem?_append]
  by_cases h : j < ts.length
  · rw [if_pos h, if_pos h]
  · rw [if_neg h, if_neg h]
    by_cases e : j = ts.length
    · subst e; simp
    · rw [if_neg e, List.getElem?_eq_none (by simp; omega)]; rfl

structure InsOk (ts : List Nd) (k : Nat) (s : List Nd × Nat) : Prop where
  ok : OkT s.1
  lt : s.2 < s.1.length
  len : ts.length ≤ s.1.length ∧ s.1.length ≤ ts.length + k

theorem OkT.half {ts : List Nd} (h : OkT ts) {i : Nat} (hi : i < ts.length) (bit : Int) : 0 ≤ halfOf (nAt ts i) bit ∧ halfOf (nAt ts i) bit < ts.length := by
  unfold halfOf halfN
  have := h i hi
  split <;> omega

theorem insStep_ok {ts : List Nd} {k : Nat} {s : List Nd × Nat} (h : InsOk ts k s) (bit : Int) : InsOk ts (k + 1) (insStep bit s) := by
  obtain ⟨ok, lt, len⟩ := h
  unfold insStep
  split
  · refine ⟨?_, by simp, by simp; omega⟩
    intro i hi
    simp only [List.length_append, List.length_set, List.length_cons, List.length_nil] at hi ⊢
    rw [nAt_app, List.length_set]
    by_cases h1 : i < s.1.length
    · rw [if_pos h1, nAt_set lt]
      by_cases h2 : i = s.2
      · rw [if_pos h2]
        have := ok s.2 lt
        unfold setHalf
        split <;> (dsimp only; omega)
      · rw [if_neg h2]
        have := ok i h1
        omega
    · rw [if_neg h1, if_pos (by omega)]
      simp only [nd0]
      omega
  · have := ok.half lt bit
    exact ⟨ok, by dsimp only; omega, by dsimp only; omega⟩
theorem insTo_ok {ts : List Nd} (h : OkT ts) (h0 : 0 < ts.length) (a : Int) (k : Nat) : InsOk ts k (insTo a ts k) := by
  induction k with
  | zero => exact ⟨h, h0, Nat.le_refl _, by simp [insTo]⟩
  | succ k ih => exact insStep_ok ih _
theorem insT_len {ts : List Nd} (h : OkT ts) (h0 : 0 < ts.length) (a : Int) (l : Nat) (v : Int) : ts.length ≤ (insT a l v ts).length ∧ (insT a l v ts).length ≤ ts.length + l := by
  unfold insT
  rw [List.length_set]
  exact (insTo_ok h h0 a l).len
theorem insT_ok {ts : List Nd} (h : OkT ts) (h0 : 0 < ts.length) (a : Int) (l : Nat) (v : Int) : OkT (insT a l v ts) := by
  have hi := insTo_ok h h0 a l
  intro i hil
  unfold insT at hil ⊢
  rw [List.length_set] at hil ⊢
  rw [nAt_set hi.lt]
  by_cases e : i = (insTo a ts l).2
  · rw [if_pos e]
    exact hi.ok _ hi.lt
  · rw [if_neg e]
    exact hi.ok i hil

/-- A node's cells, and a list's. -/
def ndc (n : Nd) : List Value := [.int .i64 n.z, .int .i64 n.o, .bool n.h, .int .i64 n.v]
def tcells (ts : List Nd) : List Value := ts.flatMap ndc
theorem tc_cons (n : Nd) (ts : List Nd) : tcells (n :: ts) = .int .i64 n.z :: .int .i64 n.o :: .bool n.h :: .int .i64 n.v :: tcells ts := rfl
theorem tc_len (ts : List Nd) : (tcells ts).length = ts.length * 4 := by
  induction ts with
  | nil => rfl
  | cons n ts ih => rw [tc_cons]; simp only [List.length_cons, ih]; omega
theorem tc_app (ts : List Nd) (n : Nd) : tcells (ts ++ [n]) = tcells ts ++ ndc n := by
  unfold tcells
  rw [List.flatMap_append]
  simp
theorem nAt_cons (n : Nd) (ts : List Nd) (i : Nat) : nAt (n :: ts) (i + 1) = nAt ts i := by simp [nAt]
theorem tc_at {ts : List Nd} {i : Nat} (h : i < ts.length) : (tcells ts)[i * 4]? = some (.int .i64 (nAt ts i).z) ∧ (tcells ts)[i * 4 + 1]? = some (.int .i64 (nAt ts i).o) ∧ (tcells ts)[i * 4 + 2]? = some (.bool (nAt ts i).h) ∧ (tcells ts)[i * 4 + 3]? = some (.int .i64 (nAt ts i).v) := by
  induction ts generalizing i with
  | nil => simp at h
  | cons n ts ih =>
    cases i with
    | zero => exact ⟨rfl, rfl, rfl, rfl⟩
    | succ i =>
      have h1 := ih (i := i) (by simpa using h)
      rw [nAt_cons, tc_cons]
      have e : (i + 1) * 4 = i * 4 + 4 := by omega
      rw [e]
      exact h1
theorem tc_set {ts : List Nd} {i : Nat} (h : i < ts.length) (x : Int) (b : Bool) :
    (tcells ts).set (i * 4) (.int .i64 x) = tcells (ts.set i { nAt ts i with z := x }) ∧ (tcells ts).set (i * 4 + 1) (.int .i64 x) = tcells (ts.set i { nAt ts i with o := x }) ∧
    (tcells ts).set (i * 4 + 2) (.bool b) = tcells (ts.set i { nAt ts i with h := b }) ∧ (tcells ts).set (i * 4 + 3) (.int .i64 x) = tcells (ts.set i { nAt ts i with v := x }) := by
  induction ts generalizing i with
  | nil => simp at h
  | cons n ts ih =>
    cases i with
    | zero => exact ⟨rfl, rfl, rfl, rfl⟩
    | succ i =>
      obtain ⟨h1, h2, h3, h4⟩ := ih (i := i) (by simpa using h)
      simp only [nAt_cons, List.set_cons_succ, tc_cons]
      have e : (i + 1) * 4 = i * 4 + 4 := by omega
      rw [e]
      refine ⟨?_, ?_, ?_, ?_⟩
      · rw [← h1]; rfl
      · rw [← h2]; rfl
      · rw [← h3]; rfl
      · rw [← h4]; rfl

/-- The list ts lies in memory of one's own. -/
def OwnT (base : Nat) (v : Value) (ts : List Nd) (w : World) : Prop := w.ownsRow base 70 4 v ts.length (tcells ts)
theorem ownT_below {w w' : World} {base : Nat} {v : Value} {ts : List Nd} (h : OwnT base v ts w) (hb : Below w.heap.size w w') : OwnT base v ts w' :=
  World.ownsRow.kept h (row := none) ⟨hb.os, hb.tape, hb.output, hb.size, fun k hk _ => hb.block k hk⟩ (by cases hv : v.ownBlock with
    | none => exact .inl rfl
    | some b => exact .inr (by simp))
theorem ownT_shape {w : World} {base : Nat} {v : Value} {ts : List Nd} (h : OwnT base v ts w) (h0 : 0 < ts.length) : ∃ g cap, v = .slice (some ⟨g, 0, none⟩) ts.length cap ∧ base ≤ g ∧ g < w.heap.size := by
  rcases h.2 with ⟨_, h1⟩ | ⟨g, cap, cur, rfl, hb, hg, _⟩
  · omega
  · exact ⟨g, cap, rfl, hb, (Array.getElem?_eq_some_iff.1 hg).1⟩
theorem ownT_at {w : World} {base g cap : Nat} {ts : List Nd} (h : OwnT base (.slice (some ⟨g, 0, none⟩) ts.length cap) ts w) {i : Nat} (hi : i < ts.length) :
    (w.cell? ⟨g, i * 4, none⟩ = some (.int .i64 (nAt ts i).z) ∧ w.cell? ⟨g, i * 4 + 1, none⟩ = some (.int .i64 (nAt ts i).o) ∧ w.cell? ⟨g, i * 4 + 2, none⟩ = some (.bool (nAt ts i).h) ∧ w.cell? ⟨g, i * 4 + 3, none⟩ = some (.int .i64 (nAt ts i).v)) ∧
    (∀ j, w.frozen? ⟨g, j, none⟩ = false) := by
  obtain ⟨h0, h1, h2, h3⟩ := tc_at hi
  have hc := fun j hj => World.ownsRow.cellAt (show w.ownsRow base _ 4 (.slice (some ⟨g, 0, none⟩) ts.length cap) ts.length (tcells ts) from h) j hj
  exact ⟨⟨(hc _ (by omega)).trans h0, (hc _ (by omega)).trans h1, (hc _ (by omega)).trans h2, (hc _ (by omega)).trans h3⟩, fun j => World.ownsRow.frozenAt (show w.ownsRow base _ 4 (.slice (some ⟨g, 0, none⟩) ts.length cap) ts.length (tcells ts) from h) j⟩
theorem ownT_row {w : World} {base g cap : Nat} {ts : List Nd} (h : OwnT base (.slice (some ⟨g, 0, none⟩) ts.length cap) ts w) (hg : g < w.heap.size) : RowT (some ⟨g, 0, none⟩) ts.length (nAt ts) w := by
  intro i hi
  obtain ⟨⟨h0, h1, h2, h3⟩, _⟩ := ownT_at h hi
  exact ⟨g, 0, rfl, hg, by simpa using h0, by simpa using h1, by simpa using h2, by simpa using h3⟩
theorem ownT_set {w : World} {base g cap : Nat} {ts : List Nd} (h : OwnT base (.slice (some ⟨g, 0, none⟩) ts.length cap) ts w) {j : Nat} {u : Value} {ts' : List Nd} (he : (tcells ts).set j u = tcells ts') (hl : ts'.length = ts.length) :
    OwnT base (.slice (some ⟨g, 0, none⟩) ts'.length cap) ts' (w.setCell ⟨g, j, none⟩ u) := by
  unfold OwnT at h ⊢
  rw [hl, ← he]
  exact (World.ownsRow.stored h j u).1
theorem rowT_cells {w : World} {b off : Nat} {ts : List Nd} (h : RowT (some ⟨b, off, none⟩) ts.length (nAt ts) w) : ∀ j u, (tcells ts)[j]? = some u → w.cell? ((⟨b, off, none⟩ : Addr).add j) = some u := by
  intro j u hu
  have hj : j < ts.length * 4 := by
    have := (List.getElem?_eq_some_iff.1 hu).1
    rwa [tc_len] at this
  have hi : j / 4 < ts.length := by omega
  obtain ⟨b', off', hbo, _, h0, h1, h2, h3⟩ := h (j / 4) hi
  simp only [Option.some.injEq, Addr.mk.injEq, and_true] at hbo
  obtain ⟨rfl, rfl⟩ := hbo
  obtain ⟨t0, t1, t2, t3⟩ := tc_at hi
  have hadd : (⟨b, off, none⟩ : Addr).add j = ⟨b, off + j, none⟩ := by
    simp only [Addr.add]
    split
    · rename_i h; rw [h]; rfl
    · rfl
  rw [hadd]
  rcases (show j = j / 4 * 4 ∨ j = j / 4 * 4 + 1 ∨ j = j / 4 * 4 + 2 ∨ j = j / 4 * 4 + 3 by omega) with e | e | e | e
  · rw [e, t0] at hu; rw [e]; rw [h0]; exact hu
  · rw [e, t1] at hu; rw [e]; rw [← Nat.add_assoc, h1]; exact hu
  · rw [e, t2] at hu; rw [e]; rw [← Nat.add_assoc, h2]; exact hu
  · rw [e, t3] at hu; rw [e]; rw [← Nat.add_assoc, h3]; exact hu
theorem tc_one (ts : List Nd) : ∀ u ∈ tcells ts, u.oneCell' = true := by
  intro u hu
  unfold tcells at hu
  rw [List.mem_flatMap] at hu
  obtain ⟨n, _, hn⟩ := hu
  simp only [ndc, List.mem_cons, List.not_mem_nil, or_false] at hn
  rcases hn with rfl | rfl | rfl | rfl <;> rfl
end Go.Proofs.Ytjmflkheaioboab
