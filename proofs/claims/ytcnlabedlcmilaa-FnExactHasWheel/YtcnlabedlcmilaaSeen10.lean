/- Pairs seen one behind another, in plain words. -/
import Derived.Test.YtcnlabedlcmilaaWheel10
namespace Go.Proofs.Ytcnlabedlcmilaa
open Go.RowKit

/-- The pairs ss are reached from x; of the first i all that they lead to is among them, and is not x. -/
def SnI (N : Nat) (U : Nat → Pl) (x : Nat × Nat) (ss : List (Nat × Nat)) (i : Nat) : Prop := x ∈ ss ∧ ss.Nodup ∧ (∀ y, y ∈ ss → Pr N U y ∧ (y = x ∨ Trn (Edg U) x y)) ∧ ∀ j z, j < i → ss[j]? = some z → ∀ y, Edg U z y → y ∈ ss ∧ y ≠ x
theorem SnI.start {N : Nat} {U : Nat → Pl} {x : Nat × Nat} (hx : Pr N U x) : SnI N U x [x] 0 :=
  ⟨by simp, by simp, fun y hy => by
    have : y = x := by simpa using hy
    rw [this]; exact ⟨hx, .inl rfl⟩, fun j z hj => absurd hj (Nat.not_lt_zero _)⟩
theorem SnI.len {N : Nat} {U : Nat → Pl} (hG : GS N U) {x : Nat × Nat} {ss : List (Nat × Nat)} {i : Nat} (h : SnI N U x ss i) : ss.length ≤ 30 := by
  have hat : ∀ q, q < ss.length → (ss[q]?.getD x) ∈ ss ∧ ss[q]? = some (ss[q]?.getD x) := by
    intro q hq
    rw [List.getElem?_eq_getElem hq]
    exact ⟨by simp, by simp⟩
  refine pigeon 30 ss.length (fun q => (((ss[q]?.getD x).1 * 6 + (ss[q]?.getD x).2 : Nat) : Int)) (fun q hq => ?_) (fun q hq r hr he => ?_)
  · have h1 := (h.2.2.1 _ (hat q hq).1).1
    have h3 := (hG.low _ h1.1).1
    have h4 := hG.2.1
    have h5 := h1.1
    have h6 := h1.2
    omega
  · have h1 := (h.2.2.1 _ (hat q hq).1).1
    have h2 := (h.2.2.1 _ (hat r (by omega)).1).1
    have h3 := (hG.low _ h1.1).1
    have h4 := (hG.low _ h2.1).1
    have h5 := h1.2
    have h6 := h2.2
    have e1 : (ss[r]?.getD x).1 = (ss[q]?.getD x).1 := by omega
    have e2 : (ss[r]?.getD x).2 = (ss[q]?.getD x).2 := by omega
    have e3 : ss[r]?.getD x = ss[q]?.getD x := Prod.ext e1 e2
    have hq2 := (hat q hq).2
    have hr2 := (hat r (by omega)).2
    rw [e3] at hr2
    have := (List.getElem?_inj (show r < ss.length by omega) h.2.1).1 (hr2.trans hq2.symm)
    omega
theorem SnI.done {N : Nat} {U : Nat → Pl} {x : Nat × Nat} {ss : List (Nat × Nat)} (h : SnI N U x ss ss.length) : ¬ Trn (Edg U) x x := by
  have hin : ∀ z, z ∈ ss → ∀ y, Edg U z y → y ∈ ss ∧ y ≠ x := by
    intro z hz y he
    obtain ⟨j, hj, e⟩ := List.getElem_of_mem hz
    exact h.2.2.2 j z hj (by rw [List.getElem?_eq_getElem hj, e]) y he
  have key : ∀ a y, Trn (Edg U) a y → a = x → y ∈ ss ∧ y ≠ x := by
    intro a y ht
    induction ht with
    | one e => intro ha; subst ha; exact hin _ h.1 _ e
    | step _ e ih => intro ha; exact hin _ (ih ha).1 _ e
  intro ht
  exact (key x x ht rfl).2 rfl
/-- Of the first j of ys all are among ss, and none is x. -/
def SnP (x : Nat × Nat) (ss ys : List (Nat × Nat)) (j : Nat) : Prop := ∀ q y, q < j → ys[q]? = some y → y ∈ ss ∧ y ≠ x
theorem SnI.put {N : Nat} {U : Nat → Pl} (hG : GS N U) {x z y : Nat × Nat} {ss : List (Nat × Nat)} {i : Nat} (h : SnI N U x ss i) (hi : i ≤ ss.length) (hz : z ∈ ss) (he : Edg U z y) (hy : y ∉ ss) : SnI N U x (ss ++ [y]) i := by
  refine ⟨by simp [h.1], ?_, fun u hu => ?_, fun j u hj hu v hv => ?_⟩
  · rw [List.nodup_append]
    exact ⟨h.2.1, by simp, fun a ha b hb e => by
      have : b = y := by simpa using hb
      subst this
      exact hy (e ▸ ha)⟩
  · rcases List.mem_append.1 hu with hu | hu
    · exact h.2.2.1 u hu
    · have : u = y := by simpa using hu
      subst this
      obtain ⟨hp, ht⟩ := h.2.2.1 z hz
      refine ⟨he.pr hG hp, .inr ?_⟩
      rcases ht with rfl | ht
      · exact .one he
      · exact .step ht he
  · rw [List.getElem?_append_left (by omega)] at hu
    obtain ⟨h1, h2⟩ := h.2.2.2 j u hj hu v hv
    exact ⟨by simp [h1], h2⟩
theorem SnP.put {x y : Nat × Nat} {ss ys : List (Nat × Nat)} {j : Nat} (h : SnP x ss ys j) (hy : ys[j]? = some y) (hx : y ≠ x) : SnP x (ss ++ [y]) ys (j + 1) := by
  intro q u hq hu
  by_cases e : q = j
  · subst e
    rw [hy] at hu
    have : y = u := by simpa using hu
    subst this
    exact ⟨by simp, hx⟩
  · obtain ⟨h1, h2⟩ := h q u (by omega) hu
    exact ⟨by simp [h1], h2⟩
theorem SnP.keep {x y : Nat × Nat} {ss ys : List (Nat × Nat)} {j : Nat} (h : SnP x ss ys j) (hy : ys[j]? = some y) (hx : y ≠ x) (hm : y ∈ ss) : SnP x ss ys (j + 1) := by
  intro q u hq hu
  by_cases e : q = j
  · subst e
    rw [hy] at hu
    have : y = u := by simpa using hu
    subst this
    exact ⟨hm, hx⟩
  · exact h q u (by omega) hu
theorem SnI.next {N : Nat} {U : Nat → Pl} {x z : Nat × Nat} {ss ys : List (Nat × Nat)} {i : Nat} (h : SnI N U x ss i) (hz : ss[i]? = some z) (hn : ∀ y, y ∈ ys ↔ Edg U z y) (hp : SnP x ss ys ys.length) : SnI N U x ss (i + 1) := by
  refine ⟨h.1, h.2.1, h.2.2.1, fun j u hj hu v hv => ?_⟩
  by_cases e : j = i
  · subst e
    rw [hz] at hu
    have : z = u := by simpa using hu
    subst this
    obtain ⟨q, hq, eq⟩ := List.getElem_of_mem ((hn v).2 hv)
    exact hp q v hq (by rw [List.getElem?_eq_getElem hq, eq])
  · exact h.2.2.2 j u (by omega) hu v hv
theorem SnI.hit {N : Nat} {U : Nat → Pl} {x z : Nat × Nat} {ss : List (Nat × Nat)} {i : Nat} (h : SnI N U x ss i) (hz : z ∈ ss) (he : Edg U z x) : Trn (Edg U) x x := by
  rcases (h.2.2.1 z hz).2 with rfl | ht
  · exact .one he
  · exact .step ht he
end Go.Proofs.Ytcnlabedlcmilaa
