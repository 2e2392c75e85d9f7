/- Rising lists of numbers, plain. -/
import Derived.Test.YtelehmkmdbhcfaaPlain1
namespace Go.Proofs.Ytelehmkmdbhcfaa

def hasN (l : List Int) (x : Int) : Bool := l.any (· == x)
theorem hasN_iff {l : List Int} {x : Int} : hasN l x = true ↔ x ∈ l := by simp [hasN]
def putN : List Int → Int → List Int
  | [], n => [n]
  | a :: l, n => if a < n then a :: putN l n else if a = n then a :: l else n :: a :: l
def UpN (l : List Int) : Prop := l.Pairwise (· < ·)
def InN (l : List Int) : Prop := ∀ x ∈ l, 0 ≤ x ∧ x < 80
theorem mem_put (l : List Int) (n x : Int) : x ∈ putN l n ↔ x = n ∨ x ∈ l := by
  induction l with
  | nil => simp [putN]
  | cons a l ih =>
    unfold putN
    split
    · rw [List.mem_cons, ih, List.mem_cons]
      constructor
      · rintro (h | h | h)
        · exact .inr (.inl h)
        · exact .inl h
        · exact .inr (.inr h)
      · rintro (h | h | h)
        · exact .inr (.inl h)
        · exact .inl h
        · exact .inr (.inr h)
    · split
      · rename_i e
        rw [List.mem_cons]
        constructor
        · exact .inr
        · rintro (h | h)
          · exact .inl (h.trans e.symm)
          · exact h
      · rw [List.mem_cons]
theorem up_put {l : List Int} (n : Int) (h : UpN l) : UpN (putN l n) := by
  induction l with
  | nil => simp [putN, UpN]
  | cons a l ih =>
    unfold UpN at h ih ⊢
    rw [List.pairwise_cons] at h
    unfold putN
    split
    · rename_i ha
      rw [List.pairwise_cons]
      refine ⟨fun x hx => ?_, ih h.2⟩
      rcases (mem_put l n x).1 hx with rfl | hx
      · exact ha
      · exact h.1 x hx
    · split
      · exact List.pairwise_cons.2 h
      · rename_i h1 h2
        refine List.pairwise_cons.2 ⟨fun x hx => ?_, List.pairwise_cons.2 h⟩
        rcases List.mem_cons.1 hx with rfl | hx
        · omega
        · have := h.1 x hx
          omega
theorem in_put {l : List Int} {n : Int} (h : InN l) (hn : 0 ≤ n ∧ n < 80) : InN (putN l n) := by
  intro x hx
  rcases (mem_put l n x).1 hx with rfl | hx
  · exact hn
  · exact h x hx
theorem put_len (l : List Int) (n : Int) : putN l n = l ∨ (putN l n).length = l.length + 1 := by
  induction l with
  | nil => exact .inr rfl
  | cons a l ih =>
    unfold putN
    split
    · rcases ih with h | h
      · exact .inl (by rw [h])
      · exact .inr (by simp [h])
    · split
      · exact .inl rfl
      · exact .inr (by simp)
theorem up_len {l : List Int} {a b : Int} (hu : UpN l) (hi : ∀ x ∈ l, a ≤ x ∧ x < b) (hab : a ≤ b) : (l.length : Int) ≤ b - a := by
  induction l generalizing a with
  | nil => simp; omega
  | cons c l ih =>
    unfold UpN at hu ih
    rw [List.pairwise_cons] at hu
    have hc := hi c (List.mem_cons_self ..)
    have k := ih (a := c + 1) hu.2 (fun x hx => ⟨by have := hu.1 x hx; omega, (hi x (List.mem_cons_of_mem _ hx)).2⟩) (by omega)
    rw [List.length_cons]
    omega
theorem in_len {l : List Int} (hu : UpN l) (hi : InN l) : l.length ≤ 80 := by
  have := up_len hu hi (by omega)
  omega
end Go.Proofs.Ytelehmkmdbhcfaa
