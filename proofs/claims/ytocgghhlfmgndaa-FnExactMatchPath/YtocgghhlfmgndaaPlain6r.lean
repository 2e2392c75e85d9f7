/- States held, plain: rising lists of numbers, and the row of flags that tells the same. -/
import Derived.Test.YtocgghhlfmgndaaNfa6
namespace Go.Proofs.Ytocgghhlfmgndaa

def hasN (l : List Int) (x : Int) : Bool := l.any (· == x)
theorem hasN_iff {l : List Int} {x : Int} : hasN l x = true ↔ x ∈ l := by simp [hasN]
def putN : List Int → Int → List Int
  | [], n => [n]
  | a :: l, n => if a < n then a :: putN l n else if a = n then a :: l else n :: a :: l
def UpN (l : List Int) : Prop := l.Pairwise (· < ·)
def InN (l : List Int) : Prop := ∀ x ∈ l, 0 ≤ x ∧ x < 80
theorem mem_put (l : List Int) (n x : Int) : x ∈ putN l n ↔ x = n ∨ x ∈ l := by
  induction l with
  | nil => simp [putN]
  | cons a l ih =>
    unfold putN
    split
    · rw [List.mem_cons, ih, List.mem_cons]
      constructor
      · rintro (h | h | h)
        · exact .inr (.inl h)
        · exact .inl h
        · exact .inr (.inr h)
      · rintro (h | h | h)
        · exact .inr (.inl h)
        · exact .inl h
        · exact .inr (.inr h)
    · split
      · rename_i e
        rw [List.mem_cons]
        constructor
        · exact .inr
        · rintro (h | h)
          · exact .inl (h.trans e.symm)
          · exact h
      · rw [List.mem_cons]
theorem up_put {l : List Int} (n : Int) (h : UpN l) : UpN (putN l n) := by
  induction l with
  | nil => simp [putN, UpN]
  | cons a l ih =>
    unfold UpN at h ih ⊢
    rw [List.pairwise_cons] at h
    unfold putN
    split
    · rename_i ha
      rw [List.pairwise_cons]
      refine ⟨fun x hx => ?_, ih h.2⟩
      rcases (mem_put l n x).1 hx with rfl | hx
      · exact ha
      · exact h.1 x hx
    · split
      · exact List.pairwise_cons.2 h
      · rename_i h1 h2
        refine List.pairwise_cons.2 ⟨fun x hx => ?_, List.pairwise_cons.2 h⟩
        rcases List.mem_cons.1 hx with rfl | hx
        · omega
        · have := h.1 x hx
          omega
theorem in_put {l : List Int} {n : Int} (h : InN l) (hn : 0 ≤ n ∧ n < 80) : InN (putN l n) := by
  intro x hx
  rcases (mem_put l n x).1 hx with rfl | hx
  · exact hn
  · exact h x hx
theorem put_len (l : List Int) (n : Int) : putN l n = l ∨ (putN l n).length = l.length + 1 := by
  induction l with
  | nil => exact .inr rfl
  | cons a l ih =>
    unfold putN
    split
    · rcases ih with h | h
      · exact .inl (by rw [h])
      · exact .inr (by simp [h])
    · split
      · exact .inl rfl
      · exact .inr (by simp)
def stepF (l : List Int) (e : Ed) : List Int := if e.2.2.1 && hasN l e.1 then putN l e.2.1 else l
def rndF (E : List Ed) (l : List Int) : List Int := E.foldl stepF l
theorem stepF_len (l : List Int) (e : Ed) : stepF l e = l ∨ l.length < (stepF l e).length := by
  unfold stepF
  split
  · rcases put_len l e.2.1 with h | h
    · exact .inl h
    · exact .inr (by omega)
  · exact .inl rfl
theorem rndF_len (E : List Ed) (l : List Int) : rndF E l = l ∨ l.length < (rndF E l).length := by
  unfold rndF
  induction E generalizing l with
  | nil => exact .inl rfl
  | cons e E ih =>
    rw [List.foldl_cons]
    rcases stepF_len l e with h | h
    · rw [h]; exact ih l
    · rcases ih (stepF l e) with k | k
      · rw [k]; exact .inr h
      · exact .inr (by omega)
theorem rndF_same {E : List Ed} {l : List Int} (h : (rndF E l).length = l.length) : rndF E l = l := by
  rcases rndF_len E l with k | k
  · exact k
  · omega
def Tos (E : List Ed) : Prop := ∀ e ∈ E, 0 ≤ e.2.1 ∧ e.2.1 < 80
theorem stepF_ok {l : List Int} {e : Ed} (hu : UpN l) (hi : InN l) (he : 0 ≤ e.2.1 ∧ e.2.1 < 80) : UpN (stepF l e) ∧ InN (stepF l e) := by
  unfold stepF
  split
  · exact ⟨up_put _ hu, in_put hi he⟩
  · exact ⟨hu, hi⟩
theorem rndF_ok {E : List Ed} {l : List Int} (hE : Tos E) (hu : UpN l) (hi : InN l) : UpN (rndF E l) ∧ InN (rndF E l) := by
  unfold rndF
  induction E generalizing l with
  | nil => exact ⟨hu, hi⟩
  | cons e E ih =>
    rw [List.foldl_cons]
    have k := stepF_ok hu hi (hE e (List.mem_cons_self ..))
    exact ih (fun x hx => hE x (List.mem_cons_of_mem _ hx)) k.1 k.2
theorem up_len {l : List Int} {a b : Int} (hu : UpN l) (hi : ∀ x ∈ l, a ≤ x ∧ x < b) (hab : a ≤ b) : (l.length : Int) ≤ b - a := by
  induction l generalizing a with
  | nil => simp; omega
  | cons c l ih =>
    unfold UpN at hu ih
    rw [List.pairwise_cons] at hu
    have hc := hi c (List.mem_cons_self ..)
    have k := ih (a := c + 1) hu.2 (fun x hx => ⟨by have := hu.1 x hx; omega, (hi x (List.mem_cons_of_mem _ hx)).2⟩) (by omega)
    rw [List.length_cons]
    omega
theorem in_len {l : List Int} (hu : UpN l) (hi : InN l) : l.length ≤ 80 := by
  have := up_len hu hi (by omega)
  omega
/-- Closed under what is free: f rounds at most. -/
def closN (E : List Ed) : Nat → List Int → List Int
  | 0, l => l
  | f + 1, l => if (rndF E l).length = l.length then l else closN E f (rndF E l)
def closF (E : List Ed) (l : List Int) : List Int := closN E 80 l
theorem closN_fuel {E : List Ed} (hE : Tos E) (f : Nat) : ∀ (g : Nat) (l : List Int), UpN l → InN l → 80 ≤ f + l.length → 80 ≤ g + l.length → closN E f l = closN E g l := by
  have stop : ∀ l : List Int, UpN l → InN l → 80 ≤ l.length → (rndF E l).length = l.length := by
    intro l hu hi h
    have k := rndF_ok hE hu hi
    have := in_len k.1 k.2
    rcases rndF_len E l with e | e
    · rw [e]
    · omega
  induction f with
  | zero =>
    intro g l hu hi h _
    cases g with
    | zero => rfl
    | succ g => simp [closN, stop l hu hi (by omega)]
  | succ f ih =>
    intro g l hu hi h hg
    cases g with
    | zero => simp [closN, stop l hu hi (by omega)]
    | succ g =>
      unfold closN
      split
      · rfl
      · have k := rndF_ok hE hu hi
        rcases rndF_len E l with e | e
        · exact absurd (by rw [e]) ‹¬ (rndF E l).length = l.length›
        · exact ih g _ k.1 k.2 (by omega) (by omega)
theorem closF_stop {E : List Ed} {l : List Int} (h : (rndF E l).length = l.length) : closF E l = l := by simp [closF, closN, h]
theorem closF_go {E : List Ed} {l : List Int} (hE : Tos E) (hu : UpN l) (hi : InN l) (h : ¬ (rndF E l).length = l.length) : closF E l = closF E (rndF E l) := by
  have k := rndF_ok hE hu hi
  have hl : l.length < (rndF E l).length := by
    rcases rndF_len E l with e | e
    · exact absurd (by rw [e]) h
    · exact e
  unfold closF
  rw [show (80 : Nat) = 79 + 1 from rfl]
  conv => lhs; unfold closN
  rw [if_neg h]
  exact closN_fuel hE 79 _ _ k.1 k.2 (by omega) (by omega)
theorem closN_ok {E : List Ed} (hE : Tos E) (f : Nat) : ∀ l : List Int, UpN l → InN l → UpN (closN E f l) ∧ InN (closN E f l) := by
  induction f with
  | zero => exact fun l hu hi => ⟨hu, hi⟩
  | succ f ih =>
    intro l hu hi
    unfold closN
    split
    · exact ⟨hu, hi⟩
    · have k := rndF_ok hE hu hi
      exact ih _ k.1 k.2
theorem closF_ok {E : List Ed} {l : List Int} (hE : Tos E) (hu : UpN l) (hi : InN l) : UpN (closF E l) ∧ InN (closF E l) := closN_ok hE 80 l hu hi
def stepB (l : List Int) (x : Int) (o : List Int) (e : Ed) : List Int := if !e.2.2.1 && hasN l e.1 && (e.2.2.2.1 || e.2.2.2.2 == x) then putN o e.2.1 else o
def behN (E : List Ed) (l : List Int) (x : Int) : List Int := E.foldl (stepB l x) []
theorem stepB_ok {l o : List Int} {x : Int} {e : Ed} (hu : UpN o) (hi : InN o) (he : 0 ≤ e.2.1 ∧ e.2.1 < 80) : UpN (stepB l x o e) ∧ InN (stepB l x o e) := by
  unfold stepB
  split
  · exact ⟨up_put _ hu, in_put hi he⟩
  · exact ⟨hu, hi⟩
theorem behN_ok {E : List Ed} (l : List Int) (x : Int) (hE : Tos E) : UpN (behN E l x) ∧ InN (behN E l x) := by
  unfold behN
  have : ∀ (E : List Ed) (o : List Int), Tos E → UpN o → InN o → UpN (E.foldl (stepB l x) o) ∧ InN (E.foldl (stepB l x) o) := by
    intro E
    induction E with
    | nil => exact fun o _ hu hi => ⟨hu, hi⟩
    | cons e E ih =>
      intro o hE hu hi
      rw [List.foldl_cons]
      have k := stepB_ok (l := l) (x := x) hu hi (hE e (List.mem_cons_self ..))
      exact ih _ (fun x hx => hE x (List.mem_cons_of_mem _ hx)) k.1 k.2
  exact this E [] hE List.Pairwise.nil (fun x hx => absurd hx (List.not_mem_nil))
/-- What is held behind a path, and the most that was held. -/
def walkN (E : List Ed) : List Int → List Int × Nat → List Int × Nat
  | [], s => s
  | x :: p, s => walkN E p (closF E (behN E s.1 x), max s.2 (closF E (behN E s.1 x)).length)
def cntN (l : List Int) : Nat → Nat
  | 0 => 0
  | k + 1 => cntN l k + if hasN l (k : Int) then 1 else 0
theorem filt_len {l : List Int} (hu : UpN l) (k : Int) : (l.filter (fun x => decide (x < k + 1))).length = (l.filter (fun x => decide (x < k))).length + if hasN l k then 1 else 0 := by
  induction l with
  | nil => simp [hasN]
  | cons a l ih =>
    unfold UpN at hu ih
    rw [List.pairwise_cons] at hu
    have k' := ih hu.2
    by_cases e : a = k
    · subst e
      have hn : hasN l a = false := by
        rw [Bool.eq_false_iff]
        intro h
        have := hu.1 a (hasN_iff.1 h)
        omega
      rw [hn] at k'
      have : hasN (a :: l) a = true := by simp [hasN]
      rw [this]
      simp [List.filter_cons]
      rw [if_pos (by omega)]
      simp [k']
    · have : hasN (a :: l) k = hasN l k := by simp [hasN, e]
      rw [this]
      by_cases h : a < k
      · simp only [List.filter_cons, decide_eq_true h, decide_eq_true (show a < k + 1 by omega), if_true, List.length_cons]
        omega
      · simp only [List.filter_cons, decide_eq_false h, decide_eq_false (show ¬ a < k + 1 by omega)]
        simpa using k'
theorem cnt_filt {l : List Int} (hu : UpN l) (hi : InN l) (k : Nat) : cntN l k = (l.filter (fun x => decide (x < (k : Int)))).length := by
  induction k with
  | zero =>
    have : l.filter (fun x => decide (x < ((0 : Nat) : Int))) = [] := by
      rw [List.filter_eq_nil_iff]
      intro x hx
      have := hi x hx
      simp
      omega
    rw [this]; rfl
  | succ k ih =>
    rw [show (((k + 1 : Nat)) : Int) = (k : Int) + 1 from rfl, filt_len hu, cntN, ih]
theorem cnt_len {l : List Int} (hu : UpN l) (hi : InN l) : cntN l 80 = l.length := by
  rw [cnt_filt hu hi, List.filter_eq_self.2]
  intro x hx
  have := hi x hx
  simp
  omega
theorem cnt_le (l : List Int) (k : Nat) : cntN l k ≤ k := by
  induction k with
  | zero => exact Nat.le_refl _
  | succ k ih => unfold cntN; split <;> omega
/-- The row of flags. -/
def flN (l : List Int) (k : Nat) : Bool := hasN l (k : Int)
theorem flN_put {l : List Int} {n : Int} (hn : 0 ≤ n) (k : Nat) : flN (putN l n) k = (if k = n.toNat then true else flN l k) := by
  unfold flN
  split
  · rename_i e
    rw [hasN_iff, mem_put]
    exact .inl (by omega)
  · rename_i e
    rw [Bool.eq_iff_iff, hasN_iff, hasN_iff, mem_put]
    constructor
    · rintro (h | h)
      · exact absurd (by omega) e
      · exact h
    · exact .inr
theorem fl_same {l l' : List Int} (hu : UpN l) (hi : InN l) (hu' : UpN l') (hi' : InN l') (h : ∀ k, k < 80 → flN l k = flN l' k) : l.length = l'.length := by
  rw [← cnt_len hu hi, ← cnt_len hu' hi']
  have : ∀ k, k ≤ 80 → cntN l k = cntN l' k := by
    intro k
    induction k with
    | zero => exact fun _ => rfl
    | succ k ih =>
      intro hk
      have e := h k (by omega)
      unfold flN at e
      rw [cntN, cntN, ih (by omega), e]
  exact this 80 (Nat.le_refl _)
end Go.Proofs.Ytocgghhlfmgndaa
