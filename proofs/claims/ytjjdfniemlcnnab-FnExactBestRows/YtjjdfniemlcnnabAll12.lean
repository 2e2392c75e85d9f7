/- BestBy of the specification. -/
import Derived.Test.YtjjdfniemlcnnabAll1
import Derived.Test.YtjjdfniemlcnnabMemN
import Derived.Test.YtjjdfniemlcnnabAll4
import Derived.Test.YtjjdfniemlcnnabS8c
import Derived.Test.YtjjdfniemlcnnabAll5
/- Rising lists of numbers, plain. -/
namespace Go.Proofs.Ytjjdfniemlcnnab

def hasN (l : List Int) (x : Int) : Bool := l.any (· == x)
theorem hasN_iff {l : List Int} {x : Int} : hasN l x = true ↔ x ∈ l := by simp [hasN]
def putN : List Int → Int → List Int
  | [], n => [n]
  | a :: l, n => if a < n then a :: putN l n else if a = n then a :: l else n :: a :: l
def UpN (l : List Int) : Prop := l.Pairwise (· < ·)
def InN (l : List Int) : Prop := ∀ x ∈ l, 0 ≤ x ∧ x < 80
theorem mem_put (l : List Int) (n x : Int) : x ∈ putN l n ↔ x = n ∨ x ∈ l := by
  induction l with
  | nil => simp [putN]
  | cons a l ih =>
    unfold putN
    split
    · rw [List.mem_cons, ih, List.mem_cons]
      constructor
      · rintro (h | h | h)
        · exact .inr (.inl h)
        · exact .inl h
        · exact .inr (.inr h)
      · rintro (h | h | h)
        · exact .inr (.inl h)
        · exact .inl h
        · exact .inr (.inr h)
    · split
      · rename_i e
        rw [List.mem_cons]
        constructor
        · exact .inr
        · rintro (h | h)
          · exact .inl (h.trans e.symm)
          · exact h
      · rw [List.mem_cons]
theorem up_put {l : List Int} (n : Int) (h : UpN l) : UpN (putN l n) := by
  induction l with
  | nil => simp [putN, UpN]
  | cons a l ih =>
    unfold UpN at h ih ⊢
    rw [List.pairwise_cons] at h
    unfold putN
    split
    · rename_i ha
      rw [List.pairwise_cons]
      refine ⟨fun x hx => ?_, ih h.2⟩
      rcases (mem_put l n x).1 hx with rfl | hx
      · exact ha
      · exact h.1 x hx
    · split
      · exact List.pairwise_cons.2 h
      · rename_i h1 h2
        refine List.pairwise_cons.2 ⟨fun x hx => ?_, List.pairwise_cons.2 h⟩
        rcases List.mem_cons.1 hx with rfl | hx
        · omega
        · have := h.1 x hx
          omega
theorem in_put {l : List Int} {n : Int} (h : InN l) (hn : 0 ≤ n ∧ n < 80) : InN (putN l n) := by
  intro x hx
  rcases (mem_put l n x).1 hx with rfl | hx
  · exact hn
  · exact h x hx
theorem put_len (l : List Int) (n : Int) : putN l n = l ∨ (putN l n).length = l.length + 1 := by
  induction l with
  | nil => exact .inr rfl
  | cons a l ih =>
    unfold putN
    split
    · rcases ih with h | h
      · exact .inl (by rw [h])
      · exact .inr (by simp [h])
    · split
      · exact .inl rfl
      · exact .inr (by simp)
theorem up_len {l : List Int} {a b : Int} (hu : UpN l) (hi : ∀ x ∈ l, a ≤ x ∧ x < b) (hab : a ≤ b) : (l.length : Int) ≤ b - a := by
  induction l generalizing a with
  | nil => simp; omega
  | cons c l ih =>
    unfold UpN at hu ih
    rw [List.pairwise_cons] at hu
    have hc := hi c (List.mem_cons_self ..)
    have k := ih (a := c + 1) hu.2 (fun x hx => ⟨by have := hu.1 x hx; omega, (hi x (List.mem_cons_of_mem _ hx)).2⟩) (by omega)
    rw [List.length_cons]
    omega
theorem in_len {l : List Int} (hu : UpN l) (hi : InN l) : l.length ≤ 80 := by
  have := up_len hu hi (by omega)
  omega
end Go.Proofs.Ytjjdfniemlcnnab

/- What the specification's l1Has answers at numbers in memory. -/
namespace Go.Proofs.Ytjjdfniemlcnnab
open Go.RowKit

theorem hasN_next {l : List Int} {x : Int} {k : Nat} (hk : k < l.length) (h : hasN (l.take k) x = false) (e : (l.getD k 0 == x) = false) : hasN (l.take (k + 1)) x = false := by
  rw [List.take_add_one, List.getElem?_eq_getElem hk]
  rw [show l.getD k 0 = l[k] by simp [List.getD_eq_getElem?_getD, List.getElem?_eq_getElem hk]] at e
  simp only [hasN, Option.toList_some, List.any_append, List.any_cons, List.any_nil, Bool.or_false, e]
  exact h
theorem hasN_at {l : List Int} {x : Int} {k : Nat} (hk : k < l.length) (e : (l.getD k 0 == x) = true) : hasN l x = true := by
  rw [show l.getD k 0 = l[k] by simp [List.getD_eq_getElem?_getD, List.getElem?_eq_getElem hk]] at e
  rw [hasN_iff, ← eq_of_beq e]
  exact List.getElem_mem hk
set_option maxRecDepth 100000 in
set_option maxHeartbeats 800000 in
theorem s_l1Has (a : Option Addr) (L : List Int) (c : Nat) (x : Int) (w : World) (hl : L.length ≤ 1048576) (R : RowN .i64 a L w) :
    Calls Try.prog 36 #[.slice a L.length c, .int .i64 x] w fun e w' => e = .returned (.bool (hasN L x)) ∧ w' = w := by
  generalize hn : L.length = n at *
  go_enter Try.func36, Try.ntmps36
  go_wp2_with fail
  go_loop [4, 9] (fun _ i => ∃ k : Nat, k ≤ n ∧ i = .int .i64 k ∧ hasN (L.take k) x = false) (fun _ i => n - (intOf i).toNat)
  case atStart => exact ⟨0, Nat.zero_le _, rfl, rfl⟩
  case round =>
    obtain ⟨k, hk, rfl, hno⟩ := hrel
    by_cases hlt : k < n
    · obtain ⟨b, off, rfl, hbw, e0⟩ := R k (by omega)
      have hlt' : (k : Int) < (n : Int) := by omega
      by_cases he : (L.getD k 0 == x) = true
      · have hS := hide (hasN_at (by omega) he)
        clear hno R
        generalize L.getD k 0 = y at *
        go_wp2_with fail
        go_ret
        exact ⟨congrArg (fun b => Ending.returned (.bool b)) hS.out.symm, rfl⟩
      · have he : (L.getD k 0 == x) = false := by simpa using he
        have hS := hide (hasN_next (by omega) hno he)
        clear hno R
        generalize L.getD k 0 = y at *
        go_wp2_with fail
        exact ⟨⟨k + 1, by omega, by go_num, hS.out⟩, by simp [intOf]; omega⟩
    · have hS : Hid (hasN L x = false) := by
        rw [List.take_of_length_le (by omega)] at hno
        exact hno
      have hlt' : ¬ (k : Int) < (n : Int) := by omega
      clear hno R
      go_wp2_with fail
      go_ret
      exact ⟨congrArg (fun b => Ending.returned (.bool b)) hS.out.symm, rfl⟩
end Go.Proofs.Ytjjdfniemlcnnab

namespace Go.Proofs.Ytjjdfniemlcnnab
open Go.RowKit

theorem s_hasI (a : Option Addr) (n c : Nat) (g : Nat → Int) (x : Int) (w : World) (hl : n ≤ 1048576) (hR : RowInt a n g w) :
    Calls Try.prog 36 #[.slice a n c, .int .i64 x] w fun e w' => e = .returned (.bool (coB n g x)) ∧ Below w.heap.size w w' := by
  have h := s_l1Has a ((List.range n).map g) c x w (by simpa using hl) hR.rowN
  have e : hasN ((List.range n).map g) x = coB n g x := by
    simp only [hasN, coB, List.any_map]
    rfl
  rw [e] at h
  simp only [List.length_map, List.length_range] at h
  refine h.mono ?_
  rintro e w' ⟨rfl, rfl⟩
  exact ⟨rfl, Below.refl _ _⟩
end Go.Proofs.Ytjjdfniemlcnnab
