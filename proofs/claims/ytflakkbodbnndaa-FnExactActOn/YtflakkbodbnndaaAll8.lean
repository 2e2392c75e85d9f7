/- How long what an act makes of a route is. -/
import Derived.Test.YtflakkbodbnndaaAll1
import Derived.Test.YtflakkbodbnndaaAll7
import Derived.Test.YtflakkbodbnndaaRou13
import Derived.Test.YtflakkbodbnndaaMemN
import Derived.Test.YtflakkbodbnndaaAll4
/- Policies, plain: which ranges, acts and terms are good. -/
namespace Go.Proofs.Ytflakkbodbnndaa

def rgOk (p l lo hi : Int) : Bool := goodB p l && inB lo l 32 && inB hi lo 32
def acOk (k n : Int) : Bool := if k = 5 then inB n 1 65535 else inB k 1 4 && inB n 0 1000000
theorem acOk_no {k n : Int} (h : ¬ (1 ≤ k ∧ k ≤ 5)) : acOk k n = false := by
  unfold acOk
  rw [if_neg (by omega)]
  by_cases h1 : 1 ≤ k
  · rw [inB_f2 (by omega)]; rfl
  · rw [inB_f1 h1]; rfl
def rgsB (n : Nat) (f0 f1 f2 f3 : Nat → Int) : Bool := (List.range n).all fun i => rgOk (f0 i) (f1 i) (f2 i) (f3 i)
def acsB (n : Nat) (g0 g1 : Nat → Int) : Bool := (List.range n).all fun i => acOk (g0 i) (g1 i)
/-- A term's pattern: none, or a good one. -/
def tpB (L : List Cl) : Bool := L.isEmpty || rgB L
/-- Whether a term is good. -/
def tmB (nr : Nat) (f0 f1 f2 f3 : Nat → Int) (L : List Cl) (cm : Int) (na : Nat) (g0 g1 : Nat → Int) (vd : Int) : Bool :=
  rgsB nr f0 f1 f2 f3 && decide (nr ≤ 6) && tpB L && inB cm (-1) 1000000 && acsB na g0 g1 && decide (na ≤ 5) && inB vd 0 2
theorem all_nextN {n k : Nat} {p : Nat → Bool} (h : ∀ i, i < k → p i = true) (e : p k = true) (_ : k < n) : ∀ i, i < k + 1 → p i = true := by
  intro i hi
  by_cases c : i = k
  · subst c; exact e
  · exact h i (by omega)
theorem all_true {n : Nat} {p : Nat → Bool} (h : ∀ i, i < n → p i = true) : (List.range n).all p = true := by
  rw [List.all_eq_true]
  intro i hi
  exact h i (List.mem_range.1 hi)
theorem all_false {n k : Nat} {p : Nat → Bool} (hk : k < n) (e : p k = false) : (List.range n).all p = false := by
  rw [List.all_eq_false]
  exact ⟨k, List.mem_range.2 hk, by rw [e]; decide⟩
theorem tmB_eq (nr : Nat) (f0 f1 f2 f3 : Nat → Int) (L : List Cl) (cm : Int) (na : Nat) (g0 g1 : Nat → Int) (vd : Int) :
    tmB nr f0 f1 f2 f3 L cm na g0 g1 vd = ((rgsB nr f0 f1 f2 f3 && decide (nr ≤ 6)) && tpB L && inB cm (-1) 1000000 && (acsB na g0 g1 && decide (na ≤ 5)) && inB vd 0 2) := by
  unfold tmB
  simp only [Bool.and_assoc]
theorem tpB_ne {L : List Cl} (h : L ≠ []) : tpB L = rgB L := by
  unfold tpB
  cases L with
  | nil => exact absurd rfl h
  | cons a l => rfl
theorem cm_in {c : Int} (h : ¬ c = -1) : inB c (-1) 1000000 = inB c 0 1000000 := by
  rw [Bool.eq_iff_iff]
  simp only [inB, decide_eq_true_eq]
  omega
end Go.Proofs.Ytflakkbodbnndaa

/- Rising lists of numbers, plain. -/
namespace Go.Proofs.Ytflakkbodbnndaa

def hasN (l : List Int) (x : Int) : Bool := l.any (· == x)
theorem hasN_iff {l : List Int} {x : Int} : hasN l x = true ↔ x ∈ l := by simp [hasN]
def putN : List Int → Int → List Int
  | [], n => [n]
  | a :: l, n => if a < n then a :: putN l n else if a = n then a :: l else n :: a :: l
def UpN (l : List Int) : Prop := l.Pairwise (· < ·)
def InN (l : List Int) : Prop := ∀ x ∈ l, 0 ≤ x ∧ x < 80
theorem mem_put (l : List Int) (n x : Int) : x ∈ putN l n ↔ x = n ∨ x ∈ l := by
  induction l with
  | nil => simp [putN]
  | cons a l ih =>
    unfold putN
    split
    · rw [List.mem_cons, ih, List.mem_cons]
      constructor
      · rintro (h | h | h)
        · exact .inr (.inl h)
        · exact .inl h
        · exact .inr (.inr h)
      · rintro (h | h | h)
        · exact .inr (.inl h)
        · exact .inl h
        · exact .inr (.inr h)
    · split
      · rename_i e
        rw [List.mem_cons]
        constructor
        · exact .inr
        · rintro (h | h)
          · exact .inl (h.trans e.symm)
          · exact h
      · rw [List.mem_cons]
theorem up_put {l : List Int} (n : Int) (h : UpN l) : UpN (putN l n) := by
  induction l with
  | nil => simp [putN, UpN]
  | cons a l ih =>
    unfold UpN at h ih ⊢
    rw [List.pairwise_cons] at h
    unfold putN
    split
    · rename_i ha
      rw [List.pairwise_cons]
      refine ⟨fun x hx => ?_, ih h.2⟩
      rcases (mem_put l n x).1 hx with rfl | hx
      · exact ha
      · exact h.1 x hx
    · split
      · exact List.pairwise_cons.2 h
      · rename_i h1 h2
        refine List.pairwise_cons.2 ⟨fun x hx => ?_, List.pairwise_cons.2 h⟩
        rcases List.mem_cons.1 hx with rfl | hx
        · omega
        · have := h.1 x hx
          omega
theorem in_put {l : List Int} {n : Int} (h : InN l) (hn : 0 ≤ n ∧ n < 80) : InN (putN l n) := by
  intro x hx
  rcases (mem_put l n x).1 hx with rfl | hx
  · exact hn
  · exact h x hx
theorem put_len (l : List Int) (n : Int) : putN l n = l ∨ (putN l n).length = l.length + 1 := by
  induction l with
  | nil => exact .inr rfl
  | cons a l ih =>
    unfold putN
    split
    · rcases ih with h | h
      · exact .inl (by rw [h])
      · exact .inr (by simp [h])
    · split
      · exact .inl rfl
      · exact .inr (by simp)
theorem up_len {l : List Int} {a b : Int} (hu : UpN l) (hi : ∀ x ∈ l, a ≤ x ∧ x < b) (hab : a ≤ b) : (l.length : Int) ≤ b - a := by
  induction l generalizing a with
  | nil => simp; omega
  | cons c l ih =>
    unfold UpN at hu ih
    rw [List.pairwise_cons] at hu
    have hc := hi c (List.mem_cons_self ..)
    have k := ih (a := c + 1) hu.2 (fun x hx => ⟨by have := hu.1 x hx; omega, (hi x (List.mem_cons_of_mem _ hx)).2⟩) (by omega)
    rw [List.length_cons]
    omega
theorem in_len {l : List Int} (hu : UpN l) (hi : InN l) : l.length ≤ 80 := by
  have := up_len hu hi (by omega)
  omega
end Go.Proofs.Ytflakkbodbnndaa

/- What an act makes of a route, in plain words. -/
namespace Go.Proofs.Ytflakkbodbnndaa
open Go.RowKit

/-- The lists of a route. -/
def Ro.K (t : Ro) : List Int := (List.range t.n0).map t.f
def Ro.L (t : Ro) : List Int := (List.range t.n1).map t.g
theorem Ro.K_len (t : Ro) : t.K.length = t.n0 := by simp [Ro.K]
theorem Ro.L_len (t : Ro) : t.L.length = t.n1 := by simp [Ro.L]
theorem rng_getD (L : List Int) : (List.range L.length).map (fun i => L.getD i 0) = L := by
  apply List.ext_getElem
  · simp
  · intro i h1 h2
    simp [List.getD_eq_getElem?_getD, h2]
def withL (t : Ro) (L : List Int) : Ro := { t with n1 := L.length, g := fun i => L.getD i 0 }
def withK (t : Ro) (K : List Int) : Ro := { t with n0 := K.length, f := fun i => K.getD i 0 }
theorem withL_L (t : Ro) (L : List Int) : (withL t L).L = L := rng_getD L
theorem withK_K (t : Ro) (K : List Int) : (withK t K).K = K := rng_getD K
/-- What an act of kind k with the number n makes of t. -/
def doR (k n : Int) (t : Ro) : Ro :=
  if k = 1 then { t with pf := n } else if k = 2 then { t with md := n } else if k = 3 then withL t (putN t.L n) else if k = 4 then withL t (t.L.filter (· != n)) else if k = 5 then withK t (n :: t.K) else t
/-- A list lies behind n. -/
def NewB (n : Nat) (a : Option Addr) : Prop := ∀ b off, a = some ⟨b, off, none⟩ → n ≤ b
theorem newB_at {n x : Nat} (h : n ≤ x) : NewB n (some ⟨x, 0, none⟩) := fun b off e => by
  simp only [Option.some.injEq, Addr.mk.injEq, and_true] at e
  omega
def rtOk (t : Ro) : Bool := routeB t.pa t.pl t.o t.nx t.md t.pf t.n0 t.f t.n1 t.g
/-- Whether the act can be done. -/
def aoB (k n : Int) (t : Ro) : Bool := acOk k n && (rtOk t && rtOk (doR k n t))
theorem do1 (n : Int) (t : Ro) : doR 1 n t = { t with pf := n } := rfl
theorem do2 (n : Int) (t : Ro) : doR 2 n t = { t with md := n } := rfl
theorem do3 (n : Int) (t : Ro) : doR 3 n t = withL t (putN t.L n) := rfl
theorem do4 (n : Int) (t : Ro) : doR 4 n t = withL t (t.L.filter (· != n)) := rfl
theorem do5 (n : Int) (t : Ro) : doR 5 n t = withK t (n :: t.K) := rfl
end Go.Proofs.Ytflakkbodbnndaa

namespace Go.Proofs.Ytflakkbodbnndaa
open Go.RowKit

theorem rt_small {t : Ro} (h : rtOk t = true) : t.n0 ≤ 10 ∧ t.n1 ≤ 6 := by
  simp only [rtOk, routeB, attrB, Bool.and_eq_true, decide_eq_true_eq] at h
  exact ⟨h.2.1.1.1.2, h.2.1.2⟩
theorem do_small {k n : Int} {t : Ro} (h0 : t.n0 ≤ 10) (h1 : t.n1 ≤ 6) : (doR k n t).n0 ≤ 1048576 ∧ (doR k n t).n1 ≤ 1048576 := by
  unfold doR
  have hL := Ro.L_len t
  have hK := Ro.K_len t
  split
  · exact ⟨by show t.n0 ≤ _; omega, by show t.n1 ≤ _; omega⟩
  split
  · exact ⟨by show t.n0 ≤ _; omega, by show t.n1 ≤ _; omega⟩
  split
  · refine ⟨by show t.n0 ≤ _; omega, ?_⟩
    show (putN t.L n).length ≤ _
    rcases put_len t.L n with e | e
    · rw [e]; omega
    · omega
  split
  · refine ⟨by show t.n0 ≤ _; omega, ?_⟩
    show (t.L.filter (· != n)).length ≤ _
    have := List.length_filter_le (· != n) t.L
    omega
  split
  · refine ⟨?_, by show t.n1 ≤ _; omega⟩
    show (n :: t.K).length ≤ _
    simp only [List.length_cons]
    omega
  · exact ⟨by omega, by omega⟩
theorem rowN_int {a : Option Addr} {n : Nat} {f : Nat → Int} {w : World} (h : RowN .i64 a ((List.range n).map f) w) : RowInt a n f w := by
  intro i hi
  obtain ⟨b, off, ha, hb, e⟩ := h i (by simpa using hi)
  exact ⟨b, off, ha, hb, by simpa [List.getD_eq_getElem?_getD, hi] using e⟩
theorem ac_kind {k n : Int} (h : acOk k n = true) : 1 ≤ k ∧ k ≤ 5 := by
  by_cases c : 1 ≤ k ∧ k ≤ 5
  · exact c
  · rw [acOk_no c] at h; cases h
end Go.Proofs.Ytflakkbodbnndaa
