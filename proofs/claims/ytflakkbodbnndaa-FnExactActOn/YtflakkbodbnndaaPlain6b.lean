/- Patterns of paths, plain: tidy patterns, what is behind a number, and how long they are. -/
import Derived.Test.YtflakkbodbnndaaAll7
namespace Go.Proofs.Ytflakkbodbnndaa

def mkThn (a b : Re) : Re := if a.kind == 1 || b.kind == 1 then .non else if a.kind == 2 then b else if b.kind == 2 then a else .thn a b
def mkAlt (a b : Re) : Re := if a.kind == 1 then b else if b.kind == 1 || decide (a.cells = b.cells) then a else .alt a b
def mkStr (a : Re) : Re := if a.kind == 1 || a.kind == 2 then .emp else if a.kind == 7 then a else .str a
def Re.tidy : Re → Re
  | .thn a b => mkThn a.tidy b.tidy
  | .alt a b => mkAlt a.tidy b.tidy
  | .str a => mkStr a.tidy
  | .non => .non
  | .emp => .emp
  | .one n => .one n
  | .any => .any
theorem mkThn_len (a b : Re) : (mkThn a b).cells.length ≤ 1 + a.cells.length + b.cells.length := by
  unfold mkThn
  have := a.cells_pos
  have := b.cells_pos
  split
  · simp [Re.cells]; omega
  · split
    · omega
    · split
      · omega
      · simp [Re.cells]; omega
theorem mkAlt_len (a b : Re) : (mkAlt a b).cells.length ≤ 1 + a.cells.length + b.cells.length := by
  unfold mkAlt
  split
  · omega
  · split
    · omega
    · simp [Re.cells]; omega
theorem mkStr_len (a : Re) : (mkStr a).cells.length ≤ 1 + a.cells.length := by
  unfold mkStr
  split
  · simp [Re.cells]
  · split
    · omega
    · simp [Re.cells]; omega
theorem tidy_len (t : Re) : t.tidy.cells.length ≤ t.cells.length := by
  induction t with
  | thn a b ha hb => have := mkThn_len a.tidy b.tidy; simp only [Re.tidy, Re.cells, List.length_cons, List.length_append]; omega
  | alt a b ha hb => have := mkAlt_len a.tidy b.tidy; simp only [Re.tidy, Re.cells, List.length_cons, List.length_append]; omega
  | str a ha => have := mkStr_len a.tidy; simp only [Re.tidy, Re.cells, List.length_cons]; omega
  | _ => exact Nat.le_refl _

/-- What is behind a number. -/
def Re.der (n : Int) : Re → Re
  | .one m => if m == n then .emp else .non
  | .any => .emp
  | .thn a b => if a.te then .alt (.thn (a.der n) b) (b.der n) else .thn (a.der n) b
  | .alt a b => .alt (a.der n) (b.der n)
  | .str a => .thn (a.der n) (.str a)
  | .non => .non
  | .emp => .non
theorem der_len (n : Int) (t : Re) (h : t.cells.length ≤ 30) : (t.der n).cells.length ≤ 32 * t.cells.length := by
  induction t with
  | thn a b ha hb =>
    simp only [Re.cells, List.length_cons, List.length_append] at h
    have ha := ha (by omega)
    have hb := hb (by omega)
    simp only [Re.der]
    split <;> (simp only [Re.cells, List.length_cons, List.length_append]; omega)
  | alt a b ha hb =>
    simp only [Re.cells, List.length_cons, List.length_append] at h
    have ha := ha (by omega)
    have hb := hb (by omega)
    simp only [Re.der, Re.cells, List.length_cons, List.length_append]
    omega
  | str a ha =>
    simp only [Re.cells, List.length_cons] at h
    have ha := ha (by omega)
    simp only [Re.der, Re.cells, List.length_cons, List.length_append]
    omega
  | one m => simp only [Re.der]; split <;> simp [Re.cells]
  | _ => simp [Re.der, Re.cells]
/-- The number of levels of a tree. -/
def Re.high : Re → Nat
  | .thn a b => max a.high b.high + 1
  | .alt a b => max a.high b.high + 1
  | .str a => a.high + 1
  | _ => 0

/-- An edge: from, to, free, any, number. -/
abbrev Ed := Int × Int × Bool × Bool × Int
def fr (x y : Nat) : Ed := ((x : Int), (y : Int), true, false, 0)
/-- The edges of a tree whose first cell has the number k. -/
def Re.eds : Re → Nat → List Ed
  | .non, _ => []
  | .emp, k => [fr (2 * k) (2 * k + 1)]
  | .one n, k => [(((2 * k : Nat) : Int), ((2 * k + 1 : Nat) : Int), false, false, n)]
  | .any, k => [(((2 * k : Nat) : Int), ((2 * k + 1 : Nat) : Int), false, true, 0)]
  | .thn a b, k => [fr (2 * k) (2 * (k + 1)), fr (2 * (k + 1) + 1) (2 * (k + 1 + a.cells.length)), fr (2 * (k + 1 + a.cells.length) + 1) (2 * k + 1)] ++ (a.eds (k + 1) ++ b.eds (k + 1 + a.cells.length))
  | .alt a b, k => [fr (2 * k) (2 * (k + 1)), fr (2 * k) (2 * (k + 1 + a.cells.length)), fr (2 * (k + 1) + 1) (2 * k + 1), fr (2 * (k + 1 + a.cells.length) + 1) (2 * k + 1)] ++ (a.eds (k + 1) ++ b.eds (k + 1 + a.cells.length))
  | .str a, k => [fr (2 * k) (2 * k + 1), fr (2 * k) (2 * (k + 1)), fr (2 * (k + 1) + 1) (2 * k + 1), fr (2 * (k + 1) + 1) (2 * (k + 1))] ++ a.eds (k + 1)
theorem eds_len (t : Re) : ∀ k, (t.eds k).length ≤ 4 * t.cells.length := by
  induction t with
  | thn a b ha hb => intro k; have h1 := ha (k + 1); have h2 := hb (k + 1 + a.cells.length); simp only [Re.eds, Re.cells, List.length_cons, List.length_append, List.length_nil]; omega
  | alt a b ha hb => intro k; have h1 := ha (k + 1); have h2 := hb (k + 1 + a.cells.length); simp only [Re.eds, Re.cells, List.length_cons, List.length_append, List.length_nil]; omega
  | str a ha => intro k; have h1 := ha (k + 1); simp only [Re.eds, Re.cells, List.length_cons, List.length_append, List.length_nil]; omega
  | _ => intro k; simp [Re.eds, Re.cells]
end Go.Proofs.Ytflakkbodbnndaa
