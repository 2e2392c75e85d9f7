/- Sessions in plain words: which are good, what an event makes of one, what is told. -/
import Derived.Test.YtjfalfjadleegaaFlatInt
namespace Go.Proofs.Ytjfalfjadleegaa
open Go.RowKit

/-- A session. -/
structure Se where
  st : Int
  ho : Int
  le : Int
  qu : Int
  up : Int
/-- A session as a value. -/
abbrev Se.v (s : Se) : Value := .agg #[.int .i64 s.st, .int .i64 s.ho, .int .i64 s.le, .int .i64 s.qu, .int .i64 s.up]
/-- A session is good. -/
def GS (s : Se) : Prop := (0 ≤ s.st ∧ s.st ≤ 4) ∧ (3 ≤ s.ho ∧ s.ho ≤ 90) ∧ (0 ≤ s.up ∧ s.up ≤ 1000) ∧ (s.st < 2 → s.le = 0) ∧ (2 ≤ s.st → 1 ≤ s.le ∧ s.le ≤ 90) ∧ (s.st < 3 → s.qu = 0) ∧ (3 ≤ s.st → 1 ≤ s.qu ∧ s.qu ≤ 30)
instance (s : Se) : Decidable (GS s) := by unfold GS; infer_instance
def gsB (s : Se) : Bool := decide (GS s)
theorem gsB_t {s : Se} (h : GS s) : gsB s = true := decide_eq_true h
theorem gsB_f {s : Se} (h : ¬ GS s) : gsB s = false := decide_eq_false h
/-- An event is good. -/
def GE (k n : Int) : Prop := (k = 5 → 0 ≤ n ∧ n ≤ 100) ∧ (k ≠ 5 → 1 ≤ k ∧ k ≤ 10 ∧ n = 0)
instance (k n : Int) : Decidable (GE k n) := by unfold GE; infer_instance
def geB (k n : Int) : Bool := decide (GE k n)
theorem geB_t {k n : Int} (h : GE k n) : geB k n = true := decide_eq_true h
theorem geB_f {k n : Int} (h : ¬ GE k n) : geB k n = false := decide_eq_false h
/-- A new session. -/
def newB (h : Int) : Bool := decide (3 ≤ h ∧ h ≤ 90)
def newS (h : Int) : Se := if 3 ≤ h ∧ h ≤ 90 then ⟨0, h, 0, 0, 0⟩ else ⟨0, 0, 0, 0, 0⟩
theorem new_t {h : Int} (g : 3 ≤ h ∧ h ≤ 90) : newB h = true ∧ newS h = ⟨0, h, 0, 0, 0⟩ := ⟨decide_eq_true g, if_pos g⟩
theorem new_f {h : Int} (g : ¬ (3 ≤ h ∧ h ≤ 90)) : newB h = false ∧ newS h = ⟨0, 0, 0, 0, 0⟩ := ⟨decide_eq_false g, if_neg g⟩
/-- A tick. -/
def tick (s : Se) : Se × Int :=
  if s.st < 2 then (s, 0)
  else if s.le = 1 then (⟨0, s.ho, 0, 0, s.up⟩, 3)
  else if s.st = 2 then (⟨s.st, s.ho, s.le - 1, s.qu, s.up⟩, 0)
  else if s.qu = 1 then (⟨s.st, s.ho, s.le - 1, s.ho / 3, s.up⟩, 4)
  else (⟨s.st, s.ho, s.le - 1, s.qu - 1, s.up⟩, 0)
/-- What an event makes of a session, and what is told (0: nothing). -/
def stp (s : Se) (k n : Int) : Se × Int :=
  if k = 10 then tick s
  else if k = 1 ∧ s.st = 0 then (⟨1, s.ho, 0, 0, s.up⟩, 0)
  else if k = 3 ∧ s.st = 1 then (⟨2, s.ho, 90, 0, s.up⟩, 1)
  else if k = 4 ∧ 2 ≤ s.st then (⟨1, s.ho, 0, 0, s.up⟩, 0)
  else if k = 9 ∧ 2 ≤ s.st then (⟨0, s.ho, 0, 0, s.up⟩, 0)
  else if k = 2 ∧ s.st < 2 then (⟨0, s.ho, 0, 0, s.up⟩, 0)
  else if s.st < 2 then (s, 0)
  else if k = 5 ∧ s.st = 2 ∧ 3 ≤ n then (if n < s.ho then (⟨3, n, n, n / 3, s.up⟩, 4) else (⟨3, s.ho, s.ho, s.ho / 3, s.up⟩, 4))
  else if k = 7 ∧ s.st = 3 ∧ s.up < 1000 then (⟨4, s.ho, s.ho, s.qu, s.up + 1⟩, 0)
  else if (k = 7 ∧ 3 ≤ s.st) ∨ (k = 8 ∧ s.st = 4) then (⟨4, s.ho, s.ho, s.qu, s.up⟩, 0)
  else (⟨0, s.ho, 0, 0, s.up⟩, 3)
theorem stp_gs {s : Se} (k n : Int) (h : GS s) : GS (stp s k n).1 := by
  obtain ⟨x0, x1, x2, x3, x4⟩ := s
  unfold GS at *
  simp only [stp, tick] at *
  repeat' split
  all_goals (refine ⟨⟨?_, ?_⟩, ⟨?_, ?_⟩, ⟨?_, ?_⟩, fun _ => ?_, fun _ => ⟨?_, ?_⟩, fun _ => ?_, fun _ => ⟨?_, ?_⟩⟩ <;> dsimp only at * <;> omega)
/-- What was told, as a list. -/
def tl12 (t : Int) : List Int := if t = 0 then [] else [t]
/-- The answer's list of what was told: nothing, or one number in memory of its own. -/
def TB (base : Nat) (v : Value) (t : Int) (w : World) : Prop := (t = 0 ∧ v = .slice none 0 0) ∨ (t ≠ 0 ∧ ∃ g, v = .slice (some ⟨g, 0, none⟩) 1 1 ∧ base ≤ g ∧ OutInt g 1 1 (fun _ => t) w)
theorem TB.nil (base : Nat) (w : World) : TB base (.slice none 0 0) 0 w := .inl ⟨rfl, rfl⟩
theorem OutInt.one (w : World) (x : Int) (t : TypeId) : OutInt w.heap.size 1 1 (fun _ => x) (w.alloc (.cells #[.int .i64 x] t)) := by
  refine ⟨by simp, fun i hi => ?_⟩
  obtain rfl : i = 0 := by omega
  refine ⟨⟨x, ?_, fun _ => rfl⟩, ?_⟩ <;> simp [go_sem]
theorem TB.one {base : Nat} {x : Int} {w : World} {t : TypeId} (hx : x ≠ 0) (hb : base ≤ w.heap.size) : TB base (.slice (some ⟨w.heap.size, 0, none⟩) 1 1) x (w.alloc (.cells #[.int .i64 x] t)) :=
  .inr ⟨hx, _, rfl, hb, OutInt.one w x t⟩
theorem TB.one' {base : Nat} {x : Int} {w : World} {t : TypeId} {g : Nat} (hx : x ≠ 0) (hg : g = w.heap.size) (hb : base ≤ g) : TB base (.slice (some ⟨g, 0, none⟩) 1 1) x (w.alloc (.cells #[.int .i64 x] t)) := by
  subst hg
  exact TB.one hx hb
theorem TB.below {base : Nat} {v : Value} {t : Int} {w w' : World} (h : TB base v t w) (hb : Below w.heap.size w w') : TB base v t w' := by
  rcases h with h | ⟨h0, g, h1, h2, h3⟩
  · exact .inl h
  · exact .inr ⟨h0, g, h1, h2, h3.below hb⟩
theorem TB.base {base base' : Nat} {v : Value} {t : Int} {w : World} (h : TB base v t w) (hb : base' ≤ base) : TB base' v t w := by
  rcases h with h | ⟨h0, g, h1, h2, h3⟩
  · exact .inl h
  · exact .inr ⟨h0, g, h1, Nat.le_trans hb h2, h3⟩
theorem TB.set {base : Nat} {v : Value} {t : Int} {w : World} (h : TB base v t w) {b : Nat} (hb : b < base) (o : Nat) (u : Value) : TB base v t (w.setCell ⟨b, o, none⟩ u) := by
  rcases h with h | ⟨h0, g, h1, h2, h3⟩
  · exact .inl h
  · exact .inr ⟨h0, g, h1, h2, h3.only (Only.setCell (Only.refl b w) o u) (by omega)⟩
end Go.Proofs.Ytjfalfjadleegaa
