/- What is true of sessions that PlayEvents made: how often they were up, what they hold, and when they are given up. -/
import Derived.Test.YtencpplhlciffaaPlain12p
namespace Go.Proofs.Ytencpplhlciffaa
open Go.RowKit

/-- How many of the first m numbers are x. -/
def cntE (f : Nat → Int) (x : Int) : Nat → Nat
  | 0 => 0
  | m + 1 => cntE f x m + if f m = x then 1 else 0
theorem cntE_le (f : Nat → Int) (x : Int) : ∀ m, cntE f x m ≤ m
  | 0 => Nat.le_refl _
  | m + 1 => by
    have := cntE_le f x m
    unfold cntE
    split <;> omega
theorem stp_ups {s : Se} (k n : Int) (h : GS s) (h4 : s.st = 4 → 1 ≤ s.up) :
    ((stp s k n).1.up + (if (stp s k n).1.st = 3 then 1 else 0) ≤ s.up + (if s.st = 3 then 1 else 0) + (if k = 5 then 1 else 0)) ∧
    ((stp s k n).1.up ≤ s.up + (if k = 7 then 1 else 0)) ∧ ((stp s k n).1.st = 4 → 1 ≤ (stp s k n).1.up) ∧ (stp s k n).1.ho ≤ s.ho := by
  obtain ⟨x0, x1, x2, x3, x4⟩ := s
  unfold GS at h
  dsimp only at h h4
  generalize hp : stp ⟨x0, x1, x2, x3, x4⟩ k n = p
  simp only [stp, tick] at hp
  repeat' (split at hp)
  all_goals (subst hp; dsimp only; refine ⟨?_, ?_, ?_, ?_⟩)
  all_goals (first | omega | (intro hh; omega) | ((repeat' split) <;> omega))
/-- What is kept of all rows of events. -/
theorem plE_ups {h : Int} (g : 3 ≤ h ∧ h ≤ 90) (f0 f1 : Nat → Int) : ∀ m, (plE h f0 f1 m).1.up + (if (plE h f0 f1 m).1.st = 3 then 1 else 0) ≤ (cntE f0 5 m : Int) ∧ (plE h f0 f1 m).1.up ≤ (cntE f0 7 m : Int) ∧ ((plE h f0 f1 m).1.st = 4 → 1 ≤ (plE h f0 f1 m).1.up) ∧ (plE h f0 f1 m).1.ho ≤ h
  | 0 => by simp [plE, cntE]
  | m + 1 => by
    obtain ⟨i1, i2, i3, i4⟩ := plE_ups g f0 f1 m
    obtain ⟨j1, j2, j3, j4⟩ := stp_ups (f0 m) (f1 m) (plE_gs g f0 f1 m) i3
    rw [plE_succ]
    generalize (stp (plE h f0 f1 m).1 (f0 m) (f1 m)).1 = s' at *
    generalize (plE h f0 f1 m).1 = s at *
    unfold cntE
    refine ⟨?_, ?_, j3, by omega⟩
    · split at j1 <;> split at j1 <;> split at j1 <;> simp_all <;> omega
    · split at j2 <;> simp_all <;> omega
/-- Ticks alone. -/
def itT (s : Se) : Nat → Se
  | 0 => s
  | k + 1 => (tick (itT s k)).1
theorem tick_gs {s : Se} (h : GS s) : GS (tick s).1 := by
  have := stp_gs 10 0 h
  rwa [show stp s 10 0 = tick s by simp [stp]] at this
theorem itT_gs {s : Se} (h : GS s) : ∀ k, GS (itT s k)
  | 0 => h
  | k + 1 => tick_gs (itT_gs h k)
theorem tick_left {s : Se} (h : GS s) (h2 : 2 ≤ s.st) (h1 : 1 < s.le) : 2 ≤ (tick s).1.st ∧ (tick s).1.le = s.le - 1 := by
  obtain ⟨x0, x1, x2, x3, x4⟩ := s
  unfold GS at h
  simp only [tick] at *
  repeat' split
  all_goals (refine ⟨?_, ?_⟩ <;> dsimp only at * <;> omega)
theorem tick_last {s : Se} (h2 : 2 ≤ s.st) (h1 : s.le = 1) : (tick s).1.st = 0 := by
  unfold tick
  rw [if_neg (by omega), if_pos h1]
theorem itT_left {s : Se} (h : GS s) (h2 : 2 ≤ s.st) : ∀ k : Nat, (k : Int) < s.le → 2 ≤ (itT s k).st ∧ (itT s k).le = s.le - k
  | 0, _ => ⟨h2, by simp [itT]⟩
  | k + 1, hk => by
    obtain ⟨i1, i2⟩ := itT_left h h2 k (by omega)
    obtain ⟨j1, j2⟩ := tick_left (itT_gs h k) i1 (by omega)
    exact ⟨j1, by show (tick (itT s k)).1.le = _; rw [j2, i2]; push_cast; omega⟩
theorem itT_last {s : Se} (h : GS s) (h2 : 2 ≤ s.st) (k : Nat) (hk : (k : Int) = s.le) : (itT s k).st = 0 := by
  have h1 : 1 ≤ s.le := by unfold GS at h; omega
  obtain ⟨j, rfl⟩ : ∃ j, k = j + 1 := ⟨k - 1, by omega⟩
  obtain ⟨i1, i2⟩ := itT_left h h2 j (by omega)
  exact tick_last i1 (by rw [i2]; omega)
theorem ge_tick : GE 10 0 := by unfold GE; omega
end Go.Proofs.Ytencpplhlciffaa
