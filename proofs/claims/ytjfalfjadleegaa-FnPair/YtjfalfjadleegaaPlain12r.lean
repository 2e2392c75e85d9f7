/- Two that are up have agreed on the lesser of what both asked for, in plain words. -/
import Derived.Test.YtjfalfjadleegaaPlain12q
namespace Go.Proofs.Ytjfalfjadleegaa
open Go.RowKit

/-- What a side of a pair holds: what it asked for, then the lesser of both. -/
def Hm (a l : Int) (s : Se) : Prop := (s.st = 2 → s.ho = a) ∧ (3 ≤ s.st → s.ho = l)
theorem Hm.stp {a b : Int} {s : Se} {k n : Int} (h : Hm a (min a b) s) (h3 : k ≠ 3) (h5 : k = 5 → n = b) : Hm a (min a b) (stp s k n).1 := by
  obtain ⟨x0, x1, x2, x3, x4⟩ := s
  unfold Hm at *
  dsimp only at h
  generalize hp : Proofs.Ytjfalfjadleegaa.stp ⟨x0, x1, x2, x3, x4⟩ k n = p
  simp only [Proofs.Ytjfalfjadleegaa.stp, tick] at hp
  repeat' (split at hp)
  all_goals (subst hp; dsimp only; refine ⟨fun hh => ?_, fun hh => ?_⟩)
  all_goals omega
theorem Hm.tick {a b : Int} {s : Se} (h : Hm a (min a b) s) : Hm a (min a b) (tick s).1 := by
  have := h.stp (k := 10) (n := 0) (by omega) (by omega)
  rwa [show Proofs.Ytjfalfjadleegaa.stp s 10 0 = Proofs.Ytjfalfjadleegaa.tick s by simp [Proofs.Ytjfalfjadleegaa.stp]] at this
theorem evK_ok {z : Int} (h : TMsg z) (b : Int) : evK z ≠ 3 ∧ (evK z = 5 → evN z b = b) := by
  rcases h with rfl | rfl | rfl <;> simp [evK, evN]
theorem ppRun_hm {a b : Int} (ha : 3 ≤ a ∧ a ≤ 90) (hb : 3 ≤ b ∧ b ≤ 90) (f : Nat → Int) : ∀ m, Hm a (min a b) (ppRun a b f m).x ∧ Hm b (min b a) (ppRun a b f m).y
  | 0 => ⟨⟨fun _ => rfl, fun h => by simp [ppRun] at h⟩, ⟨fun _ => rfl, fun h => by simp [ppRun] at h⟩⟩
  | m + 1 => by
    obtain ⟨i1, i2⟩ := ppRun_hm ha hb f m
    obtain ⟨_, _, kx, ky, _, _⟩ := ppRun_ok ha hb f m
    rw [ppRun_succ]
    generalize ppRun a b f m = p at *
    obtain ⟨x, y, qx, qy⟩ := p
    dsimp only at *
    unfold ppStep
    split
    · exact ⟨i1.tick, i2.tick⟩
    · split
      · unfold ppX
        cases qx with
        | nil => exact ⟨i1, i2⟩
        | cons z q =>
          obtain ⟨e3, e5⟩ := evK_ok (kx z (by simp)) b
          exact ⟨i1.stp e3 e5, i2⟩
      · unfold ppY
        cases qy with
        | nil => exact ⟨i1, i2⟩
        | cons z q =>
          obtain ⟨e3, e5⟩ := evK_ok (ky z (by simp)) a
          exact ⟨i1, i2.stp e3 e5⟩
/-- Without ticks both come up in four steps. -/
theorem ppRun_four {a b : Int} (ha : 3 ≤ a ∧ a ≤ 90) (hb : 3 ≤ b ∧ b ≤ 90) {f : Nat → Int} (f0 : f 0 = 1) (f1 : f 1 = 2) (f2 : f 2 = 1) (f3 : f 3 = 2) :
    (ppRun a b f 4).x.st = 4 ∧ (ppRun a b f 4).y.st = 4 ∧ (ppRun a b f 4).x.up = 1 ∧ (ppRun a b f 4).y.up = 1 := by
  have e4 : ppRun a b f 4 = ppStep a b (f 3) (ppStep a b (f 2) (ppStep a b (f 1) (ppStep a b (f 0) ⟨⟨2, a, 90, 0, 0⟩, ⟨2, b, 90, 0, 0⟩, [1], [1]⟩))) := rfl
  rw [e4, f0, f1, f2, f3]
  by_cases h1 : b < a <;> by_cases h2 : a < b <;> simp [ppStep, ppX, ppY, stp, evK, evN, tl12, h1, h2, ha.1, hb.1]
end Go.Proofs.Ytjfalfjadleegaa
