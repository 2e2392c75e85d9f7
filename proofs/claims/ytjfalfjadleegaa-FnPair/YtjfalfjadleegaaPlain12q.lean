/- Two sessions that hear each other, in plain words. -/
import Derived.Test.YtjfalfjadleegaaPlain12p
namespace Go.Proofs.Ytjfalfjadleegaa
open Go.RowKit

/-- The event that a message comes as. -/
def evK (m : Int) : Int := if m = 1 then 5 else if m = 2 then 8 else if m = 3 then 9 else 7
def evN (m h : Int) : Int := if m = 1 then h else 0
/-- Messages that sessions tell. -/
def TMsg (t : Int) : Prop := t = 1 ∨ t = 3 ∨ t = 4
def QOk (q : List Int) : Prop := ∀ m ∈ q, TMsg m
theorem stp_told (s : Se) (k n : Int) : (stp s k n).2 = 0 ∨ TMsg (stp s k n).2 := by
  obtain ⟨x0, x1, x2, x3, x4⟩ := s
  generalize hp : stp ⟨x0, x1, x2, x3, x4⟩ k n = p
  simp only [stp, tick] at hp
  unfold TMsg
  repeat' (split at hp)
  all_goals (subst hp; simp)
theorem tick_told (s : Se) : (tick s).2 = 0 ∨ TMsg (tick s).2 := by
  have := stp_told s 10 0
  rwa [show stp s 10 0 = tick s by simp [stp]] at this
theorem QOk.tl {t : Int} (h : t = 0 ∨ TMsg t) : QOk (tl12 t) := by
  intro m hm
  unfold tl12 at hm
  split at hm
  · simp at hm
  · rw [List.mem_singleton.1 hm]
    exact h.resolve_left (by assumption)
theorem QOk.app {p q : List Int} (h : QOk p) (k : QOk q) : QOk (p ++ q) := fun m hm => (List.mem_append.1 hm).elim (h m) (k m)
theorem QOk.tail {q : List Int} (h : QOk q) : QOk q.tail := fun m hm => h m (List.mem_of_mem_tail hm)
/-- Two sides: their sessions, and what was told to each and has not come. -/
structure Pp where
  x : Se
  y : Se
  qx : List Int
  qy : List Int
def ppTick (p : Pp) : Pp := ⟨(tick p.x).1, (tick p.y).1, p.qx ++ tl12 (tick p.y).2, p.qy ++ tl12 (tick p.x).2⟩
def ppX (b : Int) (p : Pp) : Pp := match p.qx with
  | [] => p
  | m :: q => ⟨(stp p.x (evK m) (evN m b)).1, p.y, q, p.qy ++ tl12 (stp p.x (evK m) (evN m b)).2⟩
def ppY (a : Int) (p : Pp) : Pp := match p.qy with
  | [] => p
  | m :: q => ⟨p.x, (stp p.y (evK m) (evN m a)).1, p.qx ++ tl12 (stp p.y (evK m) (evN m a)).2, q⟩
def ppStep (a b k : Int) (p : Pp) : Pp := if k = 0 then ppTick p else if k = 1 then ppX b p else ppY a p
def ppRun (a b : Int) (f : Nat → Int) : Nat → Pp
  | 0 => ⟨⟨2, a, 90, 0, 0⟩, ⟨2, b, 90, 0, 0⟩, [1], [1]⟩
  | m + 1 => ppStep a b (f m) (ppRun a b f m)
theorem ppRun_succ (a b : Int) (f : Nat → Int) (m : Nat) : ppRun a b f (m + 1) = ppStep a b (f m) (ppRun a b f m) := rfl
/-- What is kept. -/
def PpI (m : Nat) (p : Pp) : Prop := GS p.x ∧ GS p.y ∧ QOk p.qx ∧ QOk p.qy ∧ p.qx.length ≤ m + 1 ∧ p.qy.length ≤ m + 1
theorem tick_gs12 {s : Se} (h : GS s) : GS (tick s).1 := by
  have := stp_gs 10 0 h
  rwa [show stp s 10 0 = tick s by simp [stp]] at this
theorem ppStep_ok {a b k : Int} {m : Nat} {p : Pp} (h : PpI m p) : PpI (m + 1) (ppStep a b k p) := by
  obtain ⟨h1, h2, h3, h4, h5, h6⟩ := h
  obtain ⟨x, y, qx, qy⟩ := p
  dsimp only at *
  unfold ppStep
  split
  · have t1 := tl12_len (tick x).2
    have t2 := tl12_len (tick y).2
    refine ⟨tick_gs12 h1, tick_gs12 h2, h3.app (QOk.tl (tick_told y)), h4.app (QOk.tl (tick_told x)), ?_, ?_⟩ <;> simp only [ppTick, List.length_append] <;> omega
  · split
    · unfold ppX
      cases qx with
      | nil => exact ⟨h1, h2, h3, h4, by simp, by dsimp only; omega⟩
      | cons z q =>
        have t1 := tl12_len (stp x (evK z) (evN z b)).2
        refine ⟨stp_gs _ _ h1, h2, h3.tail, h4.app (QOk.tl (stp_told _ _ _)), ?_, ?_⟩
        · simp only [List.length_cons] at h5; dsimp only; omega
        · simp only [List.length_append]; omega
    · unfold ppY
      cases qy with
      | nil => exact ⟨h1, h2, h3, h4, by dsimp only; omega, by simp⟩
      | cons z q =>
        have t1 := tl12_len (stp y (evK z) (evN z a)).2
        refine ⟨h1, stp_gs _ _ h2, h3.app (QOk.tl (stp_told _ _ _)), h4.tail, ?_, ?_⟩
        · simp only [List.length_append]; omega
        · simp only [List.length_cons] at h6; dsimp only; omega
theorem ppRun_ok {a b : Int} (ha : 3 ≤ a ∧ a ≤ 90) (hb : 3 ≤ b ∧ b ≤ 90) (f : Nat → Int) : ∀ m, PpI m (ppRun a b f m)
  | 0 => ⟨by unfold GS ppRun; dsimp only; omega, by unfold GS ppRun; dsimp only; omega, fun m hm => .inl (by simpa [ppRun] using hm), fun m hm => .inl (by simpa [ppRun] using hm), by simp [ppRun], by simp [ppRun]⟩
  | m + 1 => ppStep_ok (ppRun_ok ha hb f m)
def PqOk (a b : Int) (n : Nat) (f : Nat → Int) : Prop := (3 ≤ a ∧ a ≤ 90) ∧ (3 ≤ b ∧ b ≤ 90) ∧ n ≤ 100 ∧ ∀ i, i < n → f i = 0 ∨ f i = 1 ∨ f i = 2
noncomputable def pqB (a b : Int) (n : Nat) (f : Nat → Int) : Bool := @decide (PqOk a b n f) (Classical.propDecidable _)
noncomputable def pqX (a b : Int) (n : Nat) (f : Nat → Int) : Se := if pqB a b n f then (ppRun a b f n).x else ⟨0, 0, 0, 0, 0⟩
noncomputable def pqY (a b : Int) (n : Nat) (f : Nat → Int) : Se := if pqB a b n f then (ppRun a b f n).y else ⟨0, 0, 0, 0, 0⟩
theorem pq_t {a b : Int} {n : Nat} {f : Nat → Int} (g : PqOk a b n f) : pqB a b n f = true ∧ pqX a b n f = (ppRun a b f n).x ∧ pqY a b n f = (ppRun a b f n).y := by
  have e : pqB a b n f = true := @decide_eq_true _ (Classical.propDecidable _) g
  exact ⟨e, by rw [pqX, if_pos e], by rw [pqY, if_pos e]⟩
theorem pq_f {a b : Int} {n : Nat} {f : Nat → Int} (g : ¬ PqOk a b n f) : pqB a b n f = false ∧ pqX a b n f = ⟨0, 0, 0, 0, 0⟩ ∧ pqY a b n f = ⟨0, 0, 0, 0, 0⟩ := by
  have e : pqB a b n f = false := @decide_eq_false _ (Classical.propDecidable _) g
  exact ⟨e, by rw [pqX, e]; rfl, by rw [pqY, e]; rfl⟩
end Go.Proofs.Ytjfalfjadleegaa
