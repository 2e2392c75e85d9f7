/- AddOffer, plain. -/
import Derived.Test.YtgkjokobbeahfaaDrop8
namespace Go.Proofs.Ytgkjokobbeahfaa
open Go.RowKit

/-- The offers with a new one in its place. -/
def adR (D : List Oc) (x : Int) : List Oc := match D with
  | [] => []
  | d :: r => if d.pe = x then r else d :: r
def adS (D : List Oc) (o : Oc) : List Oc := D.takeWhile (fun t => decide (t.pe < o.pe)) ++ o :: adR (D.dropWhile (fun t => decide (t.pe < o.pe))) o.pe
def adP (D : List Oc) (o : Oc) : List Oc := (dfO D o.pe).take (D.countP (fun t => decide (t.pe < o.pe))) ++ o :: (dfO D o.pe).drop (D.countP (fun t => decide (t.pe < o.pe)))
theorem ad_eq {D : List Oc} (o : Oc) (h : D.Pairwise (fun a b => a.pe < b.pe)) : adP D o = adS D o := by
  induction D with
  | nil => simp [adP, adS, adR, dfO]
  | cons d D ih =>
    obtain ⟨h1, h2⟩ := List.pairwise_cons.1 h
    by_cases hlt : d.pe < o.pe
    · have hne : d.pe ≠ o.pe := by omega
      have := ih h2
      unfold adP adS at *
      have e1 : dfO (d :: D) o.pe = d :: dfO D o.pe := by simp [dfO, hne]
      have e2 : (d :: D).countP (fun t => decide (t.pe < o.pe)) = D.countP (fun t => decide (t.pe < o.pe)) + 1 := by simp [hlt]
      rw [e1, e2]
      simp only [List.take_succ_cons, List.drop_succ_cons, List.cons_append, List.takeWhile_cons, List.dropWhile_cons, hlt, decide_true, if_true]
      rw [this]
    · have hge : ∀ t, t ∈ D → ¬ t.pe < o.pe ∧ t.pe ≠ o.pe := fun t ht => by have := h1 t ht; omega
      have e2 : (d :: D).countP (fun t => decide (t.pe < o.pe)) = 0 := by
        rw [List.countP_eq_zero]
        intro t ht
        rcases List.mem_cons.1 ht with rfl | ht
        · simp [hlt]
        · simp [(hge t ht).1]
      have e3 : dfO D o.pe = D := by
        unfold dfO
        rw [List.filter_eq_self]
        intro t ht
        simp [(hge t ht).2]
      unfold adP adS
      rw [e2]
      simp only [List.take_zero, List.drop_zero, List.nil_append, List.takeWhile_cons, List.dropWhile_cons, hlt, decide_false, Bool.false_eq_true, if_false, adR]
      by_cases he : d.pe = o.pe
      · have : dfO (d :: D) o.pe = D := by
          unfold dfO at *
          rw [List.filter_cons_of_neg (by simp [he])]
          exact e3
        rw [this, if_pos he]
      · have : dfO (d :: D) o.pe = d :: D := by
          unfold dfO at *
          rw [List.filter_cons_of_pos (by simp [he]), e3]
        rw [this, if_neg he]
def adK (D : List Oc) (o : Oc) : Bool := osB D.length (TL D) && ofB o
def adL (D : List Oc) (o : Oc) : List Oc := if adK D o = true then adS D o else []
theorem adK_no1 {D : List Oc} {o : Oc} (h : osB D.length (TL D) = false) : adK D o = false := by simp [adK, h]
theorem adK_no2 {D : List Oc} {o : Oc} (h : ofB o = false) : adK D o = false := by simp [adK, h]
theorem adK_yes {D : List Oc} {o : Oc} (h : osB D.length (TL D) = true) (h2 : ofB o = true) : adK D o = true := by simp [adK, h, h2]
theorem adL_no {D : List Oc} {o : Oc} (h : adK D o = false) : adL D o = [] := by simp [adL, h]
theorem adL_yes {D : List Oc} {o : Oc} (h : adK D o = true) : adL D o = adS D o := by simp [adL, h]
end Go.Proofs.Ytgkjokobbeahfaa
