/- What ActivateAll, PlaySpp and SettleSpp answer, in plain words; lists of numbers as answers. -/
import Derived.Test.YtelehmkmdbhcfaaPlain10
import Derived.Test.YtelehmkmdbhcfaaRep10
namespace Go.Proofs.Ytelehmkmdbhcfaa
open Go.RowKit

theorem OutInt.put {c n : Nat} {f : Nat → Int} {w : World} (h : OutInt c n n f w) {i : Nat} (hi : i < n) (x : Int) : OutInt c n n (fun j => if j = i then x else f j) (w.setCell ⟨c, i, none⟩ (.int .i64 x)) := by
  refine ⟨by have := h.1; simpa using this, fun j hj => ?_⟩
  obtain ⟨⟨y, h0, hx⟩, g0⟩ := h.2 j hj
  by_cases e : j = i
  · subst e
    refine ⟨⟨x, ?_, fun _ => by simp⟩, ?_⟩ <;> simp [go_sem, h0, g0]
  · refine ⟨⟨y, ?_, fun hlt => by simp only [if_neg e]; exact hx hlt⟩, ?_⟩
    · rw [World.cell?_setCell_other _ _ _ _ (by simp <;> omega)]; exact h0
    · simpa [go_sem] using g0
/-- The answer v is the list R of numbers, in memory of its own from base on. -/
def AnsL (base : Nat) (v : Value) (R : List Int) (w : World) : Prop := ∃ ga gc, v = .slice ga R.length gc ∧ RowInt ga R.length (fun i => R.getD i 0) w ∧
  (R = [] ∨ ∃ g, ga = some ⟨g, 0, none⟩ ∧ base ≤ g ∧ OutInt g R.length R.length (fun i => R.getD i 0) w)
theorem ansL_nil (base : Nat) (w : World) : AnsL base (.slice none 0 0) [] w := ⟨none, 0, rfl, fun _ hi => absurd hi (Nat.not_lt_zero _), .inl rfl⟩
theorem ansL_out {base g n cap : Nat} {f : Nat → Int} {w : World} (hb : base ≤ g) (h : OutInt g n n f w) : AnsL base (.slice (some ⟨g, 0, none⟩) n cap) (lsI n f) w := by
  have hc : OutInt g (lsI n f).length (lsI n f).length (fun i => (lsI n f).getD i 0) w := by
    rw [lsI_len]
    exact h.congr (fun i hi => (lsI_at hi).symm)
  exact ⟨some ⟨g, 0, none⟩, cap, by rw [lsI_len], hc.row, .inr ⟨g, rfl, hb, hc⟩⟩
/-- What ActivateAll answers. -/
noncomputable def aaR (N : Nat) (U : Nat → Pl) (gn : Nat) (gf : Nat → Int) : List Int := if chB N U ⟨gn, gf⟩ = true then lsI N (actN U gf N) else []
theorem aaR_len (N : Nat) (U : Nat → Pl) (gn : Nat) (gf : Nat → Int) : (aaR N U gn gf).length ≤ N := by
  unfold aaR; split
  · rw [lsI_len]; exact Nat.le_refl _
  · simp
/-- The first k nodes of a list choose. -/
noncomputable def plN (U : Nat → Pl) (lf : Nat → Int) : Nat → Nat → Int
  | 0 => fun _ => -1
  | k + 1 => upd U (plN U lf k) ((lf k).toNat - 1)
theorem plN_ok (N : Nat) (U : Nat → Pl) (lf : Nat → Int) : ∀ k, Chs N U (plN U lf k)
  | 0 => Chs.none N U
  | k + 1 => (plN_ok N U lf k).upd _
def PlOk (N : Nat) (U : Nat → Pl) (gn : Nat) (gf : Nat → Int) : Prop := (GS N U ∧ gn ≤ 40) ∧ ∀ k, k < gn → 1 ≤ gf k ∧ gf k ≤ (N : Int)
noncomputable def plB (N : Nat) (U : Nat → Pl) (gn : Nat) (gf : Nat → Int) : Bool := pB (PlOk N U gn gf)
noncomputable def plR (N : Nat) (U : Nat → Pl) (gn : Nat) (gf : Nat → Int) : List Int := if plB N U gn gf = true then lsI N (plN U gf gn) else []
theorem plR_len (N : Nat) (U : Nat → Pl) (gn : Nat) (gf : Nat → Int) : (plR N U gn gf).length ≤ N := by
  unfold plR; split
  · rw [lsI_len]; exact Nat.le_refl _
  · simp
theorem pl_no {N : Nat} {U : Nat → Pl} {gn : Nat} {gf : Nat → Int} (h : ¬ PlOk N U gn gf) : plR N U gn gf = [] ∧ plB N U gn gf = false := by
  have e : plB N U gn gf = false := pB_f h
  exact ⟨by unfold plR; rw [e]; rfl, e⟩
theorem pl_yes {N : Nat} {U : Nat → Pl} {gn : Nat} {gf : Nat → Int} (h : PlOk N U gn gf) : plR N U gn gf = lsI N (plN U gf gn) ∧ plB N U gn gf = true := by
  have e : plB N U gn gf = true := pB_t h
  exact ⟨by unfold plR; rw [e]; rfl, e⟩
/-- What SettleSpp answers. -/
def SeOk (N : Nat) (U : Nat → Pl) : Prop := GS N U ∧ 0 ≤ stl N U
noncomputable def seB (N : Nat) (U : Nat → Pl) : Bool := pB (SeOk N U)
noncomputable def seR (N : Nat) (U : Nat → Pl) : List Int := if seB N U = true then lsI N (itr N U (stl N U).toNat) else []
noncomputable def seN (N : Nat) (U : Nat → Pl) : Int := if seB N U = true then stl N U else 0
theorem seR_len (N : Nat) (U : Nat → Pl) : (seR N U).length ≤ N := by
  unfold seR; split
  · rw [lsI_len]; exact Nat.le_refl _
  · simp
theorem se_no {N : Nat} {U : Nat → Pl} (h : ¬ SeOk N U) : seR N U = [] ∧ seN N U = 0 ∧ seB N U = false := by
  have e : seB N U = false := pB_f h
  exact ⟨by unfold seR; rw [e]; rfl, by unfold seN; rw [e]; rfl, e⟩
theorem se_yes {N : Nat} {U : Nat → Pl} {k : Nat} (h : GS N U) (hk : k ≤ 40) (hs : Stb N U (itr N U k)) (hb : ∀ j, j < k → ¬ Stb N U (itr N U j)) : seR N U = lsI N (itr N U k) ∧ seN N U = (k : Int) ∧ seB N U = true := by
  have es : stl N U = (k : Int) := fI_first (by omega) hs hb
  have e : seB N U = true := pB_t ⟨h, by omega⟩
  refine ⟨by unfold seR; rw [e, es]; rfl, by unfold seN; rw [e, es]; rfl, e⟩
theorem se_never {N : Nat} {U : Nat → Pl} (hb : ∀ j, j < 41 → ¬ Stb N U (itr N U j)) : ¬ SeOk N U := by
  intro h
  have es : stl N U = -1 := fI_none hb
  have := h.2
  omega
theorem same_stb {N : Nat} {U : Nat → Pl} {f : Nat → Int} : Same ⟨N, actN U f N⟩ ⟨N, f⟩ ↔ Stb N U f :=
  ⟨fun h => same_act h.2, fun h => ⟨rfl, fun i _ => congrFun (act_same h N (Nat.le_refl _)) i⟩⟩
end Go.Proofs.Ytelehmkmdbhcfaa
