/- All that are stable, in plain words: by going down, and by counting on. -/
import Derived.Test.YtcnlabedlcmilaaPlain10b
namespace Go.Proofs.Ytcnlabedlcmilaa
open Go.RowKit

theorem had_congr {N : Nat} {U : Nat → Pl} {f g : Nat → Int} (h : ∀ i, i < N → f i = g i) {v : Int} {p : Lc} (hp : Way N v p) : Had U f p ↔ Had U g p := by
  by_cases h2 : p.n = 2
  · exact ⟨fun _ => .inl h2, fun _ => .inl h2⟩
  · have hn := (hp.next (by have := hp.1; omega)).2.2.1
    unfold Had
    rw [h _ hn]
theorem bst_congr {N : Nat} {U : Nat → Pl} (hG : GS N U) {f g : Nat → Int} (h : ∀ i, i < N → f i = g i) {v : Nat} (hv : v < N) : bst U f v = bst U g v :=
  fI_congr (fun k hk => had_congr h ((hG.2.2 v hv).2 k hk).1)
theorem stb_congr {N : Nat} {U : Nat → Pl} (hG : GS N U) {f g : Nat → Int} (h : ∀ i, i < N → f i = g i) : Stb N U f ↔ Stb N U g :=
  ⟨fun k i hi => by rw [← bst_congr hG h hi, ← h i hi]; exact k i hi, fun k i hi => by rw [bst_congr hG h hi, h i hi]; exact k i hi⟩
theorem lsI_congr {n : Nat} {f g : Nat → Int} (h : ∀ i, i < n → f i = g i) : lsI n f = lsI n g := by
  unfold lsI
  apply List.map_congr_left
  intro i hi
  exact h i (by simpa using hi)
theorem lsI_succ (n : Nat) (f : Nat → Int) : lsI (n + 1) f = lsI n f ++ [f n] := by simp [lsI, List.range_succ]
/-- One that is stable, or nothing. -/
noncomputable def oneR (N : Nat) (U : Nat → Pl) (c : List Int) : List (List Int) := if pB (Stb N U (fun i => c.getD i 0)) = true then [c] else []
/-- All stable ones that begin with c, d choices more. -/
noncomputable def onesR (N : Nat) (U : Nat → Pl) : Nat → List Int → List (List Int)
  | 0, c => oneR N U c
  | d + 1, c => ((List.range ((U c.length).n + 1)).map (fun k : Nat => onesR N U d (c ++ [(k : Int) - 1]))).flatten
/-- The first q of them. -/
noncomputable def onesP (N : Nat) (U : Nat → Pl) (d : Nat) (c : List Int) (q : Nat) : List (List Int) := ((List.range q).map (fun k : Nat => onesR N U d (c ++ [(k : Int) - 1]))).flatten
theorem onesP_zero (N : Nat) (U : Nat → Pl) (d : Nat) (c : List Int) : onesP N U d c 0 = [] := by simp [onesP]
theorem onesP_succ (N : Nat) (U : Nat → Pl) (d : Nat) (c : List Int) (q : Nat) : onesP N U d c (q + 1) = onesP N U d c q ++ onesR N U d (c ++ [(q : Int) - 1]) := by simp [onesP, List.range_succ]
theorem onesP_all (N : Nat) (U : Nat → Pl) (d : Nat) (c : List Int) : onesP N U d c ((U c.length).n + 1) = onesR N U (d + 1) c := rfl
/-- What comes behind the number f p at place p. -/
noncomputable def tlP (N : Nat) (U : Nat → Pl) (f : Nat → Int) (d p : Nat) : List (List Int) := ((List.range' (f p + 2).toNat ((U p).n + 1 - (f p + 2).toNat)).map (fun k : Nat => onesR N U d (lsI p f ++ [(k : Int) - 1]))).flatten
/-- All stable ones from f on; the first N - d numbers are fixed. -/
noncomputable def frm (N : Nat) (U : Nat → Pl) (f : Nat → Int) : Nat → List (List Int)
  | 0 => oneR N U (lsI N f)
  | d + 1 => frm N U f d ++ tlP N U f d (N - (d + 1))
theorem oneR_lsI {N : Nat} {U : Nat → Pl} (hG : GS N U) (f : Nat → Int) : oneR N U (lsI N f) = if pB (Stb N U f) = true then [lsI N f] else [] := by
  unfold oneR
  rw [pB_congr (stb_congr hG (f := fun i => (lsI N f).getD i 0) (g := f) (fun i hi => lsI_at hi))]
/-- Where all from place p on is -1, going on is going down. -/
theorem frm_none {N : Nat} {U : Nat → Pl} {f : Nat → Int} : ∀ d, d ≤ N → (∀ j, N - d ≤ j → j < N → f j = -1) → frm N U f d = onesR N U d (lsI (N - d) f)
  | 0, _, _ => rfl
  | d + 1, hd, h => by
    have ih := frm_none (N := N) (U := U) (f := f) d (by omega) (fun j h1 h2 => h j (by omega) h2)
    show frm N U f d ++ tlP N U f d (N - (d + 1)) = ((List.range ((U (lsI (N - (d + 1)) f).length).n + 1)).map (fun k : Nat => onesR N U d (lsI (N - (d + 1)) f ++ [(k : Int) - 1]))).flatten
    have hp : f (N - (d + 1)) = -1 := h _ (Nat.le_refl _) (by omega)
    have e1 : lsI (N - d) f = lsI (N - (d + 1)) f ++ [-1] := by
      rw [show N - d = N - (d + 1) + 1 by omega, lsI_succ, hp]
    rw [ih, e1, lsI_len]
    unfold tlP
    rw [hp]
    have e2 : List.range ((U (N - (d + 1))).n + 1) = 0 :: List.range' 1 (U (N - (d + 1))).n := by
      rw [List.range_eq_range', List.range'_succ]
    rw [e2]
    simp
/-- The next one: at place i one more, behind it -1. -/
def nxV (f : Nat → Int) (i : Nat) : Nat → Int := fun j => if j < i then f j else if j = i then f i + 1 else -1
theorem nxV_lt {f : Nat → Int} {i j : Nat} (h : j < i) : nxV f i j = f j := by unfold nxV; rw [if_pos h]
theorem nxV_at (f : Nat → Int) (i : Nat) : nxV f i i = f i + 1 := by unfold nxV; rw [if_neg (by omega), if_pos rfl]
theorem nxV_gt {f : Nat → Int} {i j : Nat} (h : i < j) : nxV f i j = -1 := by unfold nxV; rw [if_neg (by omega), if_neg (by omega)]
theorem tlP_max {N : Nat} {U : Nat → Pl} {f : Nat → Int} {d p : Nat} (h : f p + 1 = ((U p).n : Int)) : tlP N U f d p = [] := by
  unfold tlP
  have : (U p).n + 1 - (f p + 2).toNat = 0 := by omega
  rw [this]
  simp
theorem frm_max {N : Nat} {U : Nat → Pl} {f : Nat → Int} : ∀ d, d ≤ N → (∀ j, N - d ≤ j → j < N → f j + 1 = ((U j).n : Int)) → frm N U f d = oneR N U (lsI N f)
  | 0, _, _ => rfl
  | d + 1, hd, h => by
    show frm N U f d ++ tlP N U f d (N - (d + 1)) = _
    rw [frm_max d (by omega) (fun j h1 h2 => h j (by omega) h2), tlP_max (h _ (Nat.le_refl _) (by omega)), List.append_nil]
theorem frm_step {N : Nat} {U : Nat → Pl} {f : Nat → Int} {i : Nat} (hi : i < N) (hl : -1 ≤ f i) (hm : f i + 1 < ((U i).n : Int)) (hx : ∀ j, i < j → j < N → f j + 1 = ((U j).n : Int)) :
    ∀ d, N - i ≤ d → d ≤ N → frm N U f d = oneR N U (lsI N f) ++ frm N U (nxV f i) d
  | 0, h, _ => by omega
  | d + 1, h, hd => by
    show frm N U f d ++ tlP N U f d (N - (d + 1)) = _ ++ (frm N U (nxV f i) d ++ tlP N U (nxV f i) d (N - (d + 1)))
    by_cases e : N - i ≤ d
    · have ih := frm_step hi hl hm hx d e (by omega)
      have hp : N - (d + 1) < i := by omega
      have e1 : tlP N U f d (N - (d + 1)) = tlP N U (nxV f i) d (N - (d + 1)) := by
        unfold tlP
        rw [nxV_lt hp, lsI_congr (g := nxV f i) (fun j hj => (nxV_lt (by omega)).symm)]
      rw [ih, e1, List.append_assoc]
    · have ed : d + 1 = N - i := by omega
      have ep : N - (d + 1) = i := by omega
      rw [ep, frm_max (N := N) (U := U) (f := f) d (by omega) (fun j h1 h2 => hx j (by omega) h2)]
      congr 1
      rw [frm_none (N := N) (U := U) (f := nxV f i) d (by omega) (fun j h1 h2 => nxV_gt (by omega))]
      have e1 : lsI (N - d) (nxV f i) = lsI i f ++ [f i + 1] := by
        rw [show N - d = i + 1 by omega, lsI_succ, nxV_at, lsI_congr (g := f) (fun j hj => nxV_lt hj)]
      rw [e1]
      unfold tlP
      rw [nxV_at, lsI_congr (f := nxV f i) (g := f) (fun j hj => nxV_lt hj)]
      have e2 : (U i).n + 1 - (f i + 2).toNat = ((U i).n + 1 - (f i + 1 + 2).toNat) + 1 := by omega
      have e3 : (f i + 1 + 2).toNat = (f i + 2).toNat + 1 := by omega
      rw [e2, List.range'_succ, e3]
      simp only [List.map_cons, List.flatten_cons]
      congr 3
      have : (((f i + 2).toNat : Nat) : Int) - 1 = f i + 1 := by omega
      rw [this]
/-- What StableOnes answers. -/
noncomputable def soR (N : Nat) (U : Nat → Pl) : List (List Int) := if gsB N U = true then onesR N U N [] else []
theorem so_start {N : Nat} {U : Nat → Pl} : frm N U (fun _ => -1) N = onesR N U N [] := by
  rw [frm_none N (Nat.le_refl _) (fun _ _ _ => rfl), Nat.sub_self]
  rfl
theorem onesR_each {N : Nat} {U : Nat → Pl} : ∀ (d : Nat) (c : List Int), c.length + d = N → ∀ x ∈ onesR N U d c, x.length = N
  | 0, c, h, x, hx => by
    unfold onesR oneR at hx
    split at hx
    · have : x = c := by simpa using hx
      rw [this]; omega
    · simp at hx
  | d + 1, c, h, x, hx => by
    unfold onesR at hx
    obtain ⟨l, hl, hxl⟩ := List.mem_flatten.1 hx
    obtain ⟨k, _, rfl⟩ := List.mem_map.1 hl
    exact onesR_each d _ (by simp; omega) x hxl
theorem flat_len {α β : Type} {B : Nat} (g : α → List β) : ∀ (l : List α), (∀ a ∈ l, (g a).length ≤ B) → ((l.map g).flatten).length ≤ l.length * B
  | [], _ => by simp
  | a :: l, h => by
    have h1 := h a (by simp)
    have h2 := flat_len g l (fun b hb => h b (by simp [hb]))
    simp only [List.map_cons, List.flatten_cons, List.length_append, List.length_cons, Nat.add_mul, Nat.one_mul]
    omega
theorem onesR_len {N : Nat} {U : Nat → Pl} (hG : GS N U) : ∀ (d : Nat) (c : List Int), c.length + d = N → (onesR N U d c).length ≤ 7 ^ d
  | 0, c, _ => by
    unfold onesR oneR
    split <;> simp
  | d + 1, c, h => by
    have h6 := (hG.low c.length (by omega)).1
    unfold onesR
    refine Nat.le_trans (flat_len (B := 7 ^ d) _ _ (fun k _ => onesR_len hG d _ (by simp; omega))) ?_
    rw [List.length_range, Nat.pow_succ, Nat.mul_comm]
    exact Nat.mul_le_mul_left _ (by omega)
theorem onesR_all {N : Nat} {U : Nat → Pl} (hG : GS N U) : (onesR N U N []).length ≤ 16807 := by
  have h := onesR_len hG N [] (by simp)
  have h5 := hG.2.1
  exact Nat.le_trans h (Nat.le_trans (Nat.pow_le_pow_right (by omega) h5) (by decide))
end Go.Proofs.Ytcnlabedlcmilaa
