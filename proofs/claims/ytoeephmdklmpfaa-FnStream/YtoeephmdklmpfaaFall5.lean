/- Plain: what a reader becomes by pieces; lists of strings in memory. -/
import Derived.Test.YtoeephmdklmpfaaFeed5
namespace Go.Proofs.Ytoeephmdklmpfaa
open Go.RowKit

/-- What may still become a message is short. -/
theorem rest_len {X : ByteArray} (h : flt X = 0) (hw : whB X = false) : X.size ≤ 65 := by
  by_cases h5 : 5 ≤ X.size
  · have hf := h
    unfold flt at hf
    rw [Nat.min_eq_right h5] at hf
    have := (fl2 hf (by omega)).2
    have hn : ¬ (5 ≤ X.size ∧ bt X 2 ≤ X.size) := of_decide_eq_false hw
    omega
  · omega
theorem gotB_take {L : List Ms} (h : gotB L = true) (n : Nat) : gotB (L.take n) = true := by
  unfold gotB at h ⊢
  rw [List.all_eq_true] at h ⊢
  exact fun m hm => h m (List.mem_of_mem_take hm)
/-- A good reader that is fed is good. -/
theorem feed_good {Y : ByteArray} {K : List Ms} {D : Int} (s : ByteArray) (h : grB Y K D = true) : grB (fdX Y D s) (fdL Y K D s) (fdB Y D s) = true := by
  by_cases hD : D = 0
  · have hX : fdX Y D s = (cut (Y ++ s)).2.1 := if_pos hD
    have hL : fdL Y K D s = K ++ (cut (Y ++ s)).1.take (40 - K.length) := if_pos hD
    have hB : fdB Y D s = (cut (Y ++ s)).2.2 := if_pos hD
    obtain ⟨g1, g2, _⟩ := gr_len h
    obtain ⟨_, _, c3, c4, c5, c6, c7, c8⟩ := cut_len (Y ++ s) _ (Nat.le_refl _)
    rw [hX, hL, hB]
    have e : grB (cut (Y ++ s)).2.1 (K ++ (cut (Y ++ s)).1.take (40 - K.length)) (cut (Y ++ s)).2.2 = ((decide ((K ++ (cut (Y ++ s)).1.take (40 - K.length)).length ≤ 40) && gotB (K ++ (cut (Y ++ s)).1.take (40 - K.length))) && decide (0 ≤ (cut (Y ++ s)).2.2 ∧ (cut (Y ++ s)).2.2 ≤ 4) && decide ((cut (Y ++ s)).2.2 ≠ 0 → (cut (Y ++ s)).2.1.size = 0) && decide (flt (cut (Y ++ s)).2.1 = 0) && !whB (cut (Y ++ s)).2.1) := rfl
    have hg : gotB (K ++ (cut (Y ++ s)).1.take (40 - K.length)) = true := by
      have : gotB (cut (Y ++ s)).1 = true := by unfold gotB; rw [List.all_eq_true]; exact c8
      have := gotB_take this (40 - K.length)
      unfold gotB at *
      rw [List.all_append, g2, this]
      rfl
    rw [e, hg, c6, c7, decide_eq_true (⟨c3, c4⟩ : 0 ≤ (cut (Y ++ s)).2.2 ∧ (cut (Y ++ s)).2.2 ≤ 4), decide_eq_true (fun q => by rw [c5 q]; rfl), decide_eq_true (by rw [List.length_append, List.length_take]; omega)]
    rfl
  · rw [show fdX Y D s = Y from if_neg hD, show fdL Y K D s = K from if_neg hD, show fdB Y D s = D from if_neg hD]
    exact h
/-- A reader's parts. -/
abbrev Rp := ByteArray × List Ms × Int
def rp0 : Rp := (ByteArray.empty, [(4, ByteArray.empty)], 0)
def stp (r : Rp) (s : ByteArray) : Rp := (fdX r.1 r.2.2 s, fdL r.1 r.2.1 r.2.2 s, fdB r.1 r.2.2 s)
def faR (ss : List ByteArray) : Rp := ss.foldl stp rp0
theorem rp0_good : grB rp0.1 rp0.2.1 rp0.2.2 = true := by
  have e : grB rp0.1 rp0.2.1 rp0.2.2 = ((decide (rp0.2.1.length ≤ 40) && gotB rp0.2.1) && decide ((0 : Int) ≤ 0 ∧ (0 : Int) ≤ 4) && decide ((0 : Int) ≠ 0 → (ByteArray.empty).size = 0) && decide (flt ByteArray.empty = 0) && !whB ByteArray.empty) := rfl
  rw [e, flt_nil rfl, whB_nil rfl]
  have : gotB rp0.2.1 = true := by simp [gotB, rp0, gmB]
  rw [this]
  simp [rp0]
theorem faR_good (ss : List ByteArray) : grB (faR ss).1 (faR ss).2.1 (faR ss).2.2 = true := by
  suffices ∀ (r : Rp), grB r.1 r.2.1 r.2.2 = true → grB (ss.foldl stp r).1 (ss.foldl stp r).2.1 (ss.foldl stp r).2.2 = true from this rp0 rp0_good
  induction ss with
  | nil => exact fun r h => h
  | cons s ss ih => exact fun r h => ih (stp r s) (feed_good s h)
theorem faR_ne (ss : List ByteArray) : (faR ss).2.1 ≠ [] := by
  suffices ∀ (r : Rp), r.2.1 ≠ [] → (ss.foldl stp r).2.1 ≠ [] from this rp0 (by simp [rp0])
  induction ss with
  | nil => exact fun r h => h
  | cons s ss ih =>
    refine fun r h => ih (stp r s) ?_
    show fdL r.1 r.2.1 r.2.2 s ≠ []
    unfold fdL
    split
    · exact fun e => h (List.append_eq_nil_iff.1 e).1
    · exact h
def sAt (ss : List ByteArray) (i : Nat) : ByteArray := ss.getD i ByteArray.empty
theorem faR_next {ss : List ByteArray} {k : Nat} (h : k < ss.length) : faR (ss.take (k + 1)) = stp (faR (ss.take k)) (sAt ss k) := by
  unfold faR
  have e : ss.take (k + 1) = ss.take k ++ [sAt ss k] := by
    unfold sAt
    rw [List.take_add_one, List.getElem?_eq_getElem h, List.getD_eq_getElem?_getD, List.getElem?_eq_getElem h]
    rfl
  rw [e, List.foldl_append]
  rfl
/-- The strings ss lie at a. -/
def RowS (a : Option Addr) (ss : List ByteArray) (w : World) : Prop := ∀ i, i < ss.length → ∃ b off, a = some ⟨b, off, none⟩ ∧ b < w.heap.size ∧ w.cell? ⟨b, off + i, none⟩ = some (.string (sAt ss i))
theorem RowS.below {a : Option Addr} {ss : List ByteArray} {w w' : World} (h : RowS a ss w) (k : Below w.heap.size w w') : RowS a ss w' := by
  intro i hi
  obtain ⟨b, off, ha, hb, h0⟩ := h i hi
  exact ⟨b, off, ha, Nat.lt_of_lt_of_le hb k.size, ((bcell k).1 _ _ hb).trans h0⟩
/-- What FeedAll answers: whether, and what. -/
def faOk (ss : List ByteArray) : Bool := decide (ss.length ≤ 60) && ss.all fun s => decide (s.size ≤ 300)
end Go.Proofs.Ytoeephmdklmpfaa
