/- Plain: messages cut out of bytes: what is wrong with bytes, whole messages, all that is cut. -/
import Derived.Test.YtoeephmdklmpfaaKit
import Derived.Laws.BytesArg
namespace Go.Proofs.Ytoeephmdklmpfaa
open Go.RowKit

/-- A message: its kind, its body. -/
abbrev Ms := Int × ByteArray
/-- The byte at a place, 0 where there is none. -/
def bt (s : ByteArray) (i : Nat) : Int := if h : i < s.size then (s[i].toNat : Int) else 0
theorem bt_at {s : ByteArray} {i : Nat} (h : i < s.size) : bt s i = (s[i].toNat : Int) := dif_pos h
theorem bt_bd (s : ByteArray) (i : Nat) : 0 ≤ bt s i ∧ bt s i < 256 := by
  unfold bt
  split
  · rename_i h
    have := (s[i]).toNat_lt
    omega
  · omega
/-- A good message. -/
def gmB (t : Int) (b : ByteArray) : Bool := decide (1 ≤ t ∧ t ≤ 4 ∧ b.size ≤ 60 ∧ (t = 4 → b.size = 0))
theorem gm_yes {t : Int} {b : ByteArray} (h1 : 1 ≤ t) (h2 : t ≤ 4) (h3 : b.size ≤ 60) (h4 : t = 4 → b.size = 0) : gmB t b = true := decide_eq_true ⟨h1, h2, h3, h4⟩
theorem gm_no {t : Int} {b : ByteArray} (h : ¬ (1 ≤ t ∧ t ≤ 4 ∧ b.size ≤ 60 ∧ (t = 4 → b.size = 0))) : gmB t b = false := decide_eq_false h
/-- A message's bytes. -/
def mby (t : Int) (b : ByteArray) : ByteArray := strOfNums [255, 255, 5 + (b.size : Int), 0, t] ++ b
/-- What is wrong with the byte at a place. -/
def flA (s : ByteArray) (i : Nat) : Int :=
  if i < 2 then (if bt s i = 255 then 0 else 1)
  else if i = 2 then (if 5 ≤ bt s 2 ∧ bt s 2 ≤ 65 then 0 else 2)
  else if i = 3 then (if bt s 3 = 0 then 0 else 2)
  else if ¬ (1 ≤ bt s 4 ∧ bt s 4 ≤ 4) then 3 else if bt s 4 = 4 ∧ bt s 2 ≠ 5 then 4 else 0
/-- What is wrong with the first k bytes. -/
def flN (s : ByteArray) : Nat → Int
  | 0 => 0
  | k + 1 => if flN s k = 0 then flA s k else flN s k
def flt (s : ByteArray) : Int := flN s (min s.size 5)
theorem flN_keep {s : ByteArray} {k m : Nat} (h : flN s k ≠ 0) (hm : k ≤ m) : flN s m = flN s k := by
  induction m with
  | zero => rw [Nat.le_zero.1 hm]
  | succ m ih =>
    by_cases e : k = m + 1
    · rw [e]
    · have := ih (by omega)
      show (if flN s m = 0 then flA s m else flN s m) = _
      rw [if_neg (by rw [this]; exact h), this]
theorem flN_zero {s : ByteArray} {k m : Nat} (h : flN s m = 0) (hk : k ≤ m) : flN s k = 0 := by
  by_cases e : flN s k = 0
  · exact e
  · rw [flN_keep e hk] at h
    exact absurd h e
theorem flN_next {s : ByteArray} {k : Nat} (h : flN s k = 0) : flN s (k + 1) = flA s k := by
  show (if flN s k = 0 then flA s k else flN s k) = _
  rw [if_pos h]
/-- A fault that is met is the fault. -/
theorem flt_met {s : ByteArray} {k : Nat} (h : flN s k = 0) (hk : k < s.size) (h5 : k < 5) (hf : flA s k ≠ 0) : flt s = flA s k := by
  unfold flt
  rw [flN_keep (k := k + 1) (by rw [flN_next h]; exact hf) (by omega), flN_next h]
theorem flA_bd (s : ByteArray) (i : Nat) : 0 ≤ flA s i ∧ flA s i ≤ 4 := by
  unfold flA
  repeat (first | omega | split)
theorem flN_bd (s : ByteArray) (k : Nat) : 0 ≤ flN s k ∧ flN s k ≤ 4 := by
  induction k with
  | zero => simp [flN]
  | succ k ih =>
    show 0 ≤ (if flN s k = 0 then flA s k else flN s k) ∧ (if flN s k = 0 then flA s k else flN s k) ≤ 4
    split
    · exact flA_bd s k
    · exact ih
theorem flt_bd (s : ByteArray) : 0 ≤ flt s ∧ flt s ≤ 4 := flN_bd s _
/-- The third byte, where nothing is wrong with the first three. -/
theorem fl2 {s : ByteArray} {k : Nat} (h : flN s k = 0) (hk : 3 ≤ k) : 5 ≤ bt s 2 ∧ bt s 2 ≤ 65 := by
  have h3 := flN_zero h hk
  rw [flN_next (flN_zero h3 (by omega))] at h3
  unfold flA at h3
  rw [if_neg (by omega), if_pos rfl] at h3
  by_cases e : 5 ≤ bt s 2 ∧ bt s 2 ≤ 65
  · exact e
  · rw [if_neg e] at h3
    omega
theorem fl4 {s : ByteArray} (h : flN s 5 = 0) : 1 ≤ bt s 4 ∧ bt s 4 ≤ 4 ∧ (bt s 4 = 4 → bt s 2 = 5) := by
  rw [flN_next (flN_zero h (by omega))] at h
  unfold flA at h
  rw [if_neg (by omega), if_neg (by omega), if_neg (by omega)] at h
  by_cases e : 1 ≤ bt s 4 ∧ bt s 4 ≤ 4
  · rw [if_neg (by simpa using e)] at h
    refine ⟨e.1, e.2, fun e4 => ?_⟩
    by_cases e2 : bt s 2 = 5
    · exact e2
    · rw [if_pos ⟨e4, e2⟩] at h
      omega
  · rw [if_pos e] at h
    omega
/-- Whole messages. -/
def whB (s : ByteArray) : Bool := decide (5 ≤ s.size ∧ bt s 2 ≤ s.size)
theorem wh_len {s : ByteArray} (hf : flt s = 0) (hw : whB s = true) : 5 ≤ s.size ∧ 5 ≤ (bt s 2).toNat ∧ (bt s 2).toNat ≤ 65 ∧ (bt s 2).toNat ≤ s.size ∧ bt s 2 = ((bt s 2).toNat : Int) := by
  have h := of_decide_eq_true hw
  unfold flt at hf
  rw [Nat.min_eq_right h.1] at hf
  obtain ⟨h2, h3⟩ := fl2 hf (by omega)
  omega
/-- All that is cut: the messages, what is left, and the code. -/
def cut (s : ByteArray) : List Ms × ByteArray × Int :=
  if _h : flt s = 0 ∧ whB s = true then
    ((bt s 4, s.extract 5 (bt s 2).toNat) :: (cut (s.extract (bt s 2).toNat s.size)).1, (cut (s.extract (bt s 2).toNat s.size)).2)
  else if flt s = 0 then ([], s, 0) else ([], ByteArray.empty, flt s)
termination_by s.size
decreasing_by
  all_goals
    have := wh_len _h.1 _h.2
    rw [ByteArray.size_extract]
    omega
theorem cut_whole {s : ByteArray} (hf : flt s = 0) (hw : whB s = true) : cut s = ((bt s 4, s.extract 5 (bt s 2).toNat) :: (cut (s.extract (bt s 2).toNat s.size)).1, (cut (s.extract (bt s 2).toNat s.size)).2) := by
  rw [cut, dif_pos ⟨hf, hw⟩]
theorem cut_rest {s : ByteArray} (hf : flt s = 0) (hw : whB s = false) : cut s = ([], s, 0) := by
  rw [cut, dif_neg (by rw [hw]; simp), if_pos hf]
theorem cut_bad {s : ByteArray} (hf : flt s ≠ 0) : cut s = ([], ByteArray.empty, flt s) := by
  rw [cut, dif_neg (fun h => hf h.1), if_neg hf]
theorem flt_nil {s : ByteArray} (h : s.size = 0) : flt s = 0 := by unfold flt; rw [h]; rfl
theorem whB_nil {s : ByteArray} (h : s.size = 0) : whB s = false := by unfold whB; rw [h]; simp
theorem ba_nil {s : ByteArray} (h : s.size = 0) : s = ByteArray.empty := by
  obtain ⟨d⟩ := s
  have : d = #[] := Array.eq_empty_of_size_eq_zero h
  subst this
  rfl
theorem toList_nil (s : ByteArray) : s.toList.isEmpty = decide (s.size = 0) := by
  by_cases h : s.size = 0
  · rw [ba_nil h]
    simp
  · rw [decide_eq_false h, List.isEmpty_eq_false_iff]
    intro e
    apply h
    have e2 := congrArg List.length e
    rw [ByteArray.toList_eq] at e2
    simpa using e2
theorem cut_len (s : ByteArray) : ∀ n, s.size ≤ n → (cut s).1.length ≤ s.size ∧ (cut s).2.1.size ≤ s.size ∧ 0 ≤ (cut s).2.2 ∧ (cut s).2.2 ≤ 4 ∧ ((cut s).2.2 ≠ 0 → (cut s).2.1 = ByteArray.empty) ∧ flt (cut s).2.1 = 0 ∧ whB (cut s).2.1 = false ∧ ∀ m ∈ (cut s).1, gmB m.1 m.2 = true := by
  intro n
  induction n generalizing s with
  | zero =>
    intro h
    have h0 : s.size = 0 := by omega
    rw [cut_rest (flt_nil h0) (whB_nil h0)]
    exact ⟨Nat.zero_le _, Nat.le_refl _, Int.le_refl 0, (by decide : (0 : Int) ≤ 4), fun h => absurd rfl h, flt_nil h0, whB_nil h0, fun m hm => absurd hm (by simp)⟩
  | succ n ih =>
    intro h
    by_cases hf : flt s = 0
    · cases hw : whB s with
      | false =>
        rw [cut_rest hf hw]
        exact ⟨Nat.zero_le _, Nat.le_refl _, Int.le_refl 0, (by decide : (0 : Int) ≤ 4), fun h => absurd rfl h, hf, hw, fun m hm => absurd hm (by simp)⟩
      | true =>
        have hl := wh_len hf hw
        have hz : (s.extract (bt s 2).toNat s.size).size = s.size - (bt s 2).toNat := by rw [ByteArray.size_extract]; omega
        obtain ⟨i1, i2, i3, i4, i5, i6, i7, i8⟩ := ih (s.extract (bt s 2).toNat s.size) (by rw [hz]; omega)
        rw [cut_whole hf hw]
        refine ⟨by simp only [List.length_cons]; omega, by dsimp only; omega, i3, i4, i5, i6, i7, ?_⟩
        intro m hm
        rcases List.mem_cons.1 hm with rfl | hm
        · have h4 : flN s 5 = 0 := by have := hf; unfold flt at this; rwa [Nat.min_eq_right hl.1] at this
          have := fl4 h4
          unfold gmB
          refine decide_eq_true ⟨this.1, this.2.1, ?_, fun e => ?_⟩
          · dsimp only
            rw [ByteArray.size_extract]
            omega
          · have := this.2.2 e
            dsimp only
            rw [ByteArray.size_extract]
            omega
        · exact i8 m hm
    · rw [cut_bad hf]
      have hb := flt_bd s
      exact ⟨Nat.zero_le _, Nat.zero_le _, hb.1, hb.2, fun _ => rfl, flt_nil rfl, whB_nil rfl, fun m hm => absurd hm (by simp)⟩
/-- Good readers. -/
def grB (rest : ByteArray) (got : List Ms) (bad : Int) : Bool :=
  decide (got.length ≤ 40) && got.all (fun m => gmB m.1 m.2) && decide (0 ≤ bad ∧ bad ≤ 4) && decide (bad ≠ 0 → rest.size = 0) && decide (flt rest = 0) && !whB rest
end Go.Proofs.Ytoeephmdklmpfaa
