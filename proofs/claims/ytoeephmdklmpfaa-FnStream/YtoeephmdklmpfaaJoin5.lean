/- Plain: pieces fed one behind the other, or as one. -/
import Derived.Test.YtoeephmdklmpfaaFall5
namespace Go.Proofs.Ytoeephmdklmpfaa
open Go.RowKit

theorem bt_app {a : ByteArray} (b : ByteArray) {i : Nat} (h : i < a.size) : bt (a ++ b) i = bt a i := by
  have h2 : i < (a ++ b).size := by rw [app_size]; omega
  rw [bt_at h, bt_at h2, ByteArray.getElem_append_left h]
theorem flA_app {a : ByteArray} (b : ByteArray) {i : Nat} (h : i < a.size) : flA (a ++ b) i = flA a i := by
  unfold flA
  rw [bt_app b h]
  by_cases h2 : i < 2
  · rw [if_pos h2, if_pos h2]
  · rw [if_neg h2, if_neg h2, bt_app b (i := 2) (by omega)]
    by_cases e2 : i = 2
    · rw [if_pos e2, if_pos e2]
    · rw [if_neg e2, if_neg e2]
      by_cases e3 : i = 3
      · subst e3
        rw [if_pos rfl, if_pos rfl, bt_app b h]
      · rw [if_neg e3, if_neg e3]
        by_cases e4 : 4 < a.size
        · rw [bt_app b e4]
        · omega
theorem flN_app {a : ByteArray} (b : ByteArray) {k : Nat} (h : k ≤ a.size) : flN (a ++ b) k = flN a k := by
  induction k with
  | zero => rfl
  | succ k ih =>
    have e := ih (by omega)
    show (if flN (a ++ b) k = 0 then flA (a ++ b) k else flN (a ++ b) k) = (if flN a k = 0 then flA a k else flN a k)
    rw [e, flA_app b (by omega)]
theorem flt_app_bad {a : ByteArray} (b : ByteArray) (h : flt a ≠ 0) : flt (a ++ b) = flt a := by
  unfold flt at h ⊢
  have e := flN_app b (a := a) (Nat.min_le_left a.size 5)
  rw [← e] at h ⊢
  exact flN_keep h (by rw [app_size]; omega)
theorem flt_app_whole {a : ByteArray} (b : ByteArray) (h : flt a = 0) (h5 : 5 ≤ a.size) : flt (a ++ b) = 0 := by
  unfold flt at h ⊢
  rw [Nat.min_eq_right h5] at h
  rw [Nat.min_eq_right (by rw [app_size]; omega), flN_app b h5]
  exact h
theorem ext_left {a : ByteArray} (b : ByteArray) (i : Nat) {j : Nat} (h : j ≤ a.size) : (a ++ b).extract i j = a.extract i j := by
  apply ByteArray.ext
  have hj : j ≤ a.data.size := h
  rw [ByteArray.data_extract, ByteArray.data_extract, ByteArray.data_append, Array.extract_append, Nat.sub_eq_zero_of_le hj]
  simp
theorem ext_right {a : ByteArray} (b : ByteArray) {i : Nat} (h : i ≤ a.size) : (a ++ b).extract i (a ++ b).size = a.extract i a.size ++ b := by
  apply ByteArray.ext
  have hi : i ≤ a.data.size := h
  have e : (a ++ b).size = a.data.size + b.data.size := app_size a b
  have e2 : a.size = a.data.size := rfl
  rw [e, e2, ByteArray.data_extract, ByteArray.data_append, ByteArray.data_append, ByteArray.data_extract, Array.extract_append, Nat.sub_eq_zero_of_le hi, Nat.add_sub_cancel_left]
  have h1 : a.data.extract i (a.data.size + b.data.size) = a.data.extract i a.data.size := by
    apply Array.ext
    · simp only [Array.size_extract]; omega
    · intro j _ _
      simp only [Array.getElem_extract]
  have h2 : b.data.extract 0 b.data.size = b.data := Array.extract_size
  rw [h1, h2]
/-- What is cut of bytes to which more come: what was cut, and what is cut of the rest and more. -/
theorem cut_app (b : ByteArray) : ∀ (n : Nat) (a : ByteArray), a.size ≤ n → cut (a ++ b) = if (cut a).2.2 = 0 then ((cut a).1 ++ (cut ((cut a).2.1 ++ b)).1, (cut ((cut a).2.1 ++ b)).2) else cut a := by
  intro n
  induction n with
  | zero =>
    intro a h
    have h0 : a.size = 0 := by omega
    rw [cut_rest (flt_nil h0) (whB_nil h0), if_pos rfl]
    rfl
  | succ n ih =>
    intro a h
    by_cases hf : flt a = 0
    · cases hw : whB a with
      | false =>
        rw [cut_rest hf hw, if_pos rfl]
        rfl
      | true =>
        obtain ⟨h5, h6, h7, h8, h9⟩ := wh_len hf hw
        have hf2 := flt_app_whole b hf h5
        have e2 : bt (a ++ b) 2 = bt a 2 := bt_app b (by omega)
        have e4 : bt (a ++ b) 4 = bt a 4 := bt_app b (by omega)
        have hw2 : whB (a ++ b) = true := by
          unfold whB
          rw [e2, app_size]
          exact decide_eq_true ⟨by omega, by omega⟩
        have hz : (a.extract (bt a 2).toNat a.size).size = a.size - (bt a 2).toNat := by rw [ByteArray.size_extract]; omega
        have k := ih (a.extract (bt a 2).toNat a.size) (by rw [hz]; omega)
        rw [cut_whole hf2 hw2, e2, e4, ext_left b _ h8, ext_right b h8, k, cut_whole hf hw]
        by_cases hc : (cut (a.extract (bt a 2).toNat a.size)).2.2 = 0
        · rw [if_pos hc]
          dsimp only
          rw [if_pos hc]
          rfl
        · rw [if_neg hc]
          dsimp only
          rw [if_neg hc]
    · rw [cut_bad hf, cut_bad (by rw [flt_app_bad b hf]; exact hf), flt_app_bad b hf, if_neg hf]
theorem stp_stp (r : Rp) (s t : ByteArray) : stp (stp r s) t = stp r (s ++ t) := by
  obtain ⟨X, L, B⟩ := r
  by_cases hB : B = 0
  · have e1 : stp (X, L, B) s = ((cut (X ++ s)).2.1, L ++ (cut (X ++ s)).1.take (40 - L.length), (cut (X ++ s)).2.2) := by
      unfold stp fdX fdL fdB
      simp only [if_pos hB]
    have e2 : stp (X, L, B) (s ++ t) = ((cut (X ++ (s ++ t))).2.1, L ++ (cut (X ++ (s ++ t))).1.take (40 - L.length), (cut (X ++ (s ++ t))).2.2) := by
      unfold stp fdX fdL fdB
      simp only [if_pos hB]
    rw [e1, e2, ← ByteArray.append_assoc, cut_app t _ (X ++ s) (Nat.le_refl _)]
    by_cases hc : (cut (X ++ s)).2.2 = 0
    · rw [if_pos hc]
      unfold stp fdX fdL fdB
      simp only [if_pos hc]
      have : (40 - (L ++ (cut (X ++ s)).1.take (40 - L.length)).length) = 40 - L.length - (cut (X ++ s)).1.length := by
        rw [List.length_append, List.length_take]
        omega
      rw [this, List.take_append, List.append_assoc]
    · rw [if_neg hc]
      unfold stp fdX fdL fdB
      simp only [if_neg hc]
  · have e : ∀ s, stp (X, L, B) s = (X, L, B) := fun s => by
      unfold stp fdX fdL fdB
      simp only [if_neg hB]
    rw [e, e, e]
/-- All pieces as one. -/
def cat (ss : List ByteArray) : ByteArray := ss.foldl (· ++ ·) ByteArray.empty
theorem cat_next {ss : List ByteArray} {k : Nat} (h : k < ss.length) : cat (ss.take (k + 1)) = cat (ss.take k) ++ sAt ss k := by
  unfold cat
  have e : ss.take (k + 1) = ss.take k ++ [sAt ss k] := by
    unfold sAt
    rw [List.take_add_one, List.getElem?_eq_getElem h, List.getD_eq_getElem?_getD, List.getElem?_eq_getElem h]
    rfl
  rw [e, List.foldl_append]
  rfl
theorem fold_cat (ss : List ByteArray) (r : Rp) (z : ByteArray) : ss.foldl stp (stp r z) = stp r (ss.foldl (· ++ ·) z) := by
  induction ss generalizing z with
  | nil => rfl
  | cons s ss ih =>
    show ss.foldl stp (stp (stp r z) s) = _
    rw [stp_stp]
    exact ih (z ++ s)
/-- Fed piece by piece or as one: the same. -/
theorem faR_cat (ss : List ByteArray) : faR [cat ss] = faR ss := by
  have e0 : stp rp0 ByteArray.empty = rp0 := by
    unfold stp fdX fdL fdB rp0
    have : cut (ByteArray.empty ++ ByteArray.empty) = ([], ByteArray.empty, 0) := cut_rest (flt_nil rfl) (whB_nil rfl)
    simp only [if_true, this]
    rfl
  have := fold_cat ss rp0 ByteArray.empty
  rw [e0] at this
  unfold faR
  rw [this]
  rfl
theorem faOk_one (s : ByteArray) (h : s.size ≤ 300) : faOk [s] = true := by
  unfold faOk
  simp [h]
end Go.Proofs.Ytoeephmdklmpfaa
