/- Words added one by one, as a join. -/
import Derived.Test.YtddebnokdcajbaaTxt15
namespace Go.Proofs.Ytddebnokdcajbaa
open Go.RowKit

/-- A text, with a blank and a word behind it for each of k words. -/
def spW (s : ByteArray) (p : Nat → ByteArray) : Nat → ByteArray
  | 0 => s
  | k + 1 => spW s p k ++ (⟨#[32]⟩ ++ p k)
theorem spW_data (s : ByteArray) (p : Nat → ByteArray) : ∀ k, (spW s p k).data.toList = s.data.toList ++ ((listS k p).map (fun x => [32] ++ x.data.toList)).flatten
  | 0 => by simp [spW, listS]
  | k + 1 => by
    have e : listS (k + 1) p = listS k p ++ [p k] := by simp [listS, List.range_succ]
    show (spW s p k ++ (⟨#[32]⟩ ++ p k)).data.toList = _
    rw [e, ByteArray.data_append, ByteArray.data_append, Array.toList_append, Array.toList_append, spW_data s p k]
    simp
theorem join_blank : ∀ (L : List ByteArray), L ≠ [] → [32] ++ Go.Lib.join (L.map (·.data.toList)) [32] = (L.map (fun x => [32] ++ x.data.toList)).flatten
  | [], h => absurd rfl h
  | x :: L, _ => by
    rw [List.map_cons, Go.Lib.join_cons]
    simp [Go.Lib.joinTail, Function.comp_def]
theorem spW_size (s : ByteArray) {p : Nat → ByteArray} {n : Nat} (h : Pw n p) : ∀ k, k ≤ n → (spW s p k).size ≤ s.size + 9 * k
  | 0, _ => Nat.le_refl _
  | k + 1, hk => by
    have ih := spW_size s h k (by omega)
    have h2 := (h.2.2 k (by omega)).2.1
    have e : (⟨#[32]⟩ : ByteArray).size = 1 := rfl
    show (spW s p k ++ (⟨#[32]⟩ ++ p k)).size ≤ _
    rw [ByteArray.size_append, ByteArray.size_append, e]
    omega
theorem txt_delete {n : Nat} {p : Nat → ByteArray} (v : ByteArray) (h : Pw n p) : spW ⟨#[100, 101, 108, 101, 116, 101]⟩ p n = txtI false n p v := by
  have hl : listS n p ≠ [] := fun e => by have := listS_len n p; rw [e] at this; have := h.1; simp at *; omega
  apply ByteArray.ext
  apply Array.toList_inj.1
  rw [spW_data, ← join_blank _ hl]
  unfold txtI
  rw [if_neg (by decide), ByteArray.data_append, Array.toList_append]
  simp [joinB]
theorem txt_set {n : Nat} {p : Nat → ByteArray} (v : ByteArray) (h : Pw n p) : spW ⟨#[115, 101, 116]⟩ p n ++ (⟨#[32]⟩ ++ v) = txtI true n p v := by
  have hl : listS n p ≠ [] := fun e => by have := listS_len n p; rw [e] at this; have := h.1; simp at *; omega
  apply ByteArray.ext
  apply Array.toList_inj.1
  rw [ByteArray.data_append, Array.toList_append, spW_data, ← join_blank _ hl]
  unfold txtI
  rw [if_pos rfl]
  simp [joinB, ByteArray.data_append]
end Go.Proofs.Ytddebnokdcajbaa
