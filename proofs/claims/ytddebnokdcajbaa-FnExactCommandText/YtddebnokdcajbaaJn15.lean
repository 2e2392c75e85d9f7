/- strings.Join of the words of a path. -/
import Derived.Test.YtddebnokdcajbaaShelf15j
import Derived.Test.YtddebnokdcajbaaPlain15
import Derived.Test.YtddebnokdcajbaaLst15
namespace Go.Proofs.Ytddebnokdcajbaa
open Go.RowKit

/-- The words of a path with blanks between. -/
def joinB (n : Nat) (p : Nat → ByteArray) : ByteArray := ⟨(Go.Lib.join ((listS n p).map (·.data.toList)) [32]).toArray⟩
theorem lens_le : ∀ (L : List (List UInt8)) (m : Nat), (∀ x, x ∈ L → x.length ≤ m) → Go.Lib.lens L ≤ m * L.length
  | [], m, _ => by simp [Go.Lib.lens]
  | x :: L, m, h => by
    have h1 := h x (List.mem_cons_self ..)
    have h2 := lens_le L m (fun z hz => h z (List.mem_cons_of_mem _ hz))
    have e : Go.Lib.lens (x :: L) = x.length + Go.Lib.lens L := by simp [Go.Lib.lens]
    rw [e, List.length_cons, Nat.mul_add]
    omega
theorem joinB_len {n : Nat} {p : Nat → ByteArray} (h : Pw n p) : (Go.Lib.join ((listS n p).map (·.data.toList)) [32]).length ≤ 100 := by
  have hl : ((listS n p).map (·.data.toList)).length = n := by simp [listS_len]
  have hx : ∀ x, x ∈ (listS n p).map (·.data.toList) → x.length ≤ 8 := fun x hx => by
    simp only [listS, List.map_map, List.mem_map, List.mem_range] at hx
    obtain ⟨i, hi, rfl⟩ := hx
    have := (h.2.2 i hi).2.1
    have e := Go.Lib.size_eq (p i)
    simp only [Function.comp_apply]
    omega
  have h3 := lens_le _ 8 hx
  have hn := h.2.1
  generalize (listS n p).map (·.data.toList) = L at *
  cases L with
  | nil => simp [Go.Lib.join_nil]
  | cons x r =>
    rw [Go.Lib.join_length]
    simp only [List.length_cons, List.length_nil] at *
    omega
theorem i_join (a : Option Addr) (n c : Nat) (p : Nat → ByteArray) (w : World) (h : Pw n p) (hc : n ≤ c) (R : RowStr a n p w) :
    Calls Try.prog 15 #[.slice a n c, .string ⟨#[32]⟩] w fun e w' => e = .returned (.string (joinB n p)) ∧ Below w.heap.size w w' := by
  obtain ⟨b, off, rfl, hb, _⟩ := R 0 h.1
  have hl := listS_len n p
  have q := Try.strings_Join b off c (listS n p) ⟨#[32]⟩ w (fun j x hx => by
    have hj : j < n := by
      rcases Nat.lt_or_ge j n with e | e
      · exact e
      · rw [List.getElem?_eq_none (by omega)] at hx; cases hx
    obtain ⟨b', o', e, _, hcell⟩ := R j hj
    simp only [Option.some.injEq, Addr.mk.injEq, and_true] at e
    obtain ⟨rfl, rfl⟩ := e
    rw [hcell]
    unfold listS at hx
    rw [List.getElem?_map, List.getElem?_range hj] at hx
    simp at hx
    rw [hx]) hb (by have := h.2.1; omega) (by omega) (by have := joinB_len h; show _ ≤ _; exact Nat.le_trans this (by omega))
  rw [hl] at q
  exact q
end Go.Proofs.Ytddebnokdcajbaa
