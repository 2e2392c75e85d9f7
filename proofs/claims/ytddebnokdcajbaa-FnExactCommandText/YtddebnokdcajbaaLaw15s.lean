/- What the laws do with lists of strings: counted, marked, looked at again. -/
import Derived.Test.YtddebnokdcajbaaPlain15
import Derived.Laws.BytesArg
namespace Go.Proofs.Ytddebnokdcajbaa
open Go.RowKit

theorem u8_wrap15 (n : Int) : IntKind.u8.wrap n = n % 256 := by
  simp [IntKind.wrap, IntKind.bits, IntKind.signed]
/-- A number's digits ahead of a text. -/
def mtD (k : Nat) (out : ByteArray) : ByteArray := if _h : k = 0 then out else mtD (k / 10) (strOfNums [((48 + k % 10 : Nat) : Int)] ++ out)
termination_by k
decreasing_by omega
theorem mtD_zero (out : ByteArray) : mtD 0 out = out := by rw [mtD]; simp
theorem mtD_next {k : Nat} (h : k ≠ 0) (out : ByteArray) : mtD k out = mtD (k / 10) (strOfNums [((48 + k % 10 : Nat) : Int)] ++ out) := by rw [mtD, dif_neg h]
/-- The text that marks. -/
def mt (k : Nat) : ByteArray := ⟨#[109]⟩ ++ mtD k ByteArray.empty
set_option maxRecDepth 100000 in
set_option maxHeartbeats 800000 in
theorem w_szStrS (a : Option Addr) (len cap : Nat) (f : Nat → ByteArray) (left : Int) (w : World) (hl : len ≤ maxLen) (h0 : 0 ≤ left) (h1 : left ≤ 1048576) (hR : RowStr a len f w) (hb : ∀ i, i < len → (f i).size ≤ maxLen) :
    Calls Try.prog 9 #[.slice a len cap, .int .i64 left] w fun e w' => ∃ r : Int, e = .returned (.int .i64 r) ∧ (r = -1 ∨ (0 ≤ r ∧ r + len ≤ left ∧ ∀ i, i < len → (f i).size ≤ 1048576)) ∧ Below w.heap.size w w' := by
  unfold maxLen at hl hb
  by_cases h : (len : Int) ≤ left
  · have h2 : ¬ (left - (len : Int) < 0) := by omega
    go_enter Try.func9, Try.ntmps9
    go_wp2_with fail
    go_loopw [1, 5] (fun ll i wr => ∃ (q : Nat) (l : Int), q ≤ len ∧ i = .int .i64 q ∧ ll = .int .i64 l ∧ 0 ≤ l ∧ l + len ≤ left ∧ Hid (∀ i, i < q → (f i).size ≤ 1048576) ∧ Below w.heap.size w wr) (fun _ i _ => len - (intOf i).toNat)
    case atStart => exact ⟨0, left - (len : Int), Nat.zero_le _, rfl, rfl, by omega, by omega, fun i hi => absurd hi (Nat.not_lt_zero _), Below.refl _ _⟩
    case round =>
      clear h2
      obtain ⟨q, l, hq, rfl, rfl, l0, l1, hs, hbw⟩ := hrel
      by_cases hlt : q < len
      · obtain ⟨b, off, rfl, hbb, c0⟩ := hR q hlt
        have c0 := (hbw.cell (p := ⟨b, off + q, none⟩) hbb).trans c0
        have hlt' : (q : Int) < (len : Int) := by omega
        have hbq := hb q hlt
        by_cases hk : ((f q).size : Int) ≤ l
        · have hn : ¬ (l - ((f q).size : Int) < 0) := by omega
          clear hR hb
          go_wp2_with fail
          refine ⟨⟨q + 1, _, by omega, by go_num, rfl, by omega, by omega, fun i hi => ?_, hbw⟩, by simp [intOf]; omega⟩
          by_cases e : i = q
          · subst e; omega
          · exact hs.out i (by omega)
        · have hn : l - ((f q).size : Int) < 0 := by omega
          clear hs hR hb
          go_wp2_with fail
          go_ret
          exact ⟨-1, rfl, .inl rfl, hbw⟩
      · have hk' : q = len := by omega
        subst hk'
        clear hR hb
        go_wp2_with fail
        go_ret
        exact ⟨l, rfl, .inr ⟨l0, l1, hs.out⟩, hbw⟩
  · have h2 : left - (len : Int) < 0 := by omega
    clear hR hb
    go_enter Try.func9, Try.ntmps9
    go_wp2_with fail
    go_ret
    exact ⟨-1, rfl, .inl rfl, Below.refl _ _⟩
end Go.Proofs.Ytddebnokdcajbaa
