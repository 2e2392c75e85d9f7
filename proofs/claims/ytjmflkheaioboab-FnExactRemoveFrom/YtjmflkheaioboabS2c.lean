/- What the specification's small functions of tries answer: a bit of an address, a node's half. -/
import Derived.Test.YtjmflkheaioboabKit
import Derived.Test.YtjmflkheaioboabPlain1
namespace Go.Proofs.Ytjmflkheaioboab
open Go.RowKit

/-- Bit k of an address, the highest one being 0. -/
def bitA (x k : Int) : Int := x / 2 ^ (31 - k).toNat % 2

theorem and1 (x : Int) (h0 : 0 ≤ x) (h1 : x ≤ 4294967295) : bits .and .i64 x 1 = x % 2 := by
  obtain ⟨n, rfl⟩ := Int.eq_ofNat_of_zero_le h0
  have e : bits .and .i64 (n : Int) 1 = IntKind.i64.wrap ((BitVec.ofInt 64 (n : Int) &&& BitVec.ofInt 64 1).toNat : Int) := rfl
  have e1 : (BitVec.ofInt 64 (n : Int) &&& BitVec.ofInt 64 1).toNat = n % 2 := by
    rw [BitVec.toNat_and]
    have a1 : (BitVec.ofInt 64 (n : Int)).toNat = n := by
      rw [BitVec.ofInt_natCast, BitVec.toNat_ofNat]
      omega
    have a2 : (BitVec.ofInt 64 1).toNat = 1 := by decide
    rw [a1, a2, Nat.and_one_is_mod]
  rw [e, e1, wrapk_in _ (by omega)]
  omega

theorem bitA_bd (x k : Int) : 0 ≤ bitA x k ∧ bitA x k ≤ 1 := by unfold bitA; omega

set_option maxHeartbeats 400000 in
theorem s_bit (x k : Int) (w : World) (hx0 : 0 ≤ x) (hx1 : x ≤ 4294967295) (hk0 : 0 ≤ k) (hk1 : k ≤ 31) :
    Calls Try.prog 59 #[.int .i64 x, .int .i64 k] w fun e w' => e = .returned (.int .i64 (bitA x k)) ∧ Below w.heap.size w w' := by
  have hp : (1 : Int) ≤ 2 ^ (31 - k).toNat := by
    have := Int.pow_pos (n := 2) (m := (31 - k).toNat) (by omega)
    omega
  have hq0 : 0 ≤ x / 2 ^ (31 - k).toNat := Int.ediv_nonneg hx0 (by omega)
  have hq1 : x / 2 ^ (31 - k).toNat ≤ x := Int.ediv_le_self _ hx0
  have ha := hide (and1 (x / 2 ^ (31 - k).toNat) hq0 (by omega))
  go_enter Try.func59, Try.ntmps59
  go_wp2_with fail
  go_ret
  exact ⟨ret_int ha.out, Below.refl _ _⟩

/-- A node's half by a bit. -/
def halfN (z o bit : Int) : Int := if bit = 1 then o else z

set_option maxHeartbeats 400000 in
theorem s_half (z o v bit : Int) (h : Bool) (w : World) :
    Calls Try.prog 58 #[.agg #[.int .i64 z, .int .i64 o, .bool h, .int .i64 v], .int .i64 bit] w fun e w' => e = .returned (.int .i64 (halfN z o bit)) ∧ Below w.heap.size w w' := by
  by_cases hb : bit = 1
  · have e1 : halfN z o bit = o := if_pos hb
    have d1 : (bit == 1) = true := by simpa using hb
    rw [e1]
    clear e1 hb
    go_enter Try.func58, Try.ntmps58
    go_wp2_with fail
    go_ret
    exact ⟨rfl, below_box (Below.refl _ _)⟩
  · have e1 : halfN z o bit = z := if_neg hb
    have d1 : (bit == 1) = false := by simpa using hb
    rw [e1]
    clear e1 hb
    go_enter Try.func58, Try.ntmps58
    go_wp2_with fail
    go_ret
    exact ⟨rfl, below_box (Below.refl _ _)⟩
end Go.Proofs.Ytjmflkheaioboab
