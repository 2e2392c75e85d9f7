/- BestAt of the specification and of the program, in the words of the law. -/
import Derived.Test.YtjjdfniemlcnnaaS13d
import Derived.Test.YtjjdfniemlcnnaaI13c
namespace Go.Proofs.Ytjjdfniemlcnnaa
open Go.RowKit

theorem bf_low {n : Nat} {T : Nat → Oc} (hl : LowO n T) (x : Int) : (bfT n T x).n0 ≤ 1048576 ∧ (bfT n T x).n1 ≤ 1048576 := by
  cases hb : bfB n T x with
  | false => rw [bfT_no hb]; exact ⟨Nat.zero_le _, Nat.zero_le _⟩
  | true =>
    have hmem : bfT n T x ∈ lsO n T := by
      rw [bfT_yes hb]
      have hlen : 0 < (flO n T x).length := by simpa [bfB] using hb
      have hp := pkO_le (TL (flO n T x)) ((flO n T x).length - 1)
      rw [TL_eq (by omega)]
      exact (List.mem_filter.1 (List.getElem_mem _)).1
    obtain ⟨k, hk, e⟩ := List.mem_map.1 hmem
    rw [← e]
    exact hl k (List.mem_range.1 hk)
theorem be_low {ow : Int} {n : Nat} {U : Nat → Rc} {pa pl : Int} (hl : LowR n U) : (beT ow n U pa pl).n0 ≤ 1048576 ∧ (beT ow n U pa pl).n1 ≤ 1048576 := by
  unfold beT
  split
  · unfold baT
    split
    · next h => exact bf_low (lowO_of (hl _ (plK_lt h)).2) ow
    · exact ⟨Nat.zero_le _, Nat.zero_le _⟩
  · exact ⟨Nat.zero_le _, Nat.zero_le _⟩
theorem s_bestAtF (ow : Int) (a : Option Addr) (n c : Nat) (U : Nat → Rc) (pa pl : Int) (w : World) (hn : n ≤ 1048576) (hl : LowR n U) (hR : RowRS a n U w) :
    Calls Try.prog 21 #[.agg #[.int .i64 ow, .slice a n c], .agg #[.int .i64 pa, .int .i64 pl]] w fun e w' => ∃ a0 c0 a1 c1, e = .returned (.tuple #[.agg #[.int .i64 (beT ow n U pa pl).pe, .int .i64 (beT ow n U pa pl).o, .slice a0 (beT ow n U pa pl).n0 c0, .int .i64 (beT ow n U pa pl).nx, .int .i64 (beT ow n U pa pl).md, .int .i64 (beT ow n U pa pl).pf, .slice a1 (beT ow n U pa pl).n1 c1], .bool (beB ow n U pa pl)]) ∧ AnsF w.heap.size (beT ow n U pa pl) a0 c0 a1 c1 w' ∧ Below w.heap.size w w' := by
  refine (s_bestAt ow a n c U pa pl w hn hl hR).mono ?_
  rintro e w' ⟨⟨t, a0, c0, a1, c1⟩, rfl, ⟨ht, hA⟩, b⟩
  simp only at ht hA
  subst ht
  exact ⟨a0, c0, a1, c1, rfl, hA, b⟩
theorem i_bestAtF (ow : Int) (a : Option Addr) (n c : Nat) (U : Nat → Rc) (pa pl : Int) (w : World) (hn : n ≤ 1048576) (hl : LowR n U) (hR : RowRS a n U w) :
    Calls Try.prog 23 #[.agg #[.int .i64 ow, .slice a n c], .agg #[.int .i64 pa, .int .i64 pl]] w fun e w' => ∃ a0 c0 a1 c1, e = .returned (.tuple #[.agg #[.int .i64 (beT ow n U pa pl).pe, .int .i64 (beT ow n U pa pl).o, .slice a0 (beT ow n U pa pl).n0 c0, .int .i64 (beT ow n U pa pl).nx, .int .i64 (beT ow n U pa pl).md, .int .i64 (beT ow n U pa pl).pf, .slice a1 (beT ow n U pa pl).n1 c1], .bool (beB ow n U pa pl)]) ∧ AnsF w.heap.size (beT ow n U pa pl) a0 c0 a1 c1 w' ∧ Below w.heap.size w w' := by
  refine (i_bestAt ow a n c U pa pl w hn hl hR).mono ?_
  rintro e w' ⟨⟨t, a0, c0, a1, c1⟩, rfl, ⟨ht, hY, hN⟩, b⟩
  simp only at ht
  cases hb : beB ow n U pa pl with
  | false =>
    have h0 := hN hb
    simp only [oe0, Oe.mk.injEq] at h0
    obtain ⟨rfl, rfl, rfl, rfl, rfl⟩ := h0
    rw [← ht]
    exact ⟨none, 0, none, 0, rfl, ansF_zero _ _, b⟩
  | true =>
    obtain ⟨_, h2, h3, h4, h5, h6, h7⟩ := hY hb
    subst ht
    simp only at h2 h3
    generalize bxO ⟨beT ow n U pa pl, a0, c0, a1, c1⟩ = x at *
    generalize byO ⟨beT ow n U pa pl, a0, c0, a1, c1⟩ = y at *
    subst h2 h3
    exact ⟨_, c0, _, c1, rfl, ansF_own h4 h5 h6 h7, b⟩
end Go.Proofs.Ytjjdfniemlcnnaa
