/- What the laws' samePrefixes answers of any two lists. -/
import Derived.Test.YtofalilkephkpaaW3v
namespace Go.Proofs.Ytofalilkephkpaa
open Go.RowKit

theorem list_pAt {L M : List Pf} (h : L.length = M.length) (k : ∀ i, i < L.length → pAt L i = pAt M i) : L = M := by
  refine List.ext_getElem h (fun i h1 h2 => ?_)
  have := k i h1
  rw [pAt_eq h1, pAt_eq h2] at this
  exact this
set_option maxRecDepth 100000 in
set_option maxHeartbeats 1600000 in
theorem w_samePrefixes2 (a b : Option Addr) (ca cb : Nat) (L M : List Pf) (w : World) (hl : L.length ≤ 8589934592) (_hlm : M.length ≤ 8589934592) (hR : RowP a L w) (hR2 : RowP b M w) :
    Calls Try.prog 22 #[.slice a L.length ca, .slice b M.length cb] w fun e w' => e = .returned (.bool (decide (L = M))) ∧ Below w.heap.size w w' := by
  by_cases hle : L.length = M.length
  · rw [← hle]
    have hne : ((L.length : Int) != (L.length : Int)) = false := by simp
    go_enter Try.func22, Try.ntmps22
    go_wp2_with fail
    go_loopw [13] (fun i wr => ∃ k : Nat, k ≤ L.length ∧ i = .int .i64 k ∧ (∀ j, j < k → pAt L j = pAt M j) ∧ Below w.heap.size w wr) (fun i _ => L.length - (intOf i).toNat)
    case atStart => exact ⟨0, Nat.zero_le _, rfl, fun j h => absurd h (Nat.not_lt_zero _), Below.refl _ _⟩
    case round =>
      obtain ⟨k, hk, rfl, hall, hb⟩ := hrel
      by_cases hlt : k < L.length
      · have hlt' : (k : Int) < (L.length : Int) := by omega
        obtain ⟨b1, off1, rfl, hb1, h0, h1⟩ := (hR.below hb) k hlt
        obtain ⟨b2, off2, rfl, hb2, i0, i1⟩ := (hR2.below hb) k (by omega)
        have q22 := fun w => neqPrefix_run (pAt L k).1 (pAt L k).2 (pAt M k).1 (pAt M k).2 w
        clear hR hR2
        by_cases he : pAt L k = pAt M k
        · have hq : (!((pAt L k).1 == (pAt M k).1 && (pAt L k).2 == (pAt M k).2)) = false := by rw [he]; simp
          have hall2 : Hid (∀ j, j < k + 1 → pAt L j = pAt M j) := hide (fun j hj => by
            rcases Nat.lt_or_ge j k with h | h
            · exact hall j h
            · have : j = k := by omega
              rw [this]; exact he)
          clear he hall
          generalize (pAt L k).1 = x at *
          generalize (pAt L k).2 = y at *
          generalize (pAt M k).1 = x' at *
          generalize (pAt M k).2 = y' at *
          rw [hq] at q22
          go_wp2_with fail
          go_quiet (fail)
          go_wp2_with fail
          exact ⟨⟨k + 1, by omega, by go_num, hall2.out, by first | exact hb | exact hb.drew | exact below_drewN hb _⟩, by simp [intOf]; omega⟩
        · have hq : (!((pAt L k).1 == (pAt M k).1 && (pAt L k).2 == (pAt M k).2)) = true := by
            simp only [Bool.not_eq_true', Bool.and_eq_false_iff, beq_eq_false_iff_ne]
            rcases Decidable.em ((pAt L k).1 = (pAt M k).1) with h | h
            · exact .inr (fun h2 => he (Prod.ext h h2))
            · exact .inl h
          have hd : Hid (decide (L = M) = false) := hide (decide_eq_false (fun h => he (by rw [h])))
          clear he hall
          generalize (pAt L k).1 = x at *
          generalize (pAt L k).2 = y at *
          generalize (pAt M k).1 = x' at *
          generalize (pAt M k).2 = y' at *
          rw [hq] at q22
          go_wp2_with fail
          go_quiet (fail)
          go_wp2_with fail
          go_ret
          exact ⟨by rw [hd.out]; rfl, by first | exact hb | exact hb.drew | exact below_drewN hb _⟩
      · have hk' : k = L.length := by omega
        subst hk'
        have hd : Hid (decide (L = M) = true) := hide (decide_eq_true (list_pAt hle hall))
        clear hR hR2 hall
        go_wp2_with fail
        go_ret
        exact ⟨by rw [hd.out]; rfl, hb⟩
  · have hne : ((L.length : Int) != (M.length : Int)) = true := by simp; omega
    have hd : Hid (decide (L = M) = false) := hide (decide_eq_false (fun h => hle (by rw [h])))
    clear hle
    go_enter Try.func22, Try.ntmps22
    go_wp2_with fail
    go_ret
    exact ⟨by rw [hd.out]; rfl, Below.refl _ _⟩
end Go.Proofs.Ytofalilkephkpaa
