/- leastOf of the program. -/
import Derived.Test.YtelehmkmdbhcfaaPlain9b
import Derived.Test.YtelehmkmdbhcfaaI9p
import Derived.Test.YtelehmkmdbhcfaaI9q
namespace Go.Proofs.Ytelehmkmdbhcfaa
open Go.RowKit

set_option maxRecDepth 100000 in
set_option maxHeartbeats 1600000 in
theorem i_leastOf (q qc : Nat) (b : Nat → Int) (s : Nat → Bool) (w : World) (hR : RowInt (some ⟨q, 0, none⟩) 6 b w) :
    Calls Try.prog 28 #[.slice (some ⟨q, 0, none⟩) 6 qc, .agg #[.bool (s 0), .bool (s 1), .bool (s 2), .bool (s 3), .bool (s 4), .bool (s 5)]] w fun e w' => ∃ x : Int, e = .returned (.int .i64 x) ∧ Hid (SeaK 6 b s x) ∧ Below w.heap.size w w' := by
  have MX := Mut.new w (bits 6 s).toArray 59
  have hB : Hid (∀ j, j < 6 → (w.alloc (.cells #[.bool (s 0), .bool (s 1), .bool (s 2), .bool (s 3), .bool (s 4), .bool (s 5)] 59)).cell? ⟨w.heap.size, j, none⟩ = some (.bool (s j))) := fun j hj => MX.2.1 j _ (bits_get hj)
  have dX : Below w.heap.size w (w.alloc (.cells #[.bool (s 0), .bool (s 1), .bool (s 2), .bool (s 3), .bool (s 4), .bool (s 5)] 59)) := below_box (Below.refl _ _)
  have hC : Hid (∀ j, j < 6 → (w.alloc (.cells #[.bool (s 0), .bool (s 1), .bool (s 2), .bool (s 3), .bool (s 4), .bool (s 5)] 59)).cell? ⟨q, j, none⟩ = some (.int .i64 (b j))) := fun j hj => by
    obtain ⟨b1, off1, hab, hb1, c⟩ := hR.below dX j hj
    simp only [Option.some.injEq, Addr.mk.injEq, and_true] at hab
    obtain ⟨rfl, rfl⟩ := hab
    rw [Nat.zero_add] at c
    exact c
  clear MX hR
  go_enter Try.func28, Try.ntmps28
  go_wp2_with fail
  generalize w.alloc (.cells #[.bool (s 0), .bool (s 1), .bool (s 2), .bool (s 3), .bool (s 4), .bool (s 5)] 59) = wx at *
  go_loopw [5, 10] (fun x y wr => ∃ (k : Nat) (xi : Int), x = .int .i64 xi ∧ y = .int .i64 k ∧ k ≤ 6 ∧ Hid (SeaK k b s xi) ∧ wr = wx) (fun _ y _ => 6 - (intOf y).toNat)
  case atStart => exact ⟨0, -1, rfl, rfl, by omega, sea_zero b s, rfl⟩
  case round =>
    obtain ⟨k, xi, rfl, rfl, hk, hS, hwr⟩ := hrel
    rw [hwr]; clear hwr wr
    by_cases hlt : k < 6
    · have hlt' : (k : Int) < 6 := by omega
      have ck := hC.out k hlt
      have dk := hB.out k hlt
      have hSk := hide (fun h => sea_skip hS.out (k := k) h)
      have hSf := hide (fun h1 h2 => sea_first hS.out (k := k) h1 h2)
      cases hs : s k with
      | true =>
        rw [hs] at dk
        have hE := hide (hSk.out hs)
        clear hS hSk hSf hs hB hC
        generalize b k = bk at *
        go_wp2_with fail
        exact ⟨⟨k + 1, xi, by first | rfl | trivial, by go_num, by omega, hE, by first | rfl | trivial⟩, by simp [intOf]; omega⟩
      | false =>
        rw [hs] at dk
        by_cases hx : xi < 0
        · have hE := hide (hSf.out hx hs)
          clear hS hSk hSf hs hB hC
          generalize b k = bk at *
          go_wp2_with fail
          exact ⟨⟨k + 1, k, by first | rfl | trivial, by go_num, by omega, hE, by first | rfl | trivial⟩, by simp [intOf]; omega⟩
        · obtain ⟨a, rfl⟩ : ∃ a : Nat, xi = a := ⟨xi.toNat, by omega⟩
          have ha : a < 6 := by
            rcases hS.out with ⟨e, _⟩ | ⟨a', e, h1, _⟩
            · omega
            · omega
          have ha' : (a : Int) < 6 := by omega
          have ca := hC.out a ha
          have hL := hide (fun h => sea_less hS.out hs h)
          have hY := hide (fun h => sea_stay hS.out (k := k) h)
          clear hS hSk hSf hs hB hC
          generalize b k = bk at *
          generalize b a = ba at *
          by_cases hl : bk < ba
          · have hE := hide (hL.out hl)
            clear hL hY
            go_wp2_with fail
            exact ⟨⟨k + 1, k, by first | rfl | trivial, by go_num, by omega, hE, by first | rfl | trivial⟩, by simp [intOf]; omega⟩
          · have hE := hide (hY.out hl)
            clear hL hY
            go_wp2_with fail
            exact ⟨⟨k + 1, a, by first | rfl | trivial, by go_num, by omega, hE, by first | rfl | trivial⟩, by simp [intOf]; omega⟩
    · have hlt' : ¬ (k : Int) < 6 := by omega
      obtain rfl : k = 6 := by omega
      clear hB hC
      go_wp2_with fail
      go_ret
      exact ⟨xi, rfl, hS, dX⟩
end Go.Proofs.Ytelehmkmdbhcfaa
