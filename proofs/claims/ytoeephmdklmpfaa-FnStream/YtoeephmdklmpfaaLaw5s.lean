/- What the laws do with lists of strings: counted, marked. -/
import Derived.Test.YtoeephmdklmpfaaFlatString
import Derived.Test.YtoeephmdklmpfaaLaw5
namespace Go.Proofs.Ytoeephmdklmpfaa
open Go.RowKit

set_option maxRecDepth 100000 in
set_option maxHeartbeats 800000 in
theorem w_szStringS (a : Option Addr) (len cap : Nat) (f : Nat → ByteArray) (left : Int) (w : World) (hl : len ≤ maxLen) (h0 : 0 ≤ left) (h1 : left ≤ 1048576) (hR : RowStr a len f w) (hb : ∀ i, i < len → (f i).size ≤ maxLen) :
    Calls Try.prog 42 #[.slice a len cap, .int .i64 left] w fun e w' => ∃ r : Int, e = .returned (.int .i64 r) ∧ (r = -1 ∨ (0 ≤ r ∧ r ≤ 1048576 ∧ len ≤ 1048576 ∧ ∀ i, i < len → (f i).size ≤ 1048576)) ∧ Below w.heap.size w w' := by
  unfold maxLen at hl hb
  by_cases h : (len : Int) ≤ left
  · have h2 : ¬ (left - (len : Int) < 0) := by omega
    go_enter Try.func42, Try.ntmps42
    go_wp2_with fail
    go_loopw [1, 5] (fun ll i wr => ∃ (q : Nat) (l : Int), q ≤ len ∧ i = .int .i64 q ∧ ll = .int .i64 l ∧ 0 ≤ l ∧ l ≤ 1048576 ∧ Hid (∀ i, i < q → (f i).size ≤ 1048576) ∧ Below w.heap.size w wr) (fun _ i _ => len - (intOf i).toNat)
    case atStart => exact ⟨0, left - (len : Int), Nat.zero_le _, rfl, rfl, by omega, by omega, fun i hi => absurd hi (Nat.not_lt_zero _), Below.refl _ _⟩
    case round =>
      clear h2
      obtain ⟨q, l, hq, rfl, rfl, l0, l1, hs, hbw⟩ := hrel
      by_cases hlt : q < len
      · obtain ⟨b, off, rfl, hbb, c0⟩ := hR q hlt
        have c0 := (hbw.cell (p := ⟨b, off + q, none⟩) hbb).trans c0
        have hlt' : (q : Int) < (len : Int) := by omega
        have hbq := hb q hlt
        by_cases hk : ((f q).size : Int) ≤ l
        · have hn : ¬ (l - ((f q).size : Int) < 0) := by omega
          clear hR hb
          go_wp2_with fail
          refine ⟨⟨q + 1, _, by omega, by go_num, rfl, by omega, by omega, fun i hi => ?_, hbw⟩, by simp [intOf]; omega⟩
          by_cases e : i = q
          · subst e; omega
          · exact hs.out i (by omega)
        · have hn : l - ((f q).size : Int) < 0 := by omega
          clear hs hR hb
          go_wp2_with fail
          go_ret
          exact ⟨-1, rfl, .inl rfl, hbw⟩
      · have hk' : q = len := by omega
        subst hk'
        clear hR hb
        go_wp2_with fail
        go_ret
        exact ⟨l, rfl, .inr ⟨l0, l1, by omega, hs.out⟩, hbw⟩
  · have h2 : left - (len : Int) < 0 := by omega
    clear hR hb
    go_enter Try.func42, Try.ntmps42
    go_wp2_with fail
    go_ret
    exact ⟨-1, rfl, .inl rfl, Below.refl _ _⟩
set_option maxRecDepth 100000 in
set_option maxHeartbeats 1600000 in
theorem w_markStringS (c len cap : Nat) (f : Nat → ByteArray) (k0 : Nat) (w : World) (hl : len ≤ 4294967296) (h0 : 1 ≤ k0) (h1 : k0 ≤ 100000000000) (hO : OutStr c len len f w) :
    Calls Try.prog 47 #[.slice (some ⟨c, 0, none⟩) len cap, .int .i64 k0] w fun e w' => e = .returned (.int .i64 (k0 + (len : Int))) ∧ Only c w w' := by
  go_enter Try.func47, Try.ntmps47
  go_wp2_with fail
  go_loopw [1, 5] (fun kk i wr => ∃ q : Nat, q ≤ len ∧ i = .int .i64 q ∧ kk = .int .i64 ((k0 + q : Nat) : Int) ∧ Only c w wr ∧ OutStr c len q (fun i => mt (k0 + i)) wr) (fun _ i _ => len - (intOf i).toNat)
  case atStart => exact ⟨0, Nat.zero_le _, rfl, by simp, Only.refl _ _, hO.forget _⟩
  case round =>
    obtain ⟨q, hq, rfl, rfl, ho, hO'⟩ := hrel
    by_cases hlt : q < len
    · obtain ⟨⟨y0, i0, _⟩, g0⟩ := hO'.2 q hlt
      have hlt' : (q : Int) < (len : Int) := by omega
      have MT := hide (fun w => w_markText (k0 + q) w (by omega) (by omega))
      have hc := hO'.1
      have hb2 : ((k0 + q : Nat) : Int) ≤ 1000000000000 := by omega
      have hb3 : (0 : Int) ≤ ((k0 + q : Nat) : Int) := by omega
      have hkk := hide (show ((k0 + (q + 1) : Nat) : Int) = ((k0 + q : Nat) : Int) + 1 by omega)
      have hset := hide (fun w1 (hb : Below wr.heap.size wr w1) => (hO'.below hb).set hlt)
      clear hO hO'
      generalize hKK : ((k0 + q : Nat) : Int) = K at *
      clear hKK
      go_wp2_with fail
      refine (MT.out _).mono ?_
      rintro e w1 ⟨rfl, b1⟩
      obtain ⟨bc, bf⟩ := bcell b1
      have i0 := (bc c q hc).trans i0
      have g0 := (bf c q hc).trans g0
      clear bc bf
      go_wp2_with fail
      exact ⟨⟨q + 1, by omega, by go_num, by rw [hkk.out], (ho.trans (Only.of_below b1)).setCell _ _, hset.out w1 b1⟩, by simp [intOf]; omega⟩
    · have hk' : q = len := by omega
      subst hk'
      go_wp2_with fail
      go_ret
      exact ⟨ret_int (by omega), ho⟩
end Go.Proofs.Ytoeephmdklmpfaa
