/- What the laws do with lists of strings: counted, marked, looked at again. -/
import Derived.Test.YtnpnhdaehddnmaaDoorPlain15
import Derived.Laws.BytesArg
namespace Go.Proofs.YtnpnhdaehddnmaaDoor
open Go.RowKit

theorem u8_wrap15 (n : Int) : IntKind.u8.wrap n = n % 256 := by
  simp [IntKind.wrap, IntKind.bits, IntKind.signed]
/-- A number's digits ahead of a text. -/
def mtD (k : Nat) (out : ByteArray) : ByteArray := if _h : k = 0 then out else mtD (k / 10) (strOfNums [((48 + k % 10 : Nat) : Int)] ++ out)
termination_by k
decreasing_by omega
theorem mtD_zero (out : ByteArray) : mtD 0 out = out := by rw [mtD]; simp
theorem mtD_next {k : Nat} (h : k ≠ 0) (out : ByteArray) : mtD k out = mtD (k / 10) (strOfNums [((48 + k % 10 : Nat) : Int)] ++ out) := by rw [mtD, dif_neg h]
/-- The text that marks. -/
def mt (k : Nat) : ByteArray := ⟨#[109]⟩ ++ mtD k ByteArray.empty
set_option maxRecDepth 100000 in
set_option maxHeartbeats 800000 in
theorem w_markText (k : Nat) (w : World) (h0 : 1 ≤ k) (h1 : k ≤ 1000000000000) :
    Calls Tryd.prog 36 #[.int .i64 k] w fun e w' => e = .returned (.string (mt k)) ∧ Below w.heap.size w w' := by
  have hz : ¬ ((k : Int) ≤ 0) := by omega
  go_enter Tryd.func36, Tryd.ntmps36
  go_wp2_with fail
  go_loopw [0, 3] (fun x y wr => ∃ (q : Nat) (out : ByteArray), x = .int .i64 q ∧ y = .string out ∧ mtD q out = mtD k ByteArray.empty ∧ out.size + q ≤ k ∧ Below w.heap.size w wr) (fun x _ _ => (intOf x).toNat)
  case atStart => exact ⟨k, ByteArray.empty, rfl, rfl, rfl, by simp, Below.refl _ _⟩
  case round =>
    clear hz
    obtain ⟨q, out, rfl, rfl, hq, hs, hb⟩ := hrel
    by_cases hp : q = 0
    · subst hp
      rw [mtD_zero] at hq
      have hcat := fun (w : World) => run_string_add_sum (P := Tryd.prog) w ⟨#[109]⟩ out (by have : (ByteArray.mk #[109]).size = 1 := rfl; omega)
      have hm := hide hq
      clear hq
      go_wp2_with fail
      go_ret
      exact ⟨by rw [hm.out]; rfl, hb⟩
    · have hgt : (q : Int) > 0 := by omega
      have e1 : (q : Int).tmod 10 = ((q % 10 : Nat) : Int) := by rw [Int.tmod_eq_emod_of_nonneg (by omega)]; omega
      have e2 : (q : Int).tdiv 10 = ((q / 10 : Nat) : Int) := by rw [Int.tdiv_eq_ediv_of_nonneg (by omega)]; omega
      have e3 : IntKind.u8.wrap (48 + ((q % 10 : Nat) : Int)) = 48 + ((q % 10 : Nat) : Int) := by rw [u8_wrap15]; omega
      rw [mtD_next hp] at hq
      rw [show ((48 + q % 10 : Nat) : Int) = 48 + ((q % 10 : Nat) : Int) by omega] at hq
      have hm := hide hq
      clear hq
      have hcat := fun (w : World) => run_string_add_sum (P := Tryd.prog) w (strOfNums [48 + ((q % 10 : Nat) : Int)]) out (by rw [strOfNums_size]; simp; omega)
      have hcv := run_convert_bytes_arg (P := Tryd.prog) (wr.alloc (.cells #[.int .u8 (48 + ((q % 10 : Nat) : Int))] 5)) 84 5 Tryd.underlying84 Tryd.underlying5 wr.heap.size 0 1 1 [48 + ((q % 10 : Nat) : Int)] rfl (fun i hi => by
        obtain rfl : i = 0 := by omega
        simp [go_sem]) 9 Tryd.underlying9
      have hqb := hide (show (strOfNums [48 + ((q % 10 : Nat) : Int)] ++ out).size + q / 10 ≤ k by rw [ByteArray.size_append, strOfNums_size]; simp; omega)
      have hql : q / 10 < q := by omega
      have hdb : ((q / 10 : Nat) : Int) ≤ 1000000000000 := by omega
      have hr : ((q % 10 : Nat) : Int) ≤ 9 := by omega
      generalize q % 10 = r at *
      generalize q / 10 = d at *
      go_wp2_with fail
      exact ⟨⟨d, _, rfl, rfl, hm.out, hqb.out, below_step hb (below_box (Below.refl _ _))⟩, by simp [intOf]; omega⟩
set_option maxRecDepth 100000 in
set_option maxHeartbeats 800000 in
theorem w_szStrS (a : Option Addr) (len cap : Nat) (f : Nat → ByteArray) (left : Int) (w : World) (hl : len ≤ maxLen) (h0 : 0 ≤ left) (h1 : left ≤ 1048576) (hR : RowStr a len f w) (hb : ∀ i, i < len → (f i).size ≤ maxLen) :
    Calls Tryd.prog 19 #[.slice a len cap, .int .i64 left] w fun e w' => ∃ r : Int, e = .returned (.int .i64 r) ∧ (r = -1 ∨ (0 ≤ r ∧ r + len ≤ left ∧ ∀ i, i < len → (f i).size ≤ 1048576)) ∧ Below w.heap.size w w' := by
  unfold maxLen at hl hb
  by_cases h : (len : Int) ≤ left
  · have h2 : ¬ (left - (len : Int) < 0) := by omega
    go_enter Tryd.func19, Tryd.ntmps19
    go_wp2_with fail
    go_loopw [1, 5] (fun ll i wr => ∃ (q : Nat) (l : Int), q ≤ len ∧ i = .int .i64 q ∧ ll = .int .i64 l ∧ 0 ≤ l ∧ l + len ≤ left ∧ Hid (∀ i, i < q → (f i).size ≤ 1048576) ∧ Below w.heap.size w wr) (fun _ i _ => len - (intOf i).toNat)
    case atStart => exact ⟨0, left - (len : Int), Nat.zero_le _, rfl, rfl, by omega, by omega, fun i hi => absurd hi (Nat.not_lt_zero _), Below.refl _ _⟩
    case round =>
      clear h2
      obtain ⟨q, l, hq, rfl, rfl, l0, l1, hs, hbw⟩ := hrel
      by_cases hlt : q < len
      · obtain ⟨b, off, rfl, hbb, c0⟩ := hR q hlt
        have c0 := (hbw.cell (p := ⟨b, off + q, none⟩) hbb).trans c0
        have hlt' : (q : Int) < (len : Int) := by omega
        have hbq := hb q hlt
        by_cases hk : ((f q).size : Int) ≤ l
        · have hn : ¬ (l - ((f q).size : Int) < 0) := by omega
          clear hR hb
          go_wp2_with fail
          refine ⟨⟨q + 1, _, by omega, by go_num, rfl, by omega, by omega, fun i hi => ?_, hbw⟩, by simp [intOf]; omega⟩
          by_cases e : i = q
          · subst e; omega
          · exact hs.out i (by omega)
        · have hn : l - ((f q).size : Int) < 0 := by omega
          clear hs hR hb
          go_wp2_with fail
          go_ret
          exact ⟨-1, rfl, .inl rfl, hbw⟩
      · have hk' : q = len := by omega
        subst hk'
        clear hR hb
        go_wp2_with fail
        go_ret
        exact ⟨l, rfl, .inr ⟨l0, l1, hs.out⟩, hbw⟩
  · have h2 : left - (len : Int) < 0 := by omega
    clear hR hb
    go_enter Tryd.func19, Tryd.ntmps19
    go_wp2_with fail
    go_ret
    exact ⟨-1, rfl, .inl rfl, Below.refl _ _⟩
set_option maxRecDepth 100000 in
set_option maxHeartbeats 1600000 in
theorem w_markStringS (c len cap : Nat) (f : Nat → ByteArray) (k0 : Nat) (w : World) (hl : len ≤ 4294967296) (h0 : 1 ≤ k0) (h1 : k0 ≤ 100000000000) (hO : OutStr c len len f w) :
    Calls Tryd.prog 35 #[.slice (some ⟨c, 0, none⟩) len cap, .int .i64 k0] w fun e w' => e = .returned (.int .i64 (k0 + (len : Int))) ∧ Only c w w' ∧ OutStr c len len (fun i => mt (k0 + i)) w' := by
  go_enter Tryd.func35, Tryd.ntmps35
  go_wp2_with fail
  go_loopw [1, 5] (fun kk i wr => ∃ q : Nat, q ≤ len ∧ i = .int .i64 q ∧ kk = .int .i64 ((k0 + q : Nat) : Int) ∧ Only c w wr ∧ OutStr c len q (fun i => mt (k0 + i)) wr) (fun _ i _ => len - (intOf i).toNat)
  case atStart => exact ⟨0, Nat.zero_le _, rfl, by simp, Only.refl _ _, hO.forget _⟩
  case round =>
    obtain ⟨q, hq, rfl, rfl, ho, hO'⟩ := hrel
    by_cases hlt : q < len
    · obtain ⟨⟨y0, i0, _⟩, g0⟩ := hO'.2 q hlt
      have hlt' : (q : Int) < (len : Int) := by omega
      have MT := hide (fun w => w_markText (k0 + q) w (by omega) (by omega))
      have hc := hO'.1
      have hb2 : ((k0 + q : Nat) : Int) ≤ 1000000000000 := by omega
      have hb3 : (0 : Int) ≤ ((k0 + q : Nat) : Int) := by omega
      have hkk := hide (show ((k0 + (q + 1) : Nat) : Int) = ((k0 + q : Nat) : Int) + 1 by omega)
      have hset := hide (fun w1 (hb : Below wr.heap.size wr w1) => (hO'.below hb).set hlt)
      clear hO hO'
      generalize hKK : ((k0 + q : Nat) : Int) = K at *
      clear hKK
      go_wp2_with fail
      refine (MT.out _).mono ?_
      rintro e w1 ⟨rfl, b1⟩
      obtain ⟨bc, bf⟩ := bcell b1
      have i0 := (bc c q hc).trans i0
      have g0 := (bf c q hc).trans g0
      clear bc bf
      go_wp2_with fail
      exact ⟨⟨q + 1, by omega, by go_num, by rw [hkk.out], (ho.trans (Only.of_below b1)).setCell _ _, hset.out w1 b1⟩, by simp [intOf]; omega⟩
    · have hk' : q = len := by omega
      subst hk'
      go_wp2_with fail
      go_ret
      exact ⟨ret_int (by omega), ho, hO'⟩
end Go.Proofs.YtnpnhdaehddnmaaDoor
