/- A prefix's bytes: what the program's prefixBytes and PrefixBytes answer. -/
import Derived.Test.YtoeephmdklmpfaaS4b
import Derived.Test.YtoeephmdklmpfaaMemN
import Derived.Test.YtoeephmdklmpfaaI1
namespace Go.Proofs.Ytoeephmdklmpfaa
open Go.RowKit

theorem Bts.rowN {w : World} {b n : Nat} {d : Nat → Int} (h : Bts w b n d) {L : List Int} (hL : L.length = n) (hd : ∀ i, i < n → L.getD i 0 = d i) : RowN .u8 (some ⟨b, 0, none⟩) L w := by
  intro i hi
  rw [hL] at hi
  exact ⟨b, 0, rfl, h.1, by rw [Nat.zero_add, hd i hi]; exact (h.2 i hi).1⟩
theorem be1 (n : Int) : be n 1 = [n % 256] := rfl
theorem be_take (a : Int) {m : Nat} (hm : m ≤ 4) : (be a 4).take m = be (a / 2 ^ (32 - 8 * m)) m := by
  apply List.ext_getElem
  · rw [List.length_take, be_len, be_len]; omega
  · intro i h1 h2
    rw [be_len] at h2
    have e1 : (be a 4).getD i 0 = a / 256 ^ (4 - 1 - i) % 256 := be_at a (by omega)
    have e2 : (be (a / 2 ^ (32 - 8 * m)) m).getD i 0 = a / 2 ^ (32 - 8 * m) / 256 ^ (m - 1 - i) % 256 := be_at _ h2
    have h4 : i < (be a 4).length := by rw [be_len]; omega
    have h5 : i < (be (a / 2 ^ (32 - 8 * m)) m).length := by rw [be_len]; exact h2
    rw [List.getElem_take]
    rw [List.getD_eq_getElem?_getD, List.getElem?_eq_getElem h4] at e1
    rw [List.getD_eq_getElem?_getD, List.getElem?_eq_getElem h5] at e2
    simp only [Option.getD_some] at e1 e2
    rw [e1, e2, Int.ediv_ediv_of_nonneg (Int.pow_nonneg (by decide))]
    congr 2
    rw [show (256 : Int) = 2 ^ 8 from rfl, ← Int.pow_mul, ← Int.pow_mul, ← Int.pow_add]
    congr 1
    omega

set_option maxRecDepth 100000 in
set_option maxHeartbeats 3200000 in
theorem i_prefixB (a l : Int) (w : World) (h0 : 0 ≤ l) (h1 : l ≤ 32) :
    Calls Try.prog 122 #[.agg #[.int .i64 a, .int .i64 l]] w fun e w' => ∃ v, e = .returned v ∧ OwnN 5 .u8 w.heap.size v (pbs a l) w' ∧ Below w.heap.size w w' := by
  have hm := need_le h0 h1
  have hq := hide (fun w => i_needed l w h0 h1)
  rw [need_eq h0] at hq
  have hp : pbs a l = [l] ++ (be a 4).take (need l) := by unfold pbs; rw [be_take a hm, be1, show l % 256 = l by omega]
  rw [hp]
  clear hp
  generalize need l = m at *
  have hm' : (m : Int) ≤ 4 := by omega
  have hw8 : IntKind.u8.wrap l = l := by rw [u8_wrap]; omega
  have s1 := hide (fun w => i_numberBytes a 4 w (by omega))
  have d0 : Below w.heap.size w (w.alloc (.cells #[.int .i64 a, .int .i64 l] 122)) := below_box (Below.refl _ _)
  have p0 : (w.alloc (.cells #[.int .i64 a, .int .i64 l] 122)).cell? ⟨w.heap.size, 0, none⟩ = some (.int .i64 a) := by simp [go_sem]
  have p1 : (w.alloc (.cells #[.int .i64 a, .int .i64 l] 122)).cell? ⟨w.heap.size, 1, none⟩ = some (.int .i64 l) := by simp [go_sem]
  have hlt : w.heap.size < (w.alloc (.cells #[.int .i64 a, .int .i64 l] 122)).heap.size := by simp
  go_enter Try.func122, Try.ntmps122
  go_wp2_with fail
  generalize w.alloc (.cells #[.int .i64 a, .int .i64 l] 122) = w1 at *
  refine (s1.out _).mono ?_
  rintro e w2 ⟨rfl, b2, B2⟩
  have p0 := (b2.cell (p := ⟨w.heap.size, 0, none⟩) hlt).trans p0
  have p1 := (b2.cell (p := ⟨w.heap.size, 1, none⟩) hlt).trans p1
  have hl2 : w.heap.size < w2.heap.size := Nat.lt_of_lt_of_le hlt b2.size
  have d2 := d0.trans (b2.mono d0.size)
  have hR : RowN .u8 (some ⟨w1.heap.size, 0, none⟩) ((be a 4).take m) w2 := (B2.rowN (be_len a 4) (fun i hi => be_at a hi)).take m
  have hlen := hide (show m = ((be a 4).take m).length by rw [List.length_take, be_len]; omega)
  clear b2 d0 B2 s1 hlt
  generalize hMM : (be a 4).take m = M at *
  have hMh := hide hMM
  clear hMM
  generalize w1.heap.size = c at *
  have hmade := ownN_made 5 .u8 w2 [l] (by simp [maxLen])
  have dZ : Below w2.heap.size w2 (w2.alloc (.cells #[.int .u8 l] 5)) := below_box (Below.refl _ _)
  go_wp2_with fail
  go_region_held3 (fun w' => w'.cell? ⟨w.heap.size, 0, none⟩ = some (.int .i64 a) ∧ w'.cell? ⟨w.heap.size, 1, none⟩ = some (.int .i64 l))
    (first
      | go_keep
      | exact ⟨(dB.cell (p := ⟨w.heap.size, 0, none⟩) hl2).trans p0, (dB.cell (p := ⟨w.heap.size, 1, none⟩) hl2).trans p1⟩
      | exact ⟨(dB.drew.cell (p := ⟨w.heap.size, 0, none⟩) hl2).trans p0, (dB.drew.cell (p := ⟨w.heap.size, 1, none⟩) hl2).trans p1⟩)
    ((first
      | (go_at_call 149; refine (hq.out _).mono ?_; rintro e wA ⟨rfl, rfl⟩)
      | (refine step_appN numByte (by rfl) _ _ (by rfl) w2.heap.size (.slice (some ⟨w2.heap.size, 0, none⟩) 1 1) [l] (by rfl) (by first | exact hmade | exact ownN_below hmade (Below.refl _ _).drew | exact ownN_below hmade (Below.refl _ _).drew.drew) (some ⟨c, 0, none⟩) M m 4 (by rfl) hlen.out ⟨by first | exact hR.below dZ | exact hR.below dZ.drew | exact hR.below dZ.drew.drew, .inr ⟨_, _, rfl⟩⟩ (by rw [← hlen.out]; simp; omega) (by decide) (by simp) ?_; intro v' wB hown bB hgr hbl; have dB : Below w2.heap.size w2 wB := (by first | exact dZ.trans bB | exact dZ.drew.trans bB | exact dZ.drew.drew.trans bB))))
  all_goals
    have dF := d2.trans (dB.mono d2.size)
    have hF := ownN_base hown d2.size
    go_wp2_with fail
    refine bodyPost_ret (v := v') (by simp [results, Try.results122, go_sem]) rfl ⟨_, rfl, by rw [hMh.out]; exact hF, dF⟩
end Go.Proofs.Ytoeephmdklmpfaa
