/- Rows of bytes in memory; numbers as bytes: the specification's l4Bytes, the program's numberBytes. -/
import Derived.Test.YtoeephmdklmpfaaKit
import Derived.Test.YtoeephmdklmpfaaPlain4
namespace Go.Proofs.Ytoeephmdklmpfaa
open Go.RowKit

/-- n bytes lie in block b, and may be written. -/
def Bts (w : World) (b n : Nat) (d : Nat → Int) : Prop := b < w.heap.size ∧ ∀ i, i < n → w.cell? ⟨b, i, none⟩ = some (.int .u8 (d i)) ∧ w.frozen? ⟨b, i, none⟩ = false
theorem Bts.below {w w' : World} {b n : Nat} {d : Nat → Int} (h : Bts w b n d) (k : Below w.heap.size w w') : Bts w' b n d := by
  obtain ⟨hc, hf⟩ := bcell k
  exact ⟨Nat.lt_of_lt_of_le h.1 k.size, fun i hi => ⟨(hc _ _ h.1).trans (h.2 i hi).1, (hf _ _ h.1).trans (h.2 i hi).2⟩⟩
theorem Bts.alloc {w : World} {b n : Nat} {d : Nat → Int} (h : Bts w b n d) (o : Obj) : Bts (w.alloc o) b n d := h.below (below_box (Below.refl _ _))
theorem Bts.congr {w : World} {b n : Nat} {d d' : Nat → Int} (h : Bts w b n d) (hd : ∀ i, i < n → d i = d' i) : Bts w b n d' := ⟨h.1, fun i hi => by rw [← hd i hi]; exact h.2 i hi⟩
theorem Bts.new (w : World) (n : Nat) (t : TypeId) : Bts (w.alloc (.cells (madeCells #[.int .u8 0] n) t)) w.heap.size n (fun _ => 0) := by
  refine ⟨by simp, fun i hi => ⟨?_, ?_⟩⟩
  · have e : (madeCells #[.int .u8 0] n)[i]? = some (.int .u8 0) := by
      simp only [madeCells, Array.getElem?_map, Array.getElem?_range, hi, if_true, Option.map_some]
      simp only [List.size_toArray, List.length_cons, List.length_nil, Nat.zero_add, Nat.mod_one]
      rfl
    simp [go_sem, e]
  · simp [go_sem]
theorem Bts.set {w : World} {b n : Nat} {d : Nat → Int} (h : Bts w b n d) {j : Nat} (hj : j < n) (v : Int) : Bts (w.setCell ⟨b, j, none⟩ (.int .u8 v)) b n (fun i => if i = j then v else d i) := by
  refine ⟨by simpa using h.1, fun i hi => ?_⟩
  obtain ⟨h1, h2⟩ := h.2 i hi
  by_cases e : i = j
  · subst e
    refine ⟨?_, ?_⟩
    · simp [go_sem, h1]
    · simp [go_sem, h2]
  · refine ⟨?_, ?_⟩
    · rw [World.cell?_setCell_other _ _ _ _ (by simp <;> omega)]; dsimp only; rw [if_neg e]; exact h1
    · simpa [go_sem] using h2

theorem u8_wrap (n : Int) : IntKind.u8.wrap n = n % 256 := by
  simp [IntKind.wrap, IntKind.bits, IntKind.signed]

set_option maxRecDepth 100000 in
set_option maxHeartbeats 1600000 in
theorem s_bytes (n : Int) (m : Nat) (w : World) (hm : m ≤ 4) :
    Calls Try.prog 150 #[.int .i64 n, .int .i64 m] w fun e w' => e = .returned (.string (strOfNums (be n m))) ∧ Below w.heap.size w w' := by
  have hinfo : (Try.prog.info? 5).map (fun i => (i.zero, i.size, i.bytes)) = some (some (.int .u8 0), 1, 1) := by kernel_rfl
  obtain ⟨i, hi, hzz⟩ := Option.map_eq_some_iff.1 hinfo
  simp only [Prod.mk.injEq] at hzz
  obtain ⟨hz, hsz, hby⟩ := hzz
  have hmk := fun w : World => run_make (P := Try.prog) w 72 5 i _ Try.underlying72 hi hz .i64 .i64 (m : Int) (m : Int) (by omega) (by omega) (by rw [hby]; omega) (by omega)
  rw [hsz] at hmk
  clear hi hz hsz hby hinfo
  simp only [Int.toNat_natCast, Nat.mul_one, Value.cells] at hmk
  go_enter Try.func150, Try.ntmps150
  go_wp2_with fail
  go_loopw [0, 6] (fun x i wr => ∃ k : Nat, k ≤ m ∧ i = .int .i64 ((m : Int) - 1 - k) ∧ x = .int .i64 (n / 256 ^ k) ∧ Below w.heap.size w wr ∧ Bts wr w.heap.size m (fun j => if m ≤ j + k then n / 256 ^ (m - 1 - j) % 256 else 0)) (fun _ i _ => (intOf i + 1).toNat)
  case atStart => exact ⟨0, Nat.zero_le _, by simp, by simp, below_box (Below.refl _ _), (Bts.new w m _).congr (fun i hi => by rw [if_neg (by omega)])⟩
  case round =>
    obtain ⟨k, hk, rfl, rfl, hb, hB⟩ := hrel
    clear hmk
    by_cases hlt : k < m
    · have hge : (m : Int) - 1 - k ≥ 0 := by omega
      have hj : (m : Int) - 1 - k = ((m - 1 - k : Nat) : Int) := by omega
      obtain ⟨e0, f0⟩ := hB.2 (m - 1 - k) (by omega)
      rw [hj]
      rw [hj] at hge
      have hjm : ((m - 1 - k : Nat) : Int) < (m : Int) := by omega
      go_wp2_with fail
      refine ⟨⟨k + 1, by omega, by congr 1; omega, ?_, hb.setCell (Nat.le_refl _) _, ?_⟩, by simp [intOf]⟩
      · rw [Int.ediv_ediv_of_nonneg (Int.pow_nonneg (by decide)), Int.pow_succ]
      · refine (hB.set (j := m - 1 - k) (by omega) _).congr (fun j hj' => ?_)
        by_cases e : j = m - 1 - k
        · subst e
          rw [if_pos rfl, if_pos (by omega), show m - 1 - (m - 1 - k) = k by omega]
        · rw [if_neg e]
          by_cases e2 : m ≤ j + k
          · rw [if_pos e2, if_pos (by omega)]
          · rw [if_neg e2, if_neg (by omega)]
    · have hk' : k = m := by omega
      subst hk'
      have hcv := run_convert_bytes_arg (P := Try.prog) wr 72 5 Try.underlying72 Try.underlying5 w.heap.size 0 k k (be n k) (be_len n k) (fun i hi => by
        rw [be_at n hi, Nat.zero_add]
        exact ((hB.congr (d' := fun j => n / 256 ^ (k - 1 - j) % 256) (fun i hi => if_pos (by omega))).2 i hi).1) 9 Try.underlying9
      go_wp2_with fail
      go_ret
      exact ⟨rfl, hb⟩
set_option maxRecDepth 100000 in
set_option maxHeartbeats 1600000 in
theorem i_numberBytes (n : Int) (m : Nat) (w : World) (hm : m ≤ 4) :
    Calls Try.prog 124 #[.int .i64 n, .int .i64 m] w fun e w' => e = .returned (.slice (some ⟨w.heap.size, 0, none⟩) m m) ∧ Below w.heap.size w w' ∧ Bts w' w.heap.size m (fun j => n / 256 ^ (m - 1 - j) % 256) := by
  have hinfo : (Try.prog.info? 5).map (fun i => (i.zero, i.size, i.bytes)) = some (some (.int .u8 0), 1, 1) := by kernel_rfl
  obtain ⟨i, hi, hzz⟩ := Option.map_eq_some_iff.1 hinfo
  simp only [Prod.mk.injEq] at hzz
  obtain ⟨hz, hsz, hby⟩ := hzz
  have hmk := fun w : World => run_make (P := Try.prog) w 72 5 i _ Try.underlying72 hi hz .i64 .i64 (m : Int) (m : Int) (by omega) (by omega) (by rw [hby]; omega) (by omega)
  rw [hsz] at hmk
  clear hi hz hsz hby hinfo
  simp only [Int.toNat_natCast, Nat.mul_one, Value.cells] at hmk
  go_enter Try.func124, Try.ntmps124
  go_wp2_with fail
  go_loopw [6, 11] (fun _ i wr => ∃ k : Nat, k ≤ m ∧ i = .int .i64 k ∧ Below w.heap.size w wr ∧ Bts wr w.heap.size m (fun j => if m ≤ j + k then n / 256 ^ (m - 1 - j) % 256 else 0)) (fun _ i _ => m - (intOf i).toNat)
  case atStart => exact ⟨0, Nat.zero_le _, by simp, below_box (Below.refl _ _), (Bts.new w m _).congr (fun i hi => by rw [if_neg (by omega)])⟩
  case round =>
    obtain ⟨k, hk, rfl, hb, hB⟩ := hrel
    clear hmk
    by_cases hlt : k < m
    · have hj : (m : Int) - 1 - k = ((m - 1 - k : Nat) : Int) := by omega
      obtain ⟨e0, f0⟩ := hB.2 (m - 1 - k) (by omega)
      have hjm : ((m - 1 - k : Nat) : Int) < (m : Int) := by omega
      have hlt' : (k : Int) < (m : Int) := by omega
      have hsh : ¬ (8 * (k : Int) < 0) := by omega
      go_wp2_with fail
      refine ⟨⟨k + 1, by omega, by go_num, hb.setCell (Nat.le_refl _) _, ?_⟩, by simp [intOf]; omega⟩
      refine (hB.set (j := m - 1 - k) (by omega) _).congr (fun j hj' => ?_)
      by_cases e : j = m - 1 - k
      · subst e
        rw [if_pos rfl, if_pos (by omega), show m - 1 - (m - 1 - k) = k by omega, Int.pow_mul]
        rfl
      · rw [if_neg e]
        by_cases e2 : m ≤ j + k
        · rw [if_pos e2, if_pos (by omega)]
        · rw [if_neg e2, if_neg (by omega)]
    · have hk' : k = m := by omega
      subst hk'
      go_wp2_with fail
      go_ret
      exact ⟨rfl, hb, hB.congr (fun i hi => by rw [if_pos (by omega)])⟩
set_option maxHeartbeats 400000 in
theorem i_needed (l : Int) (w : World) (h0 : 0 ≤ l) (h1 : l ≤ 32) :
    Calls Try.prog 149 #[.int .i64 l] w fun e w' => e = .returned (.int .i64 ((l + 7) / 8)) ∧ w' = w := by
  have e1 : (l + 8 - 1).tdiv 8 = (l + 7) / 8 := by rw [Int.tdiv_eq_ediv_of_nonneg (by omega)]; congr 1; omega
  go_enter Try.func149, Try.ntmps149
  go_wp2_with fail
  go_ret
  exact ⟨ret_int (by first | rfl | exact e1 | omega), rfl⟩
end Go.Proofs.Ytoeephmdklmpfaa
