/- slices.Repeat of one flag. -/
import Derived.Test.YtddjefmokpfplaaDoorMemW
import Derived.Test.YtddjefmokpfplaaDoorFlatBool
import Derived.Laws.CopyOwn
import Derived.Deep.RegionLaw
import Derived.Lib.Builder
namespace Go.Proofs.YtddjefmokpfplaaDoor
open Go.RowKit

set_option maxRecDepth 100000 in
set_option maxHeartbeats 16000000 in
theorem i_mul64b (n : Nat) (w : World) (h6 : n ≤ 40) :
    Calls Tryd.prog 58 #[.int .u64 1, .int .u64 n] w fun e w' => e = .returned (.tuple #[.int .u64 0, .int .u64 n]) ∧ w' = w := by
  have hn : n = 0 ∨ n = 1 ∨ n = 2 ∨ n = 3 ∨ n = 4 ∨ n = 5 ∨ n = 6 ∨ n = 7 ∨ n = 8 ∨ n = 9 ∨ n = 10 ∨ n = 11 ∨ n = 12 ∨ n = 13 ∨ n = 14 ∨ n = 15 ∨ n = 16 ∨ n = 17 ∨ n = 18 ∨ n = 19 ∨ n = 20 ∨ n = 21 ∨ n = 22 ∨ n = 23 ∨ n = 24 ∨ n = 25 ∨ n = 26 ∨ n = 27 ∨ n = 28 ∨ n = 29 ∨ n = 30 ∨ n = 31 ∨ n = 32 ∨ n = 33 ∨ n = 34 ∨ n = 35 ∨ n = 36 ∨ n = 37 ∨ n = 38 ∨ n = 39 ∨ n = 40 := by omega
  rcases hn with rfl | rfl | rfl | rfl | rfl | rfl | rfl | rfl | rfl | rfl | rfl | rfl | rfl | rfl | rfl | rfl | rfl | rfl | rfl | rfl | rfl | rfl | rfl | rfl | rfl | rfl | rfl | rfl | rfl | rfl | rfl | rfl | rfl | rfl | rfl | rfl | rfl | rfl | rfl | rfl | rfl <;>
  (go_enter Tryd.func58, Tryd.ntmps58
   go_wp2_with fail
   go_ret2
   exact ⟨rfl, rfl⟩)
set_option maxRecDepth 100000 in
set_option maxHeartbeats 1600000 in
theorem i_mulb (n : Nat) (w : World) (h6 : n ≤ 40) :
    Calls Tryd.prog 56 #[.int .u64 1, .int .u64 n] w fun e w' => e = .returned (.tuple #[.int .u64 0, .int .u64 n]) ∧ w' = w := by
  have M := hide (fun w => i_mul64b n w h6)
  have hn : (n : Int) ≤ 40 := by omega
  go_enter Tryd.func56, Tryd.ntmps56
  go_wp2_with fail
  refine (M.out _).mono ?_
  rintro e w1 ⟨rfl, rfl⟩
  go_wp2_with fail
  go_ret2
  exact ⟨rfl, rfl⟩
/-- k times x, then nothing. -/
def rptB (n : Nat) (x : Bool) (k : Nat) : List Value := List.replicate k (.bool x) ++ List.replicate (n - k) (.bool false)
theorem rptB_len {n : Nat} {x : Bool} {k : Nat} (h : k ≤ n) : (rptB n x k).length = n := by simp [rptB]; omega
theorem rptB_at {n : Nat} {x : Bool} {k i : Nat} (h : i < k) : (rptB n x k)[i]? = some (.bool x) := by
  unfold rptB
  rw [List.getElem?_append_left (by simpa using h), List.getElem?_replicate, if_pos h]
theorem rptB_zero (n : Nat) (x : Bool) : rptB n x 0 = List.replicate n (.bool false) := by simp [rptB]
theorem rptB_splice {n : Nat} {x : Bool} {k m : Nat} (h : k + m ≤ n) : splice (rptB n x k) k (List.replicate m (.bool x)) = rptB n x (k + m) := by
  unfold splice rptB
  rw [List.take_left' (by simp), List.drop_append, List.length_replicate, List.length_replicate, List.drop_of_length_le (by simp), List.nil_append, ← List.append_assoc, List.replicate_append_replicate]
  congr 1
  rw [List.drop_replicate]
  congr 1
  omega
theorem rptB_cell {n : Nat} {x : Bool} {k i g : Nat} {t : TypeId} {w : World} (h : w.heap[g]? = some (.cells (rptB n x k).toArray t (0, 0))) (hi : i < k) : w.cell? ⟨g, i, none⟩ = some (.bool x) := by
  rw [Lib.cell_of_heap h]
  simpa using rptB_at hi
theorem rptB_out {n : Nat} {x : Bool} {g : Nat} {t : TypeId} {w : World} (h : w.heap[g]? = some (.cells (rptB n x n).toArray t (0, 0))) : OutBl g n n (fun _ => x) w := by
  refine ⟨(Array.getElem?_eq_some_iff.1 h).1, fun i hi => ⟨⟨x, rptB_cell h hi, fun _ => rfl⟩, ?_⟩⟩
  simp [World.frozen?, h]
theorem made_rptB (n : Nat) (x : Bool) : madeCells #[.bool false] n = (rptB n x 0).toArray := by
  apply Array.ext_getElem?
  intro i
  rw [rptB_zero]
  by_cases h : i < n
  · have e : (madeCells #[.bool false] n)[i]? = some (.bool false) := by
      simp only [madeCells, Array.getElem?_map, Array.getElem?_range, h, if_true, Option.map_some]
      simp only [List.size_toArray, List.length_cons, List.length_nil, Nat.zero_add, Nat.mod_one]
      rfl
    rw [e]
    simp [h]
  · have h1 : (madeCells #[.bool false] n).size ≤ i := by simp [madeCells]; omega
    rw [Array.getElem?_eq_none h1]
    simp [h]
set_option maxRecDepth 100000 in
set_option maxHeartbeats 1600000 in
theorem i_repeatB (b cap n : Nat) (x : Bool) (w : World) (h6 : n ≤ 40) (hbl : b < w.heap.size) (hb : w.cell? ⟨b, 0, none⟩ = some (.bool x)) :
    Calls Tryd.prog 50 #[.slice (some ⟨b, 0, none⟩) 1 cap, .int .i64 n] w fun e w' => ∃ g, e = .returned (.slice (some ⟨g, 0, none⟩) n n) ∧ w.heap.size ≤ g ∧ OutBl g n n (fun _ => x) w' ∧ Below w.heap.size w w' := by
  have M := hide (fun w => i_mulb n w h6)
  have hinfo : (Tryd.prog.info? 4).map (fun i => (i.zero, i.size, i.bytes)) = some (some (.bool false), 1, 1) := by kernel_rfl
  have hsz : (Tryd.prog.info? 4).map (·.size) = some 1 := by kernel_rfl
  obtain ⟨i, hi, hzz⟩ := Option.map_eq_some_iff.1 hinfo
  simp only [Prod.mk.injEq] at hzz
  obtain ⟨hz, hs, hby⟩ := hzz
  have hmk := fun w : World => run_make (P := Tryd.prog) w 38 4 i _ Tryd.underlying38 hi hz .i64 .i64 (n : Int) (n : Int) (by omega) (by omega) (by rw [hby]; omega) (by omega)
  rw [hs] at hmk
  clear hi hz hs hby hinfo
  simp only [Int.toNat_natCast, Nat.mul_one, Value.cells] at hmk
  have hn6 : (n : Int) ≤ 40 := by omega
  have hn0 : ¬ ((n : Int) < 0) := by omega
  have hbig : ¬ ((9223372036854775807 : Int) < (n : Int)) := by omega
  have dA : Below w.heap.size w (w.alloc (.cells (madeCells #[.bool false] n) 4)) := below_box (Below.refl _ _)
  have hg0 : (w.alloc (.cells (madeCells #[.bool false] n) 4)).heap[w.heap.size]? = some (.cells (rptB n x 0).toArray 4 (0, 0)) := by rw [made_rptB n x]; exact heap_alloc_new w _
  have hbA := (dA.cell (p := ⟨b, 0, none⟩) hbl).trans hb
  have hlast : Hid (∀ k, k ≤ n → (rptB n x k).length = n) := fun k hk => rptB_len hk
  have hspl : Hid (∀ k m, k + m ≤ n → splice (rptB n x k) k (List.replicate m (.bool x)) = rptB n x (k + m)) := fun k m h => rptB_splice h
  obtain ⟨k0, hk0⟩ : ∃ k0, k0 = Nat.min 1 n := ⟨_, rfl⟩
  have hk1 : k0 ≤ 1 ∧ k0 ≤ n ∧ (1 ≤ k0 ∨ n = 0) := by rw [hk0]; simp only [Nat.min_def]; split <;> omega
  have hpos : Hid (∀ j v, (List.replicate k0 (Value.bool x))[j]? = some v → (w.alloc (.cells (madeCells #[.bool false] n) 4)).cell? ((⟨b, 0, none⟩ : Addr).add j) = some v) := fun j v hv => by
    have hj : j < k0 := by
      have := (List.getElem?_eq_some_iff.1 hv).1
      simpa using this
    rw [List.getElem?_replicate, if_pos hj] at hv
    obtain rfl : j = 0 := by omega
    simp at hv
    rw [← hv]
    simpa [Addr.add] using hbA
  have h1c : Hid (∀ v ∈ List.replicate k0 (Value.bool x), v.oneCell' = true) := fun v hv => by rw [(List.mem_replicate.1 hv).2]; rfl
  have hmn : Hid ((List.replicate k0 (Value.bool x)).length = Nat.min 1 n) := by show _ = _; rw [List.length_replicate, hk0]
  have hrl0 : Hid ((List.replicate k0 (Value.bool x)).length = k0) := by show _ = _; simp
  have hft : Hid (0 + (List.replicate k0 (Value.bool x)).length ≤ (rptB n x 0).length) := by show _ ≤ _; rw [hlast.out 0 (by omega), hrl0.out]; omega
  have HG : Hid (∀ W : World, Hid (W.heap[w.heap.size]? = some (.cells (splice (rptB n x 0) 0 (List.replicate k0 (.bool x))).toArray 4 (0, 0))) → Hid (W.heap[w.heap.size]? = some (.cells (rptB n x k0).toArray 4 (0, 0)))) := fun W h => by
    have h := h.out
    rw [hspl.out 0 k0 (by omega), Nat.zero_add] at h
    exact h
  obtain ⟨cs, hcs⟩ : ∃ cs, cs = List.replicate k0 (Value.bool x) := ⟨_, rfl⟩
  rw [← hcs] at hpos h1c hmn hft hrl0 HG
  clear hcs
  obtain ⟨w2, hcp, HG2, hB2⟩ : ∃ w2 : World, (∀ ty, (Builtin.copy_ #[38, 38] ty #[.slice (some ⟨w.heap.size, 0, none⟩) n n, .slice (some ⟨b, 0, none⟩) 1 cap]).run Tryd.prog (w.alloc (.cells (madeCells #[.bool false] n) 4)) = .ok (.int .i64 (k0 : Int)) w2) ∧ Hid (w2.heap[w.heap.size]? = some (.cells (splice (rptB n x 0) 0 cs).toArray 4 (0, 0))) ∧ Below w.heap.size w w2 := by
    refine ⟨(w.alloc (.cells (madeCells #[.bool false] n) 4)).setRow w.heap.size (splice (rptB n x 0) 0 cs).toArray, fun ty => ?_, ?_, below_setRow dA (Nat.le_refl _) _⟩
    rotate_left
    · show _ = _
      exact setRow_heap (w.alloc (.cells (madeCells #[.bool false] n) 4)) w.heap.size _ _ 4 _ hg0
    · have h := run_copy_row (P := Tryd.prog) _ 38 38 ty 4 w.heap.size 0 n n ⟨b, 0, none⟩ 1 cap (rptB n x 0).toArray 4 cs Tryd.underlying38 hsz hg0 hmn.out hpos.out (by simpa using hft.out) h1c.out
      rw [hrl0.out] at h
      rw [h]
      simp [splice, hrl0.out, goInt]
  have HG1 := HG.out _ HG2
  clear hg0 h1c hmn hft hrl0 HG HG2 hpos hbA dA hk0
  go_enter Tryd.func50, Tryd.ntmps50
  go_wp2_with fail
  refine (M.out _).mono ?_
  rintro e w1 ⟨rfl, hw1⟩
  rw [hw1]; clear hw1 w1
  go_wp2_with fail
  clear hmk M hcp
  go_loopw [8] (fun z wr => ∃ k : Nat, z = .int .i64 k ∧ (1 ≤ k ∨ n = 0) ∧ k ≤ n ∧ Hid (wr.heap[w.heap.size]? = some (.cells (rptB n x k).toArray 4 (0, 0))) ∧ Below w.heap.size w wr) (fun z _ => n - (intOf z).toNat)
  case atStart => exact ⟨k0, rfl, hk1.2.2, hk1.2.1, HG1, hB2⟩
  case round =>
    clear HG1 hB2 hk1
    obtain ⟨k, rfl, hk1, hkn, HG, hB⟩ := hrel
    by_cases hlt : k < n
    · have hlt' : (k : Int) < (n : Int) := by omega
      have hkn' : (k : Int) ≤ (n : Int) := by omega
      have hne : n ≠ k := by omega
      obtain ⟨m, hm⟩ : ∃ m, m = Nat.min k (n - k) := ⟨_, rfl⟩
      have hm1 : 1 ≤ m ∧ k + m ≤ n ∧ m ≤ k := by rw [hm]; simp only [Nat.min_def]; split <;> omega
      have hcell := hide (fun i (hi : i < k) => rptB_cell HG.out hi)
      have hposK : Hid (∀ W : World, (∀ q, W.cell? q = wr.cell? q) → ∀ j v, (List.replicate m (Value.bool x))[j]? = some v → W.cell? ((⟨w.heap.size, 0, none⟩ : Addr).add j) = some v) := fun W hW j v hv => by
        have hj : j < m := by
          have := (List.getElem?_eq_some_iff.1 hv).1
          simpa using this
        rw [List.getElem?_replicate, if_pos hj] at hv
        simp at hv
        rw [← hv, hW]
        have := hcell.out j (by omega)
        have hadd : (⟨w.heap.size, 0, none⟩ : Addr).add j = ⟨w.heap.size, j, none⟩ := by
          simp only [Addr.add]
          split
          · rename_i h; rw [h]
          · simp
        rw [hadd]; exact this
      have hN : Hid (∀ W : World, Hid (W.heap[w.heap.size]? = some (.cells (splice (rptB n x k) k (List.replicate m (.bool x))).toArray 4 (0, 0))) → Hid (W.heap[w.heap.size]? = some (.cells (rptB n x (k + m)).toArray 4 (0, 0)))) := fun W h => by
        have h := h.out
        rw [hspl.out k m hm1.2.1] at h
        exact h
      have hl := hide (hlast.out k hkn)
      have hrl : Hid ((List.replicate m (Value.bool x)).length = m) := by show _ = _; simp
      have hone : Hid (∀ v ∈ List.replicate m (Value.bool x), v.oneCell' = true) := fun v hv => by
        rw [(List.mem_replicate.1 hv).2]; rfl
      have hm9 := hide hm
      clear hm hcell hspl hlast
      generalize hcs : List.replicate m (Value.bool x) = cs at *
      clear hcs
      generalize hrp : rptB n x k = rp at *
      clear hrp
      have hft : Hid (k + cs.length ≤ rp.length) := by show _ ≤ _; rw [hl.out, hrl.out]; omega
      have hmn : Hid (cs.length = Nat.min k (n - k)) := by show _ = _; rw [hrl.out]; exact hm9.out
      obtain ⟨w4, hcp, hg4, hb4⟩ : ∃ w4 : World, (∀ ty, (Builtin.copy_ #[38, 38] ty #[.slice (some ⟨w.heap.size, k, none⟩) (n - k) (n - k), .slice (some ⟨w.heap.size, 0, none⟩) k n]).run Tryd.prog wr.drew = .ok (.int .i64 (m : Int)) w4) ∧ Hid (w4.heap[w.heap.size]? = some (.cells (splice rp k cs).toArray 4 (0, 0))) ∧ Below w.heap.size w w4 := by
        refine ⟨wr.drew.setRow w.heap.size (splice rp k cs).toArray, fun ty => ?_, ?_, below_setRow hB.drew (Nat.le_refl _) _⟩
        rotate_left
        · show _ = _
          exact setRow_heap wr.drew w.heap.size rp.toArray (splice rp k cs).toArray 4 _ HG.out
        · have h := run_copy_row (P := Tryd.prog) wr.drew 38 38 ty 4 w.heap.size k (n - k) (n - k) ⟨w.heap.size, 0, none⟩ k n rp.toArray 4 cs Tryd.underlying38 hsz HG.out hmn.out (hposK.out _ (fun _ => rfl)) (by simpa using hft.out) hone.out
          rw [hrl.out] at h
          rw [h]
          simp [splice, hrl.out, goInt]
      have hHN := hide (hN.out _ hg4)
      clear hg4 hN hposK hone hft hmn hl hrl HG hB
      go_wp2_with fail
      go_region
      all_goals
        go_wp2_with fail
        exact ⟨⟨k + m, by go_num, .inl (by omega), hm1.2.1, hHN.out, hb4⟩, by simp [intOf]; omega⟩
    · obtain rfl : k = n := by omega
      have hlt' : ¬ ((k : Int) < (k : Int)) := by omega
      go_wp2_with fail
      go_ret
      exact ⟨_, rfl, Nat.le_refl _, rptB_out HG.out, hB⟩
end Go.Proofs.YtddjefmokpfplaaDoor
