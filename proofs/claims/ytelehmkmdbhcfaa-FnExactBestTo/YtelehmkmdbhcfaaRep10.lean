/- slices.Clone of numbers, and slices.Repeat of one number. -/
import Derived.Test.YtelehmkmdbhcfaaMemN
import Derived.Test.YtelehmkmdbhcfaaFlatInt
import Derived.Laws.CopyOwn
import Derived.Deep.RegionLaw
import Derived.Lib.Builder
namespace Go.Proofs.Ytelehmkmdbhcfaa
open Go.RowKit

/-- A list of numbers of one's own that is not empty, as a row that may be written. -/
theorem own_outI {e : TypeId} {w : World} {base : Nat} {v : Value} {L : List Int} (h : OwnN e .i64 base v L w) (h0 : L ≠ []) : ∃ g cap, v = .slice (some ⟨g, 0, none⟩) L.length cap ∧ base ≤ g ∧ L.length ≤ cap ∧ OutInt g L.length L.length (fun i => L.getD i 0) w := by
  obtain ⟨g, cap, rfl, hb, hg⟩ := ownN_shape h h0
  have hc : L.length ≤ cap := by
    rcases h.2 with ⟨he, _⟩ | ⟨g', cap', cur, he, _, _, hc, _⟩
    · simp at he
    · simp at he
      obtain ⟨_, rfl⟩ := he
      exact hc
  refine ⟨g, cap, rfl, hb, hc, hg, fun i hi => ⟨⟨_, ownN_at h hi, fun _ => rfl⟩, World.ownsRow.frozenAt (show w.ownsRow base e 1 (.slice (some ⟨g, 0, none⟩) L.length cap) L.length (ncells .i64 L) from h) i⟩⟩
theorem OutInt.congr {c n : Nat} {f g : Nat → Int} {w : World} (h : OutInt c n n f w) (e : ∀ i, i < n → f i = g i) : OutInt c n n g w := by
  refine ⟨h.1, fun i hi => ?_⟩
  obtain ⟨⟨x, h0, hx⟩, g0⟩ := h.2 i hi
  exact ⟨⟨x, h0, fun _ => (hx hi).trans (e i hi)⟩, g0⟩
/-- The first n numbers as a list. -/
def lsI (n : Nat) (f : Nat → Int) : List Int := (List.range n).map f
theorem lsI_len (n : Nat) (f : Nat → Int) : (lsI n f).length = n := by simp [lsI]
theorem lsI_at {n : Nat} {f : Nat → Int} {i : Nat} (h : i < n) : (lsI n f).getD i 0 = f i := by
  simp [lsI, List.getD_eq_getElem?_getD, List.getElem?_map, List.getElem?_range h]
theorem rowN_of {a : Option Addr} {n : Nat} {f : Nat → Int} {w : World} (h : RowInt a n f w) : RowN .i64 a (lsI n f) w := by
  intro i hi
  rw [lsI_len] at hi
  obtain ⟨b, off, h1, h2, h3⟩ := h i hi
  exact ⟨b, off, h1, h2, by rw [lsI_at hi]; exact h3⟩
set_option maxRecDepth 100000 in
set_option maxHeartbeats 1600000 in
theorem i_mul64 (n : Nat) (w : World) (h1 : 1 ≤ n) (h6 : n ≤ 6) :
    Calls Try.prog 58 #[.int .u64 1, .int .u64 n] w fun e w' => e = .returned (.tuple #[.int .u64 0, .int .u64 n]) ∧ w' = w := by
  have hn : n = 1 ∨ n = 2 ∨ n = 3 ∨ n = 4 ∨ n = 5 ∨ n = 6 := by omega
  rcases hn with rfl | rfl | rfl | rfl | rfl | rfl <;>
  (go_enter Try.func58, Try.ntmps58
   go_wp2_with fail
   go_ret2
   exact ⟨rfl, rfl⟩)
set_option maxRecDepth 100000 in
set_option maxHeartbeats 1600000 in
theorem i_mul (n : Nat) (w : World) (h1 : 1 ≤ n) (h6 : n ≤ 6) :
    Calls Try.prog 53 #[.int .u64 1, .int .u64 n] w fun e w' => e = .returned (.tuple #[.int .u64 0, .int .u64 n]) ∧ w' = w := by
  have M := hide (fun w => i_mul64 n w h1 h6)
  have hn : (n : Int) ≤ 6 := by omega
  go_enter Try.func53, Try.ntmps53
  go_wp2_with fail
  refine (M.out _).mono ?_
  rintro e w1 ⟨rfl, rfl⟩
  go_wp2_with fail
  go_ret2
  exact ⟨rfl, rfl⟩
/-- k times x, then nothing. -/
def rpt (n : Nat) (x : Int) (k : Nat) : List Value := List.replicate k (.int .i64 x) ++ List.replicate (n - k) (.int .i64 0)
theorem rpt_len {n : Nat} {x : Int} {k : Nat} (h : k ≤ n) : (rpt n x k).length = n := by simp [rpt]; omega
theorem rpt_at {n : Nat} {x : Int} {k i : Nat} (h : i < k) : (rpt n x k)[i]? = some (.int .i64 x) := by
  unfold rpt
  rw [List.getElem?_append_left (by simpa using h), List.getElem?_replicate, if_pos h]
theorem rpt_zero (n : Nat) (x : Int) : rpt n x 0 = List.replicate n (.int .i64 0) := by simp [rpt]
theorem rpt_splice {n : Nat} {x : Int} {k m : Nat} (h : k + m ≤ n) : splice (rpt n x k) k (List.replicate m (.int .i64 x)) = rpt n x (k + m) := by
  unfold splice rpt
  rw [List.take_left' (by simp), List.drop_append, List.length_replicate, List.length_replicate, List.drop_of_length_le (by simp), List.nil_append, ← List.append_assoc, List.replicate_append_replicate]
  congr 1
  rw [List.drop_replicate]
  congr 1
  omega
theorem rpt_cell {n : Nat} {x : Int} {k i g : Nat} {t : TypeId} {w : World} (h : w.heap[g]? = some (.cells (rpt n x k).toArray t (0, 0))) (hi : i < k) : w.cell? ⟨g, i, none⟩ = some (.int .i64 x) := by
  rw [Lib.cell_of_heap h]
  simpa using rpt_at hi
theorem rpt_out {n : Nat} {x : Int} {g : Nat} {t : TypeId} {w : World} (h : w.heap[g]? = some (.cells (rpt n x n).toArray t (0, 0))) : OutInt g n n (fun _ => x) w := by
  refine ⟨(Array.getElem?_eq_some_iff.1 h).1, fun i hi => ⟨⟨x, rpt_cell h hi, fun _ => rfl⟩, ?_⟩⟩
  simp [World.frozen?, h]
theorem made_rpt (n : Nat) (x : Int) : madeCells #[.int .i64 0] n = (rpt n x 0).toArray := by
  apply Array.ext_getElem?
  intro i
  rw [rpt_zero]
  by_cases h : i < n
  · have e : (madeCells #[.int .i64 0] n)[i]? = some (.int .i64 0) := by
      simp only [madeCells, Array.getElem?_map, Array.getElem?_range, h, if_true, Option.map_some]
      simp only [List.size_toArray, List.length_cons, List.length_nil, Nat.zero_add, Nat.mod_one]
      rfl
    rw [e]
    simp [h]
  · have h1 : (madeCells #[.int .i64 0] n).size ≤ i := by simp [madeCells]; omega
    rw [Array.getElem?_eq_none h1]
    simp [h]
set_option maxRecDepth 100000 in
set_option maxHeartbeats 1600000 in
theorem i_repeat (b cap n : Nat) (x : Int) (w : World) (h1 : 1 ≤ n) (h6 : n ≤ 6) (hbl : b < w.heap.size) (hb : w.cell? ⟨b, 0, none⟩ = some (.int .i64 x)) :
    Calls Try.prog 44 #[.slice (some ⟨b, 0, none⟩) 1 cap, .int .i64 n] w fun e w' => ∃ g, e = .returned (.slice (some ⟨g, 0, none⟩) n n) ∧ w.heap.size ≤ g ∧ OutInt g n n (fun _ => x) w' ∧ Below w.heap.size w w' := by
  have M := hide (fun w => i_mul n w h1 h6)
  have hinfo : (Try.prog.info? 3).map (fun i => (i.zero, i.size, i.bytes)) = some (some (.int .i64 0), 1, 8) := by kernel_rfl
  have hsz : (Try.prog.info? 3).map (·.size) = some 1 := by kernel_rfl
  obtain ⟨i, hi, hzz⟩ := Option.map_eq_some_iff.1 hinfo
  simp only [Prod.mk.injEq] at hzz
  obtain ⟨hz, hs, hby⟩ := hzz
  have hmk := fun w : World => run_make (P := Try.prog) w 28 3 i _ Try.underlying28 hi hz .i64 .i64 (n : Int) (n : Int) (by omega) (by omega) (by rw [hby]; omega) (by omega)
  rw [hs] at hmk
  clear hi hz hs hby hinfo
  simp only [Int.toNat_natCast, Nat.mul_one, Value.cells] at hmk
  have hn6 : (n : Int) ≤ 6 := by omega
  have hn1 : (1 : Int) ≤ (n : Int) := by omega
  have hn0 : ¬ ((n : Int) < 0) := by omega
  have hbig : ¬ ((9223372036854775807 : Int) < (n : Int)) := by omega
  have dA : Below w.heap.size w (w.alloc (.cells (madeCells #[.int .i64 0] n) 3)) := below_box (Below.refl _ _)
  have hg0 : (w.alloc (.cells (madeCells #[.int .i64 0] n) 3)).heap[w.heap.size]? = some (.cells (rpt n x 0).toArray 3 (0, 0)) := by rw [made_rpt n x]; exact heap_alloc_new w _
  have hbA := (dA.cell (p := ⟨b, 0, none⟩) hbl).trans hb
  have hlast : Hid (∀ k, k ≤ n → (rpt n x k).length = n) := fun k hk => rpt_len hk
  have hspl : Hid (∀ k m, k + m ≤ n → splice (rpt n x k) k (List.replicate m (.int .i64 x)) = rpt n x (k + m)) := fun k m h => rpt_splice h
  have hpos : Hid (0 < [Value.int .i64 x].length → (some (⟨w.heap.size, 0, none⟩ : Addr)) = some ⟨w.heap.size, 0, none⟩ ∧ ∃ ad, some (⟨b, 0, none⟩ : Addr) = some ad ∧ ∀ j v, [Value.int .i64 x][j]? = some v → (w.alloc (.cells (madeCells #[.int .i64 0] n) 3)).cell? (ad.add j) = some v) := fun _ => ⟨rfl, _, rfl, fun j v hv => by
    have hj : j = 0 := by
      have := (List.getElem?_eq_some_iff.1 hv).1
      simpa using this
    subst hj
    simp at hv
    rw [← hv]
    simpa [Addr.add] using hbA⟩
  have h1c : Hid (∀ v ∈ [Value.int .i64 x], v.oneCell' = true) := fun v hv => by rw [List.mem_singleton.1 hv]; rfl
  have hmn : Hid ([Value.int .i64 x].length = Nat.min 1 n) := by show 1 = Nat.min 1 n; simp only [Nat.min_def]; split <;> omega
  have hft : Hid (0 + [Value.int .i64 x].length ≤ (rpt n x 0).length) := by show _ ≤ _; rw [hlast.out 0 (by omega)]; simp; omega
  obtain ⟨w2, hcp, HG2, hB2⟩ : ∃ w2 : World, (∀ ty, (Builtin.copy_ #[28, 28] ty #[.slice (some ⟨w.heap.size, 0, none⟩) n n, .slice (some ⟨b, 0, none⟩) 1 cap]).run Try.prog (w.alloc (.cells (madeCells #[.int .i64 0] n) 3)) = .ok (.int .i64 1) w2) ∧ Hid (w2.heap[w.heap.size]? = some (.cells (splice (rpt n x 0) 0 [.int .i64 x]).toArray 3 (0, 0))) ∧ Below w.heap.size w w2 := by
    obtain ⟨_, ad, had, hsrc⟩ := hpos.out (by simp)
    simp only [Option.some.injEq] at had
    subst had
    refine ⟨_, fun ty => run_copy_row (P := Try.prog) _ 28 28 ty 3 w.heap.size 0 n n ⟨b, 0, none⟩ 1 cap (rpt n x 0).toArray 3 [.int .i64 x] Try.underlying28 hsz hg0 hmn.out hsrc (by simpa using hft.out) h1c.out, ?_, below_setRow dA (Nat.le_refl _) _⟩
    show _ = _
    simpa [splice] using setRow_heap (w.alloc (.cells (madeCells #[.int .i64 0] n) 3)) w.heap.size _ _ 3 _ hg0
  clear hg0 h1c hmn hft
  go_enter Try.func44, Try.ntmps44
  go_wp2_with fail
  refine (M.out _).mono ?_
  rintro e w1 ⟨rfl, hw1⟩
  rw [hw1]; clear hw1 w1
  go_wp2_with fail
  have HG : Hid (w2.heap[w.heap.size]? = some (.cells (rpt n x 1).toArray 3 (0, 0))) := by
    have h := HG2.out
    rw [show [Value.int .i64 x] = List.replicate 1 (.int .i64 x) from rfl, hspl.out 0 1 (by omega)] at h
    exact h
  clear HG2 hpos hbA dA hmk M hcp
  go_loopw [8] (fun z wr => ∃ k : Nat, z = .int .i64 k ∧ 1 ≤ k ∧ k ≤ n ∧ Hid (wr.heap[w.heap.size]? = some (.cells (rpt n x k).toArray 3 (0, 0))) ∧ Below w.heap.size w wr) (fun z _ => n - (intOf z).toNat)
  case atStart => exact ⟨1, rfl, Nat.le_refl _, h1, HG, hB2⟩
  case round =>
    clear HG hB2
    obtain ⟨k, rfl, hk1, hkn, HG, hB⟩ := hrel
    by_cases hlt : k < n
    · have hlt' : (k : Int) < (n : Int) := by omega
      have hkn' : (k : Int) ≤ (n : Int) := by omega
      have hne : n ≠ k := by omega
      obtain ⟨m, hm⟩ : ∃ m, m = Nat.min k (n - k) := ⟨_, rfl⟩
      have hm1 : 1 ≤ m ∧ k + m ≤ n ∧ m ≤ k := by rw [hm]; simp only [Nat.min_def]; split <;> omega
      have hcell := hide (fun i (hi : i < k) => rpt_cell HG.out hi)
      have hposK : Hid (∀ W : World, (∀ q, W.cell? q = wr.cell? q) → ∀ j v, (List.replicate m (Value.int .i64 x))[j]? = some v → W.cell? ((⟨w.heap.size, 0, none⟩ : Addr).add j) = some v) := fun W hW j v hv => by
        have hj : j < m := by
          have := (List.getElem?_eq_some_iff.1 hv).1
          simpa using this
        rw [List.getElem?_replicate, if_pos hj] at hv
        simp at hv
        rw [← hv, hW]
        have := hcell.out j (by omega)
        have hadd : (⟨w.heap.size, 0, none⟩ : Addr).add j = ⟨w.heap.size, j, none⟩ := by
          simp only [Addr.add]
          split
          · rename_i h; rw [h]
          · simp
        rw [hadd]; exact this
      have hN : Hid (∀ W : World, Hid (W.heap[w.heap.size]? = some (.cells (splice (rpt n x k) k (List.replicate m (.int .i64 x))).toArray 3 (0, 0))) → Hid (W.heap[w.heap.size]? = some (.cells (rpt n x (k + m)).toArray 3 (0, 0)))) := fun W h => by
        have h := h.out
        rw [hspl.out k m hm1.2.1] at h
        exact h
      have hl := hide (hlast.out k hkn)
      have hrl : Hid ((List.replicate m (Value.int .i64 x)).length = m) := by show _ = _; simp
      have hone : Hid (∀ v ∈ List.replicate m (Value.int .i64 x), v.oneCell' = true) := fun v hv => by
        rw [(List.mem_replicate.1 hv).2]; rfl
      have hm9 := hide hm
      clear hm hcell hspl hlast
      generalize hcs : List.replicate m (Value.int .i64 x) = cs at *
      clear hcs
      generalize hrp : rpt n x k = rp at *
      clear hrp
      have hft : Hid (k + cs.length ≤ rp.length) := by show _ ≤ _; rw [hl.out, hrl.out]; omega
      have hmn : Hid (cs.length = Nat.min k (n - k)) := by show _ = _; rw [hrl.out]; exact hm9.out
      obtain ⟨w4, hcp, hg4, hb4⟩ : ∃ w4 : World, (∀ ty, (Builtin.copy_ #[28, 28] ty #[.slice (some ⟨w.heap.size, k, none⟩) (n - k) (n - k), .slice (some ⟨w.heap.size, 0, none⟩) k n]).run Try.prog wr.drew = .ok (.int .i64 (m : Int)) w4) ∧ Hid (w4.heap[w.heap.size]? = some (.cells (splice rp k cs).toArray 3 (0, 0))) ∧ Below w.heap.size w w4 := by
        refine ⟨wr.drew.setRow w.heap.size (splice rp k cs).toArray, fun ty => ?_, ?_, below_setRow hB.drew (Nat.le_refl _) _⟩
        rotate_left
        · show _ = _
          exact setRow_heap wr.drew w.heap.size rp.toArray (splice rp k cs).toArray 3 _ HG.out
        · have h := run_copy_row (P := Try.prog) wr.drew 28 28 ty 3 w.heap.size k (n - k) (n - k) ⟨w.heap.size, 0, none⟩ k n rp.toArray 3 cs Try.underlying28 hsz HG.out hmn.out (hposK.out _ (fun _ => rfl)) (by simpa using hft.out) hone.out
          rw [hrl.out] at h
          rw [h]
          simp [splice, hrl.out, goInt]
      have hHN := hide (hN.out _ hg4)
      clear hg4 hN hposK hone hft hmn hl hrl HG hB
      go_wp2_with fail
      go_region
      all_goals
        go_wp2_with fail
        exact ⟨⟨k + m, by go_num, by omega, hm1.2.1, hHN.out, hb4⟩, by simp [intOf]; omega⟩
    · obtain rfl : k = n := by omega
      have hlt' : ¬ ((k : Int) < (k : Int)) := by omega
      go_wp2_with fail
      go_ret
      exact ⟨_, rfl, Nat.le_refl _, rpt_out HG.out, hB⟩
end Go.Proofs.Ytelehmkmdbhcfaa
