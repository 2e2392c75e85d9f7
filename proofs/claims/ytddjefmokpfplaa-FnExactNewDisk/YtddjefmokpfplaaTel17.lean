/- What tells of a half: of the program and of the specification. -/
import Derived.Test.YtddjefmokpfplaaSum17
import Derived.Test.YtddjefmokpfplaaMemN
namespace Go.Proofs.Ytddjefmokpfplaa
open Go.RowKit

/-- What tells: a number and a length, sealed. -/
def teB (n l : Int) : ByteArray := sealB (strOfNums [n / 256 % 256, n % 256, l % 256])
theorem teB_size (n l : Int) : (teB n l).size = 4 := by
  unfold teB
  rw [sealB_size, strOfNums_size]
  rfl
theorem heap_set17 {w : World} {b : Nat} {c : Array Value} {e : TypeId} {fz : Nat × Nat} (h : w.heap[b]? = some (.cells c e fz)) (o : Nat) (v : Value) : (w.setCell ⟨b, o, none⟩ v).heap[b]? = some (.cells (c.setIfInBounds o v) e fz) := by
  simp [World.setCell, Array.getElem?_modify, h]
/-- Block b holds these cells, whole; they may be written. -/
def Blk17 (w : World) (b : Nat) (c : Array Value) (e : TypeId) : Prop := w.heap[b]? = some (.cells c e (0, 0))
theorem Blk17.cell {w : World} {b : Nat} {c : Array Value} {e : TypeId} (h : Blk17 w b c e) (j : Nat) : w.cell? ⟨b, j, none⟩ = c[j]? := cell_of_row w b j c e (0, 0) h
theorem Blk17.frozen {w : World} {b : Nat} {c : Array Value} {e : TypeId} (h : Blk17 w b c e) (j : Nat) : w.frozen? ⟨b, j, none⟩ = false := by
  have h' : w.heap[b]? = some (.cells c e (0, 0)) := h
  simp [World.frozen?, h']
theorem Blk17.ownN {w : World} {b : Nat} {L : List Int} {e : TypeId} {k : IntKind} (h : Blk17 w b (ncells k L).toArray e) (hL : L.length ≤ maxLen) : OwnN e k b (.slice (some ⟨b, 0, none⟩) L.length L.length) L w :=
  ⟨by rw [nc_len, Nat.mul_one], .inr ⟨b, L.length, (ncells k L).toArray, rfl, Nat.le_refl _, h, Nat.le_refl _, hL, by simp [nc_len], by
    rw [Nat.mul_one, ← nc_len k L]
    simp⟩⟩
set_option maxRecDepth 100000 in
set_option maxHeartbeats 1600000 in
theorem i_number2 (n : Int) (w : World) :
    Calls Try.prog 31 #[.int .i64 n, .int .i64 2] w fun e w' => e = .returned (.slice (some ⟨w.heap.size, 0, none⟩) 2 2) ∧ Below w.heap.size w w' ∧ Blk17 w' w.heap.size #[.int .u8 (n / 256 % 256), .int .u8 (n % 256)] 5 := by
  have hinfo : (Try.prog.info? 5).map (fun i => (i.zero, i.size, i.bytes)) = some (some (.int .u8 0), 1, 1) := by kernel_rfl
  obtain ⟨i, hi, hzz⟩ := Option.map_eq_some_iff.1 hinfo
  simp only [Prod.mk.injEq] at hzz
  obtain ⟨hz, hsz, hby⟩ := hzz
  have hmk := fun w : World => run_make (P := Try.prog) w 53 5 i _ Try.underlying53 hi hz .i64 .i64 2 2 (by omega) (by omega) (by rw [hby]; omega) (by omega)
  rw [hsz] at hmk
  clear hi hz hsz hby hinfo
  have hmc : madeCells (Value.cells (.int .u8 0)) ((2 : Int).toNat * 1) = #[.int .u8 0, .int .u8 0] := by kernel_rfl
  simp only [hmc] at hmk
  clear hmc
  have hB0 : Blk17 (w.alloc (.cells #[.int .u8 0, .int .u8 0] 5)) w.heap.size #[.int .u8 0, .int .u8 0] 5 := heap_alloc_new w _
  have hd0 : Below w.heap.size w (w.alloc (.cells #[.int .u8 0, .int .u8 0] 5)) := below_box (Below.refl _ _)
  go_enter Try.func31, Try.ntmps31
  go_wp2_with fail
  go_loopw [11] (fun i wr => ∃ k : Nat, k ≤ 2 ∧ i = .int .i64 k ∧ Below w.heap.size w wr ∧ Blk17 wr w.heap.size #[.int .u8 (if 2 ≤ k then n / 256 % 256 else 0), .int .u8 (if 1 ≤ k then n % 256 else 0)] 5) (fun i _ => 2 - (intOf i).toNat)
  case atStart => exact ⟨0, Nat.zero_le _, by simp, hd0, hB0⟩
  case round =>
    clear hmk hB0 hd0
    obtain ⟨k, hk, rfl, hb, hB⟩ := hrel
    have hgl : w.heap.size < wr.heap.size := (Array.getElem?_eq_some_iff.1 hB).1
    rcases (show k = 0 ∨ k = 1 ∨ k = 2 by omega) with rfl | rfl | rfl
    · have e1 := hB.cell 1
      have f1 := hB.frozen 1
      simp at e1
      have hN := hide (heap_set17 hB 1 (.int .u8 (n % 256)))
      go_wp2_with fail
      exact ⟨⟨1, by omega, by go_num, hb.setCell (Nat.le_refl _) _, hN.out⟩, by simp [intOf]⟩
    · have e1 := hB.cell 0
      have f1 := hB.frozen 0
      simp at e1
      have hN := hide (heap_set17 hB 0 (.int .u8 (n / 256 % 256)))
      go_wp2_with fail
      exact ⟨⟨2, by omega, by go_num, hb.setCell (Nat.le_refl _) _, hN.out⟩, by simp [intOf]⟩
    · go_wp2_with fail
      go_ret
      exact ⟨rfl, hb, hB⟩
set_option maxRecDepth 100000 in
set_option maxHeartbeats 1600000 in
theorem i_tellingOf (n : Int) (t : ByteArray) (w : World) :
    Calls Try.prog 16 #[.int .i64 n, .string t] w fun e w' => e = .returned (.string (teB n t.size)) ∧ Below w.heap.size w w' := by
  have NB := hide (fun w => i_number2 n w)
  have hfin := hide (show teB n t.size = sealB (strOfNums [n / 256 % 256, n % 256, (t.size : Int) % 256]) from rfl)
  have SL := hide (fun w => i_sealOf (strOfNums [n / 256 % 256, n % 256, (t.size : Int) % 256]) w (by rw [strOfNums_size]; simp))
  have hwr : IntKind.u8.wrap (t.size : Int) = (t.size : Int) % 256 := u8_wrap17 _
  generalize n / 256 % 256 = x at *
  generalize n % 256 = y at *
  generalize teB n t.size = TB at *
  go_enter Try.func16, Try.ntmps16
  go_wp2_with fail
  refine (NB.out _).mono ?_
  rintro e w1 ⟨rfl, b1, B1⟩
  have own1 : OwnN 5 .u8 w.heap.size (.slice (some ⟨w.heap.size, 0, none⟩) 2 2) [x, y] (w1.alloc (.cells #[.int .u8 ((t.size : Int) % 256)] 5)) := ownN_below (Blk17.ownN (L := [x, y]) B1 (by simp [maxLen])) (below_box (Below.refl _ _))
  have src1 : SrcN .u8 (some ⟨w1.heap.size, 0, none⟩) [(t.size : Int) % 256] 1 (w1.alloc (.cells #[.int .u8 ((t.size : Int) % 256)] 5)) := ⟨fun i hi => by
    obtain rfl : i = 0 := by simp at hi; omega
    exact ⟨w1.heap.size, 0, rfl, by simp, by simp [go_sem]⟩, .inr ⟨_, _, rfl⟩⟩
  have d1 := below_step b1 (below_box (o := .cells #[.int .u8 ((t.size : Int) % 256)] 5) (Below.refl _ _))
  have hsz := d1.size
  clear B1 b1 NB
  generalize (t.size : Int) % 256 = z at *
  go_wp2_with (first | (at_builtin; refine wpList_appN numByte rfl _ _ rfl w.heap.size _ [x, y] rfl own1 _ [z] 1 1 rfl rfl src1 (by simp) (by decide) hsz ?_))
  intro v' w2 own2 b2 _ _
  obtain ⟨g, cap, rfl, _, _⟩ := ownN_shape own2 (by simp)
  have hcv := run_convert_bytes_arg (P := Try.prog) w2 53 5 Try.underlying53 Try.underlying5 g 0 3 cap [x, y, z] rfl (fun i hi => by rw [Nat.zero_add]; exact ownN_at own2 hi) 9 Try.underlying9
  have d2 := d1.trans b2
  clear own1 own2 src1 b2 d1 hsz
  generalize hZ : strOfNums [x, y, z] = Z at *
  clear hZ
  go_wp2_with fail
  refine (SL.out _).mono ?_
  rintro e w3 ⟨rfl, b3⟩
  have d3 := below_step d2 b3
  go_wp2_with fail
  go_ret
  exact ⟨by rw [hfin.out]; rfl, d3⟩
set_option maxRecDepth 100000 in
set_option maxHeartbeats 1600000 in
theorem s_l17Tell (n l : Int) (w : World) :
    Calls Try.prog 15 #[.int .i64 n, .int .i64 l] w fun e w' => e = .returned (.string (teB n l)) ∧ Below w.heap.size w w' := by
  have hfin := hide (show teB n l = sealB (strOfNums [n / 256 % 256, n % 256, l % 256]) from rfl)
  have SL := hide (fun w => s_sealOf (strOfNums [n / 256 % 256, n % 256, l % 256]) w (by rw [strOfNums_size]; simp))
  have w1 : IntKind.u8.wrap (n / 256) = n / 256 % 256 := u8_wrap17 _
  have w2 : IntKind.u8.wrap n = n % 256 := u8_wrap17 _
  have w3 : IntKind.u8.wrap l = l % 256 := u8_wrap17 _
  have hcv := run_convert_bytes_arg (P := Try.prog) (w.alloc (.cells #[.int .u8 (n / 256 % 256), .int .u8 (n % 256), .int .u8 (l % 256)] 5)) 53 5 Try.underlying53 Try.underlying5 w.heap.size 0 3 3 [n / 256 % 256, n % 256, l % 256] rfl (fun i hi => by
        rcases (show i = 0 ∨ i = 1 ∨ i = 2 by omega) with rfl | rfl | rfl <;> simp [go_sem]) 9 Try.underlying9
  generalize hZ : strOfNums [n / 256 % 256, n % 256, l % 256] = Z at *
  clear hZ
  generalize teB n l = TB at *
  go_enter Try.func15, Try.ntmps15
  go_wp2_with fail
  refine (SL.out _).mono ?_
  rintro e w3 ⟨rfl, b3⟩
  have d3 := below_box b3
  go_wp2_with fail
  go_ret
  exact ⟨by rw [hfin.out]; rfl, d3⟩
end Go.Proofs.Ytddjefmokpfplaa
