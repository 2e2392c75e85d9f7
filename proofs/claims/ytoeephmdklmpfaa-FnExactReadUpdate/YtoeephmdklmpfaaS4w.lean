/- An update's bytes: what the specification's functions answer. -/
import Derived.Test.YtoeephmdklmpfaaS4v
import Derived.Test.YtoeephmdklmpfaaS4b
namespace Go.Proofs.Ytoeephmdklmpfaa
open Go.RowKit

/-- The bytes of the first k prefixes. -/
def pbsTo (f0 f1 : Nat → Int) : Nat → List Int
  | 0 => []
  | k + 1 => pbsTo f0 f1 k ++ pbs (f0 k) (f1 k)
/-- The bytes of the first k numbers. -/
def numTo (m : Nat) (f : Nat → Int) : Nat → List Int
  | 0 => []
  | k + 1 => numTo m f k ++ be (f k) m
def nlb (n : Nat) (f0 f1 : Nat → Int) : List Int := be n 1 ++ pbsTo f0 f1 n
def nmb (m n : Nat) (f : Nat → Int) : List Int := be n 1 ++ numTo m f n
def atb (o nx md pf : Int) (n0 : Nat) (f : Nat → Int) (n1 : Nat) (g : Nat → Int) : List Int :=
  be o 1 ++ nmb 2 n0 f ++ be nx 4 ++ be md 3 ++ be pf 3 ++ nmb 3 n1 g
/-- An update's bytes. -/
def upb (n : Nat) (f0 f1 : Nat → Int) (o nx md pf : Int) (n0 : Nat) (f : Nat → Int) (n1 : Nat) (g : Nat → Int) (m : Nat) (h0 h1 : Nat → Int) : List Int :=
  if m = 0 then nlb n f0 f1 else nlb n f0 f1 ++ atb o nx md pf n0 f n1 g ++ nlb m h0 h1
theorem pbsTo_len {f0 f1 : Nat → Int} {n : Nat} (h : ∀ i, i < n → 0 ≤ f1 i ∧ f1 i ≤ 32) : (pbsTo f0 f1 n).length ≤ 5 * n := by
  induction n with
  | zero => simp [pbsTo]
  | succ n ih =>
    have h1 := ih (fun i hi => h i (by omega))
    have h2 := need_le (h n (by omega)).1 (h n (by omega)).2
    unfold pbsTo
    rw [List.length_append, pbs_len]
    omega
theorem numTo_len (m : Nat) (f : Nat → Int) (n : Nat) : (numTo m f n).length = m * n := by
  induction n with
  | zero => simp [numTo]
  | succ n ih =>
    unfold numTo
    rw [List.length_append, ih, be_len, Nat.mul_succ]
theorem nlb_len {f0 f1 : Nat → Int} {n : Nat} (h : ∀ i, i < n → 0 ≤ f1 i ∧ f1 i ≤ 32) : (nlb n f0 f1).length ≤ 5 * n + 1 := by
  unfold nlb
  rw [List.length_append, be_len]
  have := pbsTo_len (f0 := f0) h
  omega
theorem nmb_len (m n : Nat) (f : Nat → Int) : (nmb m n f).length = m * n + 1 := by
  unfold nmb
  rw [List.length_append, be_len, numTo_len]
  omega
theorem atb_len (o nx md pf : Int) (n0 : Nat) (f : Nat → Int) (n1 : Nat) (g : Nat → Int) : (atb o nx md pf n0 f n1 g).length = 2 * n0 + 3 * n1 + 13 := by
  unfold atb
  simp only [List.length_append, be_len, nmb_len]
  omega

set_option maxRecDepth 100000 in
set_option maxHeartbeats 1600000 in
theorem s_nlri (a0 : Option Addr) (len cap : Nat) (f0 f1 : Nat → Int) (w : World) (hl : len ≤ 1048576) (hG : ∀ i, i < len → 0 ≤ f1 i ∧ f1 i ≤ 32) (hE : RowPrefix a0 len f0 f1 w) :
    Calls Try.prog 126 #[.slice a0 len cap] w fun e w' => e = .returned (.string (strOfNums (nlb len f0 f1))) ∧ Below w.heap.size w w' := by
  have s0 := hide (fun w => s_bytesI (len : Int) 1 w (by omega) (by omega))
  simp only [Int.toNat_one] at s0
  go_enter Try.func126, Try.ntmps126
  go_wp2_with fail
  refine (s0.out _).mono ?_
  rintro e w1 ⟨rfl, b1⟩
  go_wp2_with fail
  go_loopw [3, 5, 11] (fun t _ i wr => ∃ k : Nat, k ≤ len ∧ i = .int .i64 k ∧ t = .string (strOfNums (be len 1 ++ pbsTo f0 f1 k)) ∧ Below w.heap.size w wr) (fun _ _ i _ => len - (intOf i).toNat)
  case atStart => exact ⟨0, Nat.zero_le _, rfl, by simp [pbsTo], b1⟩
  case round =>
    obtain ⟨k, hk, rfl, rfl, hb⟩ := hrel
    clear b1 s0
    by_cases hlt : k < len
    · obtain ⟨b, off, rfl, hbw, e0, e1⟩ := hE k hlt
      have e0 := (hb.cell (p := ⟨b, off + k * 2, none⟩) hbw).trans e0
      have e1 := (hb.cell (p := ⟨b, off + k * 2 + 1, none⟩) hbw).trans e1
      have hlt' : (k : Int) < (len : Int) := by omega
      obtain ⟨g0, g1⟩ := hG k hlt
      have s1 := hide (fun w => s_prefixB (f0 k) (f1 k) w g0 g1)
      have hX : (strOfNums (be len 1 ++ pbsTo f0 f1 k)).size ≤ 5 * k + 1 := by
        rw [strOfNums_size, List.length_append, be_len]
        have := pbsTo_len (f0 := f0) (f1 := f1) (n := k) (fun i hi => hG i (by omega))
        omega
      have hY : (strOfNums (pbs (f0 k) (f1 k))).size ≤ 5 := by
        rw [strOfNums_size, pbs_len]
        have := need_le g0 g1
        omega
      have hS := hide (show strOfNums (be len 1 ++ pbsTo f0 f1 (k + 1)) = strOfNums (be len 1 ++ pbsTo f0 f1 k) ++ strOfNums (pbs (f0 k) (f1 k)) by
        rw [← str_app, show pbsTo f0 f1 (k + 1) = pbsTo f0 f1 k ++ pbs (f0 k) (f1 k) from rfl, List.append_assoc])
      have hcat := fun w : World => run_string_add_sum (P := Try.prog) w (strOfNums (be len 1 ++ pbsTo f0 f1 k)) (strOfNums (pbs (f0 k) (f1 k))) (by omega)
      clear hX hY g0 g1 hG
      generalize strOfNums (be len 1 ++ pbsTo f0 f1 k) = X at hS hcat ⊢
      generalize strOfNums (pbs (f0 k) (f1 k)) = Y at hS hcat s1
      generalize f0 k = a at *
      generalize f1 k = l at *
      go_wp2_with fail
      refine (s1.out _).mono ?_
      rintro e w2 ⟨rfl, b2⟩
      have hb2 := hb.trans ((below_box b2).mono hb.size)
      go_wp2_with fail
      exact ⟨⟨k + 1, by omega, by go_num, by rw [hS.out], hb2⟩, by simp [intOf]; omega⟩
    · have hk' : k = len := by omega
      subst hk'
      go_wp2_with fail
      go_ret
      exact ⟨rfl, hb⟩
set_option maxRecDepth 100000 in
set_option maxHeartbeats 1600000 in
theorem s_numbers (a0 : Option Addr) (len cap : Nat) (f : Nat → Int) (m : Nat) (w : World) (hl : len ≤ 1048576) (hm : m ≤ 4) (hE : RowInt a0 len f w) :
    Calls Try.prog 152 #[.slice a0 len cap, .int .i64 m] w fun e w' => e = .returned (.string (strOfNums (nmb m len f))) ∧ Below w.heap.size w w' := by
  have s0 := hide (fun w => s_bytesI (len : Int) 1 w (by omega) (by omega))
  simp only [Int.toNat_one] at s0
  go_enter Try.func152, Try.ntmps152
  go_wp2_with fail
  refine (s0.out _).mono ?_
  rintro e w1 ⟨rfl, b1⟩
  go_wp2_with fail
  go_loopw [5, 7, 13] (fun t _ i wr => ∃ k : Nat, k ≤ len ∧ i = .int .i64 k ∧ t = .string (strOfNums (be len 1 ++ numTo m f k)) ∧ Below w.heap.size w wr) (fun _ _ i _ => len - (intOf i).toNat)
  case atStart => exact ⟨0, Nat.zero_le _, rfl, by simp [numTo], b1⟩
  case round =>
    obtain ⟨k, hk, rfl, rfl, hb⟩ := hrel
    clear b1 s0
    by_cases hlt : k < len
    · obtain ⟨b, off, rfl, hbw, e0⟩ := hE k hlt
      have e0 := (hb.cell (p := ⟨b, off + k, none⟩) hbw).trans e0
      have hlt' : (k : Int) < (len : Int) := by omega
      have s1 := hide (fun w => s_bytes (f k) m w hm)
      have hX : (strOfNums (be len 1 ++ numTo m f k)).size ≤ 4 * k + 1 := by
        rw [strOfNums_size, List.length_append, be_len, numTo_len]
        have := Nat.mul_le_mul_right k hm
        omega
      have hY : (strOfNums (be (f k) m)).size ≤ 4 := by
        rw [strOfNums_size, be_len]
        exact hm
      have hS := hide (show strOfNums (be len 1 ++ numTo m f (k + 1)) = strOfNums (be len 1 ++ numTo m f k) ++ strOfNums (be (f k) m) by
        rw [← str_app, show numTo m f (k + 1) = numTo m f k ++ be (f k) m from rfl, List.append_assoc])
      have hcat := fun w : World => run_string_add_sum (P := Try.prog) w (strOfNums (be len 1 ++ numTo m f k)) (strOfNums (be (f k) m)) (by omega)
      clear hX hY
      generalize strOfNums (be len 1 ++ numTo m f k) = X at hS hcat ⊢
      generalize strOfNums (be (f k) m) = Y at hS hcat s1
      generalize f k = a at *
      go_wp2_with fail
      refine (s1.out _).mono ?_
      rintro e w2 ⟨rfl, b2⟩
      have hb2 := hb.trans (b2.mono hb.size)
      go_wp2_with fail
      exact ⟨⟨k + 1, by omega, by go_num, by rw [hS.out], hb2⟩, by simp [intOf]; omega⟩
    · have hk' : k = len := by omega
      subst hk'
      go_wp2_with fail
      go_ret
      exact ⟨rfl, hb⟩
theorem s_numbersI (a0 : Option Addr) (len cap : Nat) (f : Nat → Int) (m : Int) (w : World) (hl : len ≤ 1048576) (h0 : 0 ≤ m) (hm : m ≤ 4) (hE : RowInt a0 len f w) :
    Calls Try.prog 152 #[.slice a0 len cap, .int .i64 m] w fun e w' => e = .returned (.string (strOfNums (nmb m.toNat len f))) ∧ Below w.heap.size w w' := by
  obtain ⟨k, rfl⟩ := Int.eq_ofNat_of_zero_le h0
  exact s_numbers a0 len cap f k w hl (by omega) hE
set_option maxRecDepth 100000 in
set_option maxHeartbeats 6400000 in
theorem s_attrsB (o nx md pf : Int) (a0 : Option Addr) (n0 c0 : Nat) (f : Nat → Int) (a1 : Option Addr) (n1 c1 : Nat) (g : Nat → Int) (w : World) (h0 : n0 ≤ 1048576) (h1 : n1 ≤ 1048576) (R0 : RowInt a0 n0 f w) (R1 : RowInt a1 n1 g w) :
    Calls Try.prog 127 #[.agg #[.int .i64 o, .slice a0 n0 c0, .int .i64 nx, .int .i64 md, .int .i64 pf, .slice a1 n1 c1]] w fun e w' => e = .returned (.string (strOfNums (atb o nx md pf n0 f n1 g))) ∧ Below w.heap.size w w' := by
  have M := Mut.new w #[.int .i64 o, .slice a0 n0 c0, .int .i64 nx, .int .i64 md, .int .i64 pf, .slice a1 n1 c1] 25
  have d : Below w.heap.size w (w.alloc (.cells #[.int .i64 o, .slice a0 n0 c0, .int .i64 nx, .int .i64 md, .int .i64 pf, .slice a1 n1 c1] 25)) := below_box (Below.refl _ _)
  have hS := hide (show strOfNums (atb o nx md pf n0 f n1 g) = ((strOfNums (be o 1)) ++ (strOfNums (nmb 2 n0 f)) ++ (strOfNums (be nx 4)) ++ (strOfNums (be md 3)) ++ (strOfNums (be pf 3)) ++ (strOfNums (nmb 3 n1 g))) by unfold atb; simp only [str_app])
  have z1 : (strOfNums (be o 1)).size = 1 := by rw [strOfNums_size, be_len]
  have z2 : (strOfNums (nmb 2 n0 f)).size = 2 * n0 + 1 := by rw [strOfNums_size, nmb_len]
  have z3 : (strOfNums (be nx 4)).size = 4 := by rw [strOfNums_size, be_len]
  have z4 : (strOfNums (be md 3)).size = 3 := by rw [strOfNums_size, be_len]
  have z5 : (strOfNums (be pf 3)).size = 3 := by rw [strOfNums_size, be_len]
  have z6 : (strOfNums (nmb 3 n1 g)).size = 3 * n1 + 1 := by rw [strOfNums_size, nmb_len]
  have y2 : ((strOfNums (be o 1)) ++ (strOfNums (nmb 2 n0 f))).size = 2 * n0 + 2 := by rw [ByteArray.size_append]; omega
  have y3 : ((strOfNums (be o 1)) ++ (strOfNums (nmb 2 n0 f)) ++ (strOfNums (be nx 4))).size = 2 * n0 + 6 := by rw [ByteArray.size_append]; omega
  have y4 : ((strOfNums (be o 1)) ++ (strOfNums (nmb 2 n0 f)) ++ (strOfNums (be nx 4)) ++ (strOfNums (be md 3))).size = 2 * n0 + 9 := by rw [ByteArray.size_append]; omega
  have y5 : ((strOfNums (be o 1)) ++ (strOfNums (nmb 2 n0 f)) ++ (strOfNums (be nx 4)) ++ (strOfNums (be md 3)) ++ (strOfNums (be pf 3))).size = 2 * n0 + 12 := by rw [ByteArray.size_append]; omega
  have k1 := fun w : World => run_string_add_sum (P := Try.prog) w (strOfNums (be o 1)) (strOfNums (nmb 2 n0 f)) (by omega)
  have k2 := fun w : World => run_string_add_sum (P := Try.prog) w ((strOfNums (be o 1)) ++ (strOfNums (nmb 2 n0 f))) (strOfNums (be nx 4)) (by omega)
  have k3 := fun w : World => run_string_add_sum (P := Try.prog) w ((strOfNums (be o 1)) ++ (strOfNums (nmb 2 n0 f)) ++ (strOfNums (be nx 4))) (strOfNums (be md 3)) (by omega)
  have k4 := fun w : World => run_string_add_sum (P := Try.prog) w ((strOfNums (be o 1)) ++ (strOfNums (nmb 2 n0 f)) ++ (strOfNums (be nx 4)) ++ (strOfNums (be md 3))) (strOfNums (be pf 3)) (by omega)
  have k5 := fun w : World => run_string_add_sum (P := Try.prog) w ((strOfNums (be o 1)) ++ (strOfNums (nmb 2 n0 f)) ++ (strOfNums (be nx 4)) ++ (strOfNums (be md 3)) ++ (strOfNums (be pf 3))) (strOfNums (nmb 3 n1 g)) (by omega)
  clear y2 y3 y4 y5 z1 z2 z3 z4 z5 z6
  generalize strOfNums (atb o nx md pf n0 f n1 g) = res at *
  go_enter Try.func127, Try.ntmps127
  go_wp2_with fail
  generalize w.alloc (.cells #[.int .i64 o, .slice a0 n0 c0, .int .i64 nx, .int .i64 md, .int .i64 pf, .slice a1 n1 c1] 25) = w1 at *
  have R0 := R0.below d
  have R1 := R1.below d
  have hlt := M.1
  have u0 := M.2.1 0 _ rfl
  have u1 := M.2.1 1 _ rfl
  have u2 := M.2.1 2 _ rfl
  have u3 := M.2.1 3 _ rfl
  have u4 := M.2.1 4 _ rfl
  have u5 := M.2.1 5 _ rfl
  have dA : Below w1.heap.size w1 w1 := Below.refl _ _
  go_region_held3 (fun w' => w'.cell? ⟨w.heap.size, 0, none⟩ = some (.int .i64 o) ∧ w'.cell? ⟨w.heap.size, 1, none⟩ = some (.slice a0 n0 c0) ∧ w'.cell? ⟨w.heap.size, 2, none⟩ = some (.int .i64 nx) ∧ w'.cell? ⟨w.heap.size, 3, none⟩ = some (.int .i64 md) ∧ w'.cell? ⟨w.heap.size, 4, none⟩ = some (.int .i64 pf) ∧ w'.cell? ⟨w.heap.size, 5, none⟩ = some (.slice a1 n1 c1)) (first | go_keep | exact ⟨(dA.cell (p := ⟨w.heap.size, 0, none⟩) hlt).trans u0, (dA.cell (p := ⟨w.heap.size, 1, none⟩) hlt).trans u1, (dA.cell (p := ⟨w.heap.size, 2, none⟩) hlt).trans u2, (dA.cell (p := ⟨w.heap.size, 3, none⟩) hlt).trans u3, (dA.cell (p := ⟨w.heap.size, 4, none⟩) hlt).trans u4, (dA.cell (p := ⟨w.heap.size, 5, none⟩) hlt).trans u5⟩ | exact ⟨(dA.drew.cell (p := ⟨w.heap.size, 0, none⟩) hlt).trans u0, (dA.drew.cell (p := ⟨w.heap.size, 1, none⟩) hlt).trans u1, (dA.drew.cell (p := ⟨w.heap.size, 2, none⟩) hlt).trans u2, (dA.drew.cell (p := ⟨w.heap.size, 3, none⟩) hlt).trans u3, (dA.drew.cell (p := ⟨w.heap.size, 4, none⟩) hlt).trans u4, (dA.drew.cell (p := ⟨w.heap.size, 5, none⟩) hlt).trans u5⟩) ((first | (go_at_call 150; refine (s_bytesI _ _ _ (by omega) (by omega)).mono ?_; rintro e wA ⟨rfl, bA⟩; have dA : Below w1.heap.size w1 wA := (by first | exact below_step dA bA | exact below_step dA.drew bA)) | (go_at_call 152; refine (s_numbersI _ _ _ _ _ _ (by omega) (by omega) (by omega) (by first | exact R0.below dA | exact R1.below dA | exact R0.below dA.drew | exact R1.below dA.drew)).mono ?_; rintro e wA ⟨rfl, bA⟩; have dA : Below w1.heap.size w1 wA := (by first | exact below_step dA bA | exact below_step dA.drew bA))))
  all_goals
    have dF := d.trans (dA.mono d.size)
    go_wp2_with fail
    go_ret
    exact ⟨ret_str hS.out.symm, dF⟩
end Go.Proofs.Ytoeephmdklmpfaa
