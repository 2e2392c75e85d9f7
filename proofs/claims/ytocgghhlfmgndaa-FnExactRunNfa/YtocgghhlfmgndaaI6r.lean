/- Rows of flags as the program holds them, and what it does with them: countHeld. -/
import Derived.Test.YtocgghhlfmgndaaPlain6r
import Derived.Test.YtocgghhlfmgndaaS6rd
import Derived.Test.YtocgghhlfmgndaaArr6
namespace Go.Proofs.Ytocgghhlfmgndaa
open Go.RowKit

theorem ix80 (f : Nat → Bool) (k : Nat) (h : k < 80) (w : World) : (Instr.index 153 (.agg (bits 80 f).toArray) (.int .i64 k)).run Try.prog w = .ok (.bool (f k)) w := by
  simp [Instr.index, go_sem, h, bits_get h]
set_option maxRecDepth 100000 in
set_option maxHeartbeats 800000 in
theorem i_countHeld (L : List Int) (w : World) (hu : UpN L) (hi : InN L) : Calls Try.prog 92 #[.agg (bits 80 (flN L)).toArray] w fun e w' => e = .returned (.int .i64 L.length) ∧ Below w.heap.size w w' := by
  have IX := hide (ix80 (flN L))
  have hM := Mut.new w (bits 80 (flN L)).toArray 153
  have hsz : (Try.prog.info? 153).map (·.size) = some (bits 80 (flN L)).toArray.toList.length := by simp only [bits_len]; kernel_rfl
  have hd : Below w.heap.size w (w.alloc (.cells (bits 80 (flN L)).toArray 153)) := below_box (Below.refl _ _)
  have hcn := hide (cnt_len hu hi)
  have hle := hide (cnt_le L)
  clear hu hi
  replace hM := hide hM
  replace hsz := hide hsz
  generalize (bits 80 (flN L)).toArray = cs at *
  go_enter Try.func92, Try.ntmps92
  go_wp2_with (first | (refine wpList_loadM rfl rfl rfl hM.out Try.underlying153 hsz.out ?_))
  clear hM hsz
  generalize w.alloc (.cells cs 153) = w1 at *
  go_loopw [3, 7] (fun x y wr => ∃ k : Nat, x = .int .i64 (cntN L k) ∧ y = .int .i64 k ∧ k ≤ 80 ∧ wr = w1) (fun _ y _ => 80 - (intOf y).toNat)
  case atStart => exact ⟨0, rfl, rfl, by omega, rfl⟩
  case round =>
    obtain ⟨k, rfl, rfl, hk, rfl⟩ := hrel
    by_cases hlt : k < 80
    · have ix := IX.out k hlt
      have hlt' : (k : Int) < 80 := by omega
      have hc := hle.out k
      have hst : Hid (cntN L (k + 1) = cntN L k + if flN L k then 1 else 0) := rfl
      generalize cntN L k = c at *
      cases hf : flN L k with
      | true =>
        rw [hf] at ix hst
        go_wp2_with fail
        exact ⟨⟨k + 1, by rw [hst.out]; go_num, by go_num, by omega, trivial⟩, by simp [intOf]; omega⟩
      | false =>
        rw [hf] at ix hst
        go_wp2_with fail
        exact ⟨⟨k + 1, by rw [hst.out]; rfl, by go_num, by omega, trivial⟩, by simp [intOf]; omega⟩
    · have hlt' : ¬ (k : Int) < 80 := by omega
      obtain rfl : k = 80 := by omega
      rw [hcn.out]
      go_wp2_with fail
      go_ret
      exact ⟨rfl, hd⟩
theorem zero80 : Try.zeroCells153 = (bits 80 (flN [])).toArray := by kernel_rfl
theorem size80 (f : Nat → Bool) : (Try.prog.info? 153).map (·.size) = some (bits 80 f).length := by rw [bits_len]; kernel_rfl
theorem set80 {L : List Int} {y : Int} (h : 0 ≤ y) : (bits 80 (flN L)).set y.toNat (.bool true) = bits 80 (flN (putN L y)) := by
  rw [bits_set]
  exact bits_congr fun k _ => (flN_put h k).symm
def Froms (E : List Ed) : Prop := ∀ e ∈ E, 0 ≤ e.1 ∧ e.1 < 80
set_option maxRecDepth 100000 in
set_option maxHeartbeats 3200000 in
theorem i_behind (L : List Int) (ae : Option Addr) (ce : Nat) (E : List Ed) (num : Int) (w : World) (hl : E.length ≤ 1048576) (hE : Tos E) (hF : Froms E) (hR : RowG ae E w) :
    Calls Try.prog 93 #[.agg (bits 80 (flN L)).toArray, .slice ae E.length ce, .int .i64 num] w fun e w' => e = .returned (.agg (bits 80 (flN (behN E L num))).toArray) ∧ Below w.heap.size w w' := by
  have hz := zero80
  have hM0 := ((Mut.new w (bits 80 (flN L)).toArray 153).alloc (.cells (bits 80 (flN [])).toArray 153)).alloc (.cells (bits 80 (flN [])).toArray 153)
  have hM1 := (Mut.new (w.alloc (.cells (bits 80 (flN L)).toArray 153)) (bits 80 (flN [])).toArray 153).alloc (.cells (bits 80 (flN [])).toArray 153)
  have hM2 := Mut.new ((w.alloc (.cells (bits 80 (flN L)).toArray 153)).alloc (.cells (bits 80 (flN [])).toArray 153)) (bits 80 (flN [])).toArray 153
  have hd : Below w.heap.size w (((w.alloc (.cells (bits 80 (flN L)).toArray 153)).alloc (.cells (bits 80 (flN [])).toArray 153)).alloc (.cells (bits 80 (flN [])).toArray 153)) := below_box3 (Below.refl _ _)
  simp only [World.size_alloc] at hM0 hM1 hM2
  go_enter Try.func93, Try.ntmps93
  go_wp2_with fail
  clear hz
  generalize ((w.alloc (.cells (bits 80 (flN L)).toArray 153)).alloc (.cells (bits 80 (flN [])).toArray 153)).alloc (.cells (bits 80 (flN [])).toArray 153) = w1 at *
  go_loopw [12] (fun y wr => ∃ k : Nat, y = .int .i64 k ∧ k ≤ E.length ∧ Mut wr w.heap.size (bits 80 (flN L)) ∧ Mut wr (w.heap.size + 1) (bits 80 (flN [])) ∧ Mut wr (w.heap.size + 1 + 1) (bits 80 (flN ((E.take k).foldl (stepB L num) []))) ∧ Below w.heap.size w wr) (fun y _ => E.length - (intOf y).toNat)
  case atStart => exact ⟨0, rfl, Nat.zero_le _, hM0, hM1, hM2, hd⟩
  case round =>
    clear hM0 hM1 hM2 hd
    obtain ⟨k, rfl, hk, M0, M1, M2, hb⟩ := hrel
    by_cases hlt : k < E.length
    · obtain ⟨b5, off5, rfl, hb5, u0, u1, u2, u3, u4⟩ := hR k hlt
      replace u0 := (hb.cell (p := ⟨b5, off5 + k * 5, none⟩) hb5).trans u0
      replace u1 := (hb.cell (p := ⟨b5, off5 + k * 5 + 1, none⟩) hb5).trans u1
      replace u2 := (hb.cell (p := ⟨b5, off5 + k * 5 + 2, none⟩) hb5).trans u2
      replace u3 := (hb.cell (p := ⟨b5, off5 + k * 5 + 3, none⟩) hb5).trans u3
      replace u4 := (hb.cell (p := ⟨b5, off5 + k * 5 + 4, none⟩) hb5).trans u4
      have hlt' : (k : Int) < (E.length : Int) := by omega
      have hst := hide (fold_take (stepB L num) [] hlt)
      have hto := hE _ (gAt_mem hlt)
      have hfr := hF _ (gAt_mem hlt)
      generalize (E.take k).foldl (stepB L num) [] = L2 at *
      generalize gAt E k = ed at *
      obtain ⟨x, y, f, bb, n⟩ := ed
      simp only at u0 u1 u2 u3 u4 hto hfr
      obtain ⟨x, rfl⟩ : ∃ q : Nat, x = (q : Int) := ⟨x.toNat, by omega⟩
      obtain ⟨y, rfl⟩ : ∃ q : Nat, y = (q : Int) := ⟨y.toNat, by omega⟩
      have hx : x < 80 := by omega
      have hy : y < 80 := by omega
      have c0 := M0.2.1 x _ (bits_get hx)
      have c2 := M2.2.1 y _ (bits_get hy)
      have f2 := M2.2.2 y (by rw [bits_len]; exact hy)
      have z0 := M0.1
      have z2 := M2.1
      have M0' := hide (M0.alloc (.cells #[.int .i64 x, .int .i64 y, .bool f, .bool bb, .int .i64 n] 149))
      have M1' := hide (M1.alloc (.cells #[.int .i64 x, .int .i64 y, .bool f, .bool bb, .int .i64 n] 149))
      have M2' := hide (M2.alloc (.cells #[.int .i64 x, .int .i64 y, .bool f, .bool bb, .int .i64 n] 149))
      have dE := hide (hb.alloc hb.size (.cells #[.int .i64 x, .int .i64 y, .bool f, .bool bb, .int .i64 n] 149))
      have N0 := hide M0
      have N1 := hide M1
      have N2 := hide M2
      have dN := hide hb
      clear M0 M1 M2 hb hto hfr hb5
      have hF : Hid (flN L x = hasN L x) := rfl
      cases hh : flN L x with
      | false =>
        rw [hh] at c0
        have hs2 : Hid ((E.take (k + 1)).foldl (stepB L num) [] = L2) := hst.out.trans (by simp [stepB, ← hF.out, hh])
        clear hh hF
        go_wp2_with fail
        exact ⟨⟨k + 1, by go_num, by omega, M0'.out, M1'.out, by rw [hs2.out]; exact M2'.out, dE.out⟩, by simp [intOf]; omega⟩
      | true =>
        rw [hh] at c0
        cases f with
        | true =>
          have hs2 : Hid ((E.take (k + 1)).foldl (stepB L num) [] = L2) := hst.out.trans (by simp [stepB])
          clear hh hF
          go_wp2_with fail
          exact ⟨⟨k + 1, by go_num, by omega, M0'.out, M1'.out, by rw [hs2.out]; exact M2'.out, dE.out⟩, by simp [intOf]; omega⟩
        | false =>
          cases bb with
          | true =>
            have hs2 : Hid ((E.take (k + 1)).foldl (stepB L num) [] = putN L2 y) := hst.out.trans (by simp [stepB, ← hF.out, hh])
            clear hh hF
            go_wp2_with fail
            exact ⟨⟨k + 1, by go_num, by omega, (N0.out.other (by omega) _ _).alloc _, (N1.out.other (by omega) _ _).alloc _, by rw [hs2.out, ← set80 (Int.natCast_nonneg y)]; exact (N2.out.set _ _).alloc _, (dN.out.setCell (p := ⟨w.heap.size + 1 + 1, y, none⟩) (by simp; omega) _).alloc (by simpa using dN.out.size) _⟩, by simp [intOf]; omega⟩
          | false =>
            by_cases hq : (n == num) = true
            · have hs2 : Hid ((E.take (k + 1)).foldl (stepB L num) [] = putN L2 y) := hst.out.trans (by simp only [stepB, ← hF.out, hh, hq]; rfl)
              clear hh hF
              go_wp2_with fail
              exact ⟨⟨k + 1, by go_num, by omega, (N0.out.other (by omega) _ _).alloc _, (N1.out.other (by omega) _ _).alloc _, by rw [hs2.out, ← set80 (Int.natCast_nonneg y)]; exact (N2.out.set _ _).alloc _, (dN.out.setCell (p := ⟨w.heap.size + 1 + 1, y, none⟩) (by simp; omega) _).alloc (by simpa using dN.out.size) _⟩, by simp [intOf]; omega⟩
            · replace hq : (n == num) = false := by simpa using hq
              have hs2 : Hid ((E.take (k + 1)).foldl (stepB L num) [] = L2) := hst.out.trans (by simp only [stepB, ← hF.out, hh, hq]; rfl)
              clear hh hF
              go_wp2_with fail
              exact ⟨⟨k + 1, by go_num, by omega, M0'.out, M1'.out, by rw [hs2.out]; exact M2'.out, dE.out⟩, by simp [intOf]; omega⟩
    · have hlt' : ¬ (k : Int) < (E.length : Int) := by omega
      rw [List.take_of_length_le (by omega), show E.foldl (stepB L num) [] = behN E L num from rfl] at M2
      generalize hL4 : behN E L num = L3 at M2
      have hL3 := hide hL4
      clear hL4
      have hM1 := hide M1
      have hM2 := hide M2
      clear M0 M1 M2
      go_wp2_with (first | (refine wpList_loadM rfl rfl rfl hM2.out Try.underlying153 (size80 _) ?_) | (refine wpList_storeM rfl rfl rfl rfl hM1.out (by rw [bits_len, bits_len]) (bits_one _ _) (size80 _) ?_; intro w9 hM9 hO9))
      exact bodyPost_ret (results_arr rfl rfl hM9 Try.underlying153 (size80 _)) rfl ⟨by rw [hL3.out], hb.trans ((hO9.below (by have := hM1.out.1; omega)).mono (by omega))⟩
/-- How many flags of a row in memory are set. -/
def isT : Option Value → Bool
  | some (.bool true) => true
  | _ => false
def cntW (n : Nat) (w : World) (b : Nat) : Nat := (List.range n).countP fun k => isT (w.cell? ⟨b, k, none⟩)
theorem cntW_bits {n : Nat} {w : World} {b : Nat} {f : Nat → Bool} (h : Mut w b (bits n f)) : cntW n w b = (List.range n).countP f := by
  refine List.countP_congr fun k hk => ?_
  rw [h.2.1 k _ (bits_get (List.mem_range.1 hk))]
  cases f k <;> simp [isT]
theorem count_fl (L : List Int) (n : Nat) : (List.range n).countP (flN L) = cntN L n := by
  induction n with
  | zero => rfl
  | succ n ih =>
    rw [List.range_succ, List.countP_append, ih, cntN]
    rw [List.countP_cons, List.countP_nil, Nat.zero_add]
    rfl
theorem cntW_len {w : World} {b : Nat} {L : List Int} (h : Mut w b (bits 80 (flN L))) (hu : UpN L) (hi : InN L) : cntW 80 w b = L.length := by
  rw [cntW_bits h, count_fl, cnt_len hu hi]
theorem szB (w : World) : (sizeOf 4).run Try.prog w = .ok 1 w := by kernel_rfl
theorem eq80 (f g : Nat → Bool) (w : World) : (Op.equalIn 10000 153 (.agg (bits 80 f).toArray) (.agg (bits 80 g).toArray)).run Try.prog w = .ok ((List.range 80).all fun i => f i == g i) w :=
  run_equalIn_bits w 9998 _ 4 80 Try.underlying153 Try.underlying4 szB f g
theorem gd80 : Try.prog.eqGuardType Try.prog.depth 153 = false := by kernel_rfl
set_option maxRecDepth 100000 in
set_option maxHeartbeats 3200000 in
theorem i_withFree (L : List Int) (ae : Option Addr) (ce : Nat) (E : List Ed) (w : World) (hl : E.length ≤ 1048576) (hE : Tos E) (hF : Froms E) (hu : UpN L) (hi : InN L) (hR : RowG ae E w) :
    Calls Try.prog 91 #[.agg (bits 80 (flN L)).toArray, .slice ae E.length ce] w fun e w' => e = .returned (.agg (bits 80 (flN (closF E L))).toArray) ∧ Below w.heap.size w w' := by
  have hz := zero80
  have hM0 := (Mut.new w (bits 80 (flN L)).toArray 153).alloc (.cells (bits 80 (flN [])).toArray 153)
  have hM1 := Mut.new (w.alloc (.cells (bits 80 (flN L)).toArray 153)) (bits 80 (flN [])).toArray 153
  have hd : Below w.heap.size w ((w.alloc (.cells (bits 80 (flN L)).toArray 153)).alloc (.cells (bits 80 (flN [])).toArray 153)) := below_box2 (Below.refl _ _)
  simp only [World.size_alloc] at hM0 hM1
  go_enter Try.func91, Try.ntmps91
  go_wp2_with fail
  generalize (w.alloc (.cells (bits 80 (flN L)).toArray 153)).alloc (.cells (bits 80 (flN [])).toArray 153) = w1 at *
  go_loopw [] (fun wr => ∃ L1, Mut wr w.heap.size (bits 80 (flN L1)) ∧ Mut wr (w.heap.size + 1) (bits 80 (flN [])) ∧ UpN L1 ∧ InN L1 ∧ Hid (closF E L1 = closF E L) ∧ Below w.heap.size w wr) (fun wr => 80 - cntW 80 wr w.heap.size)
  case atStart => exact ⟨L, hM0, hM1, hu, hi, rfl, hd⟩
  case round =>
    clear hM0 hM1 hd hu hi
    obtain ⟨L1, M0, M1, hu1, hi1, hcl, hb⟩ := hrel
    have hMe := hide (cntW_len M0 hu1 hi1)
    have hM0 := hide M0
    have hM1 := hide M1
    have lt0 := M0.1
    have lt1 := M1.1
    clear M0 M1
    go_wp2_with (first | (refine wpList_loadM rfl rfl rfl hM0.out Try.underlying153 (size80 _) ?_) | (refine wpList_storeM rfl rfl rfl rfl (Mut.new _ _ _) (by rw [bits_len]; exact (bits_len _ _).symm) (bits_one _ _) (size80 _) ?_; intro w2 hM2 hO2))
    have M0 := (hM0.out.alloc _).only hO2 (by omega)
    have M1 := (hM1.out.alloc _).only hO2 (by omega)
    have d2 : Below w.heap.size w w2 := (hb.alloc hb.size _).trans ((hO2.below (by simp)).mono hb.size)
    clear hM0 hM1 hO2 hb
    generalize hbx : wr.heap.size = bx at *
    clear hbx
    go_loopw [11] (fun y wr => ∃ k : Nat, y = .int .i64 k ∧ k ≤ E.length ∧ Mut wr w.heap.size (bits 80 (flN (rndF (E.take k) L1))) ∧ Mut wr (w.heap.size + 1) (bits 80 (flN [])) ∧ Mut wr bx (bits 80 (flN L1)) ∧ Below w.heap.size w wr) (fun y _ => E.length - (intOf y).toNat)
    case atStart => exact ⟨0, rfl, Nat.zero_le _, M0, M1, hM2, d2⟩
    case round =>
      clear M0 M1 hM2 d2
      obtain ⟨k, rfl, hk, M0, M1, M2, hb⟩ := hrel
      by_cases hlt : k < E.length
      · obtain ⟨b5, off5, rfl, hb5, u0, u1, u2, u3, u4⟩ := hR k hlt
        replace u0 := (hb.cell (p := ⟨b5, off5 + k * 5, none⟩) hb5).trans u0
        replace u1 := (hb.cell (p := ⟨b5, off5 + k * 5 + 1, none⟩) hb5).trans u1
        replace u2 := (hb.cell (p := ⟨b5, off5 + k * 5 + 2, none⟩) hb5).trans u2
        replace u3 := (hb.cell (p := ⟨b5, off5 + k * 5 + 3, none⟩) hb5).trans u3
        replace u4 := (hb.cell (p := ⟨b5, off5 + k * 5 + 4, none⟩) hb5).trans u4
        have hlt' : (k : Int) < (E.length : Int) := by omega
        have hst := hide (rnd_take (L := L1) hlt)
        have hto := hE _ (gAt_mem hlt)
        have hfr := hF _ (gAt_mem hlt)
        generalize rndF (E.take k) L1 = L2 at *
        generalize gAt E k = ed at *
        obtain ⟨x, y, f, bb, n⟩ := ed
        simp only at u0 u1 u2 u3 u4 hto hfr
        obtain ⟨x, rfl⟩ : ∃ q : Nat, x = (q : Int) := ⟨x.toNat, by omega⟩
        obtain ⟨y, rfl⟩ : ∃ q : Nat, y = (q : Int) := ⟨y.toNat, by omega⟩
        have hx : x < 80 := by omega
        have hy : y < 80 := by omega
        have c0 := M0.2.1 x _ (bits_get hx)
        have c2 := M0.2.1 y _ (bits_get hy)
        have f2 := M0.2.2 y (by rw [bits_len]; exact hy)
        have z0 := M0.1
        have N0 := hide M0
        have N1 := hide M1
        have N2 := hide M2
        have dN := hide hb
        clear M0 M1 M2 hb hto hfr hb5
        have hF : Hid (flN L2 x = hasN L2 x) := rfl
        cases f with
        | false =>
          have hs2 : Hid (rndF (E.take (k + 1)) L1 = L2) := hst.out.trans (by simp [stepF])
          clear hF
          go_wp2_with fail
          exact ⟨⟨k + 1, by go_num, by omega, by rw [hs2.out]; exact N0.out.alloc _, N1.out.alloc _, N2.out.alloc _, dN.out.alloc dN.out.size _⟩, by simp [intOf]; omega⟩
        | true =>
          cases hh : flN L2 x with
          | false =>
            rw [hh] at c0
            have hs2 : Hid (rndF (E.take (k + 1)) L1 = L2) := hst.out.trans (by simp [stepF, ← hF.out, hh])
            clear hh hF
            go_wp2_with fail
            exact ⟨⟨k + 1, by go_num, by omega, by rw [hs2.out]; exact N0.out.alloc _, N1.out.alloc _, N2.out.alloc _, dN.out.alloc dN.out.size _⟩, by simp [intOf]; omega⟩
          | true =>
            rw [hh] at c0
            have hs2 : Hid (rndF (E.take (k + 1)) L1 = putN L2 y) := hst.out.trans (by simp [stepF, ← hF.out, hh])
            clear hh hF
            go_wp2_with fail
            exact ⟨⟨k + 1, by go_num, by omega, by rw [hs2.out, ← set80 (Int.natCast_nonneg y)]; exact (N0.out.set _ _).alloc _, (N1.out.other (by omega) _ _).alloc _, (N2.out.other (by omega) _ _).alloc _, (dN.out.setCell (p := ⟨w.heap.size, y, none⟩) (by simp) _).alloc (by simpa using dN.out.size) _⟩, by simp [intOf]; omega⟩
      · have hlt' : ¬ (k : Int) < (E.length : Int) := by omega
        rw [List.take_of_length_le (by omega)] at M0
        have hok := rndF_ok hE hu1 hi1
        have hM0 := hide M0
        have hM1 := hide M1
        have hM2 := hide M2
        have lt0 := M0.1
        have lt1 := M1.1
        clear M0 M1 M2
        by_cases hq : (rndF E L1).length = L1.length
        · have e1 := rndF_same hq
          have hS : Hid (closF E L = rndF E L1) := by
            rw [← hcl.out, closF_stop hq]; exact e1.symm
          have hE2 := hide (fun w => (eq80 (flN (rndF E L1)) (flN L1) w).trans (by rw [e1, all_bits.2 (fun k _ => rfl)]))
          clear hq e1 hcl
          go_wp2_with (first | (refine wpList_loadM rfl rfl rfl hM0.out Try.underlying153 (size80 _) ?_) | (refine wpList_loadM rfl rfl rfl hM2.out Try.underlying153 (size80 _) ?_) | (refine wpList_eqlM rfl rfl rfl rfl gd80 (hE2.out _) ?_) | (refine wpList_storeM rfl rfl rfl rfl hM1.out (by rw [bits_len, bits_len]) (bits_one _ _) (size80 _) ?_; intro w9 hM9 hO9))
          exact bodyPost_ret (results_arr rfl rfl hM9 Try.underlying153 (size80 _)) rfl ⟨by rw [hS.out], hb.trans ((hO9.below (by omega)).mono (by omega))⟩
        · have hne : ((List.range 80).all fun i => flN (rndF E L1) i == flN L1 i) = false := by
            rw [Bool.eq_false_iff]
            intro h
            exact hq (fl_same hok.1 hok.2 hu1 hi1 (all_bits.1 h))
          have hE2 := hide (fun w => (eq80 (flN (rndF E L1)) (flN L1) w).trans (by rw [hne]))
          have hcl2 : Hid (closF E (rndF E L1) = closF E L) := (closF_go hE hu1 hi1 hq).symm.trans hcl.out
          have hm : Hid (80 - cntW 80 wr w.heap.size < 80 - L1.length) := by
            show _ < _
            rw [cntW_len hM0.out hok.1 hok.2]
            have h1 := in_len hok.1 hok.2
            rcases rndF_len E L1 with e | e
            · exact absurd (by rw [e]) hq
            · omega
          clear hq hcl hne
          generalize rndF E L1 = L3 at *
          go_wp2_with (first | (refine wpList_loadM rfl rfl rfl hM0.out Try.underlying153 (size80 _) ?_) | (refine wpList_loadM rfl rfl rfl hM2.out Try.underlying153 (size80 _) ?_) | (refine wpList_eqlM rfl rfl rfl rfl gd80 (hE2.out _) ?_))
          refine ⟨⟨L3, hM0.out, hM1.out, hok.1, hok.2, hcl2⟩, ?_⟩
          rw [hMe.out]
          exact hm.out
end Go.Proofs.Ytocgghhlfmgndaa
