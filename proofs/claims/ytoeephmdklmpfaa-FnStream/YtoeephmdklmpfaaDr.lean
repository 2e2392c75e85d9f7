/- The specification's drawn streams: some bytes, not many. -/
import Derived.Test.YtoeephmdklmpfaaDrawOne
import Derived.Test.YtoeephmdklmpfaaMut4
import Derived.Test.YtoeephmdklmpfaaPlain5
import Derived.KernelRfl
import Derived.Test.YtoeephmdklmpfaaFlatMsg
import Derived.Test.YtoeephmdklmpfaaS5
/- The specification's drawn messages: each draw answers some message of a short body, and turns nothing that was there but the cursor. -/
namespace Go.Proofs.Ytoeephmdklmpfaa
open Go.RowKit

/-- Strings in block L from off on, of which P holds. -/
def StrsAt (L off m : Nat) (P : ByteArray → Prop) (w : World) : Prop := L < w.heap.size ∧ ∀ j, j < m → ∃ z, w.cell? ⟨L, off + j, none⟩ = some (.string z) ∧ P z
set_option maxRecDepth 100000 in
set_option maxHeartbeats 1600000 in
theorem d_of (c : Nat) (v : Value) (len n L off m cap : Nat) (P : ByteArray → Prop) (w : World) (hn : n ≤ 900000) (hm : 1 ≤ m) (hm' : m ≤ 1000) (hcur : Cur c v n w) (hby : BytesAt c w v len) (hL : StrsAt L off m P w) (hLc : L ≠ c) :
    Calls Try.prog 121 #[.pointer (some ⟨c, 0, none⟩), .slice (some ⟨L, off, none⟩) m cap] w fun e w' =>
      ∃ r : ByteArray, P r ∧ e = .returned (.string r) ∧ Cur c v (n + 2) w' ∧ Only c w w' := by
  go_enter Try.func121, Try.ntmps121
  go_wp2_with fail
  refine (d_pick c v len n (m : Int) _ hn (by omega) hcur hby).mono ?_
  rintro e w1 ⟨r, hr0, hr1, rfl, hc1, ho1⟩
  obtain ⟨q, rfl⟩ := Int.eq_ofNat_of_zero_le hr0
  obtain ⟨z, hz, hP⟩ := hL.2 q (by omega)
  have hz' := (ho1.cell hL.1 hLc).trans hz
  have hlt : (q : Int) < (m : Int) := by omega
  clear hz hL hr1 hcur hby
  go_wp2_with fail
  go_ret
  exact ⟨z, hP, rfl, hc1, ho1⟩
theorem strs5 (w : World) (t : TypeId) : StrsAt w.heap.size 0 5 (fun z => z.size ≤ 61) (w.alloc (.cells #[.string ⟨#[]⟩, .string ⟨#[97]⟩, .string ⟨#[104, 101, 108, 108, 111]⟩, .string ⟨#[255, 255]⟩, .string ⟨#[97, 32, 108, 111, 110, 103, 101, 114, 32, 98, 111, 100, 121, 32, 111, 102, 32, 105, 116]⟩] t)) := by
  refine ⟨by simp, fun j hj => ?_⟩
  obtain rfl | rfl | rfl | rfl | rfl : j = 0 ∨ j = 1 ∨ j = 2 ∨ j = 3 ∨ j = 4 := by omega
  all_goals exact ⟨_, by simp [go_sem]; rfl, by decide⟩
theorem nums05 (w : World) (t : TypeId) : NumsAt w.heap.size 0 2 (fun _ => True) (w.alloc (.cells #[.int .i64 0, .int .i64 5] t)) := by
  refine ⟨by simp, fun j hj => ?_⟩
  obtain rfl | rfl : j = 0 ∨ j = 1 := by omega
  all_goals exact ⟨_, by simp [go_sem]; rfl, trivial⟩
/-- Zeros as a string. -/
theorem zeros_run (w : World) (n cap g : Nat) (hg : g = w.heap.size) : ∃ z : ByteArray, z.size = n ∧ (convert 72 9 (.slice (some ⟨g, 0, none⟩) n cap)).run Try.prog (w.alloc (.cells (madeCells #[.int .u8 0] n) 5)) = .ok (.string z) (w.alloc (.cells (madeCells #[.int .u8 0] n) 5)) := by
  subst hg
  refine ⟨strOfNums (List.replicate n 0), by simp [strOfNums, ByteArray.size], ?_⟩
  refine run_convert_bytes_arg _ 72 5 Try.underlying72 Try.underlying5 _ 0 n cap _ (by simp) (fun i hi => ?_) _ Try.underlying9
  have e : (madeCells #[.int .u8 0] n)[i]? = some (.int .u8 0) := by
    simp only [madeCells, Array.getElem?_map, Array.getElem?_range, hi, if_true, Option.map_some]
    simp only [List.size_toArray, List.length_cons, List.length_nil, Nat.zero_add, Nat.mod_one]
    rfl
  have e2 : (List.replicate n (0 : Int)).getD i 0 = 0 := by
    rw [List.getD_eq_getElem?_getD, List.getElem?_replicate]
    split <;> rfl
  rw [e2]
  simp [go_sem, e]
theorem bytes_mk (n : Nat) (hn : n ≤ 1000) (w : World) : (Instr.makeSlice 72 (.int .i64 n) (.int .i64 n)).run Try.prog w = .ok (.slice (some ⟨w.heap.size, 0, none⟩) n n) (w.alloc (.cells (madeCells #[.int .u8 0] n) 5)) := by
  have hinfo : (Try.prog.info? 5).map (fun i => (i.zero, i.size, i.bytes)) = some (some (.int .u8 0), 1, 1) := by kernel_rfl
  obtain ⟨i, hi, hzz⟩ := Option.map_eq_some_iff.1 hinfo
  simp only [Prod.mk.injEq] at hzz
  obtain ⟨hz, hsz, hby⟩ := hzz
  have hmk := run_make (P := Try.prog) w 72 5 i _ Try.underlying72 hi hz .i64 .i64 (n : Int) (n : Int) (by omega) (by omega) (by rw [hby]; omega) (by omega)
  rw [hsz] at hmk
  simpa only [Int.toNat_natCast, Nat.mul_one, Value.cells] using hmk
set_option maxRecDepth 100000 in
set_option maxHeartbeats 3200000 in
theorem d_msg (c : Nat) (v : Value) (len n : Nat) (w : World) (hn : n ≤ 800000) (hcur : Cur c v n w) (hby : BytesAt c w v len) :
    Calls Try.prog 120 #[.pointer (some ⟨c, 0, none⟩)] w fun e w' =>
      ∃ (t : Int) (b : ByteArray), b.size ≤ 61 ∧ e = .returned (.agg #[.int .i64 t, .string b]) ∧ Cur c v (n + 8) w' ∧ Only c w w' := by
  have hcw : c < w.heap.size := by obtain ⟨p, s, h0, h1, hc, _⟩ := hcur; exact hc
  have MR := Mut.new w #[.int .i64 0, .string ⟨#[]⟩] 37
  have O0 : Only c w (w.alloc (.cells #[.int .i64 0, .string ⟨#[]⟩] 37)) := (Only.refl c w).alloc _
  have hc0 : Cur c v n (w.alloc (.cells #[.int .i64 0, .string ⟨#[]⟩] 37)) := cur_below hcur (below_box (Below.refl _ _))
  go_enter Try.func120, Try.ntmps120
  go_wp2_with fail
  generalize hWW : w.alloc (.cells #[.int .i64 0, .string ⟨#[]⟩] 37) = W0 at *
  clear hWW
  refine (d_pick c v len n 4 _ (by omega) (by omega) hc0 (hby.only O0 (Nat.le_refl _))).mono ?_
  rintro e W1 ⟨r1, h10, h11, rfl, hc1, ho1⟩
  have O1 := O0.trans ho1
  have MR1 := MR.only ho1 (by omega)
  have zr := MR1.1
  clear hc0 O0 ho1 MR hcur
  have hxw : w.heap.size < W1.heap.size := by omega
  by_cases h4 : 1 + r1 = 4
  · obtain rfl : r1 = 3 := by omega
    have BM := Mut.new W1 #[.int .i64 4, .string ⟨#[]⟩] 37
    have MR2 := MR1.alloc (.cells #[.int .i64 4, .string ⟨#[]⟩] 37)
    have O2 := O1.alloc (.cells #[.int .i64 4, .string ⟨#[]⟩] 37)
    have hc2 : Cur c v (n + 2) (W1.alloc (.cells #[.int .i64 4, .string ⟨#[]⟩] 37)) := cur_below hc1 (below_box (Below.refl _ _))
    clear O1 hc1 MR1
    have MR := MR2
    have oO := O2
    have hC := hc2
    clear MR2 O2 hc2
    go_wp2_with fail
    generalize hX : W1.heap.size = x at *
    generalize hWW : W1.alloc (.cells #[.int .i64 4, .string ⟨#[]⟩] 37) = W2 at *
    clear hWW hX h4
    refine (d_pick c v len (n + 2) 40 _ (by omega) (by omega) hC (hby.only oO (Nat.le_refl _))).mono ?_
    rintro e W5 ⟨r5, h50, h51, rfl, hC5, ho5⟩
    have BM5 := BM.only ho5 (by omega)
    have MR5 := MR.only ho5 (by omega)
    have oO5 := oO.trans ho5
    clear BM MR hC oO ho5 h51
    have u0 := BM5.2.1 0 _ rfl
    have u1 := BM5.2.1 1 _ rfl
    have g0 := BM5.2.2 0 (by simp)
    have g1 := BM5.2.2 1 (by simp)
    have zx5 := BM5.1
    have zr5 := MR5.1
    by_cases e0 : r5 = 0
    · subst e0
      have BM := BM5.alloc (.cells #[.int .i64 0, .int .i64 5] 3)
      have MR := MR5.alloc (.cells #[.int .i64 0, .int .i64 5] 3)
      have oO := oO5.alloc (.cells #[.int .i64 0, .int .i64 5] 3)
      have hC : Cur c v (n + 4) (W5.alloc (.cells #[.int .i64 0, .int .i64 5] 3)) := cur_below hC5 (below_box (Below.refl _ _))
      have nn := nums05 W5 3
      clear BM5 MR5 hC5
      go_wp2_with fail
      refine (d_among c v len (n + 4) W5.heap.size 0 2 2 (fun _ => True) _ (by omega) (by omega) (by omega) hC (hby.only oO (Nat.le_refl _)) nn (by omega)).mono ?_
      rintro e W6 ⟨r6, _, rfl, hC6, ho6⟩
      have BM6 := BM.only ho6 (by omega)
      have MR6 := MR.only ho6 (by omega)
      have oO6 := oO.trans ho6
      clear BM MR hC oO ho6 nn u0 u1 g0 g1 oO5
      have u0 := BM6.2.1 0 _ rfl
      have u1 := BM6.2.1 1 _ rfl
      have g0 := BM6.2.2 0 (by simp)
      have m0 := MR6.2.1 0 _ rfl
      have m1 := MR6.2.1 1 _ rfl
      have f0 := MR6.2.2 0 (by simp)
      have f1 := MR6.2.2 1 (by simp)
      have oO := oO6
      have hC := hC6
      have nx : w.heap.size ≠ x := by omega
      clear BM6 MR6 oO6 hC6 hby
      have hC1 := cur_only hC ((Only.refl x (W6)).setCell 0 (.int .i64 r6)) (by omega)
      have oO1 := oO.setNew (b := x) (by omega) 0 (.int .i64 r6)
      go_wp2_with fail
      have oF := (oO1.setNew (Nat.le_refl _) 0 (.int .i64 r6)).setNew (Nat.le_refl _) 1 (.string ⟨#[]⟩)
      have hF := cur_only hC1 (((Only.refl w.heap.size ((W6).setCell ⟨x, 0, none⟩ (.int .i64 r6))).setCell 0 (.int .i64 r6)).setCell 1 (.string ⟨#[]⟩)) (by omega)
      exact bodyPost_ret (v := .agg #[.int .i64 r6, .string ⟨#[]⟩]) (by simp [results, Try.results120, go_sem, *]) rfl ⟨r6, ⟨#[]⟩, by decide, rfl, cur_up hF (by omega), oF⟩
    · by_cases e1 : r5 = 1
      · subst e1
        go_wp2_with fail
        refine (d_pick c v len (n + 4) 2 _ (by omega) (by omega) hC5 (hby.only oO5 (Nat.le_refl _))).mono ?_
        rintro e W6 ⟨r6, h60, h61, rfl, hC6, ho6⟩
        obtain ⟨q, rfl⟩ := Int.eq_ofNat_of_zero_le h60
        have BM6 := BM5.only ho6 (by omega)
        have MR6 := MR5.only ho6 (by omega)
        have oO6 := oO5.trans ho6
        clear BM5 MR5 hC5 oO5 ho6 u0 u1 g0 g1
        have hmk := bytes_mk (60 + q) (by omega) W6
        obtain ⟨z, hz, hcv⟩ := zeros_run W6 (60 + q) (60 + q) _ rfl
        have hzs : z.size ≤ 61 := by omega
        rw [show ((60 + q : Nat) : Int) = 60 + (q : Int) by omega] at hmk
        have BM := BM6.alloc (.cells (madeCells #[.int .u8 0] (60 + q)) 5)
        have MR := MR6.alloc (.cells (madeCells #[.int .u8 0] (60 + q)) 5)
        have oO := oO6.alloc (.cells (madeCells #[.int .u8 0] (60 + q)) 5)
        have hC : Cur c v (n + 6) (W6.alloc (.cells (madeCells #[.int .u8 0] (60 + q)) 5)) := cur_below hC6 (below_box (Below.refl _ _))
        have u0 := BM.2.1 0 _ rfl
        have u1 := BM.2.1 1 _ rfl
        have g1 := BM.2.2 1 (by simp)
        have m0 := MR.2.1 0 _ rfl
        have m1 := MR.2.1 1 _ rfl
        have f0 := MR.2.2 0 (by simp)
        have f1 := MR.2.2 1 (by simp)
        have nx : w.heap.size ≠ x := by omega
        clear BM6 MR6 oO6 hC6 hz BM MR hby
        have hC1 := cur_only hC ((Only.refl x (W6.alloc (.cells (madeCells #[.int .u8 0] (60 + q)) 5))).setCell 1 (.string z)) (by omega)
        have oO1 := oO.setNew (b := x) (by omega) 1 (.string z)
        go_wp2_with fail
        have oF := (oO1.setNew (Nat.le_refl _) 0 (.int .i64 4)).setNew (Nat.le_refl _) 1 (.string z)
        have hF := cur_only hC1 (((Only.refl w.heap.size ((W6.alloc (.cells (madeCells #[.int .u8 0] (60 + q)) 5)).setCell ⟨x, 1, none⟩ (.string z))).setCell 0 (.int .i64 4)).setCell 1 (.string z)) (by omega)
        exact bodyPost_ret (v := .agg #[.int .i64 4, .string z]) (by simp [results, Try.results120, go_sem, *]) rfl ⟨4, z, hzs, rfl, cur_up hF (by omega), oF⟩
      · have e0' : (r5 == 0) = false := by simpa using e0
        have e1' : (r5 == 1) = false := by simpa using e1
        have BM := BM5
        have MR := MR5
        have oO := oO5
        have hC := hC5
        clear BM5 MR5 oO5 hC5 g0 g1 u0 u1
        have u0 := BM.2.1 0 _ rfl
        have u1 := BM.2.1 1 _ rfl
        have m0 := MR.2.1 0 _ rfl
        have m1 := MR.2.1 1 _ rfl
        have f0 := MR.2.2 0 (by simp)
        have f1 := MR.2.2 1 (by simp)
        clear BM MR hby
        go_wp2_with fail
        have oF : Only c w ((W5.setCell ⟨w.heap.size, 0, none⟩ (.int .i64 4)).setCell ⟨w.heap.size, 1, none⟩ (.string ⟨#[]⟩)) := (oO.setNew (Nat.le_refl _) _ _).setNew (Nat.le_refl _) _ _
        have o1 : Only w.heap.size W5 ((W5.setCell ⟨w.heap.size, 0, none⟩ (.int .i64 4)).setCell ⟨w.heap.size, 1, none⟩ (.string ⟨#[]⟩)) := ((Only.refl _ _).setCell _ _).setCell _ _
        exact bodyPost_ret (v := .agg #[.int .i64 4, .string ⟨#[]⟩]) (by simp [results, Try.results120, go_sem, *]) rfl ⟨4, ⟨#[]⟩, by decide, rfl, cur_up (cur_only hC o1 (by omega)) (by omega), oF⟩
  · have h4' : (1 + r1 != 4) = true := by simpa using h4
    have BM := Mut.new W1 #[.int .i64 (1 + r1), .string ⟨#[]⟩] 37
    have MR2 := MR1.alloc (.cells #[.int .i64 (1 + r1), .string ⟨#[]⟩] 37)
    have O2 := O1.alloc (.cells #[.int .i64 (1 + r1), .string ⟨#[]⟩] 37)
    have hc2 : Cur c v (n + 2) (W1.alloc (.cells #[.int .i64 (1 + r1), .string ⟨#[]⟩] 37)) := cur_below hc1 (below_box (Below.refl _ _))
    clear O1 hc1 MR1
    have ss := strs5 (W1.alloc (.cells #[.int .i64 (1 + r1), .string ⟨#[]⟩] 37)) 9
    have BM3 := BM.alloc (.cells #[.string ⟨#[]⟩, .string ⟨#[97]⟩, .string ⟨#[104, 101, 108, 108, 111]⟩, .string ⟨#[255, 255]⟩, .string ⟨#[97, 32, 108, 111, 110, 103, 101, 114, 32, 98, 111, 100, 121, 32, 111, 102, 32, 105, 116]⟩] 9)
    have MR3 := MR2.alloc (.cells #[.string ⟨#[]⟩, .string ⟨#[97]⟩, .string ⟨#[104, 101, 108, 108, 111]⟩, .string ⟨#[255, 255]⟩, .string ⟨#[97, 32, 108, 111, 110, 103, 101, 114, 32, 98, 111, 100, 121, 32, 111, 102, 32, 105, 116]⟩] 9)
    have O3 := O2.alloc (.cells #[.string ⟨#[]⟩, .string ⟨#[97]⟩, .string ⟨#[104, 101, 108, 108, 111]⟩, .string ⟨#[255, 255]⟩, .string ⟨#[97, 32, 108, 111, 110, 103, 101, 114, 32, 98, 111, 100, 121, 32, 111, 102, 32, 105, 116]⟩] 9)
    have hc3 : Cur c v (n + 2) ((W1.alloc (.cells #[.int .i64 (1 + r1), .string ⟨#[]⟩] 37)).alloc (.cells #[.string ⟨#[]⟩, .string ⟨#[97]⟩, .string ⟨#[104, 101, 108, 108, 111]⟩, .string ⟨#[255, 255]⟩, .string ⟨#[97, 32, 108, 111, 110, 103, 101, 114, 32, 98, 111, 100, 121, 32, 111, 102, 32, 105, 116]⟩] 9)) := cur_below hc2 (below_box (Below.refl _ _))
    have hL : (W1.alloc (.cells #[.int .i64 (1 + r1), .string ⟨#[]⟩] 37)).heap.size = W1.heap.size + 1 := by simp
    rw [hL] at ss
    clear BM MR2 O2 hc2 hL
    go_wp2_with fail
    generalize hWW : (W1.alloc (.cells #[.int .i64 (1 + r1), .string ⟨#[]⟩] 37)).alloc (.cells #[.string ⟨#[]⟩, .string ⟨#[97]⟩, .string ⟨#[104, 101, 108, 108, 111]⟩, .string ⟨#[255, 255]⟩, .string ⟨#[97, 32, 108, 111, 110, 103, 101, 114, 32, 98, 111, 100, 121, 32, 111, 102, 32, 105, 116]⟩] 9) = W3 at *
    clear hWW
    refine (d_of c v len (n + 2) (W1.heap.size + 1) 0 5 5 (fun z => z.size ≤ 61) _ (by omega) (by omega) (by omega) hc3 (hby.only O3 (Nat.le_refl _)) ss (by omega)).mono ?_
    rintro e W4 ⟨s4, hs4, rfl, hc4, ho4⟩
    have BM4 := BM3.only ho4 (by omega)
    have MR4 := MR3.only ho4 (by omega)
    have O4 := O3.trans ho4
    have u1 := BM4.2.1 1 _ rfl
    have g1 := BM4.2.2 1 (by simp)
    have BM := BM4.set 1 (.string s4)
    have MR := MR4.other (c := W1.heap.size) (by omega) 1 (.string s4)
    have oO := O4.setNew (b := W1.heap.size) (by omega) 1 (.string s4)
    have hC := cur_only hc4 ((Only.refl W1.heap.size W4).setCell 1 (.string s4)) (by omega)
    simp only [List.set_cons_succ, List.set_cons_zero] at BM
    clear BM3 MR3 O3 hc3 ss BM4 MR4 O4 hc4 ho4
    go_wp2_with fail
    generalize hX : W1.heap.size = x at *
    generalize hWW : W4.setCell ⟨x, 1, none⟩ (.string s4) = W2 at *
    clear hWW hX h4 h4' u1 g1
    refine (d_pick c v len (n + 4) 40 _ (by omega) (by omega) hC (hby.only oO (Nat.le_refl _))).mono ?_
    rintro e W5 ⟨r5, h50, h51, rfl, hC5, ho5⟩
    have BM5 := BM.only ho5 (by omega)
    have MR5 := MR.only ho5 (by omega)
    have oO5 := oO.trans ho5
    clear BM MR hC oO ho5 h51
    have u0 := BM5.2.1 0 _ rfl
    have u1 := BM5.2.1 1 _ rfl
    have g0 := BM5.2.2 0 (by simp)
    have g1 := BM5.2.2 1 (by simp)
    have zx5 := BM5.1
    have zr5 := MR5.1
    by_cases e0 : r5 = 0
    · subst e0
      have BM := BM5.alloc (.cells #[.int .i64 0, .int .i64 5] 3)
      have MR := MR5.alloc (.cells #[.int .i64 0, .int .i64 5] 3)
      have oO := oO5.alloc (.cells #[.int .i64 0, .int .i64 5] 3)
      have hC : Cur c v (n + 6) (W5.alloc (.cells #[.int .i64 0, .int .i64 5] 3)) := cur_below hC5 (below_box (Below.refl _ _))
      have nn := nums05 W5 3
      clear BM5 MR5 hC5
      go_wp2_with fail
      refine (d_among c v len (n + 6) W5.heap.size 0 2 2 (fun _ => True) _ (by omega) (by omega) (by omega) hC (hby.only oO (Nat.le_refl _)) nn (by omega)).mono ?_
      rintro e W6 ⟨r6, _, rfl, hC6, ho6⟩
      have BM6 := BM.only ho6 (by omega)
      have MR6 := MR.only ho6 (by omega)
      have oO6 := oO.trans ho6
      clear BM MR hC oO ho6 nn u0 u1 g0 g1 oO5
      have u0 := BM6.2.1 0 _ rfl
      have u1 := BM6.2.1 1 _ rfl
      have g0 := BM6.2.2 0 (by simp)
      have m0 := MR6.2.1 0 _ rfl
      have m1 := MR6.2.1 1 _ rfl
      have f0 := MR6.2.2 0 (by simp)
      have f1 := MR6.2.2 1 (by simp)
      have oO := oO6
      have hC := hC6
      have nx : w.heap.size ≠ x := by omega
      clear BM6 MR6 oO6 hC6 hby
      have hC1 := cur_only hC ((Only.refl x (W6)).setCell 0 (.int .i64 r6)) (by omega)
      have oO1 := oO.setNew (b := x) (by omega) 0 (.int .i64 r6)
      go_wp2_with fail
      have oF := (oO1.setNew (Nat.le_refl _) 0 (.int .i64 r6)).setNew (Nat.le_refl _) 1 (.string s4)
      have hF := cur_only hC1 (((Only.refl w.heap.size ((W6).setCell ⟨x, 0, none⟩ (.int .i64 r6))).setCell 0 (.int .i64 r6)).setCell 1 (.string s4)) (by omega)
      exact bodyPost_ret (v := .agg #[.int .i64 r6, .string s4]) (by simp [results, Try.results120, go_sem, *]) rfl ⟨r6, s4, hs4, rfl, cur_up hF (by omega), oF⟩
    · by_cases e1 : r5 = 1
      · subst e1
        go_wp2_with fail
        refine (d_pick c v len (n + 6) 2 _ (by omega) (by omega) hC5 (hby.only oO5 (Nat.le_refl _))).mono ?_
        rintro e W6 ⟨r6, h60, h61, rfl, hC6, ho6⟩
        obtain ⟨q, rfl⟩ := Int.eq_ofNat_of_zero_le h60
        have BM6 := BM5.only ho6 (by omega)
        have MR6 := MR5.only ho6 (by omega)
        have oO6 := oO5.trans ho6
        clear BM5 MR5 hC5 oO5 ho6 u0 u1 g0 g1
        have hmk := bytes_mk (60 + q) (by omega) W6
        obtain ⟨z, hz, hcv⟩ := zeros_run W6 (60 + q) (60 + q) _ rfl
        have hzs : z.size ≤ 61 := by omega
        rw [show ((60 + q : Nat) : Int) = 60 + (q : Int) by omega] at hmk
        have BM := BM6.alloc (.cells (madeCells #[.int .u8 0] (60 + q)) 5)
        have MR := MR6.alloc (.cells (madeCells #[.int .u8 0] (60 + q)) 5)
        have oO := oO6.alloc (.cells (madeCells #[.int .u8 0] (60 + q)) 5)
        have hC : Cur c v (n + 8) (W6.alloc (.cells (madeCells #[.int .u8 0] (60 + q)) 5)) := cur_below hC6 (below_box (Below.refl _ _))
        have u0 := BM.2.1 0 _ rfl
        have u1 := BM.2.1 1 _ rfl
        have g1 := BM.2.2 1 (by simp)
        have m0 := MR.2.1 0 _ rfl
        have m1 := MR.2.1 1 _ rfl
        have f0 := MR.2.2 0 (by simp)
        have f1 := MR.2.2 1 (by simp)
        have nx : w.heap.size ≠ x := by omega
        clear BM6 MR6 oO6 hC6 hz BM MR hby
        have hC1 := cur_only hC ((Only.refl x (W6.alloc (.cells (madeCells #[.int .u8 0] (60 + q)) 5))).setCell 1 (.string z)) (by omega)
        have oO1 := oO.setNew (b := x) (by omega) 1 (.string z)
        go_wp2_with fail
        have oF := (oO1.setNew (Nat.le_refl _) 0 (.int .i64 (1 + r1))).setNew (Nat.le_refl _) 1 (.string z)
        have hF := cur_only hC1 (((Only.refl w.heap.size ((W6.alloc (.cells (madeCells #[.int .u8 0] (60 + q)) 5)).setCell ⟨x, 1, none⟩ (.string z))).setCell 0 (.int .i64 (1 + r1))).setCell 1 (.string z)) (by omega)
        exact bodyPost_ret (v := .agg #[.int .i64 (1 + r1), .string z]) (by simp [results, Try.results120, go_sem, *]) rfl ⟨(1 + r1), z, hzs, rfl, cur_up hF (by omega), oF⟩
      · have e0' : (r5 == 0) = false := by simpa using e0
        have e1' : (r5 == 1) = false := by simpa using e1
        have BM := BM5
        have MR := MR5
        have oO := oO5
        have hC := hC5
        clear BM5 MR5 oO5 hC5 g0 g1 u0 u1
        have u0 := BM.2.1 0 _ rfl
        have u1 := BM.2.1 1 _ rfl
        have m0 := MR.2.1 0 _ rfl
        have m1 := MR.2.1 1 _ rfl
        have f0 := MR.2.2 0 (by simp)
        have f1 := MR.2.2 1 (by simp)
        clear BM MR hby
        go_wp2_with fail
        have oF : Only c w ((W5.setCell ⟨w.heap.size, 0, none⟩ (.int .i64 (1 + r1))).setCell ⟨w.heap.size, 1, none⟩ (.string s4)) := (oO.setNew (Nat.le_refl _) _ _).setNew (Nat.le_refl _) _ _
        have o1 : Only w.heap.size W5 ((W5.setCell ⟨w.heap.size, 0, none⟩ (.int .i64 (1 + r1))).setCell ⟨w.heap.size, 1, none⟩ (.string s4)) := ((Only.refl _ _).setCell _ _).setCell _ _
        exact bodyPost_ret (v := .agg #[.int .i64 (1 + r1), .string s4]) (by simp [results, Try.results120, go_sem, *]) rfl ⟨(1 + r1), s4, hs4, rfl, cur_up (cur_only hC o1 (by omega)) (by omega), oF⟩
end Go.Proofs.Ytoeephmdklmpfaa

/- The specification's spoilt texts: some text, not much longer. -/
namespace Go.Proofs.Ytoeephmdklmpfaa
open Go.RowKit

theorem cur_drew {c n : Nat} {v : Value} {w : World} (h : Cur c v n w) (m : Nat) : Cur c v n (w.drewN m) := cur_below h (below_drewN (Below.refl _ _) m)
set_option maxRecDepth 100000 in
set_option maxHeartbeats 6400000 in
theorem d_spoilt (c : Nat) (v : Value) (len n N : Nat) (T0 V : ByteArray) (w : World) (hn : n ≤ 800000) (hN : N ≤ 100000) (hT : T0.size ≤ N) (hV1 : 1 ≤ V.size) (hV2 : V.size ≤ 1000) (hcur : Cur c v n w) (hby : BytesAt c w v len) :
    Calls Try.prog 103 #[.pointer (some ⟨c, 0, none⟩), .string T0, .string V] w fun e w' =>
      ∃ r : ByteArray, r.size ≤ N + 2 ∧ e = .returned (.string r) ∧ Cur c v (n + 20) w' ∧ Only c w w' := by
  have hcw : c < w.heap.size := by obtain ⟨p, s, h0, h1, hc, _⟩ := hcur; exact hc
  go_enter Try.func103, Try.ntmps103
  go_wp2_with fail
  refine (d_pick c v len n 3 _ (by omega) (by omega) hcur hby).mono ?_
  rintro e W1 ⟨r1, h10, h11, rfl, hc1, ho1⟩
  obtain ⟨k1, rfl⟩ := Int.eq_ofNat_of_zero_le h10
  clear hcur
  go_wp2_with fail
  go_loopw [1, 7] (fun tt nn wr => ∃ (k : Nat) (T : ByteArray) (m : Nat), tt = .string T ∧ nn = .int .i64 k ∧ k ≤ 2 ∧ T.size + k ≤ N + 2 ∧ m + 6 * k ≤ n + 14 ∧ Cur c v m wr ∧ Only c w wr) (fun _ nn _ => (intOf nn).toNat)
  case atStart => exact ⟨k1, T0, n + 2, rfl, rfl, by omega, by omega, by omega, hc1, ho1⟩
  case round =>
    clear hc1 ho1 h10 h11
    obtain ⟨k, T, m, rfl, rfl, hk, hs, hm, hC, hO⟩ := hrel
    by_cases hk0 : k = 0
    · subst hk0
      go_wp2_with fail
      go_ret
      exact ⟨T, by omega, rfl, cur_up hC (by omega), hO⟩
    · have hk1 : (k : Int) > 0 := by omega
      by_cases ht0 : T.size = 0
      · have ht1 : ¬ ((T.size : Int) > 0) := by omega
        go_wp2_with fail
        go_ret
        exact ⟨T, by omega, rfl, cur_up hC (by omega), hO⟩
      · have ht1 : (T.size : Int) > 0 := by omega
        go_wp2_with fail
        refine (d_pick c v len m T.size _ (by omega) (by omega) hC (hby.only hO (Nat.le_refl _))).mono ?_
        rintro e W2 ⟨r2, h20, h21, rfl, hC2, ho2⟩
        have hO2 := hO.trans ho2
        obtain ⟨q, rfl⟩ := Int.eq_ofNat_of_zero_le h20
        clear hC hO ho2
        go_wp2_with fail
        refine (d_pick c v len (m + 2) V.size _ (by omega) (by omega) hC2 (hby.only hO2 (Nat.le_refl _))).mono ?_
        rintro e W3 ⟨r3, h30, h31, rfl, hC3, ho3⟩
        have hO3 := hO2.trans ho3
        obtain ⟨j, rfl⟩ := Int.eq_ofNat_of_zero_le h30
        have hjV : j < V.size := by omega
        obtain ⟨y, hix⟩ : ∃ y : Int, ∀ w, (Instr.index 9 (.string V) (.int .i64 (j : Int))).run Try.prog w = .ok (.int .u8 y) w := ⟨_, fun w => by
          rw [run_index_string w 9 V .i64 (j : Int) Try.underlying9, dif_pos ⟨by omega, by omega⟩]⟩
        have hcv := run_convert_bytes_arg (P := Try.prog) (W3.alloc (.cells #[.int .u8 y] 5)) 72 5 Try.underlying72 Try.underlying5 W3.heap.size 0 1 1 [y] rfl (fun i hi => by
          obtain rfl : i = 0 := by omega
          simp [go_sem]) 9 Try.underlying9
        have hO4 := hO3.alloc (.cells #[.int .u8 y] 5)
        have hC4 : Cur c v (m + 4) (W3.alloc (.cells #[.int .u8 y] 5)) := cur_below hC3 (below_box (Below.refl _ _))
        have hY : (strOfNums [y]).size = 1 := by rw [strOfNums_size]; rfl
        clear hC2 hO2 ho3 hC3 hO3
        go_wp2_with fail
        generalize hWW : W3.alloc (.cells #[.int .u8 y] 5) = W4 at *
        clear hWW hcv hix
        generalize strOfNums [y] = Y at *
        refine (d_pick c v len (m + 4) 3 _ (by omega) (by omega) hC4 (hby.only hO4 (Nat.le_refl _))).mono ?_
        rintro e W5 ⟨r5, h50, h51, rfl, hC5, ho5⟩
        have hO5 := hO4.trans ho5
        have hqT : (q : Int) ≤ (T.size : Int) := by omega
        have hqT1 : (q : Int) + 1 ≤ (T.size : Int) := by omega
        have hq0 : (0 : Int) ≤ (q : Int) := by omega
        have hq10 : (0 : Int) ≤ (q : Int) + 1 := by omega
        have hE0 : (T.extract 0 q).size = q := by rw [ByteArray.size_extract]; omega
        have hE1 : (T.extract q T.size).size = T.size - q := by rw [ByteArray.size_extract]; omega
        have hE2 : (T.extract (q + 1) T.size).size = T.size - (q + 1) := by rw [ByteArray.size_extract]; omega
        clear hC4 hO4 ho5
        obtain e0 | e1 | e2 : r5 = 0 ∨ r5 = 1 ∨ r5 = 2 := by omega
        · subst e0
          have hcat1 := fun (w : World) => run_string_add_sum (P := Try.prog) w (T.extract 0 q) Y (by rw [hE0]; omega)
          have hcat2 := fun (w : World) => run_string_add_sum (P := Try.prog) w (T.extract 0 q ++ Y) (T.extract q T.size) (by rw [ByteArray.size_append, hE0, hE1]; omega)
          have hsz := hide (show (T.extract 0 q ++ Y ++ T.extract q T.size).size + (k - 1) ≤ N + 2 by rw [ByteArray.size_append, ByteArray.size_append, hE0, hE1]; omega)
          go_wp2_with fail
          go_quiet (fail)
          go_wp2_with fail
          exact ⟨⟨k - 1, _, m + 6, rfl, by go_num, by omega, hsz.out, by omega, cur_drew hC5 _, hO5.drewN _⟩, by simp [intOf]; omega⟩
        · subst e1
          have hcat1 := fun (w : World) => run_string_add_sum (P := Try.prog) w (T.extract 0 q) Y (by rw [hE0]; omega)
          have hcat2 := fun (w : World) => run_string_add_sum (P := Try.prog) w (T.extract 0 q ++ Y) (T.extract (q + 1) T.size) (by rw [ByteArray.size_append, hE0, hE2]; omega)
          have hsz := hide (show (T.extract 0 q ++ Y ++ T.extract (q + 1) T.size).size + (k - 1) ≤ N + 2 by rw [ByteArray.size_append, ByteArray.size_append, hE0, hE2]; omega)
          go_wp2_with fail
          go_quiet (fail)
          go_wp2_with fail
          exact ⟨⟨k - 1, _, m + 6, rfl, by go_num, by omega, hsz.out, by omega, cur_drew hC5 _, hO5.drewN _⟩, by simp [intOf]; omega⟩
        · subst e2
          have hcat2 := fun (w : World) => run_string_add_sum (P := Try.prog) w (T.extract 0 q) (T.extract (q + 1) T.size) (by rw [hE0, hE2]; omega)
          have hsz := hide (show (T.extract 0 q ++ T.extract (q + 1) T.size).size + (k - 1) ≤ N + 2 by rw [ByteArray.size_append, hE0, hE2]; omega)
          go_wp2_with fail
          go_quiet (fail)
          go_wp2_with fail
          exact ⟨⟨k - 1, _, m + 6, rfl, by go_num, by omega, hsz.out, by omega, cur_drew hC5 _, hO5.drewN _⟩, by simp [intOf]; omega⟩
end Go.Proofs.Ytoeephmdklmpfaa

namespace Go.Proofs.Ytoeephmdklmpfaa
open Go.RowKit

theorem mby_size (t : Int) (b : ByteArray) : (mby t b).size = 5 + b.size := by
  unfold mby
  rw [ByteArray.size_append, strOfNums_size]
  rfl
theorem s_msgShort (t : Int) (b : ByteArray) (w : World) :
    Calls Try.prog 24 #[.agg #[.int .i64 t, .string b]] w fun e w' => ∃ (z : ByteArray) (f : Bool), z.size ≤ 65 ∧ e = .returned (.tuple #[.string z, .bool f]) ∧ Below w.heap.size w w' := by
  refine (s_msgBytes t b w).mono ?_
  rintro e w' ⟨rfl, hb⟩
  refine ⟨_, _, ?_, rfl, hb⟩
  by_cases h : gmB t b = true
  · rw [if_pos h, mby_size]
    have := of_decide_eq_true h
    omega
  · rw [if_neg h]
    exact Nat.zero_le _
set_option maxRecDepth 100000 in
set_option maxHeartbeats 6400000 in
theorem d_stream (c : Nat) (v : Value) (len n : Nat) (w : World) (hn : n ≤ 700000) (hcur : Cur c v n w) (hby : BytesAt c w v len) :
    Calls Try.prog 88 #[.pointer (some ⟨c, 0, none⟩)] w fun e w' =>
      ∃ r : ByteArray, r.size ≤ 1302 ∧ e = .returned (.string r) ∧ Cur c v (n + 200) w' ∧ Only c w w' := by
  have hcw : c < w.heap.size := by obtain ⟨p, s, h0, h1, hc, _⟩ := hcur; exact hc
  go_enter Try.func88, Try.ntmps88
  go_wp2_with fail
  refine (d_pick c v len n 6 _ (by omega) (by omega) hcur hby).mono ?_
  rintro e W1 ⟨r1, h10, h11, rfl, hc1, ho1⟩
  obtain ⟨k1, rfl⟩ := Int.eq_ofNat_of_zero_le h10
  clear hcur
  go_wp2_with fail
  refine (d_one c v len (n + 2) 20 _ (by omega) (by omega) hc1 (hby.only ho1 (Nat.le_refl _))).mono ?_
  rintro e W2 ⟨r2, rfl, hc2, ho2⟩
  have hO2 := ho1.trans ho2
  clear hc1 ho1 ho2
  cases r2
  · go_wp2_with fail
    go_loopw [3, 4] (fun ss nn wr => ∃ (k : Nat) (S : ByteArray) (m : Nat), ss = .string S ∧ nn = .int .i64 k ∧ k ≤ 20 ∧ S.size + 65 * k ≤ 1300 ∧ m + 8 * k ≤ n + 164 ∧ Cur c v m wr ∧ Only c w wr) (fun _ nn _ => (intOf nn).toNat)
    case atStart => exact ⟨k1, ⟨#[]⟩, n + 4, rfl, rfl, by omega, by show 0 + _ ≤ _; omega, by omega, hc2, hO2⟩
    case round =>
      clear hc2 hO2 h10 h11
      obtain ⟨k, S, m, rfl, rfl, hk, hs, hm, hC, hO⟩ := hrel
      by_cases hk0 : k = 0
      · subst hk0
        go_wp2_with fail
        refine (d_one c v len m 4 _ (by omega) (by omega) hC (hby.only hO (Nat.le_refl _))).mono ?_
        rintro e W5 ⟨r5, rfl, hc5, ho5⟩
        have hO5 := hO.trans ho5
        clear hC hO ho5
        cases r5
        · have hS5 : S.size ≤ 1302 := by omega
          by_cases h3 : (S.size : Int) > 300
          · go_wp2_with fail
            refine (d_one c v len (m + 2) 4 _ (by omega) (by omega) hc5 (hby.only hO5 (Nat.le_refl _))).mono ?_
            rintro e W8 ⟨r8, rfl, hc8, ho8⟩
            have hO8 := hO5.trans ho8
            have hE : (S.extract 0 300).size ≤ 1302 := by rw [ByteArray.size_extract]; omega
            have h30 : (300 : Int) ≤ (S.size : Int) := by omega
            cases r8
            · go_wp2_with fail
              go_ret
              exact ⟨_, hE, rfl, cur_up hc8 (by omega), hO8⟩
            · go_wp2_with fail
              go_ret
              exact ⟨_, by omega, rfl, cur_up hc8 (by omega), hO8⟩
          · go_wp2_with fail
            go_ret
            exact ⟨_, by omega, rfl, cur_up hc5 (by omega), hO5⟩
        · go_wp2_with fail
          refine (d_spoilt c v len (m + 2) 1300 S ⟨#[255, 0, 5, 4, 6]⟩ _ (by omega) (by omega) (by omega) (by decide) (by decide) hc5 (hby.only hO5 (Nat.le_refl _))).mono ?_
          rintro e W6 ⟨S6, hS6, rfl, hc6, ho6⟩
          have hO6 := hO5.trans ho6
          clear hc5 hO5 ho6 hs
          by_cases h3 : (S6.size : Int) > 300
          · go_wp2_with fail
            refine (d_one c v len (m + 22) 4 _ (by omega) (by omega) hc6 (hby.only hO6 (Nat.le_refl _))).mono ?_
            rintro e W8 ⟨r8, rfl, hc8, ho8⟩
            have hO8 := hO6.trans ho8
            have hE : (S6.extract 0 300).size ≤ 1302 := by rw [ByteArray.size_extract]; omega
            have h30 : (300 : Int) ≤ (S6.size : Int) := by omega
            cases r8
            · go_wp2_with fail
              go_ret
              exact ⟨_, hE, rfl, cur_up hc8 (by omega), hO8⟩
            · go_wp2_with fail
              go_ret
              exact ⟨_, by omega, rfl, cur_up hc8 (by omega), hO8⟩
          · go_wp2_with fail
            go_ret
            exact ⟨_, by omega, rfl, cur_up hc6 (by omega), hO6⟩
      · have hk1 : (k : Int) > 0 := by omega
        go_wp2_with fail
        refine (d_msg c v len m _ (by omega) hC (hby.only hO (Nat.le_refl _))).mono ?_
        rintro e W5 ⟨t5, b5, _, rfl, hc5, ho5⟩
        have hO5 := hO.trans ho5
        clear hC hO ho5
        go_wp2_with fail
        refine (s_msgShort t5 b5 _).mono ?_
        rintro e W6 ⟨z6, f6, hz6, rfl, b6⟩
        have hc6 := cur_below hc5 b6
        have hO6 := hO5.trans (Only.of_below b6)
        have hcat := fun (w : World) => run_string_add_sum (P := Try.prog) w S z6 (by omega)
        have hsz := hide (show (S ++ z6).size + 65 * (k - 1) ≤ 1300 by rw [ByteArray.size_append]; omega)
        clear hc5 hO5 b6
        go_wp2_with fail
        exact ⟨⟨k - 1, _, m + 8, rfl, by go_num, by omega, hsz.out, by omega, hc6, hO6⟩, by simp [intOf]; omega⟩
  · go_wp2_with fail
    go_loopw [3, 4] (fun ss nn wr => ∃ (k : Nat) (S : ByteArray) (m : Nat), ss = .string S ∧ nn = .int .i64 k ∧ k ≤ 20 ∧ S.size + 65 * k ≤ 1300 ∧ m + 8 * k ≤ n + 164 ∧ Cur c v m wr ∧ Only c w wr) (fun _ nn _ => (intOf nn).toNat)
    case atStart => exact ⟨20, ⟨#[]⟩, n + 4, rfl, rfl, by omega, by show 0 + _ ≤ _; omega, by omega, hc2, hO2⟩
    case round =>
      clear hc2 hO2 h10 h11
      obtain ⟨k, S, m, rfl, rfl, hk, hs, hm, hC, hO⟩ := hrel
      by_cases hk0 : k = 0
      · subst hk0
        go_wp2_with fail
        refine (d_one c v len m 4 _ (by omega) (by omega) hC (hby.only hO (Nat.le_refl _))).mono ?_
        rintro e W5 ⟨r5, rfl, hc5, ho5⟩
        have hO5 := hO.trans ho5
        clear hC hO ho5
        cases r5
        · have hS5 : S.size ≤ 1302 := by omega
          by_cases h3 : (S.size : Int) > 300
          · go_wp2_with fail
            refine (d_one c v len (m + 2) 4 _ (by omega) (by omega) hc5 (hby.only hO5 (Nat.le_refl _))).mono ?_
            rintro e W8 ⟨r8, rfl, hc8, ho8⟩
            have hO8 := hO5.trans ho8
            have hE : (S.extract 0 300).size ≤ 1302 := by rw [ByteArray.size_extract]; omega
            have h30 : (300 : Int) ≤ (S.size : Int) := by omega
            cases r8
            · go_wp2_with fail
              go_ret
              exact ⟨_, hE, rfl, cur_up hc8 (by omega), hO8⟩
            · go_wp2_with fail
              go_ret
              exact ⟨_, by omega, rfl, cur_up hc8 (by omega), hO8⟩
          · go_wp2_with fail
            go_ret
            exact ⟨_, by omega, rfl, cur_up hc5 (by omega), hO5⟩
        · go_wp2_with fail
          refine (d_spoilt c v len (m + 2) 1300 S ⟨#[255, 0, 5, 4, 6]⟩ _ (by omega) (by omega) (by omega) (by decide) (by decide) hc5 (hby.only hO5 (Nat.le_refl _))).mono ?_
          rintro e W6 ⟨S6, hS6, rfl, hc6, ho6⟩
          have hO6 := hO5.trans ho6
          clear hc5 hO5 ho6 hs
          by_cases h3 : (S6.size : Int) > 300
          · go_wp2_with fail
            refine (d_one c v len (m + 22) 4 _ (by omega) (by omega) hc6 (hby.only hO6 (Nat.le_refl _))).mono ?_
            rintro e W8 ⟨r8, rfl, hc8, ho8⟩
            have hO8 := hO6.trans ho8
            have hE : (S6.extract 0 300).size ≤ 1302 := by rw [ByteArray.size_extract]; omega
            have h30 : (300 : Int) ≤ (S6.size : Int) := by omega
            cases r8
            · go_wp2_with fail
              go_ret
              exact ⟨_, hE, rfl, cur_up hc8 (by omega), hO8⟩
            · go_wp2_with fail
              go_ret
              exact ⟨_, by omega, rfl, cur_up hc8 (by omega), hO8⟩
          · go_wp2_with fail
            go_ret
            exact ⟨_, by omega, rfl, cur_up hc6 (by omega), hO6⟩
      · have hk1 : (k : Int) > 0 := by omega
        go_wp2_with fail
        refine (d_msg c v len m _ (by omega) hC (hby.only hO (Nat.le_refl _))).mono ?_
        rintro e W5 ⟨t5, b5, _, rfl, hc5, ho5⟩
        have hO5 := hO.trans ho5
        clear hC hO ho5
        go_wp2_with fail
        refine (s_msgShort t5 b5 _).mono ?_
        rintro e W6 ⟨z6, f6, hz6, rfl, b6⟩
        have hc6 := cur_below hc5 b6
        have hO6 := hO5.trans (Only.of_below b6)
        have hcat := fun (w : World) => run_string_add_sum (P := Try.prog) w S z6 (by omega)
        have hsz := hide (show (S ++ z6).size + 65 * (k - 1) ≤ 1300 by rw [ByteArray.size_append]; omega)
        clear hc5 hO5 b6
        go_wp2_with fail
        exact ⟨⟨k - 1, _, m + 8, rfl, by go_num, by omega, hsz.out, by omega, hc6, hO6⟩, by simp [intOf]; omega⟩
end Go.Proofs.Ytoeephmdklmpfaa
