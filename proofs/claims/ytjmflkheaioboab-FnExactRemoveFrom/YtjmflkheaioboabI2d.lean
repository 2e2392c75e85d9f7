/- What the program's functions of chapter 2 answer: whether nodes are a tree, and a good trie. -/
import Derived.Test.YtjmflkheaioboabI2c
namespace Go.Proofs.Ytjmflkheaioboab
open Go.RowKit

set_option maxRecDepth 100000 in
set_option maxHeartbeats 4000000 in
theorem i_isTree (a0 : Option Addr) (len cap : Nat) (T : Nat → Nd) (w : World) (hl : len ≤ 1048576) (hE : RowT a0 len T w) :
    Calls Try.prog 56 #[.slice a0 len cap] w fun e w' => e = .returned (.bool (treeB len T)) ∧ Below w.heap.size w w' := by
  have hinfo : (Try.prog.info? 3).map (fun i => (i.zero, i.size, i.bytes)) = some (some (.int .i64 0), 1, 8) := by kernel_rfl
  obtain ⟨i, hi, hzz⟩ := Option.map_eq_some_iff.1 hinfo
  simp only [Prod.mk.injEq] at hzz
  obtain ⟨hz, hsz, hby⟩ := hzz
  have hmk := fun w : World => run_make (P := Try.prog) w 74 3 i _ Try.underlying74 hi hz .i64 .i64 (len : Int) (len : Int) (by omega) (by omega) (by rw [hby]; omega) (by omega)
  rw [hsz] at hmk
  clear hi hz hsz hby hinfo
  have ix0 : ∀ (z o : Int) (w : World), (Instr.index 90 (.agg #[.int .i64 z, .int .i64 o]) (.int .i64 0)).run Try.prog w = .ok (.int .i64 z) w := fun _ _ _ => by kernel_rfl
  have ix1 : ∀ (z o : Int) (w : World), (Instr.index 90 (.agg #[.int .i64 z, .int .i64 o]) (.int .i64 1)).run Try.prog w = .ok (.int .i64 o) w := fun _ _ _ => by kernel_rfl
  simp only [Int.toNat_natCast, Nat.mul_one, Value.cells] at hmk
  go_enter Try.func56, Try.ntmps56
  go_wp2_with fail
  go_loopw [4, 5, 7, 13] (fun _ _ _ i wr => ∃ (k : Nat) (d : Nat → Int), k ≤ len ∧ i = .int .i64 k ∧ Below w.heap.size w wr ∧ treeTo len T k = some d ∧ Ints wr w.heap.size len d) (fun _ _ _ i _ => len - (intOf i).toNat)
  case atStart => exact ⟨0, fun _ => 0, Nat.zero_le _, rfl, below_box (Below.refl _ _), rfl, Ints.new _ _ _⟩
  case round =>
    obtain ⟨k, d, hk, rfl, hb, htr, hI⟩ := hrel
    clear hmk
    by_cases hlt : k < len
    · obtain ⟨b, off, rfl, hbw, h0, h1, h2, h3⟩ := (hE.below hb) k hlt
      have hlt' : (k : Int) < (len : Int) := by omega
      have s1 := hide (fun w => i_nodeHalves (T k).z (T k).o (T k).v (T k).h w)
      have hbd := treeTo_bd len T k htr
      have hno := hide (treeB_no1 hlt htr)
      have htr' := hide (tree_next htr)
      have hTz := hide (rfl : (T k).z = (T k).z)
      have hTo := hide (rfl : (T k).o = (T k).o)
      have hdk := hbd k
      generalize hz : (T k).z = z at h0 s1 hTz
      generalize ho : (T k).o = o at h1 s1 hTo
      generalize hh : (T k).h = h at h2 s1
      generalize hv : (T k).v = v at h3 s1
      have hZ := hide hz
      have hO := hide ho
      clear hz ho hh hv hTz hTo hE htr
      have hIk := hI.2 k hlt
      by_cases hk0 : k = 0
      · subst hk0
        simp only [Nat.zero_mul, Nat.add_zero] at h0 h1 h2 h3
        have hup : Hid (¬ ((0 : Nat) ≠ 0 ∧ d 0 = 0)) := fun h => h.1 rfl
        have hbds := hide hbd
        clear hbd hdk
        go_wp2_with fail
        refine (s1.out _).mono ?_
        rintro e w1 ⟨rfl, hb1⟩
        have hI1 := (hI.alloc (.cells #[.int .i64 z, .int .i64 o, .bool h, .int .i64 v] 70)).below hb1
        have hbb := hb.trans ((below_box hb1).mono hb.size)
        clear hb1 hI hb hIk h0 h1 h2 h3
        go_wp2_with fail
        go_loopw [7, 29] (fun _ j wj => ∃ (d' : Nat → Int), Below w.heap.size w wj ∧ Ints wj w.heap.size len d' ∧ (∀ i, 0 ≤ d' i ∧ d' i ≤ 32) ∧ ((j = .int .i64 0 ∧ d' = d) ∨ (j = .int .i64 1 ∧ putD len 0 (T 0).z d = some d') ∨ (j = .int .i64 2 ∧ tStep len T 0 d = some d'))) (fun _ j _ => 2 - (intOf j).toNat)
        case atStart => exact ⟨d, hbb, hI1, hbds.out, .inl ⟨rfl, rfl⟩⟩
        case round =>
          obtain ⟨d', hb, hI, hbd, hm⟩ := hrel
          rcases hm with ⟨rfl, rfl⟩ | ⟨rfl, hput⟩ | ⟨rfl, hst⟩
          · by_cases hx0 : z = 0
            · have hP := hide (putD_z (n := len) (k := 0) (d := d') hx0)
              clear hno
              subst hx0
              go_wp2_with fail
              exact ⟨⟨d', hb, hI, hbd, .inr (.inl ⟨rfl, by rw [hZ.out]; exact hP.out⟩)⟩, by simp [intOf]⟩
            · have hx0b : (z == 0) = false := by simpa using hx0
              by_cases hxk : z ≤ 0
              · have hF := hide (hno.out (step_zn (by rw [hZ.out]; exact putD_n hx0 (.inl hxk))))
                clear hno
                go_wp2_with fail
                go_ret
                exact ⟨ret_bool hF.out.symm, hb⟩
              · by_cases hxn : (len : Int) ≤ z
                · have hF := hide (hno.out (step_zn (by rw [hZ.out]; exact putD_n hx0 (.inr (.inl hxn)))))
                  clear hno
                  go_wp2_with fail
                  go_ret
                  exact ⟨ret_bool hF.out.symm, hb⟩
                · obtain ⟨y, hy⟩ := Int.eq_ofNat_of_zero_le (show 0 ≤ z by omega)
                  subst hy
                  have hyn : y < len := by omega
                  have hky : 0 < y := by omega
                  obtain ⟨c1, f1⟩ := hI.2 y hyn
                  obtain ⟨c2, f2⟩ := hI.2 0 hlt
                  by_cases hd : d' y = 0
                  · by_cases hd32 : d' 0 = 32
                    · have hF := hide (hno.out (step_zn (by rw [hZ.out]; exact putD_n hx0 (.inr (.inr (.inr hd32))))))
                      clear hno hbd
                      rw [hd] at c1
                      rw [hd32] at c2
                      go_wp2_with fail
                      go_ret
                      exact ⟨ret_bool hF.out.symm, hb⟩
                    · have hP := hide (putD_y hky hyn hd hd32)
                      have hbd2 := hide (putD_bd hP.out hbd)
                      have hdk := hbd 0
                      have hS := fun v => hI.set hyn v
                      have hd32b : (d' 0 == 32) = false := by simpa using hd32
                      clear hno hbd hI
                      rw [hd] at c1
                      generalize hdd : d' 0 = dk at c2 hdk hd32b
                      have hDD := hide hdd
                      clear hdd hd hd32
                      go_wp2_with fail
                      exact ⟨⟨_, hb.setCell (Nat.le_refl _) _, by rw [← hDD.out]; exact hS _, hbd2.out, .inr (.inl ⟨rfl, by rw [hZ.out]; exact hP.out⟩)⟩, by simp [intOf]⟩
                  · have hF := hide (hno.out (step_zn (by rw [hZ.out]; exact putD_n hx0 (.inr (.inr (.inl (by rw [Int.toNat_natCast]; exact hd)))))))
                    have hdb : (d' y != 0) = true := by simpa using hd
                    clear hno hbd
                    generalize d' y = dy at c1 hdb
                    generalize d' 0 = dk at c2
                    go_wp2_with fail
                    go_ret
                    exact ⟨ret_bool hF.out.symm, hb⟩
          · by_cases hx0 : o = 0
            · have hP := hide (step_y hup.out hput (by rw [hO.out]; exact putD_z hx0))
              clear hno
              subst hx0
              go_wp2_with fail
              exact ⟨⟨d', hb, hI, hbd, .inr (.inr ⟨rfl, hP.out⟩)⟩, by simp [intOf]⟩
            · have hx0b : (o == 0) = false := by simpa using hx0
              have hput := hide hput
              by_cases hxk : o ≤ 0
              · have hF := hide (hno.out (step_on hput.out (by rw [hO.out]; exact putD_n hx0 (.inl hxk))))
                clear hno
                go_wp2_with fail
                go_ret
                exact ⟨ret_bool hF.out.symm, hb⟩
              · by_cases hxn : (len : Int) ≤ o
                · have hF := hide (hno.out (step_on hput.out (by rw [hO.out]; exact putD_n hx0 (.inr (.inl hxn)))))
                  clear hno
                  go_wp2_with fail
                  go_ret
                  exact ⟨ret_bool hF.out.symm, hb⟩
                · obtain ⟨y, hy⟩ := Int.eq_ofNat_of_zero_le (show 0 ≤ o by omega)
                  subst hy
                  have hyn : y < len := by omega
                  have hky : 0 < y := by omega
                  obtain ⟨c1, f1⟩ := hI.2 y hyn
                  obtain ⟨c2, f2⟩ := hI.2 0 hlt
                  by_cases hd : d' y = 0
                  · by_cases hd32 : d' 0 = 32
                    · have hF := hide (hno.out (step_on hput.out (by rw [hO.out]; exact putD_n hx0 (.inr (.inr (.inr hd32))))))
                      clear hno hbd
                      rw [hd] at c1
                      rw [hd32] at c2
                      go_wp2_with fail
                      go_ret
                      exact ⟨ret_bool hF.out.symm, hb⟩
                    · have hP := hide (step_y hup.out hput.out (by rw [hO.out]; exact putD_y hky hyn hd hd32))
                      have hbd2 := hide (putD_bd (putD_y hky hyn hd hd32) hbd)
                      have hdk := hbd 0
                      have hS := fun v => hI.set hyn v
                      have hd32b : (d' 0 == 32) = false := by simpa using hd32
                      clear hno hbd hI
                      rw [hd] at c1
                      generalize hdd : d' 0 = dk at c2 hdk hd32b
                      have hDD := hide hdd
                      clear hdd hd hd32
                      go_wp2_with fail
                      exact ⟨⟨_, hb.setCell (Nat.le_refl _) _, by rw [← hDD.out]; exact hS _, hbd2.out, .inr (.inr ⟨rfl, hP.out⟩)⟩, by simp [intOf]⟩
                  · have hF := hide (hno.out (step_on hput.out (by rw [hO.out]; exact putD_n hx0 (.inr (.inr (.inl (by rw [Int.toNat_natCast]; exact hd)))))))
                    have hdb : (d' y != 0) = true := by simpa using hd
                    clear hno hbd
                    generalize d' y = dy at c1 hdb
                    generalize d' 0 = dk at c2
                    go_wp2_with fail
                    go_ret
                    exact ⟨ret_bool hF.out.symm, hb⟩
          · clear hno
            go_wp2_with fail
            exact ⟨⟨0 + 1, d', by omega, by go_num, hb, htr'.out.trans hst, hI⟩, by simp [intOf]; omega⟩
      · have hkp : (0 : Int) < (k : Int) := by omega
        obtain ⟨cI, fI⟩ := hIk
        have cI := fun o => (old1 hI.1 o k).trans cI
        by_cases hd0 : d k = 0
        · have hF := hide (hno.out (step_up hk0 hd0))
          rw [hd0] at cI
          clear hno hbd hdk hd0
          go_wp2_with fail
          go_ret
          exact ⟨ret_bool hF.out.symm, hb.trans ((below_box (Below.refl _ _)).mono hb.size)⟩
        · have hup : Hid (¬ (k ≠ 0 ∧ d k = 0)) := fun h => hd0 h.2
          have hbds := hide hbd
          have hd0b : (d k == 0) = false := by simpa using hd0
          generalize d k = dk0 at cI hd0b
          clear hd0
          clear hbd hdk
          go_wp2_with fail
          refine (s1.out _).mono ?_
          rintro e w1 ⟨rfl, hb1⟩
          have hI1 := (hI.alloc (.cells #[.int .i64 z, .int .i64 o, .bool h, .int .i64 v] 70)).below hb1
          have hbb := hb.trans ((below_box hb1).mono hb.size)
          clear hb1 hI hb cI fI h0 h1 h2 h3
          go_wp2_with fail
          go_loopw [7, 29] (fun _ j wj => ∃ (d' : Nat → Int), Below w.heap.size w wj ∧ Ints wj w.heap.size len d' ∧ (∀ i, 0 ≤ d' i ∧ d' i ≤ 32) ∧ ((j = .int .i64 0 ∧ d' = d) ∨ (j = .int .i64 1 ∧ putD len k (T k).z d = some d') ∨ (j = .int .i64 2 ∧ tStep len T k d = some d'))) (fun _ j _ => 2 - (intOf j).toNat)
          case atStart => exact ⟨d, hbb, hI1, hbds.out, .inl ⟨rfl, rfl⟩⟩
          case round =>
            obtain ⟨d', hb, hI, hbd, hm⟩ := hrel
            rcases hm with ⟨rfl, rfl⟩ | ⟨rfl, hput⟩ | ⟨rfl, hst⟩
            · by_cases hx0 : z = 0
              · have hP := hide (putD_z (n := len) (k := k) (d := d') hx0)
                clear hno
                subst hx0
                go_wp2_with fail
                exact ⟨⟨d', hb, hI, hbd, .inr (.inl ⟨rfl, by rw [hZ.out]; exact hP.out⟩)⟩, by simp [intOf]⟩
              · have hx0b : (z == 0) = false := by simpa using hx0
                by_cases hxk : z ≤ (k : Int)
                · have hF := hide (hno.out (step_zn (by rw [hZ.out]; exact putD_n hx0 (.inl hxk))))
                  clear hno
                  go_wp2_with fail
                  go_ret
                  exact ⟨ret_bool hF.out.symm, hb⟩
                · by_cases hxn : (len : Int) ≤ z
                  · have hF := hide (hno.out (step_zn (by rw [hZ.out]; exact putD_n hx0 (.inr (.inl hxn)))))
                    clear hno
                    go_wp2_with fail
                    go_ret
                    exact ⟨ret_bool hF.out.symm, hb⟩
                  · obtain ⟨y, hy⟩ := Int.eq_ofNat_of_zero_le (show 0 ≤ z by omega)
                    subst hy
                    have hyn : y < len := by omega
                    have hky : k < y := by omega
                    obtain ⟨c1, f1⟩ := hI.2 y hyn
                    obtain ⟨c2, f2⟩ := hI.2 k hlt
                    by_cases hd : d' y = 0
                    · by_cases hd32 : d' k = 32
                      · have hF := hide (hno.out (step_zn (by rw [hZ.out]; exact putD_n hx0 (.inr (.inr (.inr hd32))))))
                        clear hno hbd
                        rw [hd] at c1
                        rw [hd32] at c2
                        go_wp2_with fail
                        go_ret
                        exact ⟨ret_bool hF.out.symm, hb⟩
                      · have hP := hide (putD_y hky hyn hd hd32)
                        have hbd2 := hide (putD_bd hP.out hbd)
                        have hdk := hbd k
                        have hS := fun v => hI.set hyn v
                        have hd32b : (d' k == 32) = false := by simpa using hd32
                        clear hno hbd hI
                        rw [hd] at c1
                        generalize hdd : d' k = dk at c2 hdk hd32b
                        have hDD := hide hdd
                        clear hdd hd hd32
                        go_wp2_with fail
                        exact ⟨⟨_, hb.setCell (Nat.le_refl _) _, by rw [← hDD.out]; exact hS _, hbd2.out, .inr (.inl ⟨rfl, by rw [hZ.out]; exact hP.out⟩)⟩, by simp [intOf]⟩
                    · have hF := hide (hno.out (step_zn (by rw [hZ.out]; exact putD_n hx0 (.inr (.inr (.inl (by rw [Int.toNat_natCast]; exact hd)))))))
                      have hdb : (d' y != 0) = true := by simpa using hd
                      clear hno hbd
                      generalize d' y = dy at c1 hdb
                      generalize d' k = dk at c2
                      go_wp2_with fail
                      go_ret
                      exact ⟨ret_bool hF.out.symm, hb⟩
            · by_cases hx0 : o = 0
              · have hP := hide (step_y hup.out hput (by rw [hO.out]; exact putD_z hx0))
                clear hno
                subst hx0
                go_wp2_with fail
                exact ⟨⟨d', hb, hI, hbd, .inr (.inr ⟨rfl, hP.out⟩)⟩, by simp [intOf]⟩
              · have hx0b : (o == 0) = false := by simpa using hx0
                have hput := hide hput
                by_cases hxk : o ≤ (k : Int)
                · have hF := hide (hno.out (step_on hput.out (by rw [hO.out]; exact putD_n hx0 (.inl hxk))))
                  clear hno
                  go_wp2_with fail
                  go_ret
                  exact ⟨ret_bool hF.out.symm, hb⟩
                · by_cases hxn : (len : Int) ≤ o
                  · have hF := hide (hno.out (step_on hput.out (by rw [hO.out]; exact putD_n hx0 (.inr (.inl hxn)))))
                    clear hno
                    go_wp2_with fail
                    go_ret
                    exact ⟨ret_bool hF.out.symm, hb⟩
                  · obtain ⟨y, hy⟩ := Int.eq_ofNat_of_zero_le (show 0 ≤ o by omega)
                    subst hy
                    have hyn : y < len := by omega
                    have hky : k < y := by omega
                    obtain ⟨c1, f1⟩ := hI.2 y hyn
                    obtain ⟨c2, f2⟩ := hI.2 k hlt
                    by_cases hd : d' y = 0
                    · by_cases hd32 : d' k = 32
                      · have hF := hide (hno.out (step_on hput.out (by rw [hO.out]; exact putD_n hx0 (.inr (.inr (.inr hd32))))))
                        clear hno hbd
                        rw [hd] at c1
                        rw [hd32] at c2
                        go_wp2_with fail
                        go_ret
                        exact ⟨ret_bool hF.out.symm, hb⟩
                      · have hP := hide (step_y hup.out hput.out (by rw [hO.out]; exact putD_y hky hyn hd hd32))
                        have hbd2 := hide (putD_bd (putD_y hky hyn hd hd32) hbd)
                        have hdk := hbd k
                        have hS := fun v => hI.set hyn v
                        have hd32b : (d' k == 32) = false := by simpa using hd32
                        clear hno hbd hI
                        rw [hd] at c1
                        generalize hdd : d' k = dk at c2 hdk hd32b
                        have hDD := hide hdd
                        clear hdd hd hd32
                        go_wp2_with fail
                        exact ⟨⟨_, hb.setCell (Nat.le_refl _) _, by rw [← hDD.out]; exact hS _, hbd2.out, .inr (.inr ⟨rfl, hP.out⟩)⟩, by simp [intOf]⟩
                    · have hF := hide (hno.out (step_on hput.out (by rw [hO.out]; exact putD_n hx0 (.inr (.inr (.inl (by rw [Int.toNat_natCast]; exact hd)))))))
                      have hdb : (d' y != 0) = true := by simpa using hd
                      clear hno hbd
                      generalize d' y = dy at c1 hdb
                      generalize d' k = dk at c2
                      go_wp2_with fail
                      go_ret
                      exact ⟨ret_bool hF.out.symm, hb⟩
            · clear hno
              go_wp2_with fail
              exact ⟨⟨k + 1, d', by omega, by go_num, hb, htr'.out.trans hst, hI⟩, by simp [intOf]; omega⟩
    · have hk' : k = len := by omega
      subst hk'
      have hF := hide (treeB_y htr)
      clear hE htr hI
      go_wp2_with fail
      go_ret
      exact ⟨ret_bool hF.out.symm, hb⟩
end Go.Proofs.Ytjmflkheaioboab
