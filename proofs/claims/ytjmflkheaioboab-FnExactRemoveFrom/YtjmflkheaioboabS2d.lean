/- What the specification's GoodTrie answers. -/
import Derived.Test.YtjmflkheaioboabMem2
import Derived.Test.YtjmflkheaioboabS2
namespace Go.Proofs.Ytjmflkheaioboab
open Go.RowKit

/-- Whether a node has an upper one, as a number. -/
def upF (d : Nat → Int) (i : Nat) : Int := if d i = 0 then 0 else 1
theorem upF_put {d : Nat → Int} {y : Nat} {e : Int} (he : 0 ≤ e) : ∀ i, (if i = y then 1 else upF d i) = upF (fun i => if i = y then e + 1 else d i) i := by
  intro i
  unfold upF
  by_cases h : i = y
  · simp only [h, if_true]; rw [if_neg (by omega)]
  · simp only [h, if_false]
theorem upF_z {d : Nat → Int} {y : Nat} (h : d y = 0) : upF d y = 0 := if_pos h
theorem upF_n {d : Nat → Int} {y : Nat} (h : d y ≠ 0) : upF d y = 1 := if_neg h
theorem ents_yS {n : Nat} {T : Nat → Nd} (ha : (List.range n).all (ndOk T) = true) : entsB n T = decide ((manyTo T n : Int) ≤ 30) := by
  unfold entsB
  rw [ha, Bool.true_and]
  congr 1
  simp
  omega

set_option maxRecDepth 100000 in
set_option maxHeartbeats 8000000 in
theorem s_goodTrie_in (a0 : Option Addr) (len cap : Nat) (T : Nat → Nd) (w : World) (hl1 : 1 ≤ len) (hl : len ≤ 2000) (hE : RowT a0 len T w) :
    Calls Try.prog 26 #[.slice a0 len cap] w fun e w' => e = .returned (.bool (trieB len T)) ∧ Below w.heap.size w w' := by
  have hinfo : (Try.prog.info? 3).map (fun i => (i.zero, i.size, i.bytes)) = some (some (.int .i64 0), 1, 8) := by kernel_rfl
  obtain ⟨i, hi, hzz⟩ := Option.map_eq_some_iff.1 hinfo
  simp only [Prod.mk.injEq] at hzz
  obtain ⟨hz, hsz, hby⟩ := hzz
  have hmk := fun w : World => run_make (P := Try.prog) w 74 3 i _ Try.underlying74 hi hz .i64 .i64 (len : Int) (len : Int) (by omega) (by omega) (by rw [hby]; omega) (by omega)
  rw [hsz] at hmk
  clear hi hz hsz hby hinfo
  simp only [Int.toNat_natCast, Nat.mul_one, Value.cells] at hmk
  have s0 := hide (fun w => s_in (len : Int) 1 2000 w)
  rw [inB_t (show (1 : Int) ≤ (len : Int) by omega) (show (len : Int) ≤ 2000 by omega)] at s0
  go_enter Try.func26, Try.ntmps26
  go_wp2_with fail
  refine (s0.out _).mono ?_
  rintro e w0 ⟨rfl, rfl⟩
  clear s0
  go_wp2_with fail
  go_loopw [5, 6, 7, 9, 22] (fun m _ _ _ i wr => ∃ (k : Nat) (d : Nat → Int), k ≤ len ∧ i = .int .i64 k ∧ m = .int .i64 (manyTo T k) ∧ Below w0.heap.size w0 wr ∧ treeToS len T k = some d ∧ Ints wr w0.heap.size len (upF d) ∧ Ints wr (w0.heap.size + 1) len d ∧ (List.range k).all (ndOk T) = true) (fun _ _ _ _ i _ => len - (intOf i).toNat)
  case atStart => exact ⟨0, fun _ => 0, Nat.zero_le _, rfl, rfl, below_box2 (Below.refl _ _), rfl, ((Ints.new w0 len _).alloc _).congr (fun i => rfl), (show Ints _ _ len (fun _ => 0) from by simpa using Ints.new (w0.alloc _) len _), rfl⟩
  case round =>
    obtain ⟨k, d, hk, rfl, rfl, hb, htr, hU, hI, hall⟩ := hrel
    clear hmk
    by_cases hlt : k < len
    · obtain ⟨b, off, rfl, hbw, h0, h1, h2, h3⟩ := (hE.below hb) k hlt
      have hlt' : (k : Int) < (len : Int) := by omega
      have hmk := manyTo_le T k
      have s1 := hide (fun w => s_value (T k).v w)
      have hbd := treeToS_bd len T k htr
      have hno := hide (fun h => trieB_f1 (treeB_no1S hlt htr h))
      have hfin := hide (fun h => trieB_f2 (entsB_no (T := T) (n := len) hlt h))
      have hnext := hide (ents_next (T := T) hall)
      have htr' := hide (tree_nextS htr)
      have hok : Hid (ndOk T k = (((T k).h || (T k).v == 0) && inB (T k).v 0 1000000 && (k == 0 || !((T k).z == 0) || !((T k).o == 0) || (T k).h))) := rfl
      have hm1 : Hid (manyTo T (k + 1) = manyTo T k + (if (T k).h then 1 else 0)) := rfl
      generalize hz : (T k).z = z at h0 hok
      generalize ho : (T k).o = o at h1 hok
      generalize hh : (T k).h = h at h2 hok hm1
      generalize hv : (T k).v = v at h3 s1 hok
      generalize manyTo T k = m0 at *
      have hZ := hide hz
      have hO := hide ho
      clear hz ho hh hv hE htr hall
      have hnb : w0.heap.size + 1 < wr.heap.size := hI.1
      have hUk := (hU.2 k hlt).1
      have hIk := (hI.2 k hlt).1
      have hUk := fun o => (old1 hU.1 o k).trans hUk
      have hIk := fun o => (old1 hI.1 o k).trans hIk
      have hbr : b < wr.heap.size := hbw
      by_cases hk0 : k = 0
      · subst hk0
        simp only [Nat.zero_mul, Nat.add_zero] at h0 h1 h2 h3
        by_cases hd32 : 32 < d 0
        · have hF := hide (hno.out (step_upS (.inr hd32)))
          clear hno hbd hfin hnext htr' hok hm1 s1
          generalize d 0 = d0 at hIk hd32
          generalize upF d 0 = u0 at hUk
          go_wp2_with fail
          go_ret
          exact ⟨ret_bool hF.out.symm, hb.trans ((below_box (Below.refl _ _)).mono hb.size)⟩
        · have hup : Hid (¬ (((0 : Nat) ≠ 0 ∧ d 0 = 0) ∨ 32 < d 0)) := by rintro (h | h); exact h.1 rfl; exact hd32 h
          have hbds := hide hbd
          have hd32' : Hid (d 0 ≤ 32) := Int.not_lt.1 hd32
          have hgd : ¬ (32 < d 0) := hd32
          generalize hd0e : d 0 = d0 at hIk hgd
          clear hd0e hbd hd32
          generalize upF d 0 = u0 at hUk
          have hd32 := hd32'
          clear hd32'
          go_wp2_with fail
          clear hgd
          clear hUk hIk
          have hA0 := (Lies.new wr #[.int .i64 z, .int .i64 o, .bool h, .int .i64 v] 70).alloc (.cells #[.int .i64 z, .int .i64 o] 3)
          have hS0 : Lies ((wr.alloc (.cells #[.int .i64 z, .int .i64 o, .bool h, .int .i64 v] 70)).alloc (.cells #[.int .i64 z, .int .i64 o] 3)) (wr.heap.size + 1) [.int .i64 z, .int .i64 o] := by simpa using Lies.new (wr.alloc (.cells #[.int .i64 z, .int .i64 o, .bool h, .int .i64 v] 70)) #[.int .i64 z, .int .i64 o] 3
          have hU1 := (hU.alloc (.cells #[.int .i64 z, .int .i64 o, .bool h, .int .i64 v] 70)).alloc (.cells #[.int .i64 z, .int .i64 o] 3)
          have hI1 := (hI.alloc (.cells #[.int .i64 z, .int .i64 o, .bool h, .int .i64 v] 70)).alloc (.cells #[.int .i64 z, .int .i64 o] 3)
          have hbb := hb.trans ((below_box2 (o := .cells #[.int .i64 z, .int .i64 o, .bool h, .int .i64 v] 70) (o' := .cells #[.int .i64 z, .int .i64 o] 3) (Below.refl _ _)).mono hb.size)
          clear hI hU hb h0 h1 h2 h3 hbr hbw
          go_loopw [9, 49] (fun _ j wj => ∃ (d' : Nat → Int), Below w0.heap.size w0 wj ∧ Ints wj w0.heap.size len (upF d') ∧ Ints wj (w0.heap.size + 1) len d' ∧ Lies wj wr.heap.size [.int .i64 z, .int .i64 o, .bool h, .int .i64 v] ∧ Lies wj (wr.heap.size + 1) [.int .i64 z, .int .i64 o] ∧ DepOk d' ∧ d' 0 ≤ 32 ∧ ((j = .int .i64 0 ∧ d' = d) ∨ (j = .int .i64 1 ∧ putS len 0 (T 0).z d = some d') ∨ (j = .int .i64 2 ∧ tStepS len T 0 d = some d'))) (fun _ j _ => 2 - (intOf j).toNat)
          case atStart => exact ⟨d, hbb, hU1, hI1, hA0, hS0, hbds.out, hd32.out, .inl ⟨rfl, rfl⟩⟩
          case round =>
            obtain ⟨d', hb, hU, hI, hA, hS, hbd, hdk, hm⟩ := hrel
            have a2 := hA.2 2 _ rfl
            have a3 := hA.2 3 _ rfl
            have e0 := hS.2 0 _ rfl
            have e1 := hS.2 1 _ rfl
            clear hbb hU1 hI1 hA0 hS0
            rcases hm with ⟨rfl, rfl⟩ | ⟨rfl, hput⟩ | ⟨rfl, hst⟩
            · clear hnext hfin hm1 s1 hok
              by_cases hx0 : z = 0
              · have hP := hide (putS_z (n := len) (k := 0) (d := d') hx0)
                clear hno
                subst hx0
                go_wp2_with fail
                exact ⟨⟨d', hb, hU, hI, hA, hS, hbd, hdk, .inr (.inl ⟨rfl, by rw [hZ.out]; exact hP.out⟩)⟩, by simp [intOf]⟩
              · have hx0b : (z == 0) = false := by simpa using hx0
                by_cases hxk : z ≤ 0
                · have hF := hide (hno.out (step_znS (by rw [hZ.out]; exact putS_n hx0 (.inl hxk))))
                  clear hno hbd hdk
                  go_wp2_with fail
                  go_ret
                  exact ⟨ret_bool hF.out.symm, hb⟩
                · by_cases hxn : (len : Int) ≤ z
                  · have hF := hide (hno.out (step_znS (by rw [hZ.out]; exact putS_n hx0 (.inr (.inl hxn)))))
                    clear hno hbd hdk
                    go_wp2_with fail
                    go_ret
                    exact ⟨ret_bool hF.out.symm, hb⟩
                  · obtain ⟨y, hy⟩ := Int.eq_ofNat_of_zero_le (show 0 ≤ z by omega)
                    subst hy
                    have hyn : y < len := by omega
                    have hky : 0 < y := by omega
                    obtain ⟨c1, f1⟩ := hU.2 y hyn
                    obtain ⟨c2, f2⟩ := hI.2 0 hlt
                    obtain ⟨_, f3⟩ := hI.2 y hyn
                    by_cases hd : d' y = 0
                    · have hP := hide (putS_y (n := len) hky hyn hd)
                      have hbd2 := hide (putS_bd hP.out hdk hbd)
                      have hk2 := hide (putS_keep hP.out)
                      have hdk0 := (hbd 0).1
                      have hU2 := fun v => ((hU.set hyn 1).congr (upF_put (e := d' 0) (by omega))).other (c := w0.heap.size + 1) (by omega) y v
                      have hI2 := fun v u => (hI.other (c := w0.heap.size) (by omega) y v).set hyn u
                      have hA2 := fun v u => (hA.other (c := w0.heap.size) (by omega) y v).other (c := w0.heap.size + 1) (by omega) y u
                      have hS2 := fun v u => (hS.other (c := w0.heap.size) (by omega) y v).other (c := w0.heap.size + 1) (by omega) y u
                      have c2' := fun v => (World.cell?_setCell_other wr ⟨w0.heap.size, y, none⟩ ⟨w0.heap.size + 1, 0, none⟩ v (by simp)).trans c2
                      clear hno hbd hI hU hA hS
                      rw [upF_z hd] at c1
                      have hdk' := hide hdk
                      generalize hdd : d' 0 = dk at c2 c2' hdk hdk0
                      have hDD := hide hdd
                      clear hdd hd
                      go_wp2_with fail
                      refine ⟨⟨_, (hb.setCell (Nat.le_refl _) _).setCell (Nat.le_succ _) _, hU2 _, by rw [← hDD.out]; exact hI2 _ _, hA2 _ _, hS2 _ _, hbd2.out, by rw [hk2.out]; exact hdk'.out, .inr (.inl ⟨rfl, by rw [hZ.out]; exact hP.out⟩)⟩, by simp [intOf]⟩
                    · have hF := hide (hno.out (step_znS (by rw [hZ.out]; exact putS_n hx0 (.inr (.inr (by rw [Int.toNat_natCast]; exact hd))))))
                      rw [upF_n hd] at c1
                      clear hno hbd hdk hd
                      generalize d' 0 = dk at c2
                      go_wp2_with fail
                      go_ret
                      exact ⟨ret_bool hF.out.symm, hb⟩
            · clear hnext hfin hm1 s1 hok
              by_cases hx0 : o = 0
              · have hP := hide (step_yS hup.out hput (by rw [hO.out]; exact putS_z hx0))
                clear hno
                subst hx0
                go_wp2_with fail
                exact ⟨⟨d', hb, hU, hI, hA, hS, hbd, hdk, .inr (.inr ⟨rfl, hP.out⟩)⟩, by simp [intOf]⟩
              · have hx0b : (o == 0) = false := by simpa using hx0
                have hput := hide hput
                by_cases hxk : o ≤ 0
                · have hF := hide (hno.out (step_onS hput.out (by rw [hO.out]; exact putS_n hx0 (.inl hxk))))
                  clear hno hbd hdk
                  go_wp2_with fail
                  go_ret
                  exact ⟨ret_bool hF.out.symm, hb⟩
                · by_cases hxn : (len : Int) ≤ o
                  · have hF := hide (hno.out (step_onS hput.out (by rw [hO.out]; exact putS_n hx0 (.inr (.inl hxn)))))
                    clear hno hbd hdk
                    go_wp2_with fail
                    go_ret
                    exact ⟨ret_bool hF.out.symm, hb⟩
                  · obtain ⟨y, hy⟩ := Int.eq_ofNat_of_zero_le (show 0 ≤ o by omega)
                    subst hy
                    have hyn : y < len := by omega
                    have hky : 0 < y := by omega
                    obtain ⟨c1, f1⟩ := hU.2 y hyn
                    obtain ⟨c2, f2⟩ := hI.2 0 hlt
                    obtain ⟨_, f3⟩ := hI.2 y hyn
                    by_cases hd : d' y = 0
                    · have hP := hide (step_yS hup.out hput.out (by rw [hO.out]; exact putS_y hky hyn hd))
                      have hbd2 := hide (putS_bd (putS_y hky hyn hd) hdk hbd)
                      have hk2 := hide (putS_keep (putS_y (n := len) hky hyn hd))
                      have hdk0 := (hbd 0).1
                      have hU2 := fun v => ((hU.set hyn 1).congr (upF_put (e := d' 0) (by omega))).other (c := w0.heap.size + 1) (by omega) y v
                      have hI2 := fun v u => (hI.other (c := w0.heap.size) (by omega) y v).set hyn u
                      have hA2 := fun v u => (hA.other (c := w0.heap.size) (by omega) y v).other (c := w0.heap.size + 1) (by omega) y u
                      have hS2 := fun v u => (hS.other (c := w0.heap.size) (by omega) y v).other (c := w0.heap.size + 1) (by omega) y u
                      have c2' := fun v => (World.cell?_setCell_other wr ⟨w0.heap.size, y, none⟩ ⟨w0.heap.size + 1, 0, none⟩ v (by simp)).trans c2
                      clear hno hbd hI hU hA hS
                      rw [upF_z hd] at c1
                      have hdk' := hide hdk
                      generalize hdd : d' 0 = dk at c2 c2' hdk hdk0
                      have hDD := hide hdd
                      clear hdd hd
                      go_wp2_with fail
                      refine ⟨⟨_, (hb.setCell (Nat.le_refl _) _).setCell (Nat.le_succ _) _, hU2 _, by rw [← hDD.out]; exact hI2 _ _, hA2 _ _, hS2 _ _, hbd2.out, by rw [hk2.out]; exact hdk'.out, .inr (.inr ⟨rfl, hP.out⟩)⟩, by simp [intOf]⟩
                    · have hF := hide (hno.out (step_onS hput.out (by rw [hO.out]; exact putS_n hx0 (.inr (.inr (by rw [Int.toNat_natCast]; exact hd))))))
                      rw [upF_n hd] at c1
                      clear hno hbd hdk hd
                      generalize d' 0 = dk at c2
                      go_wp2_with fail
                      go_ret
                      exact ⟨ret_bool hF.out.symm, hb⟩
            · clear hno hbd hdk
              have hm1 := hm1.out
              cases h with
              | true =>
                rw [if_pos rfl] at hm1
                have hM := hide hm1
                clear hm1
                cases hv : inB v 0 1000000 with
                | false =>
                  rw [hv] at s1 hok
                  have hok1 : ndOk T 0 = false := by rw [hok.out]; simp
                  have hN := hide (hfin.out hok1)
                  clear hok1 hnext hfin hok
                  go_wp2_with fail
                  refine (s1.out _).mono ?_
                  rintro e w5 ⟨rfl, hb5⟩
                  have hA := hA.below hb5
                  have g0 := hA.2 0 _ rfl
                  have g1 := hA.2 1 _ rfl
                  have g2 := hA.2 2 _ rfl
                  have hbz := hb.trans (hb5.mono hb.size)
                  have hU := hU.below hb5
                  have hI := hI.below hb5
                  clear hb5
                  go_wp2_with fail
                  go_ret
                  exact ⟨ret_bool hN.out.symm, hbz⟩
                | true =>
                  rw [hv] at s1 hok
                  have hok1 : ndOk T 0 = true := by rw [hok.out]; simp
                  have hN := hide (hnext.out hok1)
                  clear hok1 hnext hfin hok
                  go_wp2_with fail
                  refine (s1.out _).mono ?_
                  rintro e w5 ⟨rfl, hb5⟩
                  have hA := hA.below hb5
                  have g0 := hA.2 0 _ rfl
                  have g1 := hA.2 1 _ rfl
                  have g2 := hA.2 2 _ rfl
                  have hbz := hb.trans (hb5.mono hb.size)
                  have hU := hU.below hb5
                  have hI := hI.below hb5
                  clear hb5
                  go_wp2_with fail
                  exact ⟨⟨0 + 1, d', by omega, by go_num, by rw [hM.out]; go_num, hbz, htr'.out.trans hst, hU, hI, hN.out⟩, by simp [intOf]; omega⟩
              | false =>
                rw [if_neg (by simp)] at hm1
                have hM := hide hm1
                clear hm1
                by_cases hv0 : v = 0
                · subst hv0
                  have hv : inB (0 : Int) 0 1000000 = true := by decide
                  rw [hv] at s1 hok
                  have hok1 : ndOk T 0 = true := by rw [hok.out]; simp
                  have hN := hide (hnext.out hok1)
                  clear hok1 hnext hfin hok
                  go_wp2_with fail
                  refine (s1.out _).mono ?_
                  rintro e w5 ⟨rfl, hb5⟩
                  have hA := hA.below hb5
                  have g0 := hA.2 0 _ rfl
                  have g1 := hA.2 1 _ rfl
                  have g2 := hA.2 2 _ rfl
                  have hbz := hb.trans (hb5.mono hb.size)
                  have hU := hU.below hb5
                  have hI := hI.below hb5
                  clear hb5
                  go_wp2_with fail
                  exact ⟨⟨0 + 1, d', by omega, by go_num, by rw [hM.out]; go_num, hbz, htr'.out.trans hst, hU, hI, hN.out⟩, by simp [intOf]; omega⟩
                · have hvf : (v == 0) = false := by simpa using hv0
                  have hvn : (v != 0) = true := by simpa using hv0
                  rw [hvf] at hok
                  have hok1 : ndOk T 0 = false := by rw [hok.out]; simp
                  have hN := hide (hfin.out hok1)
                  clear hok1 hnext hfin hok
                  go_wp2_with fail
                  have hbz := hb
                  go_ret
                  exact ⟨ret_bool hN.out.symm, hbz⟩
      · have hkp : (0 : Int) < (k : Int) := by omega
        by_cases hd0 : d k = 0
        · have hF := hide (hno.out (step_upS (.inl ⟨hk0, hd0⟩)))
          rw [upF_z hd0] at hUk
          clear hno hbd hfin hnext htr' hok hm1 s1 hd0 hIk
          go_wp2_with fail
          go_ret
          exact ⟨ret_bool hF.out.symm, hb.trans ((below_box (Below.refl _ _)).mono hb.size)⟩
        · rw [upF_n hd0] at hUk
          by_cases hd32 : 32 < d k
          · have hF := hide (hno.out (step_upS (.inr hd32)))
            clear hno hbd hfin hnext htr' hok hm1 s1 hd0
            generalize d k = d0 at hIk hd32
            go_wp2_with fail
            go_ret
            exact ⟨ret_bool hF.out.symm, hb.trans ((below_box (Below.refl _ _)).mono hb.size)⟩
          · have hup : Hid (¬ ((k ≠ 0 ∧ d k = 0) ∨ 32 < d k)) := by rintro (h | h); exact hd0 h.2; exact hd32 h
            have hbds := hide hbd
            have hd32' : Hid (d k ≤ 32) := Int.not_lt.1 hd32
            have hgd : ¬ (32 < d k) := hd32
            generalize hd0e : d k = d0 at hIk hgd
            clear hd0e hbd hd32 hd0
            have hd32 := hd32'
            clear hd32'
            go_wp2_with fail
            clear hgd
            clear hUk hIk
            have hA0 := (Lies.new wr #[.int .i64 z, .int .i64 o, .bool h, .int .i64 v] 70).alloc (.cells #[.int .i64 z, .int .i64 o] 3)
            have hS0 : Lies ((wr.alloc (.cells #[.int .i64 z, .int .i64 o, .bool h, .int .i64 v] 70)).alloc (.cells #[.int .i64 z, .int .i64 o] 3)) (wr.heap.size + 1) [.int .i64 z, .int .i64 o] := by simpa using Lies.new (wr.alloc (.cells #[.int .i64 z, .int .i64 o, .bool h, .int .i64 v] 70)) #[.int .i64 z, .int .i64 o] 3
            have hU1 := (hU.alloc (.cells #[.int .i64 z, .int .i64 o, .bool h, .int .i64 v] 70)).alloc (.cells #[.int .i64 z, .int .i64 o] 3)
            have hI1 := (hI.alloc (.cells #[.int .i64 z, .int .i64 o, .bool h, .int .i64 v] 70)).alloc (.cells #[.int .i64 z, .int .i64 o] 3)
            have hbb := hb.trans ((below_box2 (o := .cells #[.int .i64 z, .int .i64 o, .bool h, .int .i64 v] 70) (o' := .cells #[.int .i64 z, .int .i64 o] 3) (Below.refl _ _)).mono hb.size)
            clear hI hU hb h0 h1 h2 h3 hbr hbw
            go_loopw [9, 49] (fun _ j wj => ∃ (d' : Nat → Int), Below w0.heap.size w0 wj ∧ Ints wj w0.heap.size len (upF d') ∧ Ints wj (w0.heap.size + 1) len d' ∧ Lies wj wr.heap.size [.int .i64 z, .int .i64 o, .bool h, .int .i64 v] ∧ Lies wj (wr.heap.size + 1) [.int .i64 z, .int .i64 o] ∧ DepOk d' ∧ d' k ≤ 32 ∧ ((j = .int .i64 0 ∧ d' = d) ∨ (j = .int .i64 1 ∧ putS len k (T k).z d = some d') ∨ (j = .int .i64 2 ∧ tStepS len T k d = some d'))) (fun _ j _ => 2 - (intOf j).toNat)
            case atStart => exact ⟨d, hbb, hU1, hI1, hA0, hS0, hbds.out, hd32.out, .inl ⟨rfl, rfl⟩⟩
            case round =>
              obtain ⟨d', hb, hU, hI, hA, hS, hbd, hdk, hm⟩ := hrel
              have a2 := hA.2 2 _ rfl
              have a3 := hA.2 3 _ rfl
              have e0 := hS.2 0 _ rfl
              have e1 := hS.2 1 _ rfl
              clear hbb hU1 hI1 hA0 hS0
              rcases hm with ⟨rfl, rfl⟩ | ⟨rfl, hput⟩ | ⟨rfl, hst⟩
              · clear hnext hfin hm1 s1 hok
                by_cases hx0 : z = 0
                · have hP := hide (putS_z (n := len) (k := k) (d := d') hx0)
                  clear hno
                  subst hx0
                  go_wp2_with fail
                  exact ⟨⟨d', hb, hU, hI, hA, hS, hbd, hdk, .inr (.inl ⟨rfl, by rw [hZ.out]; exact hP.out⟩)⟩, by simp [intOf]⟩
                · have hx0b : (z == 0) = false := by simpa using hx0
                  by_cases hxk : z ≤ (k : Int)
                  · have hF := hide (hno.out (step_znS (by rw [hZ.out]; exact putS_n hx0 (.inl hxk))))
                    clear hno hbd hdk
                    go_wp2_with fail
                    go_ret
                    exact ⟨ret_bool hF.out.symm, hb⟩
                  · by_cases hxn : (len : Int) ≤ z
                    · have hF := hide (hno.out (step_znS (by rw [hZ.out]; exact putS_n hx0 (.inr (.inl hxn)))))
                      clear hno hbd hdk
                      go_wp2_with fail
                      go_ret
                      exact ⟨ret_bool hF.out.symm, hb⟩
                    · obtain ⟨y, hy⟩ := Int.eq_ofNat_of_zero_le (show 0 ≤ z by omega)
                      subst hy
                      have hyn : y < len := by omega
                      have hky : k < y := by omega
                      obtain ⟨c1, f1⟩ := hU.2 y hyn
                      obtain ⟨c2, f2⟩ := hI.2 k hlt
                      obtain ⟨_, f3⟩ := hI.2 y hyn
                      by_cases hd : d' y = 0
                      · have hP := hide (putS_y (n := len) hky hyn hd)
                        have hbd2 := hide (putS_bd hP.out hdk hbd)
                        have hk2 := hide (putS_keep hP.out)
                        have hdk0 := (hbd k).1
                        have hU2 := fun v => ((hU.set hyn 1).congr (upF_put (e := d' k) (by omega))).other (c := w0.heap.size + 1) (by omega) y v
                        have hI2 := fun v u => (hI.other (c := w0.heap.size) (by omega) y v).set hyn u
                        have hA2 := fun v u => (hA.other (c := w0.heap.size) (by omega) y v).other (c := w0.heap.size + 1) (by omega) y u
                        have hS2 := fun v u => (hS.other (c := w0.heap.size) (by omega) y v).other (c := w0.heap.size + 1) (by omega) y u
                        have c2' := fun v => (World.cell?_setCell_other wr ⟨w0.heap.size, y, none⟩ ⟨w0.heap.size + 1, k, none⟩ v (by simp)).trans c2
                        clear hno hbd hI hU hA hS
                        rw [upF_z hd] at c1
                        have hdk' := hide hdk
                        generalize hdd : d' k = dk at c2 c2' hdk hdk0
                        have hDD := hide hdd
                        clear hdd hd
                        go_wp2_with fail
                        refine ⟨⟨_, (hb.setCell (Nat.le_refl _) _).setCell (Nat.le_succ _) _, hU2 _, by rw [← hDD.out]; exact hI2 _ _, hA2 _ _, hS2 _ _, hbd2.out, by rw [hk2.out]; exact hdk'.out, .inr (.inl ⟨rfl, by rw [hZ.out]; exact hP.out⟩)⟩, by simp [intOf]⟩
                      · have hF := hide (hno.out (step_znS (by rw [hZ.out]; exact putS_n hx0 (.inr (.inr (by rw [Int.toNat_natCast]; exact hd))))))
                        rw [upF_n hd] at c1
                        clear hno hbd hdk hd
                        generalize d' k = dk at c2
                        go_wp2_with fail
                        go_ret
                        exact ⟨ret_bool hF.out.symm, hb⟩
              · clear hnext hfin hm1 s1 hok
                by_cases hx0 : o = 0
                · have hP := hide (step_yS hup.out hput (by rw [hO.out]; exact putS_z hx0))
                  clear hno
                  subst hx0
                  go_wp2_with fail
                  exact ⟨⟨d', hb, hU, hI, hA, hS, hbd, hdk, .inr (.inr ⟨rfl, hP.out⟩)⟩, by simp [intOf]⟩
                · have hx0b : (o == 0) = false := by simpa using hx0
                  have hput := hide hput
                  by_cases hxk : o ≤ (k : Int)
                  · have hF := hide (hno.out (step_onS hput.out (by rw [hO.out]; exact putS_n hx0 (.inl hxk))))
                    clear hno hbd hdk
                    go_wp2_with fail
                    go_ret
                    exact ⟨ret_bool hF.out.symm, hb⟩
                  · by_cases hxn : (len : Int) ≤ o
                    · have hF := hide (hno.out (step_onS hput.out (by rw [hO.out]; exact putS_n hx0 (.inr (.inl hxn)))))
                      clear hno hbd hdk
                      go_wp2_with fail
                      go_ret
                      exact ⟨ret_bool hF.out.symm, hb⟩
                    · obtain ⟨y, hy⟩ := Int.eq_ofNat_of_zero_le (show 0 ≤ o by omega)
                      subst hy
                      have hyn : y < len := by omega
                      have hky : k < y := by omega
                      obtain ⟨c1, f1⟩ := hU.2 y hyn
                      obtain ⟨c2, f2⟩ := hI.2 k hlt
                      obtain ⟨_, f3⟩ := hI.2 y hyn
                      by_cases hd : d' y = 0
                      · have hP := hide (step_yS hup.out hput.out (by rw [hO.out]; exact putS_y hky hyn hd))
                        have hbd2 := hide (putS_bd (putS_y hky hyn hd) hdk hbd)
                        have hk2 := hide (putS_keep (putS_y (n := len) hky hyn hd))
                        have hdk0 := (hbd k).1
                        have hU2 := fun v => ((hU.set hyn 1).congr (upF_put (e := d' k) (by omega))).other (c := w0.heap.size + 1) (by omega) y v
                        have hI2 := fun v u => (hI.other (c := w0.heap.size) (by omega) y v).set hyn u
                        have hA2 := fun v u => (hA.other (c := w0.heap.size) (by omega) y v).other (c := w0.heap.size + 1) (by omega) y u
                        have hS2 := fun v u => (hS.other (c := w0.heap.size) (by omega) y v).other (c := w0.heap.size + 1) (by omega) y u
                        have c2' := fun v => (World.cell?_setCell_other wr ⟨w0.heap.size, y, none⟩ ⟨w0.heap.size + 1, k, none⟩ v (by simp)).trans c2
                        clear hno hbd hI hU hA hS
                        rw [upF_z hd] at c1
                        have hdk' := hide hdk
                        generalize hdd : d' k = dk at c2 c2' hdk hdk0
                        have hDD := hide hdd
                        clear hdd hd
                        go_wp2_with fail
                        refine ⟨⟨_, (hb.setCell (Nat.le_refl _) _).setCell (Nat.le_succ _) _, hU2 _, by rw [← hDD.out]; exact hI2 _ _, hA2 _ _, hS2 _ _, hbd2.out, by rw [hk2.out]; exact hdk'.out, .inr (.inr ⟨rfl, hP.out⟩)⟩, by simp [intOf]⟩
                      · have hF := hide (hno.out (step_onS hput.out (by rw [hO.out]; exact putS_n hx0 (.inr (.inr (by rw [Int.toNat_natCast]; exact hd))))))
                        rw [upF_n hd] at c1
                        clear hno hbd hdk hd
                        generalize d' k = dk at c2
                        go_wp2_with fail
                        go_ret
                        exact ⟨ret_bool hF.out.symm, hb⟩
              · clear hno hbd hdk
                have hm1 := hm1.out
                cases h with
                | true =>
                  rw [if_pos rfl] at hm1
                  have hM := hide hm1
                  clear hm1
                  cases hv : inB v 0 1000000 with
                  | false =>
                    rw [hv] at s1 hok
                    have hok1 : ndOk T k = false := by rw [hok.out]; simp
                    have hN := hide (hfin.out hok1)
                    clear hok1 hnext hfin hok
                    go_wp2_with fail
                    refine (s1.out _).mono ?_
                    rintro e w5 ⟨rfl, hb5⟩
                    have hA := hA.below hb5
                    have g0 := hA.2 0 _ rfl
                    have g1 := hA.2 1 _ rfl
                    have g2 := hA.2 2 _ rfl
                    have hbz := hb.trans (hb5.mono hb.size)
                    have hU := hU.below hb5
                    have hI := hI.below hb5
                    clear hb5
                    go_wp2_with fail
                    go_ret
                    exact ⟨ret_bool hN.out.symm, hbz⟩
                  | true =>
                    rw [hv] at s1 hok
                    by_cases hz0 : z = 0
                    · subst hz0
                      by_cases ho0 : o = 0
                      · subst ho0
                        have hok1 : ndOk T k = true := by rw [hok.out]; simp
                        have hN := hide (hnext.out hok1)
                        clear hok1 hnext hfin hok
                        go_wp2_with fail
                        refine (s1.out _).mono ?_
                        rintro e w5 ⟨rfl, hb5⟩
                        have hA := hA.below hb5
                        have g0 := hA.2 0 _ rfl
                        have g1 := hA.2 1 _ rfl
                        have g2 := hA.2 2 _ rfl
                        have hbz := hb.trans (hb5.mono hb.size)
                        have hU := hU.below hb5
                        have hI := hI.below hb5
                        clear hb5
                        go_wp2_with fail
                        exact ⟨⟨k + 1, d', by omega, by go_num, by rw [hM.out]; go_num, hbz, htr'.out.trans hst, hU, hI, hN.out⟩, by simp [intOf]; omega⟩
                      · have ho0b : (o == 0) = false := by simpa using ho0
                        have hok1 : ndOk T k = true := by rw [hok.out]; simp
                        have hN := hide (hnext.out hok1)
                        clear hok1 hnext hfin hok
                        go_wp2_with fail
                        refine (s1.out _).mono ?_
                        rintro e w5 ⟨rfl, hb5⟩
                        have hA := hA.below hb5
                        have g0 := hA.2 0 _ rfl
                        have g1 := hA.2 1 _ rfl
                        have g2 := hA.2 2 _ rfl
                        have hbz := hb.trans (hb5.mono hb.size)
                        have hU := hU.below hb5
                        have hI := hI.below hb5
                        clear hb5
                        go_wp2_with fail
                        exact ⟨⟨k + 1, d', by omega, by go_num, by rw [hM.out]; go_num, hbz, htr'.out.trans hst, hU, hI, hN.out⟩, by simp [intOf]; omega⟩
                    · have hz0b : (z == 0) = false := by simpa using hz0
                      have hok1 : ndOk T k = true := by rw [hok.out]; simp
                      have hN := hide (hnext.out hok1)
                      clear hok1 hnext hfin hok
                      go_wp2_with fail
                      refine (s1.out _).mono ?_
                      rintro e w5 ⟨rfl, hb5⟩
                      have hA := hA.below hb5
                      have g0 := hA.2 0 _ rfl
                      have g1 := hA.2 1 _ rfl
                      have g2 := hA.2 2 _ rfl
                      have hbz := hb.trans (hb5.mono hb.size)
                      have hU := hU.below hb5
                      have hI := hI.below hb5
                      clear hb5
                      go_wp2_with fail
                      exact ⟨⟨k + 1, d', by omega, by go_num, by rw [hM.out]; go_num, hbz, htr'.out.trans hst, hU, hI, hN.out⟩, by simp [intOf]; omega⟩
                | false =>
                  rw [if_neg (by simp)] at hm1
                  have hM := hide hm1
                  clear hm1
                  by_cases hv0 : v = 0
                  · subst hv0
                    have hv : inB (0 : Int) 0 1000000 = true := by decide
                    rw [hv] at s1 hok
                    by_cases hz0 : z = 0
                    · subst hz0
                      by_cases ho0 : o = 0
                      · subst ho0
                        have hok1 : ndOk T k = false := by rw [hok.out]; simp [hk0]
                        have hN := hide (hfin.out hok1)
                        clear hok1 hnext hfin hok
                        go_wp2_with fail
                        refine (s1.out _).mono ?_
                        rintro e w5 ⟨rfl, hb5⟩
                        have hA := hA.below hb5
                        have g0 := hA.2 0 _ rfl
                        have g1 := hA.2 1 _ rfl
                        have g2 := hA.2 2 _ rfl
                        have hbz := hb.trans (hb5.mono hb.size)
                        have hU := hU.below hb5
                        have hI := hI.below hb5
                        clear hb5
                        go_wp2_with fail
                        go_ret
                        exact ⟨ret_bool hN.out.symm, hbz⟩
                      · have ho0b : (o == 0) = false := by simpa using ho0
                        have hok1 : ndOk T k = true := by rw [hok.out]; simp [ho0b]
                        have hN := hide (hnext.out hok1)
                        clear hok1 hnext hfin hok
                        go_wp2_with fail
                        refine (s1.out _).mono ?_
                        rintro e w5 ⟨rfl, hb5⟩
                        have hA := hA.below hb5
                        have g0 := hA.2 0 _ rfl
                        have g1 := hA.2 1 _ rfl
                        have g2 := hA.2 2 _ rfl
                        have hbz := hb.trans (hb5.mono hb.size)
                        have hU := hU.below hb5
                        have hI := hI.below hb5
                        clear hb5
                        go_wp2_with fail
                        exact ⟨⟨k + 1, d', by omega, by go_num, by rw [hM.out]; go_num, hbz, htr'.out.trans hst, hU, hI, hN.out⟩, by simp [intOf]; omega⟩
                    · have hz0b : (z == 0) = false := by simpa using hz0
                      have hok1 : ndOk T k = true := by rw [hok.out]; simp [hz0b]
                      have hN := hide (hnext.out hok1)
                      clear hok1 hnext hfin hok
                      go_wp2_with fail
                      refine (s1.out _).mono ?_
                      rintro e w5 ⟨rfl, hb5⟩
                      have hA := hA.below hb5
                      have g0 := hA.2 0 _ rfl
                      have g1 := hA.2 1 _ rfl
                      have g2 := hA.2 2 _ rfl
                      have hbz := hb.trans (hb5.mono hb.size)
                      have hU := hU.below hb5
                      have hI := hI.below hb5
                      clear hb5
                      go_wp2_with fail
                      exact ⟨⟨k + 1, d', by omega, by go_num, by rw [hM.out]; go_num, hbz, htr'.out.trans hst, hU, hI, hN.out⟩, by simp [intOf]; omega⟩
                  · have hvf : (v == 0) = false := by simpa using hv0
                    have hvn : (v != 0) = true := by simpa using hv0
                    rw [hvf] at hok
                    have hok1 : ndOk T k = false := by rw [hok.out]; simp
                    have hN := hide (hfin.out hok1)
                    clear hok1 hnext hfin hok
                    go_wp2_with fail
                    have hbz := hb
                    go_ret
                    exact ⟨ret_bool hN.out.symm, hbz⟩
    · have hk' : k = len := by omega
      subst hk'
      have hmk := manyTo_le T k
      have hF : Hid (trieB k T = decide ((manyTo T k : Int) ≤ 30)) := by
        show trieB k T = _
        rw [trieB_in hl1 hl, treeB_yS htr, Bool.true_and, ents_yS hall]
      clear hE htr hI hU hall
      go_wp2_with fail
      go_ret
      exact ⟨ret_bool hF.out.symm, hb⟩

theorem s_goodTrie (a0 : Option Addr) (len cap : Nat) (T : Nat → Nd) (w : World) (hl : len ≤ 1048576) (hE : RowT a0 len T w) :
    Calls Try.prog 26 #[.slice a0 len cap] w fun e w' => e = .returned (.bool (trieB len T)) ∧ Below w.heap.size w w' := by
  by_cases h : 1 ≤ len ∧ len ≤ 2000
  · exact s_goodTrie_in a0 len cap T w h.1 h.2 hE
  · rw [trieB_n h]
    have s0 := hide (fun w => s_in (len : Int) 1 2000 w)
    rw [inB_n (show ¬ ((1 : Int) ≤ (len : Int) ∧ (len : Int) ≤ 2000) by omega)] at s0
    go_enter Try.func26, Try.ntmps26
    go_wp2_with fail
    refine (s0.out _).mono ?_
    rintro e w0 ⟨rfl, rfl⟩
    go_wp2_with fail
    go_ret
    exact ⟨rfl, Below.refl _ _⟩
end Go.Proofs.Ytjmflkheaioboab
