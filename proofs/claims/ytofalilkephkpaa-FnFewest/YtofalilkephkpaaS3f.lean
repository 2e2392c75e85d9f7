/- What the specification's GoodSet answers. -/
import Derived.Test.YtofalilkephkpaaS3b
import Derived.Test.YtofalilkephkpaaPlain3e
namespace Go.Proofs.Ytofalilkephkpaa
open Go.RowKit

/-- Nothing is wrong between the prefix at i and the first k. -/
def rowTo (L : List Pf) (i k : Nat) : Bool := (List.range k).all fun j => i == j || !badB (tAt L i) (tAt L j)
def gsTo (L : List Pf) (i : Nat) : Bool := (List.range i).all (rowOk L)
theorem rowTo_next (L : List Pf) (i k : Nat) (h : rowTo L i k = true) : rowTo L i (k + 1) = (i == k || !badB (tAt L i) (tAt L k)) := by
  unfold rowTo at *
  rw [List.range_succ, List.all_append, h]
  simp
theorem gsTo_next (L : List Pf) (i : Nat) (h : gsTo L i = true) : gsTo L (i + 1) = rowOk L i := by
  unfold gsTo at *
  rw [List.range_succ, List.all_append, h]
  simp
theorem gs_bad {L : List Pf} {i k : Nat} (hi : i < L.length) (hk : k < L.length) (h : (i == k || !badB (tAt L i) (tAt L k)) = false) : gsB L = false := by
  cases hc : gsB L with
  | false => rfl
  | true =>
    unfold gsB at hc
    rw [List.all_eq_true] at hc
    have := hc i (List.mem_range.2 hi)
    unfold rowOk at this
    rw [Bool.and_eq_true, List.all_eq_true] at this
    have := this.1 k (List.mem_range.2 hk)
    rw [h] at this
    simp at this
theorem gs_bad2 {L : List Pf} {i : Nat} (hi : i < L.length) (h : (i == 0 || ltP (tAt L (i - 1)) (tAt L i)) = false) : gsB L = false := by
  cases hc : gsB L with
  | false => rfl
  | true =>
    unfold gsB at hc
    rw [List.all_eq_true] at hc
    have := hc i (List.mem_range.2 hi)
    unfold rowOk at this
    rw [Bool.and_eq_true, h] at this
    simp at this
theorem rowOk_of {L : List Pf} {i : Nat} (h : rowTo L i L.length = true) : rowOk L i = (i == 0 || ltP (tAt L (i - 1)) (tAt L i)) := by
  unfold rowOk
  unfold rowTo at h
  rw [h]
  rfl
theorem tp (L : List Pf) (i : Nat) : tAt L i = pAt L i := rfl

set_option maxRecDepth 100000 in
set_option maxHeartbeats 6400000 in
theorem s_goodSet_yes (a : Option Addr) (cap : Nat) (L : List Pf) (w : World) (hR : RowP a L w) (hg : goodL L = true) :
    Calls Try.prog 28 #[.slice a L.length cap] w fun e w' => e = .returned (.bool (gsB L)) ∧ Below w.heap.size w w' := by
  obtain ⟨g1, g2⟩ := goodL_parts hg
  have s1 := hide (fun w hR => s_l3Good a cap L w (by omega) hR)
  rw [hg] at s1
  clear hg
  have he := eqPrefix_run
  have hgu := eqPrefix_guard
  go_enter Try.func28, Try.ntmps28
  go_wp2_with fail
  refine (s1.out _ hR).mono ?_
  rintro e w1 ⟨rfl, hb1⟩
  have hR1 := hR.below hb1
  clear hR s1
  go_wp2_with fail
  go_loopw [3, 12] (fun _ i wr => ∃ n : Nat, n ≤ L.length ∧ i = .int .i64 n ∧ Below w1.heap.size w1 wr ∧ Hid (gsTo L n = true)) (fun _ i _ => L.length - (intOf i).toNat)
  case atStart => exact ⟨0, Nat.zero_le _, rfl, Below.refl _ _, hide rfl⟩
  case round =>
    obtain ⟨n, hn, rfl, hbo, hgs⟩ := hrel
    by_cases hlt : n < L.length
    · obtain ⟨b, off, rfl, hbw0, h0, h1⟩ := (hR1.below hbo) n hlt
      have hlt' : (n : Int) < (L.length : Int) := by omega
      have gi := g1 _ (pAt_mem hlt)
      have hgn := hide (gsTo_next L n hgs.out)
      have hro := hide (rowOk_of (L := L) (i := n))
      have hbad2 := hide (gs_bad2 hlt)
      have hbw := hb1.trans (hbo.mono hb1.size)
      have hRo := hR1.below hbo
      have hb1s := hb1.size
      have hIi : Hid (tAt L n = ((pAt L n).1, (pAt L n).2)) := rfl
      generalize hwi : wr = wi at *
      clear hwi
      have hBI0 : Bk (wi.alloc (.cells #[.int .i64 (pAt L n).1, .int .i64 (pAt L n).2] 34)) wi.heap.size #[.int .i64 (pAt L n).1, .int .i64 (pAt L n).2] 34 := Bk.new wi _ _
      have hbx : Below wi.heap.size wi (wi.alloc (.cells #[.int .i64 (pAt L n).1, .int .i64 (pAt L n).2] 34)) := below_box (Below.refl _ _)
      have hRx := hRo.below hbx
      have hbw := hbw.trans (hbx.mono hbw.size)
      have hbo := hbo.trans (hbx.mono hbo.size)
      generalize hia : (pAt L n).1 = ia at *
      generalize hil : (pAt L n).2 = il at *
      have hp : pAt L n = (ia, il) := Prod.ext hia hil
      have hpH := hide hp
      clear hia hil hRo hbx hgs
      go_wp2_with fail
      generalize wi.alloc (.cells #[.int .i64 ia, .int .i64 il] 34) = wx at *
      have hBI := hBI0
      clear hBI0
      go_loopw [5, 19] (fun _ i wr => ∃ k : Nat, k ≤ L.length ∧ i = .int .i64 k ∧ Below wx.heap.size wx wr ∧ Hid (rowTo L n k = true)) (fun _ i _ => L.length - (intOf i).toNat)
      case atStart => exact ⟨0, Nat.zero_le _, rfl, Below.refl _ _, hide rfl⟩
      case round =>
        obtain ⟨k, hk, rfl, hb, hrw⟩ := hrel
        by_cases hkl : k < L.length
        · obtain ⟨b', off', hbo', hbw2, i0, i1⟩ := (hRx.below hb) k hkl
          simp only [Option.some.injEq, Addr.mk.injEq, and_true] at hbo'
          obtain ⟨rfl, rfl⟩ := hbo'
          have hkl' : (k : Int) < (L.length : Int) := by omega
          have gk := g1 _ (pAt_mem hkl)
          have s2 := hide (fun w => cov_run gi gk w)
          have s3 := hide (fun h w => sib_run gi h w)
          have hN := hide (rowTo_next L n k hrw.out)
          have hFin0 := hide (gs_bad hlt hkl)
          rw [tp, tp] at hN hFin0
          rw [hpH.out] at s2 s3 hN hFin0
          have hqe : Hid (pAt L k = ((pAt L k).1, (pAt L k).2)) := rfl
          have hsb : Hid (isSib (ia, il) (pAt L k) = (decide (0 < il) && ((pAt L k).1 == (sibP (ia, il)).1 && (pAt L k).2 == (sibP (ia, il)).2))) := rfl
          have hbb : Hid (badB (ia, il) (pAt L k) = (covP (ia, il) (pAt L k) || isSib (ia, il) (pAt L k))) := rfl
          generalize hcv : covP (ia, il) (pAt L k) = cv at *
          generalize hsv : isSib (ia, il) (pAt L k) = sv at *
          generalize hbv : badB (ia, il) (pAt L k) = bv at *
          clear hcv hsv hbv gk
          generalize (pAt L k).1 = ka at *
          generalize (pAt L k).2 = kl at *
          generalize hsa : (sibP (ia, il)).1 = sa at *
          generalize hsl : (sibP (ia, il)).2 = sl at *
          clear hsa hsl hro hgn hbad2
          dsimp only at *
          by_cases hnk : n = k
          · have hnki : ((n : Int) != (k : Int)) = false := by simp [hnk]
            have hN2 : Hid (rowTo L n (k + 1) = true) := hide (hN.out.trans (by simp [hnk]))
            clear hnk hN hFin0
            go_wp2_with fail
            have hBi : Bk (wr.alloc (.cells #[.int .i64 ka, .int .i64 kl] 34)) wi.heap.size #[.int .i64 ia, .int .i64 il] 34 := (hBI.base hb (Bk.lt hBI)).below (below_box (Below.refl _ _))
            have k0 := cell_regrown ((hBi.cell 0).trans (show _ = some (.int .i64 ia) from rfl))
            have k1 := cell_regrown ((hBi.cell 1).trans (show _ = some (.int .i64 il) from rfl))
            have hBk : Bk (wr.alloc (.cells #[.int .i64 ka, .int .i64 kl] 34)) wr.heap.size #[.int .i64 ka, .int .i64 kl] 34 := Bk.new wr _ _
            have k2 := cell_regrown ((hBk.cell 0).trans (show _ = some (.int .i64 ka) from rfl))
            have k3 := cell_regrown ((hBk.cell 1).trans (show _ = some (.int .i64 kl) from rfl))
            refine wp_region_quiet_below (by kernel_rfl) (by kernel_rfl) ?_
            repeat (first | go_big_quiet_step (fail) | quiet_step (fail))
            refine wpQuiet_nil ?_
            intro _ hw'
            obtain ⟨⟨dq, osq⟩, hw''⟩ := hw'
            subst hw''
            have hq := below_regrown (wr.alloc (.cells #[.int .i64 ka, .int .i64 kl] 34)) dq osq
            generalize Go.Sort.grow (redrawn (wr.alloc (.cells #[.int .i64 ka, .int .i64 kl] 34)) dq) osq = wq at hq ⊢
            have hbq := hb.trans ((below_box hq).mono hb.size)
            clear hq k0 k1 k2 k3 hBi hBk
            go_wp2_with fail
            exact ⟨⟨k + 1, by omega, by go_num, hbq, hN2⟩, by simp [intOf]; omega⟩
          · have hnki : ((n : Int) != (k : Int)) = true := by simp; omega
            have hnkb : (n == k) = false := by simpa using hnk
            rw [hnkb] at hN hFin0
            simp only [Bool.false_or] at hN hFin0
            clear hnk hnkb
            cases cv with
            | true =>
              have hFin : Hid (gsB L = false) := hide (hFin0.out (by rw [hbb.out]; rfl))
              clear hN hFin0 s3
              go_wp2_with fail
              have hBi : Bk (wr.alloc (.cells #[.int .i64 ka, .int .i64 kl] 34)) wi.heap.size #[.int .i64 ia, .int .i64 il] 34 := (hBI.base hb (Bk.lt hBI)).below (below_box (Below.refl _ _))
              have k0 := cell_regrown ((hBi.cell 0).trans (show _ = some (.int .i64 ia) from rfl))
              have k1 := cell_regrown ((hBi.cell 1).trans (show _ = some (.int .i64 il) from rfl))
              have hBk : Bk (wr.alloc (.cells #[.int .i64 ka, .int .i64 kl] 34)) wr.heap.size #[.int .i64 ka, .int .i64 kl] 34 := Bk.new wr _ _
              have k2 := cell_regrown ((hBk.cell 0).trans (show _ = some (.int .i64 ka) from rfl))
              have k3 := cell_regrown ((hBk.cell 1).trans (show _ = some (.int .i64 kl) from rfl))
              refine wp_region_quiet_below (by kernel_rfl) (by kernel_rfl) ?_
              repeat (first | go_big_quiet_step (((first | (go_at_call 102; exact Calls.regrown_of (s2.out _))))) | quiet_step (((first | (go_at_call 102; exact Calls.regrown_of (s2.out _))))))
              refine wpQuiet_nil ?_
              intro _ hw'
              obtain ⟨⟨dq, osq⟩, hw''⟩ := hw'
              subst hw''
              have hq := below_regrown (wr.alloc (.cells #[.int .i64 ka, .int .i64 kl] 34)) dq osq
              generalize Go.Sort.grow (redrawn (wr.alloc (.cells #[.int .i64 ka, .int .i64 kl] 34)) dq) osq = wq at hq ⊢
              have hbq := hb.trans ((below_box hq).mono hb.size)
              clear hq k0 k1 k2 k3 hBi hBk
              go_wp2_with fail
              go_ret
              exact ⟨ret_bool hFin.out.symm, hbw.trans (hbq.mono hbw.size)⟩
            | false =>
              by_cases hil0 : 0 < il
              · have hd0 : decide (0 < il) = true := by simpa using hil0
                have s3 := hide (s3.out hil0)
                cases hv : (ka == sa && kl == sl) with
                | true =>
                  have hFin : Hid (gsB L = false) := hide (hFin0.out (by rw [hbb.out, hsb.out, hd0, hv]; rfl))
                  clear hN hFin0 hsb hbb
                  go_wp2_with fail
                  have hBi : Bk (wr.alloc (.cells #[.int .i64 ka, .int .i64 kl] 34)) wi.heap.size #[.int .i64 ia, .int .i64 il] 34 := (hBI.base hb (Bk.lt hBI)).below (below_box (Below.refl _ _))
                  have k0 := cell_regrown ((hBi.cell 0).trans (show _ = some (.int .i64 ia) from rfl))
                  have k1 := cell_regrown ((hBi.cell 1).trans (show _ = some (.int .i64 il) from rfl))
                  have hBk : Bk (wr.alloc (.cells #[.int .i64 ka, .int .i64 kl] 34)) wr.heap.size #[.int .i64 ka, .int .i64 kl] 34 := Bk.new wr _ _
                  have k2 := cell_regrown ((hBk.cell 0).trans (show _ = some (.int .i64 ka) from rfl))
                  have k3 := cell_regrown ((hBk.cell 1).trans (show _ = some (.int .i64 kl) from rfl))
                  refine wp_region_quiet_below (by kernel_rfl) (by kernel_rfl) ?_
                  repeat (first | go_big_quiet_step (((first | (go_at_call 102; exact Calls.regrown_of (s2.out _)) | (go_at_call 103; exact Calls.regrown_of (s3.out _))))) | quiet_step (((first | (go_at_call 102; exact Calls.regrown_of (s2.out _)) | (go_at_call 103; exact Calls.regrown_of (s3.out _))))))
                  refine wpQuiet_nil ?_
                  intro _ hw'
                  obtain ⟨⟨dq, osq⟩, hw''⟩ := hw'
                  subst hw''
                  have hq := below_regrown (wr.alloc (.cells #[.int .i64 ka, .int .i64 kl] 34)) dq osq
                  generalize Go.Sort.grow (redrawn (wr.alloc (.cells #[.int .i64 ka, .int .i64 kl] 34)) dq) osq = wq at hq ⊢
                  have hbq := hb.trans ((below_box hq).mono hb.size)
                  clear hq k0 k1 k2 k3 hBi hBk
                  go_wp2_with fail
                  go_ret
                  exact ⟨ret_bool hFin.out.symm, hbw.trans (hbq.mono hbw.size)⟩
                | false =>
                  have hN2 : Hid (rowTo L n (k + 1) = true) := hide (hN.out.trans (by rw [hbb.out, hsb.out, hd0, hv]; rfl))
                  clear hN hFin0 hsb hbb
                  go_wp2_with fail
                  have hBi : Bk (wr.alloc (.cells #[.int .i64 ka, .int .i64 kl] 34)) wi.heap.size #[.int .i64 ia, .int .i64 il] 34 := (hBI.base hb (Bk.lt hBI)).below (below_box (Below.refl _ _))
                  have k0 := cell_regrown ((hBi.cell 0).trans (show _ = some (.int .i64 ia) from rfl))
                  have k1 := cell_regrown ((hBi.cell 1).trans (show _ = some (.int .i64 il) from rfl))
                  have hBk : Bk (wr.alloc (.cells #[.int .i64 ka, .int .i64 kl] 34)) wr.heap.size #[.int .i64 ka, .int .i64 kl] 34 := Bk.new wr _ _
                  have k2 := cell_regrown ((hBk.cell 0).trans (show _ = some (.int .i64 ka) from rfl))
                  have k3 := cell_regrown ((hBk.cell 1).trans (show _ = some (.int .i64 kl) from rfl))
                  refine wp_region_quiet_below (by kernel_rfl) (by kernel_rfl) ?_
                  repeat (first | go_big_quiet_step (((first | (go_at_call 102; exact Calls.regrown_of (s2.out _)) | (go_at_call 103; exact Calls.regrown_of (s3.out _))))) | quiet_step (((first | (go_at_call 102; exact Calls.regrown_of (s2.out _)) | (go_at_call 103; exact Calls.regrown_of (s3.out _))))))
                  refine wpQuiet_nil ?_
                  intro _ hw'
                  obtain ⟨⟨dq, osq⟩, hw''⟩ := hw'
                  subst hw''
                  have hq := below_regrown (wr.alloc (.cells #[.int .i64 ka, .int .i64 kl] 34)) dq osq
                  generalize Go.Sort.grow (redrawn (wr.alloc (.cells #[.int .i64 ka, .int .i64 kl] 34)) dq) osq = wq at hq ⊢
                  have hbq := hb.trans ((below_box hq).mono hb.size)
                  clear hq k0 k1 k2 k3 hBi hBk
                  go_wp2_with fail
                  exact ⟨⟨k + 1, by omega, by go_num, hbq, hN2⟩, by simp [intOf]; omega⟩
              · have hd0 : decide (0 < il) = false := by simpa using hil0
                have hN2 : Hid (rowTo L n (k + 1) = true) := hide (hN.out.trans (by rw [hbb.out, hsb.out, hd0]; rfl))
                clear hN hFin0 hsb hbb s3
                go_wp2_with fail
                have hBi : Bk (wr.alloc (.cells #[.int .i64 ka, .int .i64 kl] 34)) wi.heap.size #[.int .i64 ia, .int .i64 il] 34 := (hBI.base hb (Bk.lt hBI)).below (below_box (Below.refl _ _))
                have k0 := cell_regrown ((hBi.cell 0).trans (show _ = some (.int .i64 ia) from rfl))
                have k1 := cell_regrown ((hBi.cell 1).trans (show _ = some (.int .i64 il) from rfl))
                have hBk : Bk (wr.alloc (.cells #[.int .i64 ka, .int .i64 kl] 34)) wr.heap.size #[.int .i64 ka, .int .i64 kl] 34 := Bk.new wr _ _
                have k2 := cell_regrown ((hBk.cell 0).trans (show _ = some (.int .i64 ka) from rfl))
                have k3 := cell_regrown ((hBk.cell 1).trans (show _ = some (.int .i64 kl) from rfl))
                refine wp_region_quiet_below (by kernel_rfl) (by kernel_rfl) ?_
                repeat (first | go_big_quiet_step (((first | (go_at_call 102; exact Calls.regrown_of (s2.out _))))) | quiet_step (((first | (go_at_call 102; exact Calls.regrown_of (s2.out _))))))
                refine wpQuiet_nil ?_
                intro _ hw'
                obtain ⟨⟨dq, osq⟩, hw''⟩ := hw'
                subst hw''
                have hq := below_regrown (wr.alloc (.cells #[.int .i64 ka, .int .i64 kl] 34)) dq osq
                generalize Go.Sort.grow (redrawn (wr.alloc (.cells #[.int .i64 ka, .int .i64 kl] 34)) dq) osq = wq at hq ⊢
                have hbq := hb.trans ((below_box hq).mono hb.size)
                clear hq k0 k1 k2 k3 hBi hBk
                go_wp2_with fail
                exact ⟨⟨k + 1, by omega, by go_num, hbq, hN2⟩, by simp [intOf]; omega⟩
        · have hk' : k = L.length := by omega
          subst hk'
          have hro2 := hide (hro.out hrw.out)
          have hBr := hBI.base hb hBI.lt
          have k0 := cell_regrown ((hBr.cell 0).trans (show _ = some (.int .i64 ia) from rfl))
          have k1 := cell_regrown ((hBr.cell 1).trans (show _ = some (.int .i64 il) from rfl))
          have hRr := hRx.below hb
          clear hro hrw hRx
          by_cases hn0 : n = 0
          · subst hn0
            have hG2 : Hid (gsTo L (0 + 1) = true) := hide (hgn.out.trans (hro2.out.trans rfl))
            clear hbad2 hgn hro2 hRr
            go_wp2_with fail
            refine wp_region_quiet_below (by kernel_rfl) (by kernel_rfl) ?_
            repeat (first | go_big_quiet_step (fail) | quiet_step (fail))
            refine wpQuiet_nil ?_
            intro _ hw'
            obtain ⟨⟨dq, osq⟩, hw''⟩ := hw'
            subst hw''
            have hq := below_regrown (wr) dq osq
            generalize Go.Sort.grow (redrawn (wr) dq) osq = wq at hq ⊢
            have hbq := hbo.trans ((hb.trans (hq.mono hb.size)).mono (by have := hbo.size; omega))
            go_wp2_with fail
            exact ⟨⟨0 + 1, by omega, by go_num, hbq, hG2⟩, by simp [intOf]; omega⟩
          · obtain ⟨m, rfl⟩ : ∃ m, n = m + 1 := ⟨n - 1, by omega⟩
            obtain ⟨b', off', hbo', hbw2, i0, i1⟩ := hRr m (by omega)
            simp only [Option.some.injEq, Addr.mk.injEq, and_true] at hbo'
            obtain ⟨rfl, rfl⟩ := hbo'
            have hm0 : (0 : Int) < (m : Int) + 1 := by omega
            have hmlt : (m : Int) < (L.length : Int) := by omega
            have s4 := hide (fun w => s_compare1 (pAt L m).1 (pAt L m).2 ia il w)
            have k2 := cell_regrown i0
            have k3 := cell_regrown i1
            have e1 : (m + 1 == 0) = false := by simp
            have e2 : m + 1 - 1 = m := by omega
            rw [e1, e2, tp, tp] at hro2 hbad2
            rw [hpH.out] at hro2 hbad2
            simp only [Bool.false_or] at hro2 hbad2
            have hlp : Hid (ltP (pAt L m) (ia, il) = decide (cmpP (pAt L m).1 (pAt L m).2 ia il < 0)) := rfl
            by_cases hc : cmpP (pAt L m).1 (pAt L m).2 ia il < 0
            · have hcd : decide (0 ≤ cmpP (pAt L m).1 (pAt L m).2 ia il) = false := by simp; omega
              have hG2 : Hid (gsTo L (m + 1 + 1) = true) := hide (hgn.out.trans (hro2.out.trans (hlp.out.trans (decide_eq_true hc))))
              clear hn0 hbad2 hgn hro2 hRr hlp hc i0 i1 e1 e2
              generalize cmpP (pAt L m).1 (pAt L m).2 ia il = r at *
              generalize (pAt L m).1 = ma at *
              generalize (pAt L m).2 = ml at *
              go_wp2_with fail
              refine wp_region_quiet_below (by kernel_rfl) (by kernel_rfl) ?_
              repeat (first | go_big_quiet_step (((first | (go_at_call 104; exact Calls.regrown_of (s4.out _))))) | quiet_step (((first | (go_at_call 104; exact Calls.regrown_of (s4.out _))))))
              refine wpQuiet_nil ?_
              intro _ hw'
              obtain ⟨⟨dq, osq⟩, hw''⟩ := hw'
              subst hw''
              have hq := below_regrown (wr) dq osq
              generalize Go.Sort.grow (redrawn (wr) dq) osq = wq at hq ⊢
              have hbq := hbo.trans ((hb.trans (hq.mono hb.size)).mono (by have := hbo.size; omega))
              go_wp2_with fail
              exact ⟨⟨m + 1 + 1, by omega, by go_num, hbq, hG2⟩, by simp [intOf]; omega⟩
            · have hcd : decide (0 ≤ cmpP (pAt L m).1 (pAt L m).2 ia il) = true := by simp; omega
              have hFin : Hid (gsB L = false) := hide (hbad2.out (hlp.out.trans (decide_eq_false hc)))
              clear hn0 hbad2 hgn hro2 hRr hlp hc i0 i1 e1 e2
              generalize cmpP (pAt L m).1 (pAt L m).2 ia il = r at *
              generalize (pAt L m).1 = ma at *
              generalize (pAt L m).2 = ml at *
              go_wp2_with fail
              refine wp_region_quiet_below (by kernel_rfl) (by kernel_rfl) ?_
              repeat (first | go_big_quiet_step (((first | (go_at_call 104; exact Calls.regrown_of (s4.out _))))) | quiet_step (((first | (go_at_call 104; exact Calls.regrown_of (s4.out _))))))
              refine wpQuiet_nil ?_
              intro _ hw'
              obtain ⟨⟨dq, osq⟩, hw''⟩ := hw'
              subst hw''
              have hq := below_regrown (wr) dq osq
              generalize Go.Sort.grow (redrawn (wr) dq) osq = wq at hq ⊢
              have hbq := hbw.trans ((hb.trans (hq.mono hb.size)).mono (by have := hbw.size; omega))
              go_wp2_with fail
              go_ret
              exact ⟨ret_bool hFin.out.symm, hbq⟩
    · have hn' : n = L.length := by omega
      subst hn'
      have hFin : Hid (gsB L = true) := hgs
      clear hR1 hgs
      go_wp2_with fail
      go_ret
      exact ⟨ret_bool hFin.out.symm, hb1.trans (hbo.mono hb1.size)⟩
set_option maxRecDepth 100000 in
set_option maxHeartbeats 800000 in
theorem s_goodSet (a : Option Addr) (cap : Nat) (L : List Pf) (w : World) (hl : L.length ≤ 8589934592) (hR : RowP a L w) :
    Calls Try.prog 28 #[.slice a L.length cap] w fun e w' => e = .returned (.bool (goodL L && gsB L)) ∧ Below w.heap.size w w' := by
  cases hg : goodL L with
  | true =>
    rw [Bool.true_and]
    exact s_goodSet_yes a cap L w hR hg
  | false =>
    have s1 := hide (fun w hR => s_l3Good a cap L w hl hR)
    rw [hg] at s1
    go_enter Try.func28, Try.ntmps28
    go_wp2_with fail
    refine (s1.out _ hR).mono ?_
    rintro e w1 ⟨rfl, hb1⟩
    go_wp2_with fail
    go_ret
    exact ⟨rfl, hb1⟩
end Go.Proofs.Ytofalilkephkpaa
