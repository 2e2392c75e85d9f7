/- WeightOf of the program. -/
import Derived.Test.YteifconelofojaaLnk9c
import Derived.Test.YteifconelofojaaI9d
namespace Go.Proofs.Yteifconelofojaa
open Go.RowKit

theorem keepG {w0 w' : World} {p q o1 o2 : Nat} {a b c : Value} (h : Below w0.heap.size w0 w') (hp : p < w0.heap.size) (hq : q < w0.heap.size) (k0 : w0.cell? ⟨p, 0, none⟩ = some a) (k1 : w0.cell? ⟨q, o1, none⟩ = some b) (k2 : w0.cell? ⟨q, o2, none⟩ = some c) :
    w'.cell? ⟨p, 0, none⟩ = some a ∧ w'.cell? ⟨q, o1, none⟩ = some b ∧ w'.cell? ⟨q, o2, none⟩ = some c :=
  ⟨((bcell h).1 _ _ hp).trans k0, ((bcell h).1 _ _ hq).trans k1, ((bcell h).1 _ _ hq).trans k2⟩
theorem keepGs {w0 w' : World} {p q o1 o2 : Nat} {a b c : Value} (h : Below w0.heap.size w0 w') (hp : p < w0.heap.size) (hq : q < w0.heap.size) (k0 : w0.cell? ⟨p, 0, none⟩ = some a) (k1 : w0.cell? ⟨q, o1, none⟩ = some b) (k2 : w0.cell? ⟨q, o2, none⟩ = some c) (z : Nat) (hz : w0.heap.size ≤ z) (v0 v1 v2 : Value) :
    (((w'.setCell ⟨z, 0, none⟩ v0).setCell ⟨z, 1, none⟩ v1).setCell ⟨z, 2, none⟩ v2).cell? ⟨p, 0, none⟩ = some a ∧ (((w'.setCell ⟨z, 0, none⟩ v0).setCell ⟨z, 1, none⟩ v1).setCell ⟨z, 2, none⟩ v2).cell? ⟨q, o1, none⟩ = some b ∧ (((w'.setCell ⟨z, 0, none⟩ v0).setCell ⟨z, 1, none⟩ v1).setCell ⟨z, 2, none⟩ v2).cell? ⟨q, o2, none⟩ = some c :=
  keepG (((h.setCell (p := ⟨z, 0, none⟩) hz v0).setCell (p := ⟨z, 1, none⟩) hz v1).setCell (p := ⟨z, 2, none⟩) hz v2) hp hq k0 k1 k2
set_option maxRecDepth 100000 in
set_option maxHeartbeats 6400000 in
theorem i_weightOf (g : Int) (a : Option Addr) (m c : Nat) (T : Nat → Lc) (ra : Option Addr) (n rc : Nat) (f0 f1 f2 : Nat → Int) (pa : Option Addr) (pn pc : Nat) (pf : Nat → Int) (w : World) (hm : m ≤ 1048576) (hl : LowL m T) (hR : RowLL a m T w) (hn : n ≤ 1048576) (hA : RowArc ra n f0 f1 f2 w) (hp : pn ≤ 1048576) (hpc : pn ≤ pc) (hP : RowInt pa pn pf w) :
    Calls Try.prog 35 #[.agg #[.int .i64 g, .slice a m c], .slice ra n rc, .slice pa pn pc] w fun e w' => e = .returned (.tuple #[.int .i64 ((wgR g m T n f0 f1 f2 pn pf).getD 0), .bool (wgR g m T n f0 f1 f2 pn pf).isSome]) ∧ Below w.heap.size w w' := by
  have hNo : Hid (¬ (NA g m T n f0 f1 f2 ∧ PathOk pn pf) → wgR g m T n f0 f1 f2 pn pf = none) := fun h => by unfold wgR; rw [pB_f h]; simp
  have hYes : Hid (NA g m T n f0 f1 f2 ∧ PathOk pn pf → wgR g m T n f0 f1 f2 pn pf = wt9 (fun x y => lab9 f0 f1 f2 x y n) T pn pf (pn - 1)) := fun h => by unfold wgR; rw [pB_t h]; simp
  generalize wgR g m T n f0 f1 f2 pn pf = rr at *
  have SA := hide (fun w R A => i_goodNet g a m c T ra n rc f0 f1 f2 w hm hl R hn A)
  have SU := hide (fun w R => i_unlike pa pn pc pf w hp hpc R)
  have MX := Mut.new w #[.int .i64 g, .slice a m c] 27
  have dX : Below w.heap.size w (w.alloc (.cells #[.int .i64 g, .slice a m c] 27)) := below_box (Below.refl _ _)
  have c0 := MX.2.1 0 _ rfl
  have c1 := MX.2.1 1 _ rfl
  by_cases hNA : NA g m T n f0 f1 f2
  · rw [show naB g m T n f0 f1 f2 = true from pB_t hNA] at SA
    by_cases hOk : PathOk pn pf
    · rw [pB_t hOk] at SU
      have hV := hide (hYes.out ⟨hNA, hOk⟩)
      have LO := hide (fun w R A => i_linksOf g a m c T ra n rc f0 f1 f2 w hNA R A)
      have hpi : (pn : Int) ≤ 6 := by have := hOk.2.1; omega
      have hp1 : 1 ≤ pn := hOk.1
      clear hNo hYes
      go_enter Try.func35, Try.ntmps35
      go_wp2_with fail
      generalize w.alloc (.cells #[.int .i64 g, .slice a m c] 27) = wx at *
      refine (SA.out _ (hR.below dX) (hA.below dX)).mono ?_
      rintro e w1 ⟨rfl, b1⟩
      replace MX := MX.below b1
      replace dX := dX.trans (b1.mono dX.size)
      replace c0 := MX.2.1 0 _ rfl
      replace c1 := MX.2.1 1 _ rfl
      clear b1 SA
      go_wp2_with fail
      refine (SU.out _ (hP.below dX)).mono ?_
      rintro e w2 ⟨rfl, b2⟩
      replace MX := MX.below b2
      replace dX := dX.trans (b2.mono dX.size)
      replace c0 := MX.2.1 0 _ rfl
      replace c1 := MX.2.1 1 _ rfl
      clear b2 SU
      go_wp2_with fail
      refine (LO.out _ (hR.below dX) (hA.below dX)).mono ?_
      rintro e w3 ⟨va, vc, P, rfl, hLk, hLab, b3⟩
      replace dX := dX.trans (b3.mono dX.size)
      clear b3 LO c0 c1 MX
      obtain ⟨pb, po, hpa, hpb, _⟩ := hP 0 (by omega)
      subst hpa
      have hfind := hide (fun x y => lk9_find f0 f1 x y n)
      have hkl20 := hide (Nat.le_trans (lk9_len f0 f1 n) hNA.2.1)
      generalize lk9 f0 f1 n = ks at *
      have dK : Below w3.heap.size w3 (w3.alloc (.cells #[.slice va ks.length vc] 126)) := below_box (Below.refl _ _)
      have MK := Mut.new w3 #[.slice va ks.length vc] 126
      go_wp2_with fail
      have hLk4 := hLk.below dK
      have hLab4 : ∀ k, k < m → LabF (P k) (T k) (w3.alloc (.cells #[.slice va ks.length vc] 126)) := fun k hk => (hLab k hk).below dK
      have dX4 := dX.trans (dK.mono dX.size)
      clear hLk hLab dK dX
      generalize w3.alloc (.cells #[.slice va ks.length vc] 126) = w4 at *
      generalize w3.heap.size = bK at *
      go_loopw [6, 7, 9, 10] (fun _ _ y z wr => ∃ (q : Nat) (x : Int), y = .int .i64 x ∧ z = .int .i64 ((pn : Int) - 1 - q) ∧ q ≤ pn - 1 ∧ 0 ≤ x ∧ x < g ∧ Hid (wt9 (fun x y => lab9 f0 f1 f2 x y n) T pn pf q = some x) ∧ Below w4.heap.size w4 wr) (fun _ _ _ z _ => (intOf z).toNat)
      case atStart => exact ⟨0, 0, rfl, by simp, Nat.zero_le _, Int.le_refl _, by have := hNA.1.1; omega, rfl, Below.refl _ _⟩
      case round =>
        obtain ⟨q, xx, rfl, rfl, hq, hx0, hx1, hw9, hd⟩ := hrel
        have dQ := dX4.trans (hd.mono dX4.size)
        by_cases hlt : q < pn - 1
        · obtain ⟨j, hj⟩ : ∃ j : Nat, j = pn - 2 - q := ⟨_, rfl⟩
          obtain ⟨jj, hjj⟩ : ∃ jj : Nat, jj = j + 1 := ⟨_, rfl⟩
          have hz : (pn : Int) - 1 - q = (jj : Int) := by omega
          have hj1 : pn - 2 - q = j := hj.symm
          have hj2 : pn - 1 - q = jj := by omega
          obtain ⟨b', off', hab, hbw, u0⟩ := hP j (by omega)
          obtain ⟨b2, off2, hab2, hbw2, u1⟩ := hP jj (by omega)
          simp only [Option.some.injEq, Addr.mk.injEq, and_true] at hab hab2
          obtain ⟨rfl, rfl⟩ := hab
          obtain ⟨rfl, rfl⟩ := hab2
          have k1 := (dQ.cell (p := ⟨pb, po + j, none⟩) hbw).trans u0
          have k2 := (dQ.cell (p := ⟨pb, po + jj, none⟩) hbw).trans u1
          have MK1 := MK.below hd
          have k0 := MK1.2.1 0 _ rfl
          have hl1 : bK < wr.heap.size := MK1.1
          have hl2 : pb < wr.heap.size := by have := dQ.size; omega
          have hsub : (jj : Int) - 1 = (j : Int) := by omega
          have hwj : IntKind.i64.wrap (j : Int) = (j : Int) := wrapk_in _ (by omega)
          have hjl : (j : Int) < (pn : Int) := by omega
          have hjl1 : (jj : Int) < (pn : Int) := by omega
          have hjg : (jj : Int) > 0 := by omega
          have hq1 : (pn : Int) - 1 - ((q + 1 : Nat) : Int) = (j : Int) := by omega
          have hms : (j : Int).toNat < (jj : Int).toNat := by omega
          have hSu : Hid (wt9 (fun x y => lab9 f0 f1 f2 x y n) T pn pf (q + 1) = if lab9 f0 f1 f2 (pf j) (pf jj) n < 0 then none else some (ap9 T (lab9 f0 f1 f2 (pf j) (pf jj) n) xx)) := by
            show wt9 _ T pn pf (q + 1) = _
            rw [wt9_succ, hw9.out, hj1, hj2]
          have hfn := hide (hfind.out (pf j) (pf jj))
          have hLd9 := hide (hLk4.below hd)
          have hlab : lab9 f0 f1 f2 (pf j) (pf jj) n = match fst9 f0 f1 (pf j) (pf jj) n with | some i => f2 i | none => -1 := rfl
          rw [hz]
          clear hj hjj hj1 hj2 hw9 u0 u1 hz
          generalize pf j = x at *
          generalize pf jj = y at *
          cases hfs : fst9 f0 f1 x y n with
          | none =>
            have hfl : fl9 f0 f1 x y ks = none := hfn.out.trans hfs
            rw [hfs] at hlab
            have hE : Hid (rr = none) := by
              show rr = none
              rw [hV.out]
              exact wt9_none (k := q + 1) (by rw [hSu.out, hlab]; rfl) _ (by omega)
            clear hSu hV hlab hfs hR hA hOk
            go_wp2_with fail
            go_cut [9, 10, 11, 12] from 28 to 52 (fun x9 x10 x11 x12 wq => x9 = .int .i64 xx ∧ x10 = .int .i64 jj ∧ x12 = .bool false ∧ (∃ q : Nat, x11 = .pointer (some ⟨q, 0, none⟩)) ∧ Below wr.heap.size wr wq)
            case first =>
              have LD := hide (fun w => i_leadsE x y w)
              have FI := hide (fun p q w R L => i_first va vc ks f0 f1 f2 P p q x y w hkl20.out R L)
              rw [hfl] at FI
              simp only [frV] at FI
              have dZ : Below wr.heap.size wr wr := Below.refl _ _
              have hkd := keepG dZ.drew hl1 hl2 k0 k1 k2
              have hka := fun o => keepG (dZ.alloc dZ.size o) hl1 hl2 k0 k1 k2
              have hkad := fun o => keepG (dZ.alloc dZ.size o).drew hl1 hl2 k0 k1 k2
              go_region_held3 (fun w' => w'.cell? ⟨bK, 0, none⟩ = some (.slice va ks.length vc) ∧ w'.cell? ⟨pb, po + j, none⟩ = some (.int .i64 x) ∧ w'.cell? ⟨pb, po + jj, none⟩ = some (.int .i64 y)) (first | with_reducible exact hkf | with_reducible exact hkfa _ | with_reducible exact hkfs _ dl.size _ _ _ | with_reducible exact hkfs _ (Nat.le_refl _) _ _ _ | with_reducible exact hkl | with_reducible exact hkla _ | with_reducible exact hkld | with_reducible exact hka _ | with_reducible exact hkad _ | with_reducible exact hkd)
                (first
                  | (go_at_call 89; refine (LD.out _).mono ?_; rintro e wl ⟨pl, ql, rfl, hLd, bl⟩; have dl : Below wr.heap.size wr wl := (by first | with_reducible exact below_step dZ bl | with_reducible exact below_step dZ.drew bl | with_reducible exact below_step (dZ.alloc dZ.size _) bl | with_reducible exact below_step (dZ.alloc dZ.size _).drew bl | with_reducible exact below_step ((dZ.drew).alloc dZ.size _) bl | with_reducible exact below_step ((dZ.drew).alloc dZ.size _).drew bl); (first | (with_reducible have MZl := (Mut.new wr #[.int .i64 0, .int .i64 0, .nilFunc] 133).below bl) | (with_reducible have MZl := (Mut.newD wr #[.int .i64 0, .int .i64 0, .nilFunc] 133).below bl) | (with_reducible have MZl := (Mut.new wr #[.int .i64 0, .int .i64 0, .nilFunc] 133).drew.below bl) | skip); have hkl := keepG dl hl1 hl2 k0 k1 k2; have hkld := keepG dl.drew hl1 hl2 k0 k1 k2; have hkla := fun o => keepG (dl.alloc dl.size o) hl1 hl2 k0 k1 k2)
                  | (go_at_call 88; refine (FI.out _ _ _ (hLd9.out.below (by first | with_reducible exact dl | with_reducible exact dl.drew | with_reducible exact (dl.alloc dl.size _) | with_reducible exact (dl.alloc dl.size _).drew | with_reducible exact ((dl.drew).alloc dl.size _) | with_reducible exact ((dl.drew).alloc dl.size _).drew)) (hLd.below (by first | with_reducible exact Below.refl _ _ | with_reducible exact (Below.refl _ _).drew | with_reducible exact below_box (Below.refl _ _) | with_reducible exact (below_box (Below.refl _ _)).drew | with_reducible exact below_drew0 (below_box (Below.refl _ _))))).mono ?_; rintro e wf ⟨rfl, bf⟩; have df : Below wr.heap.size wr wf := (by first | with_reducible exact below_step dl bf | with_reducible exact below_step dl.drew bf | with_reducible exact below_step (dl.alloc dl.size _) bf | with_reducible exact below_step (dl.alloc dl.size _).drew bf | with_reducible exact below_step ((dl.drew).alloc dl.size _) bf | with_reducible exact below_step ((dl.drew).alloc dl.size _).drew bf); (first | (with_reducible have MZf := MZl.below bf) | (with_reducible have MZf := MZl.drew.below bf) | (with_reducible have MZf := (Mut.new wl #[.int .i64 0, .int .i64 0, .nilFunc] 133).below bf) | (with_reducible have MZf := (Mut.newD wl #[.int .i64 0, .int .i64 0, .nilFunc] 133).below bf) | (with_reducible have MZf := (Mut.new wl #[.int .i64 0, .int .i64 0, .nilFunc] 133).drew.below bf) | skip); (first | (have z0 := MZf.2.1 0 _ rfl; have z1 := MZf.2.1 1 _ rfl; have z2 := MZf.2.1 2 _ rfl; have y0 := MZf.2.2 0 (by simp); have y1 := MZf.2.2 1 (by simp); have y2 := MZf.2.2 2 (by simp)) | skip); have hkf := keepG df hl1 hl2 k0 k1 k2; have hkfa := fun o => keepG (df.alloc df.size o) hl1 hl2 k0 k1 k2; have hkfs := keepGs df hl1 hl2 k0 k1 k2))
              all_goals (try go_wp2_with fail)
              all_goals go_meet
              all_goals (refine ⟨rfl, rfl, rfl, ⟨_, rfl⟩, ?_⟩; (first | with_reducible exact df.alloc df.size _ | with_reducible exact (df.alloc df.size _).drew | with_reducible exact (((df.setCell dl.size _).setCell dl.size _).setCell dl.size _) | with_reducible exact (((df.setCell (Nat.le_refl _) _).setCell (Nat.le_refl _) _).setCell (Nat.le_refl _) _)))
            case rest =>
              obtain ⟨rfl, rfl, rfl, ⟨q9, rfl⟩, bq⟩ := hcut
              go_wp2_with fail
              go_ret2
              exact ⟨by rw [hE.out]; rfl, dQ.trans (bq.mono dQ.size)⟩
          | some i =>
            have hfl : fl9 f0 f1 x y ks = some i := hfn.out.trans hfs
            have hAr := hNA.2.2 i (fst9_some.1 hfs).1
            rw [hfs] at hlab
            obtain ⟨zn, hzn⟩ : ∃ zn : Nat, f2 i = zn := ⟨(f2 i).toNat, by have := hAr.2.2.2.2.2.1; omega⟩
            have hzm : zn < m := by have := hAr.2.2.2.2.2.2; omega
            have hrow := hNA.1.2.2.2.2 zn hzm
            have hap := ap9_ok hNA.1 (k := (zn : Int)) (x := xx) (by omega) (by omega) hx0 hx1
            have hN : Hid (wt9 (fun x y => lab9 f0 f1 f2 x y n) T pn pf (q + 1) = some (ap9 T zn xx)) := by
              show wt9 _ T pn pf (q + 1) = _
              rw [hSu.out, hlab]
              simp only [hzn]
              rw [if_neg (by omega)]
            have hapE : ap9 T (zn : Int) xx = (T zn).f xx.toNat := rfl
            rw [hapE] at hap hN
            have LZ := hide (fun w h => i_labelZ (P zn) (T zn) xx w hx0 (by have := hrow.1; omega) (hNA.1.low zn hzm) h)
            have hLF := hide ((hLab4 zn hzm).below hd)
            have hPz : P (f2 i).toNat = P zn := by rw [hzn, Int.toNat_natCast]
            clear hSu hV hlab hfs hR hA hOk hAr hrow hapE
            generalize (T zn).f xx.toNat = yy at *
            go_wp2_with fail
            go_cut [9, 10, 11, 12] from 28 to 52 (fun x9 x10 x11 x12 wq => x9 = .int .i64 xx ∧ x10 = .int .i64 jj ∧ x12 = .bool true ∧ (∃ q : Nat, x11 = .pointer (some ⟨q, 0, none⟩) ∧ wq.cell? ⟨q, 2, none⟩ = some (.func (.func 169) #[] #[.pointer (some ⟨P zn, 0, none⟩)])) ∧ Below wr.heap.size wr wq)
            case first =>
              have LD := hide (fun w => i_leadsE x y w)
              have FI := hide (fun p q w R L => i_first va vc ks f0 f1 f2 P p q x y w hkl20.out R L)
              rw [hfl] at FI
              simp only [frV, labV] at FI
              have dZ : Below wr.heap.size wr wr := Below.refl _ _
              have hkd := keepG dZ.drew hl1 hl2 k0 k1 k2
              have hka := fun o => keepG (dZ.alloc dZ.size o) hl1 hl2 k0 k1 k2
              have hkad := fun o => keepG (dZ.alloc dZ.size o).drew hl1 hl2 k0 k1 k2
              rw [hPz] at FI
              generalize f0 i = lf at *
              generalize f1 i = lt at *
              go_region_held3 (fun w' => w'.cell? ⟨bK, 0, none⟩ = some (.slice va ks.length vc) ∧ w'.cell? ⟨pb, po + j, none⟩ = some (.int .i64 x) ∧ w'.cell? ⟨pb, po + jj, none⟩ = some (.int .i64 y)) (first | with_reducible exact hkf | with_reducible exact hkfa _ | with_reducible exact hkfs _ dl.size _ _ _ | with_reducible exact hkfs _ (Nat.le_refl _) _ _ _ | with_reducible exact hkl | with_reducible exact hkla _ | with_reducible exact hkld | with_reducible exact hka _ | with_reducible exact hkad _ | with_reducible exact hkd)
                (first
                  | (go_at_call 89; refine (LD.out _).mono ?_; rintro e wl ⟨pl, ql, rfl, hLd, bl⟩; have dl : Below wr.heap.size wr wl := (by first | with_reducible exact below_step dZ bl | with_reducible exact below_step dZ.drew bl | with_reducible exact below_step (dZ.alloc dZ.size _) bl | with_reducible exact below_step (dZ.alloc dZ.size _).drew bl | with_reducible exact below_step ((dZ.drew).alloc dZ.size _) bl | with_reducible exact below_step ((dZ.drew).alloc dZ.size _).drew bl); (first | (with_reducible have MZl := (Mut.new wr #[.int .i64 0, .int .i64 0, .nilFunc] 133).below bl) | (with_reducible have MZl := (Mut.newD wr #[.int .i64 0, .int .i64 0, .nilFunc] 133).below bl) | (with_reducible have MZl := (Mut.new wr #[.int .i64 0, .int .i64 0, .nilFunc] 133).drew.below bl) | skip); have hkl := keepG dl hl1 hl2 k0 k1 k2; have hkld := keepG dl.drew hl1 hl2 k0 k1 k2; have hkla := fun o => keepG (dl.alloc dl.size o) hl1 hl2 k0 k1 k2)
                  | (go_at_call 88; refine (FI.out _ _ _ (hLd9.out.below (by first | with_reducible exact dl | with_reducible exact dl.drew | with_reducible exact (dl.alloc dl.size _) | with_reducible exact (dl.alloc dl.size _).drew | with_reducible exact ((dl.drew).alloc dl.size _) | with_reducible exact ((dl.drew).alloc dl.size _).drew)) (hLd.below (by first | with_reducible exact Below.refl _ _ | with_reducible exact (Below.refl _ _).drew | with_reducible exact below_box (Below.refl _ _) | with_reducible exact (below_box (Below.refl _ _)).drew | with_reducible exact below_drew0 (below_box (Below.refl _ _))))).mono ?_; rintro e wf ⟨rfl, bf⟩; have df : Below wr.heap.size wr wf := (by first | with_reducible exact below_step dl bf | with_reducible exact below_step dl.drew bf | with_reducible exact below_step (dl.alloc dl.size _) bf | with_reducible exact below_step (dl.alloc dl.size _).drew bf | with_reducible exact below_step ((dl.drew).alloc dl.size _) bf | with_reducible exact below_step ((dl.drew).alloc dl.size _).drew bf); (first | (with_reducible have MZf := MZl.below bf) | (with_reducible have MZf := MZl.drew.below bf) | (with_reducible have MZf := (Mut.new wl #[.int .i64 0, .int .i64 0, .nilFunc] 133).below bf) | (with_reducible have MZf := (Mut.newD wl #[.int .i64 0, .int .i64 0, .nilFunc] 133).below bf) | (with_reducible have MZf := (Mut.new wl #[.int .i64 0, .int .i64 0, .nilFunc] 133).drew.below bf) | skip); (first | (have z0 := MZf.2.1 0 _ rfl; have z1 := MZf.2.1 1 _ rfl; have z2 := MZf.2.1 2 _ rfl; have y0 := MZf.2.2 0 (by simp); have y1 := MZf.2.2 1 (by simp); have y2 := MZf.2.2 2 (by simp)) | skip); have hkf := keepG df hl1 hl2 k0 k1 k2; have hkfa := fun o => keepG (df.alloc df.size o) hl1 hl2 k0 k1 k2; have hkfs := keepGs df hl1 hl2 k0 k1 k2))
              all_goals (try go_wp2_with fail)
              all_goals go_meet
              all_goals (refine ⟨rfl, rfl, rfl, ⟨_, rfl, ?_⟩, ?_⟩; · (simp [go_sem, *])
                         (first | with_reducible exact df.alloc df.size _ | with_reducible exact (df.alloc df.size _).drew | with_reducible exact (((df.setCell dl.size _).setCell dl.size _).setCell dl.size _) | with_reducible exact (((df.setCell (Nat.le_refl _) _).setCell (Nat.le_refl _) _).setCell (Nat.le_refl _) _)))
            case rest =>
              obtain ⟨rfl, rfl, rfl, ⟨q9, rfl, hc9⟩, bq⟩ := hcut
              have d5 := hd.trans (bq.mono hd.size)
              go_wp2_with (first | (go_at_call 169; refine (LZ.out _ (hLF.out.below bq)).mono ?_; rintro e w9 ⟨rfl, hw9⟩; rw [hw9]; clear hw9 w9))
              exact ⟨⟨q + 1, yy, rfl, by rw [hq1], by omega, hap.1, hap.2, hN, d5⟩, by simp [intOf]; omega⟩
        · obtain rfl : q = pn - 1 := by omega
          have hz : ¬ ((pn : Int) - 1 - ((pn - 1 : Nat) : Int) > 0) := by omega
          have hE : Hid (rr = some xx) := hV.out.trans hw9.out
          clear hV hw9 hOk
          go_wp2_with fail
          go_ret2
          exact ⟨by rw [hE.out]; rfl, dQ⟩
    · rw [pB_f hOk] at SU
      have hE := hide (hNo.out (fun h => hOk h.2))
      clear hNo hYes hNA hl
      go_enter Try.func35, Try.ntmps35
      go_wp2_with fail
      refine (SA.out _ (hR.below dX) (hA.below dX)).mono ?_
      rintro e w1 ⟨rfl, b1⟩
      have d1 := dX.trans (b1.mono dX.size)
      go_wp2_with fail
      refine (SU.out _ (hP.below d1)).mono ?_
      rintro e w2 ⟨rfl, b2⟩
      go_wp2_with fail
      go_ret2
      exact ⟨by rw [hE.out]; rfl, d1.trans (b2.mono d1.size)⟩
  · rw [show naB g m T n f0 f1 f2 = false from pB_f hNA] at SA
    have hE := hide (hNo.out (fun h => hNA h.1))
    clear hNo hYes hNA hl hP
    go_enter Try.func35, Try.ntmps35
    go_wp2_with fail
    refine (SA.out _ (hR.below dX) (hA.below dX)).mono ?_
    rintro e w1 ⟨rfl, b1⟩
    go_wp2_with fail
    go_ret2
    exact ⟨by rw [hE.out]; rfl, dX.trans (b1.mono dX.size)⟩
end Go.Proofs.Yteifconelofojaa
