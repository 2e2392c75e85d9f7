/- The links of a net, and where all of it lies. -/
import Derived.Test.YtelehmkmdbhcfaaLnk9c
namespace Go.Proofs.Ytelehmkmdbhcfaa
open Go.RowKit

/-- What linksOf hands back; the labels' rows as they lay in w00. -/
def LnksQ (m : Nat) (T : Nat → Lc) (n : Nat) (f0 f1 f2 : Nat → Int) (w00 w : World) (e : Ending) (w' : World) : Prop := ∃ va vc P, e = .returned (.agg #[.slice va (lk9 f0 f1 n).length vc]) ∧ LnkR va (lk9 f0 f1 n) f0 f1 f2 P w' ∧ (∀ b off, va = some ⟨b, off, none⟩ → w.heap.size ≤ b) ∧ (∀ q, q < m → P q < w'.heap.size ∧ ∃ a0 q0, w'.cell? ⟨P q, 0, none⟩ = some (.slice a0 (T q).n q0) ∧ RowInt a0 (T q).n (T q).f w00) ∧ Below w.heap.size w w'
set_option maxRecDepth 100000 in
set_option maxHeartbeats 6400000 in
theorem i_linksQ (g : Int) (a : Option Addr) (m c : Nat) (T : Nat → Lc) (ra : Option Addr) (n rc : Nat) (f0 f1 f2 : Nat → Int) (w : World) (hN : NA g m T n f0 f1 f2) (w00 : World) (hR0 : RowLL a m T w00) (h00 : Below w00.heap.size w00 w) (hA : RowArc ra n f0 f1 f2 w) :
    Calls Try.prog 26 #[.agg #[.int .i64 g, .slice a m c], .slice ra n rc] w (LnksQ m T n f0 f1 f2 w00 w) := by
  have hR := hR0.below h00
  have LO := hide (fun w R => i_labelsOfX g a m c T w hN.1.2.2.2.1 R)
  have hn20 := hN.2.1
  have hni : (n : Int) ≤ 20 := by omega
  have hm4 : (m : Int) ≤ 4 := by have := hN.1.2.2.2.1; omega
  have MX := (Mut.new w #[.int .i64 g, .slice a m c] 31).alloc (.cells #[.slice none 0 0] 56)
  have MY := Mut.new (w.alloc (.cells #[.int .i64 g, .slice a m c] 31)) #[.slice none 0 0] 56
  have dX : Below w.heap.size w ((w.alloc (.cells #[.int .i64 g, .slice a m c] 31)).alloc (.cells #[.slice none 0 0] 56)) := below_box2 (Below.refl _ _)
  simp only [World.size_alloc] at MX MY
  have c0 := MX.2.1 0 _ rfl
  have c1 := MX.2.1 1 _ rfl
  go_enter Try.func26, Try.ntmps26
  go_wp2_with fail
  generalize (w.alloc (.cells #[.int .i64 g, .slice a m c] 31)).alloc (.cells #[.slice none 0 0] 56) = wx at *
  refine (LO.out _ (hR.below dX)).mono ?_
  rintro e w1 ⟨va, vc, P, rfl, hLR, b1, hLE⟩
  have hLX : Hid (∀ q, q < m → ∃ (a0 : Option Addr) (c0 : Nat), w1.cell? ⟨P q, 0, none⟩ = some (.slice a0 (T q).n c0) ∧ RowInt a0 (T q).n (T q).f w00 ∧ P q < w1.heap.size) := fun q hq => by
    obtain ⟨b, off, a0, q0, ha, hbq, hcq, hrow⟩ := hR0 q hq
    obtain ⟨_, _, _, _, _, hPF⟩ := hLR q hq
    exact ⟨a0, q0, hLE q hq b off _ ha (((h00.trans (dX.mono h00.size)).cell (p := ⟨b, off + q, none⟩) hbq).trans hcq), hrow, hPF.1⟩
  replace MY := MY.below b1
  have d1 := dX.trans (b1.mono dX.size)
  have hRs : w.heap.size + 1 < w1.heap.size := MY.1
  clear b1 dX c0 c1 MX LO
  go_wp2_with fail
  have NS := (Mut.new w1 #[.slice va m vc] 77).alloc (.cells #[.slice none 0 0] 56)
  have NL := Mut.new (w1.alloc (.cells #[.slice va m vc] 77)) #[.slice none 0 0] 56
  have e1 : Below w1.heap.size w1 ((w1.alloc (.cells #[.slice va m vc] 77)).alloc (.cells #[.slice none 0 0] 56)) := below_box2 (Below.refl _ _)
  simp only [World.size_alloc] at NS NL
  generalize (w1.alloc (.cells #[.slice va m vc] 77)).alloc (.cells #[.slice none 0 0] 56) = wy at *
  generalize hbs : w1.heap.size = bS at *
  go_loopw [15] (fun y wr => ∃ (k : Nat) (v : Value), y = .int .i64 k ∧ k ≤ n ∧ Mut wr bS [.slice va m vc] ∧ Mut wr (bS + 1) [v] ∧ OwnW 65 3 (bS + 2) v (lk9 f0 f1 k).length ((lk9 f0 f1 k).flatMap (lnkC f0 f1 f2 P)) wr ∧ Below bS w1 wr ∧ bS + 2 ≤ wr.heap.size) (fun y _ => n - (intOf y).toNat)
  case atStart => exact ⟨0, _, rfl, Nat.zero_le _, NS, NL, ownW_nil _ _ _ _, e1, NL.1⟩
  case round =>
    clear NS NL e1
    obtain ⟨k, v, rfl, hk, NS, NL, own, e1, hsz⟩ := hrel
    have d2 : Below w.heap.size w wr := d1.trans (e1.mono (by omega))
    by_cases hlt : k < n
    · obtain ⟨b, off, rfl, hbw, u0, u1, u2⟩ := hA k hlt
      replace u0 := (d2.cell (p := ⟨b, off + k * 3, none⟩) hbw).trans u0
      replace u1 := (d2.cell (p := ⟨b, off + k * 3 + 1, none⟩) hbw).trans u1
      replace u2 := (d2.cell (p := ⟨b, off + k * 3 + 2, none⟩) hbw).trans u2
      have hlt' : (k : Int) < (n : Int) := by omega
      have hAr := hN.2.2 k hlt
      have hzm := hAr.2.2.2.2.2
      have hsuc := hide (lk9_succ f0 f1 k)
      have hfind := hide (lk9_find f0 f1 (f0 k) (f1 k) k)
      have hkl := hide (Nat.le_trans (lk9_len f0 f1 k) (show k ≤ 20 by omega))
      have hcc : Hid (lnkC f0 f1 f2 P k = [.int .i64 (f0 k), .int .i64 (f1 k), labV (P (f2 k).toNat)]) := rfl
      have hlab := hide (hLR (f2 k).toNat (by omega))
      generalize hks : lk9 f0 f1 k = ks at *
      generalize f0 k = x at *
      generalize f1 k = y at *
      generalize f2 k = z at *
      have dA : Below wr.heap.size wr (wr.alloc (.cells #[.int .i64 x, .int .i64 y, .int .i64 z] 50)) := below_box (Below.refl _ _)
      have MA := Mut.new wr #[.int .i64 x, .int .i64 y, .int .i64 z] 50
      have NS1 := NS.below dA
      have NL1 := NL.below dA
      have own1 := ownW_below own dA
      have e2 := e1.trans (dA.mono (by omega))
      have hsz1 : bS + 2 ≤ (wr.alloc (.cells #[.int .i64 x, .int .i64 y, .int .i64 z] 50)).heap.size := Nat.le_trans hsz dA.size
      have hvo : ∀ q, v.ownBlock = some q → bS + 2 ≤ q ∧ q < wr.heap.size := fun q hq => ownW_lt own hq
      have hltA : wr.heap.size < (wr.alloc (.cells #[.int .i64 x, .int .i64 y, .int .i64 z] 50)).heap.size := by simp
      have dAw : Below w.heap.size w (wr.alloc (.cells #[.int .i64 x, .int .i64 y, .int .i64 z] 50)) := d2.trans (dA.mono d2.size)
      clear hA hAr NS NL own e1
      go_wp2_with fail
      clear u0 u1 u2 dA d2
      generalize wr.alloc (.cells #[.int .i64 x, .int .i64 y, .int .i64 z] 50) = wA at *
      generalize wr.heap.size = bA at *
      obtain ⟨la, lc, rfl, RW, hla⟩ := ownW_row own1
      have hLk := LnkR.of RW
      go_cut [9, 10, 15] from 15 to 43 (fun x9 x10 x15 wq => x15 = .int .i64 k ∧ x10 = .bool (fl9 f0 f1 x y ks).isSome ∧ (∃ q : Nat, x9 = .pointer (some ⟨q, 0, none⟩)) ∧ Below wA.heap.size wA wq)
      case first =>
        have LD := hide (fun w => i_leadsE x y w)
        have FI := hide (fun p q w R L => i_first la lc ks f0 f1 f2 P p q x y w hkl.out R L)
        obtain ⟨lf, lt, fv, hfr, hfv⟩ := frV_bool f0 f1 f2 P (fl9 f0 f1 x y ks)
        rw [hfr] at FI
        generalize (fl9 f0 f1 x y ks).isSome = r at *
        have dZ : Below wA.heap.size wA wA := Below.refl _ _
        have k0 := NL1.2.1 0 _ rfl
        have k1 := MA.2.1 0 _ rfl
        have k2 := MA.2.1 1 _ rfl
        have hl1 : bS + 1 < wA.heap.size := NL1.1
        have hLd9 := hide hLk
        have hkd := keep3 dZ.drew hl1 hltA k0 k1 k2
        have hka := fun o => keep3 (dZ.alloc dZ.size o) hl1 hltA k0 k1 k2
        have hkad := fun o => keep3 (dZ.alloc dZ.size o).drew hl1 hltA k0 k1 k2
        clear hfr hLk RW hla own1 NS1 hlab hfind hsuc hcc
        rcases hfv with ⟨pk, rfl⟩ | rfl
        all_goals
          go_region_held3 (fun w' => w'.cell? ⟨bS + 1, 0, none⟩ = some (.slice la ks.length lc) ∧ w'.cell? ⟨bA, 0, none⟩ = some (.int .i64 x) ∧ w'.cell? ⟨bA, 1, none⟩ = some (.int .i64 y)) (first | with_reducible exact hkf | with_reducible exact hkfa _ | with_reducible exact hkfs _ dl.size _ _ _ | with_reducible exact hkfs _ (Nat.le_refl _) _ _ _ | with_reducible exact hkl | with_reducible exact hkla _ | with_reducible exact hkld | with_reducible exact hka _ | with_reducible exact hkad _ | with_reducible exact hkd)
            (first
              | (go_at_call 42; refine (LD.out _).mono ?_; rintro e wl ⟨pl, ql, rfl, hLd, bl⟩; have dl : Below wA.heap.size wA wl := (by first | with_reducible exact below_step dZ bl | with_reducible exact below_step dZ.drew bl | with_reducible exact below_step (dZ.alloc dZ.size _) bl | with_reducible exact below_step (dZ.alloc dZ.size _).drew bl | with_reducible exact below_step (dZ.drew.alloc dZ.size _) bl | with_reducible exact below_step (dZ.drew.alloc dZ.size _).drew bl); (first | (with_reducible have MZl := (Mut.new wA #[.int .i64 0, .int .i64 0, .nilFunc] 65).below bl) | (with_reducible have MZl := (Mut.newD wA #[.int .i64 0, .int .i64 0, .nilFunc] 65).below bl) | (with_reducible have MZl := (Mut.new wA #[.int .i64 0, .int .i64 0, .nilFunc] 65).drew.below bl) | skip); have hkl := keep3 dl hl1 hltA k0 k1 k2; have hkld := keep3 dl.drew hl1 hltA k0 k1 k2; have hkla := fun o => keep3 (dl.alloc dl.size o) hl1 hltA k0 k1 k2)
              | (go_at_call 41; refine (FI.out _ _ _ (hLd9.out.below (by first | with_reducible exact dl | with_reducible exact dl.drew | with_reducible exact (dl.alloc dl.size _) | with_reducible exact (dl.alloc dl.size _).drew | with_reducible exact ((dl.drew).alloc dl.size _) | with_reducible exact ((dl.drew).alloc dl.size _).drew)) (hLd.below (by first | with_reducible exact Below.refl _ _ | with_reducible exact (Below.refl _ _).drew | with_reducible exact below_box (Below.refl _ _) | with_reducible exact (below_box (Below.refl _ _)).drew | with_reducible exact below_drew0 (below_box (Below.refl _ _))))).mono ?_; rintro e wf ⟨rfl, bf⟩; have df : Below wA.heap.size wA wf := (by first | with_reducible exact below_step dl bf | with_reducible exact below_step dl.drew bf | with_reducible exact below_step (dl.alloc dl.size _) bf | with_reducible exact below_step (dl.alloc dl.size _).drew bf | with_reducible exact below_step (dl.drew.alloc dl.size _) bf | with_reducible exact below_step (dl.drew.alloc dl.size _).drew bf); (first | (with_reducible have MZf := MZl.below bf) | (with_reducible have MZf := MZl.drew.below bf) | (with_reducible have MZf := (Mut.new wl #[.int .i64 0, .int .i64 0, .nilFunc] 65).below bf) | (with_reducible have MZf := (Mut.newD wl #[.int .i64 0, .int .i64 0, .nilFunc] 65).below bf) | (with_reducible have MZf := (Mut.new wl #[.int .i64 0, .int .i64 0, .nilFunc] 65).drew.below bf) | skip); (first | (have z0 := MZf.2.1 0 _ rfl; have z1 := MZf.2.1 1 _ rfl; have z2 := MZf.2.1 2 _ rfl; have y0 := MZf.2.2 0 (by simp); have y1 := MZf.2.2 1 (by simp); have y2 := MZf.2.2 2 (by simp)) | skip); have hkf := keep3 df hl1 hltA k0 k1 k2; have hkfa := fun o => keep3 (df.alloc df.size o) hl1 hltA k0 k1 k2; have hkfs := keep3s df hl1 hltA k0 k1 k2))
          all_goals (try go_wp2_with fail)
          all_goals go_meet
          all_goals (refine ⟨rfl, rfl, ⟨_, rfl⟩, ?_⟩; first | with_reducible exact df.alloc df.size _ | with_reducible exact (df.alloc df.size _).drew | with_reducible exact (((df.setCell dl.size _).setCell dl.size _).setCell dl.size _) | with_reducible exact (((df.setCell (Nat.le_refl _) _).setCell (Nat.le_refl _) _).setCell (Nat.le_refl _) _))
      case rest =>
        obtain ⟨rfl, rfl, ⟨q9, rfl⟩, bq⟩ := hcut
        rw [show fl9 f0 f1 x y ks = fst9 f0 f1 x y k from hfind.out]
        have MA1 := MA.below bq
        have NS2 := NS1.below bq
        have NL2 := NL1.below bq
        have own2 := ownW_below own1 bq
        have e3 := e2.trans (bq.mono (by omega))
        have hsz2 : bS + 2 ≤ wc.heap.size := Nat.le_trans hsz1 bq.size
        cases hfs : fst9 f0 f1 x y k with
        | some j =>
          have hnx : lk9 f0 f1 (k + 1) = ks := by
            rw [hsuc.out, hfs]
            simp
          go_wp2_with fail
          exact ⟨⟨k + 1, _, by go_num, by omega, NS2, NL2, by rw [hnx]; exact own2, e3, hsz2⟩, by simp [intOf]; omega⟩
        | none =>
          have hnx : lk9 f0 f1 (k + 1) = ks ++ [k] := by
            rw [hsuc.out, hfs]
            simp
          obtain ⟨zn, hzn⟩ : ∃ zn : Nat, z = zn := ⟨z.toNat, by omega⟩
          subst hzn
          rw [Int.toNat_natCast] at hlab hcc
          obtain ⟨bb, oo, hva, hbb, hlc, _⟩ := hlab.out
          subst hva
          have hlc2 := (e3.cell (p := ⟨bb, oo + zn, none⟩) (show bb < bS by omega)).trans hlc
          have AD := hide (fun w h1 h2 h3 => i_addLnk (bS + 1) (bS + 2) ks.length (.slice la ks.length lc) (ks.flatMap (lnkC f0 f1 f2 P)) x y (P zn) w (by have := hkl.out; omega) (by omega) h1 h2 h3)
          have hz1 : (zn : Int) < (m : Int) := hzm.2
          have hz0 : (0 : Int) ≤ (zn : Int) := hzm.1
          simp only [labV] at AD hlc2
          have dq : Below wc.heap.size wc wc.drew := (Below.refl _ _).drew
          have k1 := ((bcell dq).1 _ _ MA1.1).trans (MA1.2.1 0 _ rfl)
          have k2 := ((bcell dq).1 _ _ MA1.1).trans (MA1.2.1 1 _ rfl)
          have k3 := ((bcell dq).1 _ _ MA1.1).trans (MA1.2.1 2 _ rfl)
          have k4 := ((bcell dq).1 _ _ NS2.1).trans (NS2.2.1 0 _ rfl)
          have hbbc : bb < wc.heap.size := by have := NS2.1; omega
          have k5 := ((bcell dq).1 _ _ hbbc).trans hlc2
          have hk0 : wc.drew.cell? ⟨bA, 0, none⟩ = some (.int .i64 x) ∧ wc.drew.cell? ⟨bA, 1, none⟩ = some (.int .i64 y) ∧ wc.drew.cell? ⟨bA, 2, none⟩ = some (.int .i64 zn) ∧ wc.drew.cell? ⟨bS, 0, none⟩ = some (.slice (some ⟨bb, oo, none⟩) m vc) ∧ wc.drew.cell? ⟨bb, oo + zn, none⟩ = some (.func (.func 56) #[] #[.pointer (some ⟨P zn, 0, none⟩)]) := ⟨k1, k2, k3, k4, k5⟩
          have hltc : bA < wc.heap.size := MA1.1
          have hlts : bS < wc.heap.size := NS2.1
          have NLd := NL2.drew
          have ownd := ownW_below own2 dq
          have hszd : bS + 2 ≤ wc.drew.heap.size := hsz2
          have nA : ¬ (bA = bS + 1 ∨ (Value.slice la ks.length lc).ownBlock = some bA) := by
            rintro (h | h)
            · omega
            · have := (hvo _ h).2; omega
          have nS : ¬ (bS = bS + 1 ∨ (Value.slice la ks.length lc).ownBlock = some bS) := by
            rintro (h | h)
            · omega
            · have := (hvo _ h).1; omega
          have nB : ¬ (bb = bS + 1 ∨ (Value.slice la ks.length lc).ownBlock = some bb) := by
            rintro (h | h)
            · omega
            · have := (hvo _ h).1; omega
          go_wp2_with fail
          go_region_held3 (fun w' => w'.cell? ⟨bA, 0, none⟩ = some (.int .i64 x) ∧ w'.cell? ⟨bA, 1, none⟩ = some (.int .i64 y) ∧ w'.cell? ⟨bA, 2, none⟩ = some (.int .i64 zn) ∧ w'.cell? ⟨bS, 0, none⟩ = some (.slice (some ⟨bb, oo, none⟩) m vc) ∧ w'.cell? ⟨bb, oo + zn, none⟩ = some (.func (.func 56) #[] #[.pointer (some ⟨P zn, 0, none⟩)])) (first | with_reducible exact hk1 | with_reducible exact hk0)
            (first
              | (go_at_call 43; refine (AD.out _ hszd NLd ownd).mono ?_; rintro e wn ⟨rfl, vn, Mn, ownn, onn, hvn⟩; have hk1 : wn.cell? ⟨bA, 0, none⟩ = some (.int .i64 x) ∧ wn.cell? ⟨bA, 1, none⟩ = some (.int .i64 y) ∧ wn.cell? ⟨bA, 2, none⟩ = some (.int .i64 zn) ∧ wn.cell? ⟨bS, 0, none⟩ = some (.slice (some ⟨bb, oo, none⟩) m vc) ∧ wn.cell? ⟨bb, oo + zn, none⟩ = some (.func (.func 56) #[] #[.pointer (some ⟨P zn, 0, none⟩)]) := ⟨(onn.cell hltc nA).trans k1, (onn.cell hltc nA).trans k2, (onn.cell hltc nA).trans k3, (onn.cell hlts nS).trans k4, (onn.cell hbbc nB).trans k5⟩))
          all_goals
            have NS3 : Mut wn bS [.slice (some ⟨bb, oo, none⟩) m vc] := NS2.drew.onlyP onn nS
            have e4 : Below bS w1 wn := e3.drew.trans (onn.below (base := bS) (fun q _ hq => by
              rcases hq with h | h
              · omega
              · have := (hvo _ h).1; omega) (Nat.le_of_lt hlts))
            have hsz3 : bS + 2 ≤ wn.heap.size := Nat.le_trans hsz2 onn.2.2.2.1
            go_wp2_with fail
            refine ⟨⟨k + 1, vn, by go_num, by omega, NS3, Mn, ?_, e4, hsz3⟩, by simp [intOf]; omega⟩
            rw [hnx, List.length_append, List.flatMap_append]
            simpa [hcc.out, labV] using ownn
    · have hlt' : ¬ (k : Int) < (n : Int) := by omega
      obtain rfl : k = n := by omega
      obtain ⟨la, lc, rfl, RW, hla⟩ := ownW_row own
      have hLk := LnkR.of RW
      have c0 := NL.2.1 0 _ rfl
      have MR := MY.below (by rw [hbs]; exact e1)
      have c1 := MR.2.1 0 _ rfl
      have r1 := MR.2.2 0 (by simp)
      clear hA
      go_wp2_with fail
      have hfin : Below w.heap.size w (wr.setCell ⟨w.heap.size + 1, 0, none⟩ (.slice la (lk9 f0 f1 k).length lc)) := d2.setCell (by simp) _
      have hon : Only (w.heap.size + 1) wr (wr.setCell ⟨w.heap.size + 1, 0, none⟩ (.slice la (lk9 f0 f1 k).length lc)) := (Only.refl _ _).setCell 0 _
      have hL1 : LnkR la (lk9 f0 f1 k) f0 f1 f2 P (wr.setCell ⟨w.heap.size + 1, 0, none⟩ (.slice la (lk9 f0 f1 k).length lc)) := by
        intro j hj
        obtain ⟨b, off, rfl, hbw, g1, g2, g3⟩ := hLk j hj
        have hbb : b ≠ w.heap.size + 1 := by
          have := (ownW_lt own (k := b) rfl).1
          omega
        exact ⟨b, off, rfl, by simpa using hbw, (hon.cell hbw hbb).trans g1, (hon.cell hbw hbb).trans g2, (hon.cell hbw hbb).trans g3⟩
      have hL2 : ∀ q, q < m → P q < (wr.setCell ⟨w.heap.size + 1, 0, none⟩ (.slice la (lk9 f0 f1 k).length lc)).heap.size ∧ ∃ a0 q0, (wr.setCell ⟨w.heap.size + 1, 0, none⟩ (.slice la (lk9 f0 f1 k).length lc)).cell? ⟨P q, 0, none⟩ = some (.slice a0 (T q).n q0) ∧ RowInt a0 (T q).n (T q).f w00 := by
        intro q hq
        obtain ⟨a0, q0, h1, h2, h3⟩ := hLX.out q hq
        have hne : P q ≠ w.heap.size + 1 := by
          intro e
          rw [e, MY.2.1 0 _ rfl] at h1
          have hn2 : (T q).n = 0 := by
            have := Option.some.inj h1
            injection this with _ h _
            exact h.symm
          have := (hN.1.2.2.2.2 q hq).1
          have := hN.1.1
          omega
        have hPw : P q < wr.heap.size := by have := e1.size; omega
        exact ⟨by simpa using hPw, a0, q0, (hon.cell hPw hne).trans ((e1.cell (p := ⟨P q, 0, none⟩) (show P q < bS by omega)).trans h1), h2⟩
      have hLa : ∀ b off, la = some ⟨b, off, none⟩ → w.heap.size ≤ b := by
        intro b off e
        subst e
        have h1 := (ownW_lt own (k := b) rfl).1
        have h2 := d1.size
        omega
      exact bodyPost_ret (v := .agg #[.slice la (lk9 f0 f1 k).length lc]) (by simp [results, Try.results26, go_sem, *]) rfl ⟨la, lc, P, rfl, hL1, hLa, hL2, hfin⟩
end Go.Proofs.Ytelehmkmdbhcfaa
