/- BestTo of the program. -/
import Derived.Test.YtelehmkmdbhcfaaI9s
import Derived.Test.YtelehmkmdbhcfaaPlain9t
import Derived.Deep.RegionHeld3
namespace Go.Proofs.Ytelehmkmdbhcfaa
open Go.RowKit
theorem bits6t (f : Nat → Bool) : (bits 6 f).toArray = #[.bool (f 0), .bool (f 1), .bool (f 2), .bool (f 3), .bool (f 4), .bool (f 5)] := rfl
set_option maxRecDepth 100000 in
set_option maxHeartbeats 6400000 in
theorem i_bestToE (g : Int) (a : Option Addr) (m c : Nat) (T : Nat → Lc) (ra : Option Addr) (n rc : Nat) (f0 f1 f2 : Nat → Int) (t : Int) (w : World) (hm : m ≤ 1048576) (hl : LowL m T) (hR : RowLL a m T w) (hn : n ≤ 1048576) (hA : RowArc ra n f0 f1 f2 w) :
    Calls Try.prog 9 #[.agg #[.int .i64 g, .slice a m c], .slice ra n rc, .int .i64 t] w fun e w' => ∃ v, e = .returned (.tuple #[v, .bool (ptB g m T n f0 f1 f2 t)]) ∧ AnsL w.heap.size v (btR g m T n f0 f1 f2 t) w' ∧ Below w.heap.size w w' := by
  have SA := hide (fun w R A => i_goodNet g a m c T ra n rc f0 f1 f2 w hm hl R hn A)
  have SI := hide (fun w => i_isSpeaker t w)
  have MX := Mut.new w #[.int .i64 g, .slice a m c] 31
  have dX : Below w.heap.size w (w.alloc (.cells #[.int .i64 g, .slice a m c] 31)) := below_box (Below.refl _ _)
  have c0 := MX.2.1 0 _ rfl
  have c1 := MX.2.1 1 _ rfl
  by_cases hNA : NA g m T n f0 f1 f2
  · rw [show naB g m T n f0 f1 f2 = true from pB_t hNA] at SA
    by_cases ht : 0 ≤ t ∧ t ≤ 5
    · rw [inB_t ht.1 ht.2] at SI
      obtain ⟨tn, rfl⟩ : ∃ tn : Nat, t = tn := ⟨t.toNat, by omega⟩
      have htn : tn < 6 := by omega
      obtain ⟨e1, e2⟩ := bt_yes (m := m) (T := T) (g := g) (t := (tn : Int)) ⟨hNA, ht⟩
      rw [e1, e2]
      clear e1 e2 ht
      have hg := hNA.1.1
      have hg' := hNA.1.2.1
      have SN := hide (fun w => i_noWays g a m c w (by omega) (by omega))
      have LO := hide (fun w1 h00 A => i_linksQ g a m c T ra n rc f0 f1 f2 w1 hNA w hR h00 A)
      have hInv := hide (rs9_inv hNA (b09_ok (t := (tn : Int)) (by omega : 2 ≤ g)))
      have hStep := hide (fun k a (h : LstK 6 (rs9 (fun x y => lab9 f0 f1 f2 x y n) T (b09 g (tn : Int)) k).1 (rs9 (fun x y => lab9 f0 f1 f2 x y n) T (b09 g (tn : Int)) k).2 a) => rs9_step h)
      have hZ : Hid (rs9 (fun x y => lab9 f0 f1 f2 x y n) T (b09 g (tn : Int)) 0 = (b09 g (tn : Int), fun _ => false)) := rfl
      have hb09 : Hid (∀ v, v < 6 → (if v = tn then 0 else g - 1) = b09 g (tn : Int) v) := fun v _ => by unfold b09; rw [Int.toNat_natCast]
      have hF : Hid (∀ i, i ∈ lk9 f0 f1 n → 0 ≤ f0 i ∧ f0 i ≤ 5) := fun i hi => by
        have := hNA.2.2 i (lk9_mem.1 hi).1
        exact ⟨this.1, this.2.1⟩
      have hmem : Hid (∀ (a : Nat) (s : Nat → Bool) i, i ∈ bk9 f0 f1 a s (lk9 f0 f1 n) → (∃ q : Nat, f0 i = q ∧ q < 6 ∧ s q = false) ∧ (∃ l : Nat, f2 i = l ∧ l < m) ∧ lab9 f0 f1 f2 (f0 i) (a : Int) n = f2 i) := fun a s i hi => by
        obtain ⟨m1, m2, m3⟩ := bk9_mem.1 hi
        have ar := hNA.2.2 i (lk9_mem.1 m1).1
        have hl9 := (lk9_lab (f2 := f2) m1).2
        rw [m2] at hl9
        exact ⟨⟨(f0 i).toNat, by have := ar.1; omega, by have := ar.1; have := ar.2.1; omega, m3⟩, ⟨(f2 i).toNat, by have := ar.2.2.2.2.2.1; omega, by have := ar.2.2.2.2.2.1; have := ar.2.2.2.2.2.2; omega⟩, hl9⟩
      have hks := hide (Nat.le_trans (lk9_len f0 f1 n) hNA.2.1)
      have hrow := hide (fun l (hl : l < m) => hNA.1.2.2.2.2 l hl)
      have hlow := hide (fun l (hl : l < m) => hNA.1.low l hl)
      have hGA := hide (fun (a : Nat) s b r => ga_all (T := T) (f0 := f0) (f1 := f1) (f2 := f2) (n := n) (m := m) hNA.2.2 (a := a) (s := s) (b := b) (r := r))
      clear hNA hm hn hl
      generalize rs9 (fun x y => lab9 f0 f1 f2 x y n) T (b09 g (tn : Int)) = RS at *
      generalize ptB g m T n f0 f1 f2 (tn : Int) = B0 at *
      go_enter Try.func9, Try.ntmps9
      go_wp2_with fail
      generalize w.alloc (.cells #[.int .i64 g, .slice a m c] 31) = wx at *
      refine (SA.out _ (hR.below dX) (hA.below dX)).mono ?_
      rintro e w1 ⟨rfl, b1⟩
      replace MX := MX.below b1
      replace dX := dX.trans (b1.mono dX.size)
      replace c0 := MX.2.1 0 _ rfl
      replace c1 := MX.2.1 1 _ rfl
      clear b1 SA
      go_wp2_with fail
      refine (SI.out _).mono ?_
      rintro e w2 ⟨rfl, hw2⟩
      rw [hw2]; clear hw2 w2 SI
      go_wp2_with fail
      refine (LO.out _ dX (hA.below dX)).mono ?_
      rintro e w3 ⟨va, vc, P, rfl, hLk, hva, hLab, b3⟩
      have d3 := dX.trans (b3.mono dX.size)
      replace MX := MX.below b3
      have bK : Below w3.heap.size w3 (w3.alloc (.cells #[.slice va (lk9 f0 f1 n).length vc] 56)) := below_box (Below.refl _ _)
      have MK := Mut.new w3 #[.slice va (lk9 f0 f1 n).length vc] 56
      have hkw : w3.heap.size < (w3.alloc (.cells #[.slice va (lk9 f0 f1 n).length vc] 56)).heap.size := by simp
      replace d3 := d3.trans (bK.mono d3.size)
      replace MX := MX.below bK
      have hLkK := hide (hLk.below bK)
      have hLF : Hid (∀ q, q < m → LabF (P q) (T q) (w3.alloc (.cells #[.slice va (lk9 f0 f1 n).length vc] 56))) := fun q hq => by
        obtain ⟨h1, a0, q0, h2, h3⟩ := hLab q hq
        exact ⟨Nat.lt_of_lt_of_le h1 bK.size, a0, q0, ((bcell bK).1 _ _ h1).trans h2, h3.below d3⟩
      have hvaW : Hid (∀ b off, va = some ⟨b, off, none⟩ → b < w3.heap.size ∨ lk9 f0 f1 n = []) := fun b off e => by
        by_cases hq : 0 < (lk9 f0 f1 n).length
        · obtain ⟨b', off', e', hb', _⟩ := hLk 0 hq
          rw [e] at e'
          simp only [Option.some.injEq, Addr.mk.injEq, and_true] at e'
          exact .inl (by omega)
        · exact .inr (List.length_eq_zero_iff.1 (by omega))
      clear hLk hLab hva b3 LO bK dX c0 c1 hA hR
      have c0 := MX.2.1 0 _ rfl
      have c1 := MX.2.1 1 _ rfl
      generalize hkl : (lk9 f0 f1 n).length = kl at *
      go_wp2_with fail
      generalize w3.alloc (.cells #[.slice va kl vc] 56) = wk at *
      generalize w3.heap.size = kb at *
      refine (SN.out _).mono ?_
      rintro e w4 ⟨bb, rfl, hbb, hO, b4⟩
      have d4 := d3.trans (b4.mono d3.size)
      have hw0 : w.heap.size ≤ bb := Nat.le_trans d3.size hbb
      have hbw := hO.1
      have hZO := hide (fun x => (hO.put9 htn x))
      obtain ⟨⟨y0, hy0, _⟩, hy1⟩ := hO.2 tn htn
      have htni : (tn : Int) < 6 := by omega
      have b5 : Below wk.heap.size wk ((w4.setCell ⟨bb, tn, none⟩ (.int .i64 0)).alloc (.cells #[.bool false, .bool false, .bool false, .bool false, .bool false, .bool false] 59)) := (b4.setCell (p := ⟨bb, tn, none⟩) hbb _).alloc (by have := b4.size; simp; omega) _
      have ML := Mut.new (w4.setCell ⟨bb, tn, none⟩ (.int .i64 0)) #[.bool false, .bool false, .bool false, .bool false, .bool false, .bool false] 59
      have O5 : OutInt bb 6 6 (RS 0).1 ((w4.setCell ⟨bb, tn, none⟩ (.int .i64 0)).alloc (.cells #[.bool false, .bool false, .bool false, .bool false, .bool false, .bool false] 59)) := by
        rw [hZ.out]
        exact ((hZO.out 0).congr9 hb09.out).below (below_box (Below.refl _ _))
      have ML5 : Mut ((w4.setCell ⟨bb, tn, none⟩ (.int .i64 0)).alloc (.cells #[.bool false, .bool false, .bool false, .bool false, .bool false, .bool false] 59)) w4.heap.size (bits 6 (RS 0).2) := by
        rw [hZ.out, show bits 6 (b09 g (tn : Int), fun _ => false).2 = [.bool false, .bool false, .bool false, .bool false, .bool false, .bool false] from rfl]
        simpa using ML
      clear hO ML hZO hb09 hZ b4 c0 c1 MX SN
      go_wp2_with fail
      clear hy0 hy1
      generalize (w4.setCell ⟨bb, tn, none⟩ (.int .i64 0)).alloc (.cells #[.bool false, .bool false, .bool false, .bool false, .bool false, .bool false] 59) = W0 at *
      generalize hlb : w4.heap.size = lb at *
      go_loopw [31] (fun y wr => ∃ k : Nat, y = .int .i64 k ∧ k ≤ 6 ∧ OutInt bb 6 6 (RS k).1 wr ∧ Mut wr lb (bits 6 (RS k).2) ∧ Below wk.heap.size wk wr) (fun y _ => 6 - (intOf y).toNat)
      case atStart => exact ⟨0, rfl, by omega, O5, ML5, b5⟩
      case round =>
        clear O5 ML5 b5
        obtain ⟨k, rfl, hk, Ok, Mk, bk⟩ := hrel
        by_cases hlt : k < 6
        · have hlt' : (k : Int) < 6 := by omega
          obtain ⟨hcn, hbd⟩ := hInv.out k (by omega)
          have hSt := hide (hStep.out k)
          have hcn : Hid (0 < cn9 (RS k).2 6) := by show 0 < _; omega
          have hbd := hide hbd
          generalize hsk : (RS k).2 = s at *
          generalize hbk : (RS k).1 = b at *
          have LE := hide (fun w R => i_leastOf bb 6 b s w R)
          have q0 := Mk.2.1 0 _ (bits_get (by decide : 0 < 6))
          have q1 := Mk.2.1 1 _ (bits_get (by decide : 1 < 6))
          have q2 := Mk.2.1 2 _ (bits_get (by decide : 2 < 6))
          have q3 := Mk.2.1 3 _ (bits_get (by decide : 3 < 6))
          have q4 := Mk.2.1 4 _ (bits_get (by decide : 4 < 6))
          have q5 := Mk.2.1 5 _ (bits_get (by decide : 5 < 6))
          clear hsk hbk hInv hStep
          go_wp2_with fail
          refine (LE.out _ Ok.row).mono ?_
          rintro e w5 ⟨x, rfl, hS, b5⟩
          obtain ⟨a9, rfl, hLa⟩ := sea_found hS.out hcn.out
          have ha6 : a9 < 6 := hLa.1
          have hai : (a9 : Int) < 6 := by omega
          have hRSk := hide (hSt.out a9 hLa)
          have hsa : Hid (mk9 a9 s a9 = true) := by unfold mk9; exact if_pos rfl
          have M5 := Mk.below b5
          have O5 := Ok.below b5
          have k5 := bk.trans (b5.mono bk.size)
          have z0 := M5.2.1 a9 _ (bits_get ha6)
          have z1 := M5.2.2 a9 (by rw [bits_len]; exact ha6)
          have hlw : lb < w5.heap.size := M5.1
          have hlbk : wk.heap.size ≤ lb := by have := b5.size; have := d3.size; omega
          have hbl9 : bb ≠ lb := by omega
          have M6 := M5.set a9 (.bool true)
          rw [bits_set] at M6
          have O6 := O5.other hbl9 a9 (.bool true)
          have k6 := k5.setCell (p := ⟨lb, a9, none⟩) hlbk (.bool true)
          clear LE hS hLa hcn hSt b5 M5 O5 k5 Mk Ok bk q0 q1 q2 q3 q4 q5
          go_upto_region 11 with fail
          clear z0 z1
          generalize w5.setCell ⟨lb, a9, none⟩ (.bool true) = w6 at *
          rw [show (fun j => if j = a9 then true else s j) = mk9 a9 s from rfl] at M6
          generalize hs9 : mk9 a9 s = s' at *
          have q0 := M6.2.1 0 _ (bits_get (by decide : 0 < 6))
          have q1 := M6.2.1 1 _ (bits_get (by decide : 1 < 6))
          have q2 := M6.2.1 2 _ (bits_get (by decide : 2 < 6))
          have q3 := M6.2.1 3 _ (bits_get (by decide : 3 < 6))
          have q4 := M6.2.1 4 _ (bits_get (by decide : 4 < 6))
          have q5 := M6.2.1 5 _ (bits_get (by decide : 5 < 6))
          have MK6 := MK.below k6
          have r0 := MK6.2.1 0 _ rfl
          have hL6 := hide (hLkK.out.below k6)
          have LK := hide (fun w R => i_linksBack va vc (lk9 f0 f1 n) f0 f1 f2 P (a9 : Int) s' w (by rw [hkl]; exact hks.out) hF.out R)
          rw [bits6t s', hkl] at LK
          have hb20 := hide (Nat.le_trans (bk9_len f0 f1 (a9 : Int) s' (lk9 f0 f1 n)) (by rw [hkl]; exact hks.out))
          have hM9 := hide (hmem.out a9 s')
          have hEnd := hide (hGA.out a9 s' b)
          have hself := hide (fun k hk r => ga_self (L := fun x y => lab9 f0 f1 f2 x y n) (T := T) (f0 := f0) (f1 := f1) (ks := lk9 f0 f1 n) (a := a9) (x := b a9) (b := b) (s := s') hsa.out (k := k) hk (r := r) ha6)
          have hbd9 := hide (hbd.out a9 ha6)
          have hbw6 : bb < w6.heap.size := O6.1
          generalize bk9 f0 f1 a9 s' (lk9 f0 f1 n) = B at *
          clear hs9
          go_wp2_with fail
          refine (LK.out _ hL6.out).mono ?_
          rintro e w7 ⟨ba, bc9, rfl, hLB, hBn, b7⟩
          have M7 := M6.below b7
          have O7 := O6.below b7
          have hbw7 : bb ≤ w7.heap.size := Nat.le_of_lt O7.1
          have k7 := k6.trans (b7.mono k6.size)
          have hbi : (B.length : Int) ≤ 20 := by have := hb20.out; omega
          clear b7 M6 O6 k6 LK hL6 q0 q1 q2 q3 q4 q5 MK6 r0
          go_wp2_with fail
          go_loopw [43] (fun y wr => ∃ (j : Nat) (r : Nat → Int), y = .int .i64 j ∧ j ≤ B.length ∧ OutInt bb 6 6 r wr ∧ Only bb w7 wr ∧ Hid (Ga9 (fun x y => lab9 f0 f1 f2 x y n) T f0 B a9 (b a9) b j r)) (fun y _ => B.length - (intOf y).toNat)
          case atStart => exact ⟨0, b, rfl, Nat.zero_le _, O7, Only.refl _ _, ga_zero _ _ _ _ _ _ _⟩
          case round =>
            clear O7
            obtain ⟨j, r, rfl, hj, Or9, onr, hG⟩ := hrel
            by_cases hjt : j < B.length
            · have hjt' : (j : Int) < (B.length : Int) := by omega
              obtain ⟨z, hba, hz9⟩ := hBn (fun e => by rw [e] at hjt; simp at hjt)
              subst hba
              obtain ⟨b9, off, hab, hbw9, u0, u1, u2⟩ := (hLB.only9 (bb := bb) (fun b off e => by simp only [Option.some.injEq, Addr.mk.injEq, and_true] at e; omega) onr) j hjt
              simp only [Option.some.injEq, Addr.mk.injEq, and_true] at hab
              obtain ⟨rfl, rfl⟩ := hab
              obtain ⟨⟨q, hq, hq6, hsq⟩, ⟨l, hl, hlm⟩, hlab⟩ := hM9.out _ (getD_mem9 hjt)
              have hra := hself.out j (Nat.le_of_lt hjt) r hG.out
              have hT := hide (fun y hy => ga_step hG.out (k := j) hq (y := y) hy)
              generalize B.getD j 0 = i at *
              rw [hq, hl] at hlab
              rw [hq] at u0
              rw [hl, Int.toNat_natCast] at u2
              have hy9 : Hid ((T l).f (b a9).toNat = ap9 T ((fun x y => lab9 f0 f1 f2 x y n) (q : Int) (a9 : Int)) (b a9)) := by
                show _ = ap9 T (lab9 f0 f1 f2 (q : Int) (a9 : Int) n) (b a9)
                rw [hlab]; rfl
              have LZ := hide (fun w h => i_labelZ (P l) (T l) (b a9) w hbd9.out.1 (by have := (hrow.out l hlm).1; have := hbd9.out.2; omega) (hlow.out l hlm) h)
              have dwr : Below wk.heap.size wk wr := k7.trans ((onr.below hbw7).mono hbb)
              have hLF9 := (hLF.out l hlm).below dwr
              simp only [labV] at u2
              rw [Nat.zero_add] at u0 u1 u2
              obtain ⟨⟨xa, v0, v1⟩, _⟩ := Or9.2 a9 ha6
              have v1 := (v1 ha6).trans hra
              rw [v1] at v0
              obtain ⟨⟨xq, t0, t1⟩, t2⟩ := Or9.2 q hq6
              rw [t1 hq6] at t0
              have hT := hide (hT.out _ hy9.out)
              generalize hyy : (T l).f (b a9).toNat = y at *
              have hqi : (q : Int) < 6 := by omega
              generalize P l = pk at *
              generalize f1 i = lt9 at *
              have hPut := hide (fun w (X : Int) (O : OutInt bb 6 6 r w) => O.put9 hq6 X)
              have hCg : Hid (∀ (w : World) (X : Int), X = min (r q) y → OutInt bb 6 6 (fun v => if v = q then X else r v) w → OutInt bb 6 6 (fun v => if v = q then min (r v) y else r v) w) := fun w X hX O => O.congr9 fun v _ => by
                by_cases e : v = q
                · subst e; simp [hX]
                · simp [e]
              have hqa : q ≠ a9 := fun e => by
                have h1 := hsa.out
                rw [e, h1] at hsq
                cases hsq
              clear hq hl hlab hyy hra v1 t1 hy9 hself

              by_cases hmn : y < r q
              · have hX : Hid (y = min (r q) y) := by rw [Hid, Int.min_def]; split <;> omega
                generalize r q = rq at *
                go_wp2_with (first | (refine wpList_storeM rfl rfl rfl rfl (Mut.new _ _ _) rfl (by intro v hv; simp only [List.mem_cons, List.not_mem_nil, or_false] at hv; rcases hv with rfl | rfl | rfl <;> rfl) sizeLnk ?_; intro ws hM hOs))
                have p0 := hM.2.1 0 _ rfl
                have p2 := hM.2.1 2 _ rfl
                have dS : Below wr.heap.size wr ws := ((Below.refl wr.heap.size wr).alloc (Nat.le_refl _) _).trans (hOs.below (by simp))
                have OS := Or9.below dS
                have onS := onr.trans (Only.of_below dS)
                have hbr : bb < wr.heap.size := Or9.1
                have v0 := (dS.cell (p := ⟨bb, a9, none⟩) hbr).trans v0
                have t0 := (dS.cell (p := ⟨bb, q, none⟩) hbr).trans t0
                have t2 := ((bcell dS).2 bb q hbr).trans t2
                have hLS := hide (hLF9.below dS)
                have hLSd := hide (hLS.out.below (Below.refl ws.heap.size ws).drew)
                have OSd := OS.below (Below.refl ws.heap.size ws).drew
                have onSd := onS.trans (Only.of_below (Below.refl ws.heap.size ws).drew)
                have P1 := hide (fun X hX => hCg.out _ X hX (hPut.out _ X OS))
                have P2 := hide (fun X hX => hCg.out _ X hX (hPut.out _ X OSd))
                clear hOs u0 u1 u2 hM dS hLF9 hPut hCg
                clear hbw7 hbw6 hlw hlbk hbl9 hz9 hbb hw0 hbw hkw htn htni hg hg' ha6 hlt hlt' hk hlm
                have hk0 : ws.cell? ⟨wr.heap.size, 0, none⟩ = some (.int .i64 q) ∧ ws.cell? ⟨wr.heap.size, 2, none⟩ = some (.func (.func 56) #[] #[.pointer (some ⟨pk, 0, none⟩)]) ∧ ws.cell? ⟨bb, a9, none⟩ = some (.int .i64 (b a9)) := ⟨p0, p2, v0⟩
                have hkd : ws.drew.cell? ⟨wr.heap.size, 0, none⟩ = some (.int .i64 q) ∧ ws.drew.cell? ⟨wr.heap.size, 2, none⟩ = some (.func (.func 56) #[] #[.pointer (some ⟨pk, 0, none⟩)]) ∧ ws.drew.cell? ⟨bb, a9, none⟩ = some (.int .i64 (b a9)) := by simpa [go_sem] using hk0
                have hkS : ∀ X, (ws.drew.setCell ⟨bb, q, none⟩ (.int .i64 X)).cell? ⟨wr.heap.size, 0, none⟩ = some (.int .i64 q) ∧ (ws.drew.setCell ⟨bb, q, none⟩ (.int .i64 X)).cell? ⟨wr.heap.size, 2, none⟩ = some (.func (.func 56) #[] #[.pointer (some ⟨pk, 0, none⟩)]) ∧ (ws.drew.setCell ⟨bb, q, none⟩ (.int .i64 X)).cell? ⟨bb, a9, none⟩ = some (.int .i64 (b a9)) := fun X => ⟨by rw [World.cell?_setCell_other _ _ _ _ (by simp <;> omega)]; exact hkd.1, by rw [World.cell?_setCell_other _ _ _ _ (by simp <;> omega)]; exact hkd.2.1, by rw [World.cell?_setCell_other _ _ _ _ (by simp <;> omega)]; exact hkd.2.2⟩
                replace hkS := hide hkS
                have tD : ws.drew.cell? ⟨bb, q, none⟩ = some (.int .i64 rq) := by simpa [go_sem] using t0
                have tF : ws.drew.frozen? ⟨bb, q, none⟩ = false := by simpa [go_sem] using t2
                clear hbr p0 p2 v0 t0 t2 hk0
                refine wp_region_held_drew (S := fun w' => w'.cell? ⟨wr.heap.size, 0, none⟩ = some (.int .i64 q) ∧ w'.cell? ⟨wr.heap.size, 2, none⟩ = some (.func (.func 56) #[] #[.pointer (some ⟨pk, 0, none⟩)]) ∧ w'.cell? ⟨bb, a9, none⟩ = some (.int .i64 (b a9))) (by kernel_rfl) hkd (fun hHeld => ?_)
                refine wpAnyH_take (i := 0) (v := .slice (some ⟨bb, 0, none⟩) 6 6) rfl (by kernel_rfl) (by kernel_rfl) (by kernel_rfl) (fun _ _ _ h => h) (Or.inl ⟨by rfl, fun w' hSw => by go_simp⟩) hHeld ?_
                simp only [List.getElem_toArray, List.getElem_cons_zero, Act.put, List.setIfInBounds_toArray, List.set_cons_zero, List.set_cons_succ]
                refine wpAnyH_take (i := 1) (v := .pointer (some ⟨wr.heap.size, 0, none⟩)) rfl (by kernel_rfl) (by kernel_rfl) (by kernel_rfl) (fun _ _ _ h => h) (Or.inl ⟨by rfl, fun w' hSw => by go_simp⟩) hHeld ?_
                simp only [List.getElem_toArray, List.getElem_cons_succ, List.getElem_cons_zero, Act.put, List.setIfInBounds_toArray, List.set_cons_zero, List.set_cons_succ]
                refine wpAnyH_take (i := 2) (v := .int .i64 q) rfl (by kernel_rfl) (by kernel_rfl) (by kernel_rfl) (fun _ _ _ h => h) (Or.inl ⟨by rfl, fun w' hSw => by go_simp⟩) hHeld ?_
                simp only [List.getElem_toArray, List.getElem_cons_succ, List.getElem_cons_zero, Act.put, List.setIfInBounds_toArray, List.set_cons_zero, List.set_cons_succ]
                refine wpAnyH_take (i := 3) (v := .slice (some ⟨bb, 0, none⟩) 6 6) rfl (by kernel_rfl) (by kernel_rfl) (by kernel_rfl) (fun _ _ _ h => h) (Or.inl ⟨by rfl, fun w' hSw => by go_simp⟩) hHeld ?_
                simp only [List.getElem_toArray, List.getElem_cons_succ, List.getElem_cons_zero, Act.put, List.setIfInBounds_toArray, List.set_cons_zero, List.set_cons_succ]
                refine wpAnyH_take (i := 4) (v := .pointer (some ⟨wr.heap.size, 0, none⟩)) rfl (by kernel_rfl) (by kernel_rfl) (by kernel_rfl) (fun _ _ _ h => h) (Or.inl ⟨by rfl, fun w' hSw => by go_simp⟩) hHeld ?_
                simp only [List.getElem_toArray, List.getElem_cons_succ, List.getElem_cons_zero, Act.put, List.setIfInBounds_toArray, List.set_cons_zero, List.set_cons_succ]
                refine wpAnyH_take (i := 5) (v := .int .i64 q) rfl (by kernel_rfl) (by kernel_rfl) (by kernel_rfl) (fun _ _ _ h => h) (Or.inl ⟨by rfl, fun w' hSw => by go_simp⟩) hHeld ?_
                simp only [List.getElem_toArray, List.getElem_cons_succ, List.getElem_cons_zero, Act.put, List.setIfInBounds_toArray, List.set_cons_zero, List.set_cons_succ]
                refine wpAnyH_take (i := 6) (v := .pointer (some ⟨bb, q, none⟩)) rfl (by kernel_rfl) (by kernel_rfl) (by kernel_rfl) (fun _ _ _ h => h) (Or.inl ⟨by rfl, fun w' hSw => by go_simp⟩) hHeld ?_
                simp only [List.getElem_toArray, List.getElem_cons_succ, List.getElem_cons_zero, Act.put, List.setIfInBounds_toArray, List.set_cons_zero, List.set_cons_succ]
                refine wpAnyH_take (i := 8) (v := .pointer (some ⟨wr.heap.size, 2, none⟩)) rfl (by kernel_rfl) (by kernel_rfl) (by kernel_rfl) (fun _ _ _ h => h) (Or.inl ⟨by rfl, fun w' hSw => by go_simp⟩) hHeld ?_
                simp only [List.getElem_toArray, List.getElem_cons_succ, List.getElem_cons_zero, Act.put, List.setIfInBounds_toArray, List.set_cons_zero, List.set_cons_succ]
                refine wpAnyH_take (i := 9) (v := .func (.func 56) #[] #[.pointer (some ⟨pk, 0, none⟩)]) rfl (by kernel_rfl) (by kernel_rfl) (by kernel_rfl) (fun _ _ _ h => h) (Or.inl ⟨by rfl, fun w' hSw => by go_simp⟩) hHeld ?_
                simp only [List.getElem_toArray, List.getElem_cons_succ, List.getElem_cons_zero, Act.put, List.setIfInBounds_toArray, List.set_cons_zero, List.set_cons_succ]
                refine wpAnyH_take (i := 10) (v := .slice (some ⟨bb, 0, none⟩) 6 6) rfl (by kernel_rfl) (by kernel_rfl) (by kernel_rfl) (fun _ _ _ h => h) (Or.inl ⟨by rfl, fun w' hSw => by go_simp⟩) hHeld ?_
                simp only [List.getElem_toArray, List.getElem_cons_succ, List.getElem_cons_zero, Act.put, List.setIfInBounds_toArray, List.set_cons_zero, List.set_cons_succ]
                refine wpAnyH_take (i := 11) (v := .int .i64 a9) rfl (by kernel_rfl) (by kernel_rfl) (by kernel_rfl) (fun _ _ _ h => h) (Or.inl ⟨by rfl, fun w' hSw => by go_simp⟩) hHeld ?_
                simp only [List.getElem_toArray, List.getElem_cons_succ, List.getElem_cons_zero, Act.put, List.setIfInBounds_toArray, List.set_cons_zero, List.set_cons_succ]
                refine wpAnyH_take (i := 12) (v := .pointer (some ⟨bb, a9, none⟩)) rfl (by kernel_rfl) (by kernel_rfl) (by kernel_rfl) (fun _ _ _ h => h) (Or.inl ⟨by rfl, fun w' hSw => by go_simp⟩) hHeld ?_
                simp only [List.getElem_toArray, List.getElem_cons_succ, List.getElem_cons_zero, Act.put, List.setIfInBounds_toArray, List.set_cons_zero, List.set_cons_succ]
                refine wpAnyH_take (i := 13) (v := .int .i64 (b a9)) rfl (by kernel_rfl) (by kernel_rfl) (by kernel_rfl) (fun _ _ _ h => h) (Or.inl ⟨by rfl, fun w' hSw => by go_simp⟩) hHeld ?_
                simp only [List.getElem_toArray, List.getElem_cons_succ, List.getElem_cons_zero, Act.put, List.setIfInBounds_toArray, List.set_cons_zero, List.set_cons_succ]
                refine wpAnyH_ready (rs := [7, 14]) (by kernel_rfl) (by simp) (AllReadyH.cons rfl (fun K hK => ?_) (AllReadyH.cons rfl (fun K hK => ?_) AllReadyH.nil))
                · go_simp
                  refine hK.out _ _ hkd (fun hHeld => ?_)
                  clear hK K
                  refine wpAnyH_ready (rs := [14]) (by kernel_rfl) (by simp) (AllReadyH.cons rfl (fun K hK => ?_) AllReadyH.nil)
                  go_simp
                  refine (LZ.out _ hLSd.out).mono ?_
                  rintro e w9 ⟨rfl, hw9⟩
                  rw [hw9]; clear hw9 w9
                  refine hK.out _ _ hkd (fun hHeld => ?_)
                  clear hK K
                  refine wpAnyH_ready (rs := [15]) (by kernel_rfl) (by simp) (AllReadyH.cons rfl (fun K hK => ?_) AllReadyH.nil)
                  go_simp
                  refine hK.out _ _ hkd (fun hHeld => ?_)
                  clear hK K
                  refine wpAnyH_take (i := 16) (v := .pointer (some ⟨bb, q, none⟩)) rfl (by kernel_rfl) (by kernel_rfl) (by kernel_rfl) (fun _ _ _ h => h) (Or.inl ⟨by rfl, fun w' hSw => by go_simp⟩) hHeld ?_
                  simp only [List.getElem_toArray, List.getElem_cons_succ, List.getElem_cons_zero, Act.put, List.setIfInBounds_toArray, List.set_cons_zero, List.set_cons_succ]
                  refine wpAnyH_ready (rs := [17]) (by kernel_rfl) (by simp) (AllReadyH.cons rfl (fun K hK => ?_) AllReadyH.nil)
                  go_simp
                  refine hK.out _ _ (hkS.out _) (fun hHeld => ?_)
                  clear hK K
                  refine wpAnyH_done (by kernel_rfl) ?_ _
                  go_wp2_with fail
                  exact ⟨⟨j + 1, _, by go_num, by omega, P2.out _ hX.out, onSd.setCell _ _, hT.out⟩, by simp [intOf]; omega⟩
                · go_simp
                  refine (LZ.out _ hLSd.out).mono ?_
                  rintro e w9 ⟨rfl, hw9⟩
                  rw [hw9]; clear hw9 w9
                  refine hK.out _ _ hkd (fun hHeld => ?_)
                  clear hK K
                  refine wpAnyH_ready (rs := [7]) (by kernel_rfl) (by simp) (AllReadyH.cons rfl (fun K hK => ?_) AllReadyH.nil)
                  go_simp
                  refine hK.out _ _ hkd (fun hHeld => ?_)
                  clear hK K
                  refine wpAnyH_ready (rs := [15]) (by kernel_rfl) (by simp) (AllReadyH.cons rfl (fun K hK => ?_) AllReadyH.nil)
                  go_simp
                  refine hK.out _ _ hkd (fun hHeld => ?_)
                  clear hK K
                  refine wpAnyH_take (i := 16) (v := .pointer (some ⟨bb, q, none⟩)) rfl (by kernel_rfl) (by kernel_rfl) (by kernel_rfl) (fun _ _ _ h => h) (Or.inl ⟨by rfl, fun w' hSw => by go_simp⟩) hHeld ?_
                  simp only [List.getElem_toArray, List.getElem_cons_succ, List.getElem_cons_zero, Act.put, List.setIfInBounds_toArray, List.set_cons_zero, List.set_cons_succ]
                  refine wpAnyH_ready (rs := [17]) (by kernel_rfl) (by simp) (AllReadyH.cons rfl (fun K hK => ?_) AllReadyH.nil)
                  go_simp
                  refine hK.out _ _ (hkS.out _) (fun hHeld => ?_)
                  clear hK K
                  refine wpAnyH_done (by kernel_rfl) ?_ _
                  go_wp2_with fail
                  exact ⟨⟨j + 1, _, by go_num, by omega, P2.out _ hX.out, onSd.setCell _ _, hT.out⟩, by simp [intOf]; omega⟩
              · have hX : Hid (r q = min (r q) y) := by rw [Hid, Int.min_def]; split <;> omega
                generalize r q = rq at *
                go_wp2_with (first | (refine wpList_storeM rfl rfl rfl rfl (Mut.new _ _ _) rfl (by intro v hv; simp only [List.mem_cons, List.not_mem_nil, or_false] at hv; rcases hv with rfl | rfl | rfl <;> rfl) sizeLnk ?_; intro ws hM hOs))
                have p0 := hM.2.1 0 _ rfl
                have p2 := hM.2.1 2 _ rfl
                have dS : Below wr.heap.size wr ws := ((Below.refl wr.heap.size wr).alloc (Nat.le_refl _) _).trans (hOs.below (by simp))
                have OS := Or9.below dS
                have onS := onr.trans (Only.of_below dS)
                have hbr : bb < wr.heap.size := Or9.1
                have v0 := (dS.cell (p := ⟨bb, a9, none⟩) hbr).trans v0
                have t0 := (dS.cell (p := ⟨bb, q, none⟩) hbr).trans t0
                have t2 := ((bcell dS).2 bb q hbr).trans t2
                have hLS := hide (hLF9.below dS)
                have hLSd := hide (hLS.out.below (Below.refl ws.heap.size ws).drew)
                have OSd := OS.below (Below.refl ws.heap.size ws).drew
                have onSd := onS.trans (Only.of_below (Below.refl ws.heap.size ws).drew)
                have P1 := hide (fun X hX => hCg.out _ X hX (hPut.out _ X OS))
                have P2 := hide (fun X hX => hCg.out _ X hX (hPut.out _ X OSd))
                clear hOs u0 u1 u2 hM dS hLF9 hPut hCg
                clear hbw7 hbw6 hlw hlbk hbl9 hz9 hbb hw0 hbw hkw htn htni hg hg' ha6 hlt hlt' hk hlm
                have hk0 : ws.cell? ⟨wr.heap.size, 0, none⟩ = some (.int .i64 q) ∧ ws.cell? ⟨wr.heap.size, 2, none⟩ = some (.func (.func 56) #[] #[.pointer (some ⟨pk, 0, none⟩)]) ∧ ws.cell? ⟨bb, a9, none⟩ = some (.int .i64 (b a9)) := ⟨p0, p2, v0⟩
                have hkd : ws.drew.cell? ⟨wr.heap.size, 0, none⟩ = some (.int .i64 q) ∧ ws.drew.cell? ⟨wr.heap.size, 2, none⟩ = some (.func (.func 56) #[] #[.pointer (some ⟨pk, 0, none⟩)]) ∧ ws.drew.cell? ⟨bb, a9, none⟩ = some (.int .i64 (b a9)) := by simpa [go_sem] using hk0
                have hkS : ∀ X, (ws.drew.setCell ⟨bb, q, none⟩ (.int .i64 X)).cell? ⟨wr.heap.size, 0, none⟩ = some (.int .i64 q) ∧ (ws.drew.setCell ⟨bb, q, none⟩ (.int .i64 X)).cell? ⟨wr.heap.size, 2, none⟩ = some (.func (.func 56) #[] #[.pointer (some ⟨pk, 0, none⟩)]) ∧ (ws.drew.setCell ⟨bb, q, none⟩ (.int .i64 X)).cell? ⟨bb, a9, none⟩ = some (.int .i64 (b a9)) := fun X => ⟨by rw [World.cell?_setCell_other _ _ _ _ (by simp <;> omega)]; exact hkd.1, by rw [World.cell?_setCell_other _ _ _ _ (by simp <;> omega)]; exact hkd.2.1, by rw [World.cell?_setCell_other _ _ _ _ (by simp <;> omega)]; exact hkd.2.2⟩
                replace hkS := hide hkS
                have tD : ws.drew.cell? ⟨bb, q, none⟩ = some (.int .i64 rq) := by simpa [go_sem] using t0
                have tF : ws.drew.frozen? ⟨bb, q, none⟩ = false := by simpa [go_sem] using t2
                clear hbr p0 p2 v0 t0 t2 hk0
                refine wp_region_held_drew (S := fun w' => w'.cell? ⟨wr.heap.size, 0, none⟩ = some (.int .i64 q) ∧ w'.cell? ⟨wr.heap.size, 2, none⟩ = some (.func (.func 56) #[] #[.pointer (some ⟨pk, 0, none⟩)]) ∧ w'.cell? ⟨bb, a9, none⟩ = some (.int .i64 (b a9))) (by kernel_rfl) hkd (fun hHeld => ?_)
                refine wpAnyH_take (i := 0) (v := .slice (some ⟨bb, 0, none⟩) 6 6) rfl (by kernel_rfl) (by kernel_rfl) (by kernel_rfl) (fun _ _ _ h => h) (Or.inl ⟨by rfl, fun w' hSw => by go_simp⟩) hHeld ?_
                simp only [List.getElem_toArray, List.getElem_cons_zero, Act.put, List.setIfInBounds_toArray, List.set_cons_zero, List.set_cons_succ]
                refine wpAnyH_take (i := 1) (v := .pointer (some ⟨wr.heap.size, 0, none⟩)) rfl (by kernel_rfl) (by kernel_rfl) (by kernel_rfl) (fun _ _ _ h => h) (Or.inl ⟨by rfl, fun w' hSw => by go_simp⟩) hHeld ?_
                simp only [List.getElem_toArray, List.getElem_cons_succ, List.getElem_cons_zero, Act.put, List.setIfInBounds_toArray, List.set_cons_zero, List.set_cons_succ]
                refine wpAnyH_take (i := 2) (v := .int .i64 q) rfl (by kernel_rfl) (by kernel_rfl) (by kernel_rfl) (fun _ _ _ h => h) (Or.inl ⟨by rfl, fun w' hSw => by go_simp⟩) hHeld ?_
                simp only [List.getElem_toArray, List.getElem_cons_succ, List.getElem_cons_zero, Act.put, List.setIfInBounds_toArray, List.set_cons_zero, List.set_cons_succ]
                refine wpAnyH_take (i := 3) (v := .slice (some ⟨bb, 0, none⟩) 6 6) rfl (by kernel_rfl) (by kernel_rfl) (by kernel_rfl) (fun _ _ _ h => h) (Or.inl ⟨by rfl, fun w' hSw => by go_simp⟩) hHeld ?_
                simp only [List.getElem_toArray, List.getElem_cons_succ, List.getElem_cons_zero, Act.put, List.setIfInBounds_toArray, List.set_cons_zero, List.set_cons_succ]
                refine wpAnyH_take (i := 4) (v := .pointer (some ⟨wr.heap.size, 0, none⟩)) rfl (by kernel_rfl) (by kernel_rfl) (by kernel_rfl) (fun _ _ _ h => h) (Or.inl ⟨by rfl, fun w' hSw => by go_simp⟩) hHeld ?_
                simp only [List.getElem_toArray, List.getElem_cons_succ, List.getElem_cons_zero, Act.put, List.setIfInBounds_toArray, List.set_cons_zero, List.set_cons_succ]
                refine wpAnyH_take (i := 5) (v := .int .i64 q) rfl (by kernel_rfl) (by kernel_rfl) (by kernel_rfl) (fun _ _ _ h => h) (Or.inl ⟨by rfl, fun w' hSw => by go_simp⟩) hHeld ?_
                simp only [List.getElem_toArray, List.getElem_cons_succ, List.getElem_cons_zero, Act.put, List.setIfInBounds_toArray, List.set_cons_zero, List.set_cons_succ]
                refine wpAnyH_take (i := 6) (v := .pointer (some ⟨bb, q, none⟩)) rfl (by kernel_rfl) (by kernel_rfl) (by kernel_rfl) (fun _ _ _ h => h) (Or.inl ⟨by rfl, fun w' hSw => by go_simp⟩) hHeld ?_
                simp only [List.getElem_toArray, List.getElem_cons_succ, List.getElem_cons_zero, Act.put, List.setIfInBounds_toArray, List.set_cons_zero, List.set_cons_succ]
                refine wpAnyH_take (i := 8) (v := .pointer (some ⟨wr.heap.size, 2, none⟩)) rfl (by kernel_rfl) (by kernel_rfl) (by kernel_rfl) (fun _ _ _ h => h) (Or.inl ⟨by rfl, fun w' hSw => by go_simp⟩) hHeld ?_
                simp only [List.getElem_toArray, List.getElem_cons_succ, List.getElem_cons_zero, Act.put, List.setIfInBounds_toArray, List.set_cons_zero, List.set_cons_succ]
                refine wpAnyH_take (i := 9) (v := .func (.func 56) #[] #[.pointer (some ⟨pk, 0, none⟩)]) rfl (by kernel_rfl) (by kernel_rfl) (by kernel_rfl) (fun _ _ _ h => h) (Or.inl ⟨by rfl, fun w' hSw => by go_simp⟩) hHeld ?_
                simp only [List.getElem_toArray, List.getElem_cons_succ, List.getElem_cons_zero, Act.put, List.setIfInBounds_toArray, List.set_cons_zero, List.set_cons_succ]
                refine wpAnyH_take (i := 10) (v := .slice (some ⟨bb, 0, none⟩) 6 6) rfl (by kernel_rfl) (by kernel_rfl) (by kernel_rfl) (fun _ _ _ h => h) (Or.inl ⟨by rfl, fun w' hSw => by go_simp⟩) hHeld ?_
                simp only [List.getElem_toArray, List.getElem_cons_succ, List.getElem_cons_zero, Act.put, List.setIfInBounds_toArray, List.set_cons_zero, List.set_cons_succ]
                refine wpAnyH_take (i := 11) (v := .int .i64 a9) rfl (by kernel_rfl) (by kernel_rfl) (by kernel_rfl) (fun _ _ _ h => h) (Or.inl ⟨by rfl, fun w' hSw => by go_simp⟩) hHeld ?_
                simp only [List.getElem_toArray, List.getElem_cons_succ, List.getElem_cons_zero, Act.put, List.setIfInBounds_toArray, List.set_cons_zero, List.set_cons_succ]
                refine wpAnyH_take (i := 12) (v := .pointer (some ⟨bb, a9, none⟩)) rfl (by kernel_rfl) (by kernel_rfl) (by kernel_rfl) (fun _ _ _ h => h) (Or.inl ⟨by rfl, fun w' hSw => by go_simp⟩) hHeld ?_
                simp only [List.getElem_toArray, List.getElem_cons_succ, List.getElem_cons_zero, Act.put, List.setIfInBounds_toArray, List.set_cons_zero, List.set_cons_succ]
                refine wpAnyH_take (i := 13) (v := .int .i64 (b a9)) rfl (by kernel_rfl) (by kernel_rfl) (by kernel_rfl) (fun _ _ _ h => h) (Or.inl ⟨by rfl, fun w' hSw => by go_simp⟩) hHeld ?_
                simp only [List.getElem_toArray, List.getElem_cons_succ, List.getElem_cons_zero, Act.put, List.setIfInBounds_toArray, List.set_cons_zero, List.set_cons_succ]
                refine wpAnyH_ready (rs := [7, 14]) (by kernel_rfl) (by simp) (AllReadyH.cons rfl (fun K hK => ?_) (AllReadyH.cons rfl (fun K hK => ?_) AllReadyH.nil))
                · go_simp
                  refine hK.out _ _ hkd (fun hHeld => ?_)
                  clear hK K
                  refine wpAnyH_ready (rs := [14]) (by kernel_rfl) (by simp) (AllReadyH.cons rfl (fun K hK => ?_) AllReadyH.nil)
                  go_simp
                  refine (LZ.out _ hLSd.out).mono ?_
                  rintro e w9 ⟨rfl, hw9⟩
                  rw [hw9]; clear hw9 w9
                  refine hK.out _ _ hkd (fun hHeld => ?_)
                  clear hK K
                  refine wpAnyH_ready (rs := [15]) (by kernel_rfl) (by simp) (AllReadyH.cons rfl (fun K hK => ?_) AllReadyH.nil)
                  go_simp
                  refine hK.out _ _ hkd (fun hHeld => ?_)
                  clear hK K
                  refine wpAnyH_take (i := 16) (v := .pointer (some ⟨bb, q, none⟩)) rfl (by kernel_rfl) (by kernel_rfl) (by kernel_rfl) (fun _ _ _ h => h) (Or.inl ⟨by rfl, fun w' hSw => by go_simp⟩) hHeld ?_
                  simp only [List.getElem_toArray, List.getElem_cons_succ, List.getElem_cons_zero, Act.put, List.setIfInBounds_toArray, List.set_cons_zero, List.set_cons_succ]
                  refine wpAnyH_ready (rs := [17]) (by kernel_rfl) (by simp) (AllReadyH.cons rfl (fun K hK => ?_) AllReadyH.nil)
                  go_simp
                  refine hK.out _ _ (hkS.out _) (fun hHeld => ?_)
                  clear hK K
                  refine wpAnyH_done (by kernel_rfl) ?_ _
                  go_wp2_with fail
                  exact ⟨⟨j + 1, _, by go_num, by omega, P2.out _ hX.out, onSd.setCell _ _, hT.out⟩, by simp [intOf]; omega⟩
                · go_simp
                  refine (LZ.out _ hLSd.out).mono ?_
                  rintro e w9 ⟨rfl, hw9⟩
                  rw [hw9]; clear hw9 w9
                  refine hK.out _ _ hkd (fun hHeld => ?_)
                  clear hK K
                  refine wpAnyH_ready (rs := [7]) (by kernel_rfl) (by simp) (AllReadyH.cons rfl (fun K hK => ?_) AllReadyH.nil)
                  go_simp
                  refine hK.out _ _ hkd (fun hHeld => ?_)
                  clear hK K
                  refine wpAnyH_ready (rs := [15]) (by kernel_rfl) (by simp) (AllReadyH.cons rfl (fun K hK => ?_) AllReadyH.nil)
                  go_simp
                  refine hK.out _ _ hkd (fun hHeld => ?_)
                  clear hK K
                  refine wpAnyH_take (i := 16) (v := .pointer (some ⟨bb, q, none⟩)) rfl (by kernel_rfl) (by kernel_rfl) (by kernel_rfl) (fun _ _ _ h => h) (Or.inl ⟨by rfl, fun w' hSw => by go_simp⟩) hHeld ?_
                  simp only [List.getElem_toArray, List.getElem_cons_succ, List.getElem_cons_zero, Act.put, List.setIfInBounds_toArray, List.set_cons_zero, List.set_cons_succ]
                  refine wpAnyH_ready (rs := [17]) (by kernel_rfl) (by simp) (AllReadyH.cons rfl (fun K hK => ?_) AllReadyH.nil)
                  go_simp
                  refine hK.out _ _ (hkS.out _) (fun hHeld => ?_)
                  clear hK K
                  refine wpAnyH_done (by kernel_rfl) ?_ _
                  go_wp2_with fail
                  exact ⟨⟨j + 1, _, by go_num, by omega, P2.out _ hX.out, onSd.setCell _ _, hT.out⟩, by simp [intOf]; omega⟩
            · have hjt' : ¬ (j : Int) < (B.length : Int) := by omega
              obtain rfl : j = B.length := by omega
              have hE := hide (hEnd.out r hG.out)
              have hO9 : OutInt bb 6 6 (RS (k + 1)).1 wr := by rw [hRSk.out]; exact Or9.congr9 hE.out
              have hM8 : Mut wr lb (bits 6 (RS (k + 1)).2) := by rw [hRSk.out]; exact M7.only onr (by omega)
              have dwr : Below wk.heap.size wk wr := k7.trans ((onr.below hbw7).mono hbb)
              clear hG hE hEnd hLB hBn hM9 hself Or9 onr
              go_wp2_with fail
              exact ⟨⟨k + 1, by go_num, by omega, hO9, hM8, dwr⟩, by simp [intOf]; omega⟩
        · have hlt' : ¬ (k : Int) < 6 := by omega
          obtain rfl : k = 6 := by omega
          have d9 := d3.trans (bk.mono d3.size)
          clear hInv hStep hGA hmem
          go_wp2_with fail
          go_ret2
          exact ⟨_, rfl, ansL_out hw0 Ok, d9⟩
    · rw [inB_n ht] at SI
      obtain ⟨e1, e2⟩ := bt_no (fun h => ht h.2 : ¬ PtOk g m T n f0 f1 f2 t)
      rw [e1, e2]
      clear hNA e1 e2 ht
      go_enter Try.func9, Try.ntmps9
      go_wp2_with fail
      generalize w.alloc (.cells #[.int .i64 g, .slice a m c] 31) = wx at *
      refine (SA.out _ (hR.below dX) (hA.below dX)).mono ?_
      rintro e w1 ⟨rfl, b1⟩
      replace dX := dX.trans (b1.mono dX.size)
      clear b1 SA MX c0 c1
      go_wp2_with fail
      refine (SI.out _).mono ?_
      rintro e w2 ⟨rfl, hw2⟩
      rw [hw2]; clear hw2 w2 SI
      go_wp2_with fail
      go_ret2
      exact ⟨_, rfl, ansL_nil _ _, dX⟩
  · rw [show naB g m T n f0 f1 f2 = false from pB_f hNA] at SA
    obtain ⟨e1, e2⟩ := bt_no (fun h => hNA h.1 : ¬ PtOk g m T n f0 f1 f2 t)
    rw [e1, e2]
    clear hNA e1 e2
    go_enter Try.func9, Try.ntmps9
    go_wp2_with fail
    generalize w.alloc (.cells #[.int .i64 g, .slice a m c] 31) = wx at *
    refine (SA.out _ (hR.below dX) (hA.below dX)).mono ?_
    rintro e w1 ⟨rfl, b1⟩
    replace dX := dX.trans (b1.mono dX.size)
    clear b1 SA MX c0 c1 SI
    go_wp2_with fail
    go_ret2
    exact ⟨_, rfl, ansL_nil _ _, dX⟩
end Go.Proofs.Ytelehmkmdbhcfaa
