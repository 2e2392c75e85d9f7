/- ownRoute and HeardFrom of the program. -/
import Derived.Test.YtjjdfniemlcnnaaAll10
import Derived.Test.YtjjdfniemlcnnaaI13g
import Derived.Test.YtjjdfniemlcnnaaI8o
namespace Go.Proofs.Ytjjdfniemlcnnaa
open Go.RowKit

set_option maxRecDepth 100000 in
set_option maxHeartbeats 1600000 in
theorem i_ownRoute (ad ln : Int) (q : Oe) (w : World) (hS : SrcO w q) :
    Calls Try.prog 45 #[.agg #[.int .i64 ad, .int .i64 ln, .int .i64 q.t.o, .slice q.a0 q.t.n0 q.c0, .int .i64 q.t.nx, .int .i64 q.t.md, .int .i64 q.t.pf, .slice q.a1 q.t.n1 q.c1]] w fun e w' => ∃ r : Rge, e = .returned (.agg #[.int .i64 r.t.pa, .int .i64 r.t.pl, .int .i64 r.t.o, .slice r.a0 r.t.n0 r.c0, .int .i64 r.t.nx, .int .i64 r.t.md, .int .i64 r.t.pf, .slice r.a1 r.t.n1 r.c1]) ∧ NewG w.heap.size (rtOf ad ln q.t) w' r ∧ Below w.heap.size w w' := by
  obtain ⟨s0, s1, ⟨R0, R1⟩, h0, h1⟩ := hS
  have A := hide (fun w R0 R1 => i_ownA q.t.o q.t.nx q.t.md q.t.pf q.a0 q.t.n0 q.c0 q.t.f q.a1 q.t.n1 q.c1 q.t.g w h0 h1 s0 s1 R0 R1)
  have M1 := (Mut.new w #[.int .i64 ad, .int .i64 ln, .int .i64 q.t.o, .slice q.a0 q.t.n0 q.c0, .int .i64 q.t.nx, .int .i64 q.t.md, .int .i64 q.t.pf, .slice q.a1 q.t.n1 q.c1] 75).alloc (.cells #[.int .i64 0, .int .i64 0, .int .i64 0, .slice none 0 0, .int .i64 0, .int .i64 0, .int .i64 0, .slice none 0 0] 75)
  have M2 := Mut.new (w.alloc (.cells #[.int .i64 ad, .int .i64 ln, .int .i64 q.t.o, .slice q.a0 q.t.n0 q.c0, .int .i64 q.t.nx, .int .i64 q.t.md, .int .i64 q.t.pf, .slice q.a1 q.t.n1 q.c1] 75)) #[.int .i64 0, .int .i64 0, .int .i64 0, .slice none 0 0, .int .i64 0, .int .i64 0, .int .i64 0, .slice none 0 0] 75
  have d2 : Below w.heap.size w ((w.alloc (.cells #[.int .i64 ad, .int .i64 ln, .int .i64 q.t.o, .slice q.a0 q.t.n0 q.c0, .int .i64 q.t.nx, .int .i64 q.t.md, .int .i64 q.t.pf, .slice q.a1 q.t.n1 q.c1] 75)).alloc (.cells #[.int .i64 0, .int .i64 0, .int .i64 0, .slice none 0 0, .int .i64 0, .int .i64 0, .int .i64 0, .slice none 0 0] 75)) := below_box2 (Below.refl _ _)
  simp only [World.size_alloc] at M2
  have hz : w.heap.size + 1 < ((w.alloc (.cells #[.int .i64 ad, .int .i64 ln, .int .i64 q.t.o, .slice q.a0 q.t.n0 q.c0, .int .i64 q.t.nx, .int .i64 q.t.md, .int .i64 q.t.pf, .slice q.a1 q.t.n1 q.c1] 75)).alloc (.cells #[.int .i64 0, .int .i64 0, .int .i64 0, .slice none 0 0, .int .i64 0, .int .i64 0, .int .i64 0, .slice none 0 0] 75)).heap.size := by simp
  clear h0 h1 s0 s1
  go_enter Try.func45, Try.ntmps45
  go_wp2_with fail
  generalize (w.alloc (.cells #[.int .i64 ad, .int .i64 ln, .int .i64 q.t.o, .slice q.a0 q.t.n0 q.c0, .int .i64 q.t.nx, .int .i64 q.t.md, .int .i64 q.t.pf, .slice q.a1 q.t.n1 q.c1] 75)).alloc (.cells #[.int .i64 0, .int .i64 0, .int .i64 0, .slice none 0 0, .int .i64 0, .int .i64 0, .int .i64 0, .slice none 0 0] 75) = W at *
  refine (A.out _ (R0.below d2) (R1.below d2)).mono ?_
  rintro r w3 ⟨x, pc, y, yc, rfl, o1, o2, hx, hy, b3⟩
  have N1 := M1.below b3
  have N2 := M2.below b3
  have d3 := d2.trans (b3.mono d2.size)
  have hz3 := b3.size
  clear M1 M2 b3 d2 A
  have a0_ := N1.2.1 0 _ rfl
  have az0 := N1.2.2 0 (by simp)
  have b0_ := N2.2.1 0 _ rfl
  have bz0 := N2.2.2 0 (by simp)
  have a1_ := N1.2.1 1 _ rfl
  have az1 := N1.2.2 1 (by simp)
  have b1_ := N2.2.1 1 _ rfl
  have bz1 := N2.2.2 1 (by simp)
  have a2_ := N1.2.1 2 _ rfl
  have az2 := N1.2.2 2 (by simp)
  have b2_ := N2.2.1 2 _ rfl
  have bz2 := N2.2.2 2 (by simp)
  have a3_ := N1.2.1 3 _ rfl
  have az3 := N1.2.2 3 (by simp)
  have b3_ := N2.2.1 3 _ rfl
  have bz3 := N2.2.2 3 (by simp)
  have a4_ := N1.2.1 4 _ rfl
  have az4 := N1.2.2 4 (by simp)
  have b4_ := N2.2.1 4 _ rfl
  have bz4 := N2.2.2 4 (by simp)
  have a5_ := N1.2.1 5 _ rfl
  have az5 := N1.2.2 5 (by simp)
  have b5_ := N2.2.1 5 _ rfl
  have bz5 := N2.2.2 5 (by simp)
  have a6_ := N1.2.1 6 _ rfl
  have az6 := N1.2.2 6 (by simp)
  have b6_ := N2.2.1 6 _ rfl
  have bz6 := N2.2.2 6 (by simp)
  have a7_ := N1.2.1 7 _ rfl
  have az7 := N1.2.2 7 (by simp)
  have b7_ := N2.2.1 7 _ rfl
  have bz7 := N2.2.2 7 (by simp)
  clear N1 N2
  go_wp2_with fail
  refine bodyPost_ret (v := .agg #[.int .i64 ad, .int .i64 ln, .int .i64 q.t.o, .slice (some ⟨x, 0, none⟩) q.t.n0 pc, .int .i64 q.t.nx, .int .i64 q.t.md, .int .i64 q.t.pf, .slice (some ⟨y, 0, none⟩) q.t.n1 yc]) (by simp [results, Try.results45, go_sem, *]) rfl ⟨⟨rtOf ad ln q.t, some ⟨x, 0, none⟩, pc, some ⟨y, 0, none⟩, yc⟩, rfl, ⟨rfl, rfl, rfl, ?_, hy, ?_, ?_⟩, ?_⟩
  · show w.heap.size ≤ x
    omega
  · show OutInt x q.t.n0 q.t.n0 q.t.f _
    refine OutInt.other (OutInt.other (OutInt.other (OutInt.other (OutInt.other (OutInt.other (OutInt.other (OutInt.other (OutInt.other (OutInt.other (OutInt.other (OutInt.other (OutInt.other (OutInt.other (o1) ?_ _ _) ?_ _ _) ?_ _ _) ?_ _ _) ?_ _ _) ?_ _ _) ?_ _ _) ?_ _ _) ?_ _ _) ?_ _ _) ?_ _ _) ?_ _ _) ?_ _ _) ?_ _ _ <;> omega
  · show OutInt y q.t.n1 q.t.n1 q.t.g _
    refine OutInt.other (OutInt.other (OutInt.other (OutInt.other (OutInt.other (OutInt.other (OutInt.other (OutInt.other (OutInt.other (OutInt.other (OutInt.other (OutInt.other (OutInt.other (OutInt.other (o2) ?_ _ _) ?_ _ _) ?_ _ _) ?_ _ _) ?_ _ _) ?_ _ _) ?_ _ _) ?_ _ _) ?_ _ _) ?_ _ _) ?_ _ _) ?_ _ _) ?_ _ _) ?_ _ _ <;> omega
  · refine Below.setCell (Below.setCell (Below.setCell (Below.setCell (Below.setCell (Below.setCell (Below.setCell (Below.setCell (Below.setCell (Below.setCell (Below.setCell (Below.setCell (Below.setCell (Below.setCell (d3) ?_ _) ?_ _) ?_ _) ?_ _) ?_ _) ?_ _) ?_ _) ?_ _) ?_ _) ?_ _) ?_ _) ?_ _) ?_ _) ?_ _ <;> (simp; try omega)
set_option maxRecDepth 100000 in
set_option maxHeartbeats 6400000 in
theorem i_heardFrom (ow : Int) (a : Option Addr) (n c : Nat) (U : Nat → Rc) (x : Int) (w : World) (hn : n ≤ 1048576) (hl : LowR n U) (hR : RowRS a n U w) :
    Calls Try.prog 17 #[.agg #[.int .i64 ow, .slice a n c], .int .i64 x] w fun e w' => ∃ v M, e = .returned (.tuple #[v, .bool (heB ow n U x)]) ∧ M.map (·.t) = heL ow n U x ∧ LsG w.heap.size v M w' ∧ Below w.heap.size w w' := by
  have GR := hide (fun w R => i_goodRib ow a n c U w hn hl R)
  have GX := hide (fun w => i_isPeer x w)
  have MB := Mut.new w #[.int .i64 ow, .slice a n c] 24
  have d0 : Below w.heap.size w (w.alloc (.cells #[.int .i64 ow, .slice a n c] 24)) := below_box (Below.refl _ _)
  have RA := hide (hR.below d0)
  cases hg : rbB ow n U with
  | false =>
    rw [hg] at GR
    have hE1 : Hid (heB ow n U x = false) := by rw [Hid, heB, hg]; rfl
    clear hg hR
    go_enter Try.func17, Try.ntmps17
    go_wp2_with fail
    refine (GR.out _ RA.out.row).mono ?_
    rintro e w1 ⟨rfl, b1⟩
    go_wp2_with fail
    rw [hE1.out]
    exact bodyPost_ret (v := .tuple #[.slice none 0 0, .bool false]) (by simp [results, Try.results17, go_sem]) rfl ⟨_, [], rfl, by rw [he_no hE1.out]; rfl, LsG.nil _ _, d0.trans (b1.mono d0.size)⟩
  | true =>
    rw [hg] at GR
    cases hp : inB x 0 5 with
    | false =>
      rw [hp] at GX
      have hE1 : Hid (heB ow n U x = false) := by rw [Hid, heB, hp, Bool.and_false]
      clear hg hR hp
      go_enter Try.func17, Try.ntmps17
      go_wp2_with fail
      refine (GR.out _ RA.out.row).mono ?_
      rintro e w1 ⟨rfl, b1⟩
      go_wp2_with fail
      refine (GX.out _).mono ?_
      rintro e w1' ⟨rfl, rfl⟩
      go_wp2_with fail
      rw [hE1.out]
      exact bodyPost_ret (v := .tuple #[.slice none 0 0, .bool false]) (by simp [results, Try.results17, go_sem]) rfl ⟨_, [], rfl, by rw [he_no hE1.out]; rfl, LsG.nil _ _, d0.trans (b1.mono d0.size)⟩
    | true =>
      rw [hp] at GX
      have hE1 : Hid (heB ow n U x = true) := by rw [Hid, heB, hg, hp]; rfl
      have hn20 := (rb_good hg).few
      have hl' := hide hl
      have KR := hide (fun w' b => i_keptRowsS ow a n c U w w' hn hR b)
      clear hg hR hl hp
      go_enter Try.func17, Try.ntmps17
      go_wp2_with fail
      generalize w.alloc (.cells #[.int .i64 ow, .slice a n c] 24) = W at *
      refine (GR.out _ RA.out.row).mono ?_
      rintro e w1 ⟨rfl, b1⟩
      replace MB := MB.below b1
      replace d0 := d0.trans (b1.mono d0.size)
      have m0 := MB.2.1 0 _ rfl
      have m1 := MB.2.1 1 _ rfl
      clear b1 GR RA
      go_wp2_with fail
      refine (GX.out _).mono ?_
      rintro e w1' ⟨rfl, rfl⟩
      go_wp2_with fail
      refine (KR.out _ d0).mono ?_
      rintro e w2 ⟨va, vc, rfl, RT, b2⟩
      replace d0 := d0.trans (b2.mono d0.size)
      clear b2 KR m0 m1 MB GX
      go_wp2_with fail
      go_loopw [6, 22] (fun v y wr => ∃ (k : Nat) (M : List Rge), y = .int .i64 k ∧ k ≤ n ∧ M.map (·.t) = hfL x k U ∧ LsG w2.heap.size v M wr ∧ Below w2.heap.size w2 wr) (fun _ y _ => n - (intOf y).toNat)
      case atStart => exact ⟨0, [], rfl, Nat.zero_le _, rfl, LsG.nil _ _, Below.refl _ _⟩
      case round =>
        obtain ⟨k, M, rfl, hk, hM, hO, hb⟩ := hrel
        have hwr := hb.size
        by_cases hlt : k < n
        · have hlt' : (k : Int) < (n : Int) := by omega
          obtain ⟨b, off, a0, c0, rfl, hbw, u0, u1, u2, ht⟩ := RT k hlt
          replace u0 := (hb.cell (p := ⟨b, off + k * 3, none⟩) hbw).trans u0
          replace u1 := (hb.cell (p := ⟨b, off + k * 3 + 1, none⟩) hbw).trans u1
          replace u2 := (hb.cell (p := ⟨b, off + k * 3 + 2, none⟩) hbw).trans u2
          have LB := hide (fun w' hb => i_offerOf a0 (U k).n c0 (U k).T x w w' (hl'.out _ hlt).1 ht hb)
          have hyes := hide (fun h => hf_yes (x := x) (n := k) (U := U) h)
          have hno := hide (fun h => hf_no (x := x) (n := k) (U := U) h)
          have hMl : Hid (M.length ≤ 20) := by
            have q1 := hf_len x k U
            have : M.length = (hfL x k U).length := by rw [← hM, List.length_map]
            show _ ≤ _
            omega
          have hM' := hide hM
          have hO' := hide hO
          clear hM hO ht RT
          generalize hfL x k U = Dd at *
          have hbf : Hid (∀ q w, FoIs (U k).n (U k).T x q w → foB (U k).n (U k).T x = true → q.t = foT (U k).n (U k).T x ∧ SrcO w q) := fun q w h e => ⟨h.1, h.2.1 e⟩
          generalize foT (U k).n (U k).T x = bt at *
          have bX : Below wr.heap.size wr (wr.alloc (.cells #[.int .i64 (U k).ad, .int .i64 (U k).ln, .slice a0 (U k).n c0] 71)) := below_box (Below.refl _ _)
          have MX := Mut.new wr #[.int .i64 (U k).ad, .int .i64 (U k).ln, .slice a0 (U k).n c0] 71
          have dX := hb.trans (bX.mono hb.size)
          have gX := d0.trans (dX.mono d0.size)
          have hOX := hide (hO'.out.below bX)
          obtain ⟨va', vc', rfl, _, _⟩ := ownH_row hO'.out.1
          have hgg : Hid (∀ g, (Value.slice va' M.length vc').ownBlock = some g → g < wr.heap.size) := fun g e => (ownH_blk hO'.out.1 e).2
          have hzz : Hid (∀ e', e' ∈ M → byG e' < wr.heap.size) := fun e' he => hO'.out.lt he
          clear hO' bX
          cases hbb : foB (U k).n (U k).T x with
          | false =>
            have hN := hide (hno.out hbb)
            rw [hbb] at LB
            clear hyes hno hbb hbf
            generalize U k = t at *
            go_wp2_with fail
            generalize wr.alloc (.cells #[.int .i64 t.ad, .int .i64 t.ln, .slice a0 t.n c0] 71) = wx at *
            refine (LB.out _ gX).mono ?_
            rintro e w3 ⟨q, rfl, _, b3⟩
            have bQ : Below w3.heap.size w3 (w3.alloc (.cells #[.int .i64 q.t.pe, .int .i64 q.t.o, .slice q.a0 q.t.n0 q.c0, .int .i64 q.t.nx, .int .i64 q.t.md, .int .i64 q.t.pf, .slice q.a1 q.t.n1 q.c1] 49)) := below_box (Below.refl _ _)
            have hOF := (hOX.out.below b3).below bQ
            have dF := (dX.trans (b3.mono dX.size)).trans (bQ.mono (Nat.le_trans dX.size b3.size))
            clear MX b3 bQ hOX
            go_wp2_with fail
            exact ⟨⟨k + 1, M, by go_num, by omega, by rw [hN.out]; exact hM'.out, hOF, dF⟩, by simp [intOf]; omega⟩
          | true =>
            have hN := hide (hyes.out hbb)
            have hbf := hide (fun q w h => hbf.out q w h hbb)
            rw [hbb] at LB
            clear hyes hno hbb
            generalize U k = t at *
            go_wp2_with fail
            generalize wr.alloc (.cells #[.int .i64 t.ad, .int .i64 t.ln, .slice a0 t.n c0] 71) = wx at *
            refine (LB.out _ gX).mono ?_
            rintro e w3 ⟨q, rfl, hq, b3⟩
            obtain ⟨hqt0, hqs⟩ := hbf.out _ _ hq
            have hqt := hide hqt0
            clear hqt0 hq hbf
            have bQ : Below w3.heap.size w3 (w3.alloc (.cells #[.int .i64 q.t.pe, .int .i64 q.t.o, .slice q.a0 q.t.n0 q.c0, .int .i64 q.t.nx, .int .i64 q.t.md, .int .i64 q.t.pf, .slice q.a1 q.t.n1 q.c1] 49)) := below_box (Below.refl _ _)
            have MQ := Mut.new w3 #[.int .i64 q.t.pe, .int .i64 q.t.o, .slice q.a0 q.t.n0 q.c0, .int .i64 q.t.nx, .int .i64 q.t.md, .int .i64 q.t.pf, .slice q.a1 q.t.n1 q.c1] 49
            have hOF := hide ((hOX.out.below b3).below bQ)
            have dF := (dX.trans (b3.mono dX.size)).trans (bQ.mono (Nat.le_trans dX.size b3.size))
            have MXq := (MX.below b3).below bQ
            have hsq := hide (hqs.below (d0.trans (dF.mono d0.size)))
            have OW := hide (fun w h => i_ownRoute t.ad t.ln q w h)
            clear MX b3 bQ hOX hqs gX dX
            have y0 := MXq.2.1 0 _ rfl
            have y1 := MXq.2.1 1 _ rfl
            have k0 := MQ.2.1 0 _ rfl
            have k1 := MQ.2.1 1 _ rfl
            have k2 := MQ.2.1 2 _ rfl
            have k3 := MQ.2.1 3 _ rfl
            have k4 := MQ.2.1 4 _ rfl
            have k5 := MQ.2.1 5 _ rfl
            have k6 := MQ.2.1 6 _ rfl
            go_wp2_with fail
            generalize w3.alloc (.cells #[.int .i64 q.t.pe, .int .i64 q.t.o, .slice q.a0 q.t.n0 q.c0, .int .i64 q.t.nx, .int .i64 q.t.md, .int .i64 q.t.pf, .slice q.a1 q.t.n1 q.c1] 49) = w4 at *
            refine (OW.out _ hsq.out).mono ?_
            rintro e w5 ⟨r, rfl, hr, b5⟩
            have hO5 := hOF.out.below b5
            have hx4 : wr.heap.size < w4.heap.size := MXq.1
            have dF5 := dF.trans (b5.mono dF.size)
            have hsz5 := b5.size
            have hf5 := dF.size
            obtain ⟨r1_, r2_, r3_, r4, r5, r6, r7⟩ := hr
            have r1 := hide r1_
            have r2 := hide r2_
            have r3 := hide r3_
            clear r1_ r2_ r3_ b5 OW hsq hOF MXq dF k0 k1 k2 k3 k4 k5 k6 y0 y1 MQ
            have bR : Below w5.heap.size w5 (w5.alloc (.cells #[.int .i64 r.t.pa, .int .i64 r.t.pl, .int .i64 r.t.o, .slice r.a0 r.t.n0 r.c0, .int .i64 r.t.nx, .int .i64 r.t.md, .int .i64 r.t.pf, .slice r.a1 r.t.n1 r.c1] 75)) := below_box (Below.refl _ _)
            have h20 := hMl.out
            have hO5R := hide (hO5.below bR)
            have d5R := dF5.trans (bR.mono dF5.size)
            have o6 := r6.below bR
            have o7 := r7.below bR
            clear hO5 bR r6 r7
            go_wp2_with (first | (at_builtin; refine wpList_appH2 rfl _ _ rfl w2.heap.size (.slice va' M.length vc') M rfl hO5R.out.1 (some ⟨w5.heap.size, 0, none⟩) [r] 1 1 rfl rfl ⟨RowH.one (p := r) (by simp) (by simp [go_sem]) (by simp [go_sem]) (by simp [go_sem]) (by simp [go_sem]) (by simp [go_sem]) (by simp [go_sem]) (by simp [go_sem]) (by simp [go_sem]), .inr ⟨_, _, rfl⟩⟩ (by simp; omega) (by simp; omega) ?_))
            intro v' w6 hO6 b6 hgr hbk
            have hbk : v'.ownBlock = (Value.slice va' M.length vc').ownBlock ∨ v'.ownBlock = some (w5.alloc (.cells #[.int .i64 r.t.pa, .int .i64 r.t.pl, .int .i64 r.t.o, .slice r.a0 r.t.n0 r.c0, .int .i64 r.t.nx, .int .i64 r.t.md, .int .i64 r.t.pf, .slice r.a1 r.t.n1 r.c1] 75)).heap.size := by simpa using hbk
            have hL6 := LsG.app (z := wr.heap.size) (e := r) hO5R.out hzz.out hgg.out ⟨r2.out, r3.out, by omega, by omega, r5, o6, o7⟩ hO6 hgr hbk
            have d6 := d5R.trans b6
            clear hO6 hO5R hgr hbk b6 d5R o6 o7
            go_wp2_with fail
            exact ⟨⟨k + 1, M ++ [r], by go_num, by omega, by rw [hN.out, List.map_append, hM'.out]; simp [r1.out, hqt.out], hL6, d6⟩, by simp [intOf]; omega⟩
        · have hlt' : ¬ (k : Int) < (n : Int) := by omega
          obtain rfl : k = n := by omega
          have hM' := hide hM
          have hO' := hide hO
          have hbase := d0.size
          clear RT hM hO
          obtain ⟨va', vc', rfl, _, _⟩ := ownH_row hO'.out.1
          go_wp2_with fail
          rw [hE1.out]
          exact bodyPost_ret (v := .tuple #[.slice va' M.length vc', .bool true]) (by simp [results, Try.results17, go_sem]) rfl ⟨_, rfl, M, hM'.out.trans (he_yes hE1.out).symm, hO'.out.base hbase, d0.trans (hb.mono d0.size)⟩
end Go.Proofs.Ytjjdfniemlcnnaa
