/- BestRows of the program. -/
import Derived.Test.YtjjdfniemlcnnabAll8
import Derived.Test.YtjjdfniemlcnnabI13b
import Derived.Test.YtjjdfniemlcnnabI13g
import Derived.Test.YtjjdfniemlcnnabI8o
namespace Go.Proofs.Ytjjdfniemlcnnab
open Go.RowKit

set_option maxRecDepth 100000 in
set_option maxHeartbeats 6400000 in
theorem i_bestRows (ow : Int) (a : Option Addr) (n c : Nat) (U : Nat → Rc) (w : World) (hn : n ≤ 1048576) (hl : LowR n U) (hR : RowRS a n U w) :
    Calls Try.prog 7 #[.agg #[.int .i64 ow, .slice a n c]] w fun e w' => ∃ v u M, e = .returned (.tuple #[v, u, .bool (rbB ow n U)]) ∧ M.map (·.t) = rrO ow n U ∧ OPs w.heap.size v M u (rrP ow n U) w' ∧ Below w.heap.size w w' := by
  have GR := hide (fun w R => i_goodRib ow a n c U w hn hl R)
  have MB := Mut.new w #[.int .i64 ow, .slice a n c] 32
  have d0 : Below w.heap.size w (w.alloc (.cells #[.int .i64 ow, .slice a n c] 32)) := below_box (Below.refl _ _)
  have RA := hide (hR.below d0)
  cases hg : rbB ow n U with
  | false =>
    rw [hg] at GR
    have hE := hide (rr_no hg)
    clear hg hR
    go_enter Try.func7, Try.ntmps7
    go_wp2_with fail
    refine (GR.out _ RA.out.row).mono ?_
    rintro e w1 ⟨rfl, b1⟩
    go_wp2_with fail
    exact bodyPost_ret (v := .tuple #[.slice none 0 0, .slice none 0 0, .bool false]) (by simp [results, Try.results7, go_sem]) rfl ⟨_, _, [], rfl, by rw [hE.out.1]; rfl, by rw [hE.out.2]; exact OPs.nil _ _, d0.trans (b1.mono d0.size)⟩
  | true =>
    rw [hg] at GR
    have hE := hide (rr_yes hg)
    have hG := rb_good hg
    have hn20 := hG.few
    have hG := hide hG
    have hl' := hide hl
    have KR := hide (fun w' b => i_keptRowsS ow a n c U w w' hn hR b)
    clear hg hR hl
    go_enter Try.func7, Try.ntmps7
    go_wp2_with fail
    generalize w.alloc (.cells #[.int .i64 ow, .slice a n c] 32) = W at *
    refine (GR.out _ RA.out.row).mono ?_
    rintro e w1 ⟨rfl, b1⟩
    replace MB := MB.below b1
    replace d0 := d0.trans (b1.mono d0.size)
    have m0 := MB.2.1 0 _ rfl
    have m1 := MB.2.1 1 _ rfl
    clear b1 GR RA
    go_wp2_with fail
    refine (KR.out _ d0).mono ?_
    rintro e w2 ⟨va, vc, rfl, RT, b2⟩
    replace MB := MB.below b2
    replace d0 := d0.trans (b2.mono d0.size)
    have hbs : w.heap.size < w2.heap.size := MB.1
    clear b2 KR m0 m1
    go_wp2_with fail
    go_loopw [5, 6, 17] (fun v u y wr => ∃ (k : Nat) (M : List Oe), y = .int .i64 k ∧ k ≤ n ∧ M.map (·.t) = brO ow k U ∧ OPs w2.heap.size v M u (brP ow k U) wr ∧ Below w2.heap.size w2 wr) (fun _ _ y _ => n - (intOf y).toNat)
    case atStart => exact ⟨0, [], rfl, Nat.zero_le _, rfl, OPs.nil _ _, Below.refl _ _⟩
    case round =>
      obtain ⟨k, M, rfl, hk, hM, hO, hb⟩ := hrel
      by_cases hlt : k < n
      · have hlt' : (k : Int) < (n : Int) := by omega
        obtain ⟨b, off, a0, c0, rfl, hbw, u0, u1, u2, ht⟩ := RT k hlt
        replace u0 := (hb.cell (p := ⟨b, off + k * 3, none⟩) hbw).trans u0
        replace u1 := (hb.cell (p := ⟨b, off + k * 3 + 1, none⟩) hbw).trans u1
        replace u2 := (hb.cell (p := ⟨b, off + k * 3 + 2, none⟩) hbw).trans u2
        have LB := hide (fun w' hb => i_best (U k).ad (U k).ln a0 (U k).n c0 (U k).T ow w w' (hl'.out _ hlt).1 (inB_t hG.out.own.1 hG.out.own.2) (hG.out.off _ hlt) ht hb)
        have hyes := hide (fun h => br_yes (ow := ow) (n := k) (U := U) h)
        have hno := hide (fun h => br_no (ow := ow) (n := k) (U := U) h)
        have hMl : Hid (M.length ≤ 20 ∧ (brP ow k U).length ≤ 20) := by
          obtain ⟨q1, q2, _⟩ := br_len ow k U
          have : M.length = (brO ow k U).length := by rw [← hM, List.length_map]
          exact ⟨by omega, by omega⟩
        have hM' := hide hM
        have hO' := hide hO
        clear hM hO ht RT
        generalize brP ow k U = R at *
        generalize brO ow k U = Dd at *
        have hbf : Hid (∀ q w, BfIs (U k).n (U k).T ow q w → bfB (U k).n (U k).T ow = true → q.t = bfT (U k).n (U k).T ow ∧ SrcO w q) := fun q w h e => ⟨h.1, h.2.1 e⟩
        generalize bfT (U k).n (U k).T ow = bt at *
        have bX : Below wr.heap.size wr (wr.alloc (.cells #[.int .i64 (U k).ad, .int .i64 (U k).ln, .slice a0 (U k).n c0] 59)) := below_box (Below.refl _ _)
        have MX := Mut.new wr #[.int .i64 (U k).ad, .int .i64 (U k).ln, .slice a0 (U k).n c0] 59
        have MBx := (MB.below hb).below bX
        have x0 := MBx.2.1 0 _ rfl
        have dX := hb.trans (bX.mono hb.size)
        have gX := d0.trans (dX.mono d0.size)
        have hOX := hide (hO'.out.below bX)
        obtain ⟨va', vc', rfl, _, _⟩ := ownU_row hO'.out.1.1
        obtain ⟨ua', uc', rfl, _, _⟩ := ownP_row hO'.out.2.1
        have hgg : Hid (∀ g, (Value.slice va' M.length vc').ownBlock = some g → g < wr.heap.size) := fun g e => (ownU_blk hO'.out.1.1 e).2
        have hzz : Hid (∀ e', e' ∈ M → byO e' < wr.heap.size) := fun e' he => hO'.out.1.lt he
        have huu : Hid (∀ g, (Value.slice ua' R.length uc').ownBlock = some g → g < wr.heap.size) := fun g e => (ownP_blk hO'.out.2.1 e).2
        clear hO' bX
        cases hbb : bfB (U k).n (U k).T ow with
        | false =>
          have hN := hide (hno.out hbb)
          rw [hbb] at LB
          clear hyes hno hbb hbf
          generalize U k = t at *
          go_wp2_with fail
          generalize wr.alloc (.cells #[.int .i64 t.ad, .int .i64 t.ln, .slice a0 t.n c0] 59) = wx at *
          refine (LB.out _ gX).mono ?_
          rintro e w3 ⟨q, rfl, _, b3⟩
          have bQ : Below w3.heap.size w3 (w3.alloc (.cells #[.int .i64 q.t.pe, .int .i64 q.t.o, .slice q.a0 q.t.n0 q.c0, .int .i64 q.t.nx, .int .i64 q.t.md, .int .i64 q.t.pf, .slice q.a1 q.t.n1 q.c1] 51)) := below_box (Below.refl _ _)
          have hOF := (hOX.out.below b3).below bQ
          have dF := (dX.trans (b3.mono dX.size)).trans (bQ.mono (Nat.le_trans dX.size b3.size))
          clear x0 MX MBx b3 bQ hOX
          go_wp2_with fail
          exact ⟨⟨k + 1, M, by go_num, by omega, by rw [hN.out.1]; exact hM'.out, by rw [hN.out.2]; exact hOF, dF⟩, by simp [intOf]; omega⟩
        | true =>
          have hN := hide (hyes.out hbb)
          have hbf := hide (fun q w h => hbf.out q w h hbb)
          rw [hbb] at LB
          clear hyes hno hbb
          generalize U k = t at *
          go_wp2_with fail
          generalize wr.alloc (.cells #[.int .i64 t.ad, .int .i64 t.ln, .slice a0 t.n c0] 59) = wx at *
          refine (LB.out _ gX).mono ?_
          rintro e w3 ⟨q, rfl, hq, b3⟩
          obtain ⟨hqt0, hqs⟩ := hbf.out _ _ hq
          have hqt := hide hqt0
          clear hqt0 hq hbf
          have bQ : Below w3.heap.size w3 (w3.alloc (.cells #[.int .i64 q.t.pe, .int .i64 q.t.o, .slice q.a0 q.t.n0 q.c0, .int .i64 q.t.nx, .int .i64 q.t.md, .int .i64 q.t.pf, .slice q.a1 q.t.n1 q.c1] 51)) := below_box (Below.refl _ _)
          have MQ := Mut.new w3 #[.int .i64 q.t.pe, .int .i64 q.t.o, .slice q.a0 q.t.n0 q.c0, .int .i64 q.t.nx, .int .i64 q.t.md, .int .i64 q.t.pf, .slice q.a1 q.t.n1 q.c1] 51
          have hOF := hide ((hOX.out.below b3).below bQ)
          have dF := (dX.trans (b3.mono dX.size)).trans (bQ.mono (Nat.le_trans dX.size b3.size))
          have MXq := (MX.below b3).below bQ
          have hsq := hide (hqs.below (d0.trans (dF.mono d0.size)))
          have OW := hide (fun w h => i_ownOffer q w h)
          clear x0 MX MBx b3 bQ hOX hqs gX dX
          go_wp2_with fail
          generalize w3.alloc (.cells #[.int .i64 q.t.pe, .int .i64 q.t.o, .slice q.a0 q.t.n0 q.c0, .int .i64 q.t.nx, .int .i64 q.t.md, .int .i64 q.t.pf, .slice q.a1 q.t.n1 q.c1] 51) = w4 at *
          have k0 := MQ.2.1 0 _ rfl
          have k1 := MQ.2.1 1 _ rfl
          have k2 := MQ.2.1 2 _ rfl
          have k3 := MQ.2.1 3 _ rfl
          have k4 := MQ.2.1 4 _ rfl
          have k5 := MQ.2.1 5 _ rfl
          have k6 := MQ.2.1 6 _ rfl
          go_wp2_with fail
          refine (OW.out _ hsq.out).mono ?_
          rintro e w5 ⟨r, rfl, hr, b5⟩
          have hO5 := hOF.out.below b5
          have MX5 := MXq.below b5
          have hx5 := MX5.1
          have hx4 : wr.heap.size < w4.heap.size := MXq.1
          have dF5 := dF.trans (b5.mono dF.size)
          have hsz5 := b5.size
          have hf5 := dF.size
          obtain ⟨r1_, r2_, r3_, r4, r5, r6, r7⟩ := hr
          have r1 := hide r1_
          have r2 := hide r2_
          have r3 := hide r3_
          clear r1_ r2_ r3_
          clear b5 OW hsq hOF MXq dF k0 k1 k2 k3 k4 k5 k6 MQ
          have bR : Below w5.heap.size w5 (w5.alloc (.cells #[.int .i64 r.t.pe, .int .i64 r.t.o, .slice r.a0 r.t.n0 r.c0, .int .i64 r.t.nx, .int .i64 r.t.md, .int .i64 r.t.pf, .slice r.a1 r.t.n1 r.c1] 51)) := below_box (Below.refl _ _)
          have h20 := hMl.out
          have hO5R := hide (hO5.below bR)
          have M5R := MX5.below bR
          have d5R := dF5.trans (bR.mono dF5.size)
          have o6 := r6.below bR
          have o7 := r7.below bR
          clear hO5 MX5 bR r6 r7
          go_wp2_with (first | (at_builtin; refine wpList_appU2 rfl _ _ rfl w2.heap.size (.slice va' M.length vc') M rfl hO5R.out.1.1 (some ⟨w5.heap.size, 0, none⟩) [r] 1 1 rfl rfl ⟨RowU.one (p := r) (by simp) (by simp [go_sem]) (by simp [go_sem]) (by simp [go_sem]) (by simp [go_sem]) (by simp [go_sem]) (by simp [go_sem]) (by simp [go_sem]), .inr ⟨_, _, rfl⟩⟩ (by simp; omega) (by simp; omega) ?_))
          intro v' w6 hO6 b6 hgr hbk
          have hbk : v'.ownBlock = (Value.slice va' M.length vc').ownBlock ∨ v'.ownBlock = some (w5.alloc (.cells #[.int .i64 r.t.pe, .int .i64 r.t.o, .slice r.a0 r.t.n0 r.c0, .int .i64 r.t.nx, .int .i64 r.t.md, .int .i64 r.t.pf, .slice r.a1 r.t.n1 r.c1] 51)).heap.size := by simpa using hbk
          have hL6 := LsO.app (z := wr.heap.size) (e := r) hO5R.out.1 hzz.out hgg.out ⟨r2.out, r3.out, by omega, by omega, r5, o6, o7⟩ hO6 hgr hbk
          have hP6 := OPs.appO hO5R.out hL6 hgr hbk (fun g e => by have := huu.out g e; exact ⟨by omega, by omega⟩)
          have M6 := M5R.grow8 hgr (fun e => by have := hgg.out _ e; omega)
          have d6 := d5R.trans b6
          have k0 := M6.2.1 0 _ rfl
          have k1 := M6.2.1 1 _ rfl
          have bS : Below w6.heap.size w6 (w6.alloc (.cells #[.int .i64 t.ad, .int .i64 t.ln] 44)) := below_box (Below.refl _ _)
          have hP7 := hide (hP6.below bS)
          have d7 := d6.trans (bS.mono d6.size)
          have hs7 := d6.size
          clear hL6 hP6 hO6 M6 M5R hO5R hgr hbk b6 bS d5R d6 o6 o7
          go_wp2_with (first | (at_builtin; refine wpList_appP2 rfl _ _ rfl w2.heap.size (.slice ua' R.length uc') R rfl hP7.out.2.1 (some ⟨w6.heap.size, 0, none⟩) [(t.ad, t.ln)] 1 1 rfl rfl ⟨RowP.one (p := (t.ad, t.ln)) (by simp) (by simp [go_sem]) (by simp [go_sem]), .inr ⟨_, _, rfl⟩⟩ (by simp; omega) (by simp; omega) ?_))
          intro u' w8 hO8 b8 hgr8 hbk8
          have hbk8 : u'.ownBlock = (Value.slice ua' R.length uc').ownBlock ∨ u'.ownBlock = some (w6.alloc (.cells #[.int .i64 t.ad, .int .i64 t.ln] 44)).heap.size := by simpa using hbk8
          have hP8 := OPs.appP hP7.out hO8 hgr8 hbk8
          have d8 := d7.trans b8
          clear hP7 hO8 hgr8 hbk8 b8 d7 k0 k1
          go_wp2_with fail
          exact ⟨⟨k + 1, M ++ [r], by go_num, by omega, by rw [hN.out.1, List.map_append, hM'.out]; simp [r1.out, hqt.out], by rw [hN.out.2]; exact hP8, d8⟩, by simp [intOf]; omega⟩
      · have hlt' : ¬ (k : Int) < (n : Int) := by omega
        obtain rfl : k = n := by omega
        have hM' := hide hM
        have hO' := hide hO
        have hbase := d0.size
        clear RT hM hO
        obtain ⟨va', vc', rfl, _, _⟩ := ownU_row hO'.out.1.1
        obtain ⟨ua', uc', rfl, _, _⟩ := ownP_row hO'.out.2.1
        go_wp2_with fail
        exact bodyPost_ret (v := .tuple #[.slice va' M.length vc', .slice ua' (brP ow k U).length uc', .bool true]) (by simp [results, Try.results7, go_sem]) rfl ⟨_, _, rfl, M, hM'.out.trans hE.out.1.symm, by rw [hE.out.2]; exact hO'.out.base hbase, d0.trans (hb.mono d0.size)⟩
end Go.Proofs.Ytjjdfniemlcnnab
