/- BestRows of the specification. -/
import Derived.Test.YtjjdfniemlcnnabAll8
import Derived.Test.YtjjdfniemlcnnabS13b
import Derived.Test.YtjjdfniemlcnnabS13g
import Derived.Test.YtjjdfniemlcnnabAll13
import Derived.Deep.RegionHeld3
namespace Go.Proofs.Ytjjdfniemlcnnab
open Go.RowKit

set_option maxRecDepth 100000 in
set_option maxHeartbeats 6400000 in
theorem s_bestRows (ow : Int) (a : Option Addr) (n c : Nat) (U : Nat → Rc) (w : World) (hn : n ≤ 1048576) (hl : LowR n U) (hR : RowRS a n U w) :
    Calls Try.prog 5 #[.agg #[.int .i64 ow, .slice a n c]] w fun e w' => ∃ v u M, e = .returned (.tuple #[v, u, .bool (rbB ow n U)]) ∧ M.map (·.t) = rrO ow n U ∧ OPs w.heap.size v M u (rrP ow n U) w' ∧ Below w.heap.size w w' := by
  have GR := hide (fun w R => s_goodRib ow a n c U w hn hl R)
  have MB := Mut.new w #[.int .i64 ow, .slice a n c] 32
  have d0 : Below w.heap.size w (w.alloc (.cells #[.int .i64 ow, .slice a n c] 32)) := below_box (Below.refl _ _)
  have RA := hide (hR.below d0)
  cases hg : rbB ow n U with
  | false =>
    rw [hg] at GR
    have hE := hide (rr_no hg)
    clear hg hR
    go_enter Try.func5, Try.ntmps5
    go_wp2_with fail
    refine (GR.out _ RA.out.row).mono ?_
    rintro e w1 ⟨rfl, b1⟩
    go_wp2_with fail
    exact bodyPost_ret (v := .tuple #[.slice none 0 0, .slice none 0 0, .bool false]) (by simp [results, Try.results5, go_sem]) rfl ⟨_, _, [], rfl, by rw [hE.out.1]; rfl, by rw [hE.out.2]; exact OPs.nil _ _, d0.trans (b1.mono d0.size)⟩
  | true =>
    rw [hg] at GR
    have hE := hide (rr_yes hg)
    have hn20 := (rb_good hg).few
    have hl' := hide hl
    have hR0 := hide hR
    clear hg hl
    go_enter Try.func5, Try.ntmps5
    go_wp2_with fail
    generalize w.alloc (.cells #[.int .i64 ow, .slice a n c] 32) = W0 at *
    refine (GR.out _ RA.out.row).mono ?_
    rintro e W ⟨rfl, b1⟩
    replace MB := MB.below b1
    replace d0 := d0.trans (b1.mono d0.size)
    have m0 := MB.2.1 0 _ rfl
    have m1 := MB.2.1 1 _ rfl
    have hbW : w.heap.size < W.heap.size := MB.1
    clear b1 GR RA hR
    go_wp2_with fail
    clear m0 m1
    go_loopw [5, 6, 17] (fun v u y wr => ∃ (k : Nat) (M : List Oe), y = .int .i64 k ∧ k ≤ n ∧ M.map (·.t) = brO ow k U ∧ OPs W.heap.size v M u (brP ow k U) wr ∧ Below W.heap.size W wr) (fun _ _ y _ => n - (intOf y).toNat)
    case atStart => exact ⟨0, [], rfl, Nat.zero_le _, rfl, OPs.nil _ _, Below.refl _ _⟩
    case round =>
      obtain ⟨k, M, rfl, hk, hM, hO, hb⟩ := hrel
      have hwr := hb.size
      by_cases hlt : k < n
      · have hlt' : (k : Int) < (n : Int) := by omega
        obtain ⟨b, off, a0, c0, rfl, hbw, u0, u1, u2, ht⟩ := hR0.out k hlt
        have hbb0 := d0.trans (hb.mono d0.size)
        replace u0 := (hbb0.cell (p := ⟨b, off + k * 3, none⟩) hbw).trans u0
        replace u1 := (hbb0.cell (p := ⟨b, off + k * 3 + 1, none⟩) hbw).trans u1
        replace u2 := (hbb0.cell (p := ⟨b, off + k * 3 + 2, none⟩) hbw).trans u2
        have LB := hide (fun w' hb => s_l13Best ow a0 (U k).n c0 (U k).T w w' (hl'.out _ hlt).1 ht hb)
        have hyes := hide (fun h => br_yes (ow := ow) (n := k) (U := U) h)
        have hno := hide (fun h => br_no (ow := ow) (n := k) (U := U) h)
        have hMl : Hid (M.length ≤ 20 ∧ (brP ow k U).length ≤ 20) := by
          obtain ⟨q1, q2, _⟩ := br_len ow k U
          have : M.length = (brO ow k U).length := by rw [← hM, List.length_map]
          exact ⟨by omega, by omega⟩
        have hM' := hide hM
        have hO' := hide hO
        clear hM hO ht hR0
        generalize brP ow k U = R at *
        generalize brO ow k U = Dd at *
        have hbf : Hid (∀ q w, BfIs (U k).n (U k).T ow q w → bfB (U k).n (U k).T ow = true → q.t = bfT (U k).n (U k).T ow ∧ SrcO w q) := fun q w h e => ⟨h.1, h.2.1 e⟩
        generalize bfT (U k).n (U k).T ow = bt at *
        have bX : Below wr.heap.size wr (wr.alloc (.cells #[.int .i64 (U k).ad, .int .i64 (U k).ln, .slice a0 (U k).n c0] 46)) := below_box (Below.refl _ _)
        have MX := Mut.new wr #[.int .i64 (U k).ad, .int .i64 (U k).ln, .slice a0 (U k).n c0] 46
        have MBx := (MB.below hb).below bX
        have x0 := MBx.2.1 0 _ rfl
        have dX := hb.trans (bX.mono hb.size)
        have gX := d0.trans (dX.mono d0.size)
        have hOX := hide (hO'.out.below bX)
        obtain ⟨va', vc', rfl, _, _⟩ := ownU_row hO'.out.1.1
        obtain ⟨ua', uc', rfl, _, _⟩ := ownP_row hO'.out.2.1
        have hgg : Hid (∀ g, (Value.slice va' M.length vc').ownBlock = some g → g < wr.heap.size) := fun g e => (ownU_blk hO'.out.1.1 e).2
        have hgb : Hid (∀ g, (Value.slice va' M.length vc').ownBlock = some g → W.heap.size ≤ g) := fun g e => (ownU_blk hO'.out.1.1 e).1
        have hzz : Hid (∀ e', e' ∈ M → byO e' < wr.heap.size) := fun e' he => hO'.out.1.lt he
        have huu : Hid (∀ g, (Value.slice ua' R.length uc').ownBlock = some g → g < wr.heap.size) := fun g e => (ownP_blk hO'.out.2.1 e).2
        clear hO' bX hbb0
        cases hbb : bfB (U k).n (U k).T ow with
        | false =>
          have hN := hide (hno.out hbb)
          rw [hbb] at LB
          clear hyes hno hbb hbf
          generalize U k = t at *
          go_wp2_with fail
          generalize wr.alloc (.cells #[.int .i64 t.ad, .int .i64 t.ln, .slice a0 t.n c0] 46) = wx at *
          refine (LB.out _ gX).mono ?_
          rintro e w3 ⟨q, rfl, _, b3⟩
          have bQ : Below w3.heap.size w3 (w3.alloc (.cells #[.int .i64 q.t.pe, .int .i64 q.t.o, .slice q.a0 q.t.n0 q.c0, .int .i64 q.t.nx, .int .i64 q.t.md, .int .i64 q.t.pf, .slice q.a1 q.t.n1 q.c1] 51)) := below_box (Below.refl _ _)
          have hOF := (hOX.out.below b3).below bQ
          have dF := (dX.trans (b3.mono dX.size)).trans (bQ.mono (Nat.le_trans dX.size b3.size))
          clear x0 MX MBx b3 bQ hOX
          go_wp2_with fail
          exact ⟨⟨k + 1, M, by go_num, by omega, by rw [hN.out.1]; exact hM'.out, by rw [hN.out.2]; exact hOF, dF⟩, by simp [intOf]; omega⟩
        | true =>
          have hN := hide (hyes.out hbb)
          have hbf := hide (fun q w h => hbf.out q w h hbb)
          rw [hbb] at LB
          clear hyes hno hbb
          generalize U k = t at *
          go_wp2_with fail
          generalize wr.alloc (.cells #[.int .i64 t.ad, .int .i64 t.ln, .slice a0 t.n c0] 46) = wx at *
          refine (LB.out _ gX).mono ?_
          rintro e w3 ⟨q, rfl, hq, b3⟩
          obtain ⟨hqt0, hqs⟩ := hbf.out _ _ hq
          have hqt := hide hqt0
          clear hqt0 hq hbf
          have bQ : Below w3.heap.size w3 (w3.alloc (.cells #[.int .i64 q.t.pe, .int .i64 q.t.o, .slice q.a0 q.t.n0 q.c0, .int .i64 q.t.nx, .int .i64 q.t.md, .int .i64 q.t.pf, .slice q.a1 q.t.n1 q.c1] 51)) := below_box (Below.refl _ _)
          have MQ := Mut.new w3 #[.int .i64 q.t.pe, .int .i64 q.t.o, .slice q.a0 q.t.n0 q.c0, .int .i64 q.t.nx, .int .i64 q.t.md, .int .i64 q.t.pf, .slice q.a1 q.t.n1 q.c1] 51
          have hOF := hide ((hOX.out.below b3).below bQ)
          have dF := (dX.trans (b3.mono dX.size)).trans (bQ.mono (Nat.le_trans dX.size b3.size))
          have MXq := (MX.below b3).below bQ
          have MBq := (MBx.below b3).below bQ
          have hsq := hide (hqs.below (d0.trans (dF.mono d0.size)))
          have OWN := hide (fun w h => s_ownQ q w (.inl h))
          have hb3 : wr.heap.size < w3.heap.size := (MX.below b3).1
          have hwW := dF.size
          clear x0 MX MBx b3 bQ hOX hqs gX dX
          go_wp2_with fail
          generalize w3.alloc (.cells #[.int .i64 q.t.pe, .int .i64 q.t.o, .slice q.a0 q.t.n0 q.c0, .int .i64 q.t.nx, .int .i64 q.t.md, .int .i64 q.t.pf, .slice q.a1 q.t.n1 q.c1] 51) = w4 at *
          generalize w3.heap.size = bb at *
          have hx4 : wr.heap.size < w4.heap.size := MXq.1
          have hSz : ∀ w' : World, Below w4.heap.size w4 w' → w'.cell? ⟨bb, 0, none⟩ = some (.int .i64 q.t.pe) ∧ w'.cell? ⟨bb, 1, none⟩ = some (.int .i64 q.t.o) ∧ w'.cell? ⟨bb, 2, none⟩ = some (.slice q.a0 q.t.n0 q.c0) ∧ w'.cell? ⟨bb, 3, none⟩ = some (.int .i64 q.t.nx) ∧ w'.cell? ⟨bb, 4, none⟩ = some (.int .i64 q.t.md) ∧ w'.cell? ⟨bb, 5, none⟩ = some (.int .i64 q.t.pf) ∧ w'.cell? ⟨bb, 6, none⟩ = some (.slice q.a1 q.t.n1 q.c1) := fun w' b => ⟨(MQ.below b).2.1 0 _ rfl, (MQ.below b).2.1 1 _ rfl, (MQ.below b).2.1 2 _ rfl, (MQ.below b).2.1 3 _ rfl, (MQ.below b).2.1 4 _ rfl, (MQ.below b).2.1 5 _ rfl, (MQ.below b).2.1 6 _ rfl⟩
          obtain ⟨k0, k1, k2, k3, k4, k5, k6⟩ := hSz w4 (Below.refl _ _)
          have hsrc := hide (fun w' (b : Below w4.heap.size w4 w') => hsq.out.below b)
          go_region_held3 (fun w' => w'.cell? ⟨bb, 0, none⟩ = some (.int .i64 q.t.pe) ∧ w'.cell? ⟨bb, 1, none⟩ = some (.int .i64 q.t.o) ∧ w'.cell? ⟨bb, 2, none⟩ = some (.slice q.a0 q.t.n0 q.c0) ∧ w'.cell? ⟨bb, 3, none⟩ = some (.int .i64 q.t.nx) ∧ w'.cell? ⟨bb, 4, none⟩ = some (.int .i64 q.t.md) ∧ w'.cell? ⟨bb, 5, none⟩ = some (.int .i64 q.t.pf) ∧ w'.cell? ⟨bb, 6, none⟩ = some (.slice q.a1 q.t.n1 q.c1))
            (first | exact hS4 | exact hSz _ (Below.refl _ _) | exact hSz _ (Below.refl _ _).drew | exact hSz _ dA | exact hSz _ dA.drew | go_keep)
            ((first
              | (have hq0 := dA; refine step_appU2 (by rfl) _ _ (by rfl) W.heap.size (.slice va' M.length vc') M (by rfl) (hL3.below (by first | exact below_box (Below.refl _ _) | exact (below_box (Below.refl _ _)).drew | exact below_box (Below.refl _ _).drew | exact (Below.refl _ _).drew.trans (below_box (Below.refl _ _)).drew)).1.1 (some ⟨w5.heap.size, 0, none⟩) [(⟨q.t, some ⟨x, 0, none⟩, pc, some ⟨y, 0, none⟩, yc⟩ : Oe)] 1 1 (by rfl) rfl ⟨RowU.one (p := (⟨q.t, some ⟨x, 0, none⟩, pc, some ⟨y, 0, none⟩, yc⟩ : Oe)) (by simp) (by simp [go_sem]) (by simp [go_sem]) (by simp [go_sem]) (by simp [go_sem]) (by simp [go_sem]) (by simp [go_sem]) (by simp [go_sem]), .inr ⟨_, _, rfl⟩⟩ (by have := hMl.out; simp; omega) (by simp; omega) ?_; intro v' w6 hO6 b6 hgr hbk; have hS4 : w6.cell? ⟨bb, 0, none⟩ = some (.int .i64 q.t.pe) ∧ w6.cell? ⟨bb, 1, none⟩ = some (.int .i64 q.t.o) ∧ w6.cell? ⟨bb, 2, none⟩ = some (.slice q.a0 q.t.n0 q.c0) ∧ w6.cell? ⟨bb, 3, none⟩ = some (.int .i64 q.t.nx) ∧ w6.cell? ⟨bb, 4, none⟩ = some (.int .i64 q.t.md) ∧ w6.cell? ⟨bb, 5, none⟩ = some (.int .i64 q.t.pf) ∧ w6.cell? ⟨bb, 6, none⟩ = some (.slice q.a1 q.t.n1 q.c1) := (by have N4 := (N3.below (by first | exact below_box (Below.refl _ _) | exact (below_box (Below.refl _ _)).drew | exact below_box (Below.refl _ _).drew | exact (Below.refl _ _).drew.trans (below_box (Below.refl _ _)).drew)).grow8 hgr (fun e => by have := hgg.out _ e; omega); exact ⟨N4.2.1 0 _ rfl, N4.2.1 1 _ rfl, N4.2.1 2 _ rfl, N4.2.1 3 _ rfl, N4.2.1 4 _ rfl, N4.2.1 5 _ rfl, N4.2.1 6 _ rfl⟩); have MR6 := (MR3.below (by first | exact below_box (Below.refl _ _) | exact (below_box (Below.refl _ _)).drew | exact below_box (Below.refl _ _).drew | exact (Below.refl _ _).drew.trans (below_box (Below.refl _ _)).drew)).grow8 hgr (fun e => by have := hgg.out _ e; omega); have MB6 := (MB3.below (by first | exact below_box (Below.refl _ _) | exact (below_box (Below.refl _ _)).drew | exact below_box (Below.refl _ _).drew | exact (Below.refl _ _).drew.trans (below_box (Below.refl _ _)).drew)).grow8 hgr (fun e => by have := hgb.out _ e; omega); have hP6 := hide (OPs.appO (hL3.below (by first | exact below_box (Below.refl _ _) | exact (below_box (Below.refl _ _)).drew | exact below_box (Below.refl _ _).drew | exact (Below.refl _ _).drew.trans (below_box (Below.refl _ _)).drew)) (LsO.app (z := wr.heap.size) (e := (⟨q.t, some ⟨x, 0, none⟩, pc, some ⟨y, 0, none⟩, yc⟩ : Oe)) (hL3.below (by first | exact below_box (Below.refl _ _) | exact (below_box (Below.refl _ _)).drew | exact below_box (Below.refl _ _).drew | exact (Below.refl _ _).drew.trans (below_box (Below.refl _ _)).drew)).1 hzz.out hgg.out ⟨rfl, rfl, by show W.heap.size ≤ x; omega, by show wr.heap.size ≤ x; omega, hy, OutInt.below o1 (by first | exact below_box (Below.refl _ _) | exact (below_box (Below.refl _ _)).drew | exact below_box (Below.refl _ _).drew | exact (Below.refl _ _).drew.trans (below_box (Below.refl _ _)).drew), OutInt.below o2 (by first | exact below_box (Below.refl _ _) | exact (below_box (Below.refl _ _)).drew | exact below_box (Below.refl _ _).drew | exact (Below.refl _ _).drew.trans (below_box (Below.refl _ _)).drew)⟩ hO6 hgr (by first | exact hbk | simpa using hbk)) hgr (by first | exact hbk | simpa using hbk) (fun g e => by have h1 := huu.out g e; exact ⟨by show x ≠ g; omega, by show y ≠ g; omega⟩)); have d6 : Below W.heap.size w5 w6 := (by first | exact ((below_box (Below.refl _ _)).mono hw5).trans b6 | exact ((below_box (Below.refl _ _)).drew.mono hw5).trans b6 | exact ((below_box (Below.refl _ _).drew).mono hw5).trans b6); have hz6 := b6.size)
              | (go_at_call 19; refine (OWN.out _ (by first | exact hsrc.out _ (Below.refl _ _) | exact hsrc.out _ (Below.refl _ _).drew)).mono ?_; rintro r w5 ⟨x, pc, y, yc, rfl, o1, o2, hx, hy, b5⟩; have dA : Below w4.heap.size w4 w5 := (by first | exact b5 | exact (Below.refl _ _).drew.trans b5); have hx : w4.heap.size ≤ x := hx; have hL3 := hOF.out.below dA; have N3 := MQ.below dA; have MR3 := MXq.below dA; have MB3 := MBq.below dA; have hw5 : W.heap.size ≤ w5.heap.size := Nat.le_trans hwW dA.size; have hm5 := dA.size)))
          all_goals
            have d7 := (dF.trans (dA.mono dF.size)).trans d6
            clear hSz hsrc hS4 hL3 N3 MR3 MB3 MQ MXq MBq hOF OWN hzz hgg hgb k0 k1 k2 k3 k4 k5 k6 o1 o2 hsq b5 b6 hO6 hgr hbk
            have k0 := MR6.2.1 0 _ rfl
            have k1 := MR6.2.1 1 _ rfl
            have h20 := hMl.out
            have bS : Below w6.heap.size w6 (w6.alloc (.cells #[.int .i64 t.ad, .int .i64 t.ln] 44)) := below_box (Below.refl _ _)
            have hP7 := hide (hP6.out.below bS)
            have d8 := d7.trans (bS.mono d7.size)
            have hs7 := d7.size
            clear hP6 MR6 MB6 bS d7
            go_wp2_with (first | (at_builtin; refine wpList_appP2 rfl _ _ rfl W.heap.size (.slice ua' R.length uc') R rfl hP7.out.2.1 (some ⟨w6.heap.size, 0, none⟩) [(t.ad, t.ln)] 1 1 rfl rfl ⟨RowP.one (p := (t.ad, t.ln)) (by simp) (by simp [go_sem]) (by simp [go_sem]), .inr ⟨_, _, rfl⟩⟩ (by simp; omega) (by simp; omega) ?_))
            intro u' w8 hO8 b8 hgr8 hbk8
            have hbk8 : u'.ownBlock = (Value.slice ua' R.length uc').ownBlock ∨ u'.ownBlock = some (w6.alloc (.cells #[.int .i64 t.ad, .int .i64 t.ln] 44)).heap.size := by simpa using hbk8
            have hP8 := OPs.appP hP7.out hO8 hgr8 hbk8
            have d9 := d8.trans b8
            clear hP7 hO8 hgr8 hbk8 b8 d8 k0 k1
            go_wp2_with fail
            exact ⟨⟨k + 1, M ++ [(⟨q.t, some ⟨x, 0, none⟩, pc, some ⟨y, 0, none⟩, yc⟩ : Oe)], by go_num, by omega, by rw [hN.out.1, List.map_append, hM'.out]; simp [hqt.out], by rw [hN.out.2]; exact hP8, d9⟩, by simp [intOf]; omega⟩
      · have hlt' : ¬ (k : Int) < (n : Int) := by omega
        obtain rfl : k = n := by omega
        have hM' := hide hM
        have hO' := hide hO
        have hbase := d0.size
        clear hR0 hM hO
        obtain ⟨va', vc', rfl, _, _⟩ := ownU_row hO'.out.1.1
        obtain ⟨ua', uc', rfl, _, _⟩ := ownP_row hO'.out.2.1
        go_wp2_with fail
        exact bodyPost_ret (v := .tuple #[.slice va' M.length vc', .slice ua' (brP ow k U).length uc', .bool true]) (by simp [results, Try.results5, go_sem]) rfl ⟨_, _, rfl, M, hM'.out.trans hE.out.1.symm, by rw [hE.out.2]; exact hO'.out.base hbase, d0.trans (hb.mono d0.size)⟩
end Go.Proofs.Ytjjdfniemlcnnab
