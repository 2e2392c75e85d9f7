/- HasWheel of the program. -/
import Derived.Test.YtcnlabedlcmilaaG10i
import Derived.Test.YtcnlabedlcmilaaWheel10
import Derived.Test.YtcnlabedlcmilaaPlain10b
import Derived.WalkMore
namespace Go.Proofs.Ytcnlabedlcmilaa
open Go.RowKit

theorem made_zero (w : World) (n : Nat) (t : TypeId) : OutInt w.heap.size n n (fun _ => 0) (w.alloc (.cells (madeCells #[.int .i64 0] n) t)) := by
  refine ⟨by simp, fun i hi => ?_⟩
  have e : (madeCells #[.int .i64 0] n)[i]? = some (.int .i64 0) := by
    simp only [madeCells, Array.getElem?_map, Array.getElem?_range, hi, if_true, Option.map_some]
    simp only [List.size_toArray, List.length_cons, List.length_nil, Nat.zero_add, Nat.mod_one]
    rfl
  refine ⟨⟨0, ?_, fun _ => rfl⟩, ?_⟩ <;> simp [go_sem, e]
/-- The number in a cell. -/
def natAt (w : World) (g v : Nat) : Nat := match w.cell? ⟨g, v, none⟩ with
  | some (.int _ x) => x.toNat
  | _ => 0
/-- How much is not free yet. -/
def msr (U : Nat → Pl) (h : Nat → Nat) : Nat → Nat
  | 0 => 0
  | k + 1 => msr U h k + ((U k).n - h k)
theorem msr_congr {U : Nat → Pl} {h h' : Nat → Nat} : ∀ {n : Nat}, (∀ v, v < n → h v = h' v) → msr U h n = msr U h' n
  | 0, _ => rfl
  | n + 1, e => by
    show msr U h n + ((U n).n - h n) = msr U h' n + ((U n).n - h' n)
    rw [msr_congr (fun v hv => e v (by omega)), e n (by omega)]
theorem msr_bump {U : Nat → Pl} {F : Nat → Nat} {i : Nat} (hl : F i < (U i).n) : ∀ {n : Nat}, i < n → msr U (bump F i) n < msr U F n
  | 0, h => absurd h (Nat.not_lt_zero _)
  | n + 1, h => by
    show msr U (bump F i) n + ((U n).n - bump F i n) < msr U F n + ((U n).n - F n)
    by_cases e : i = n
    · subst e
      have e1 : msr U (bump F i) i = msr U F i := msr_congr (fun v hv => by unfold bump; rw [if_neg (by omega)])
      have e2 : bump F i i = F i + 1 := by unfold bump; rw [if_pos rfl]
      omega
    · have e1 := msr_bump hl (n := n) (by omega)
      have e2 : bump F i n = F n := by unfold bump; rw [if_neg (by omega)]
      omega
theorem natAt_out {g N : Nat} {F : Nat → Nat} {w : World} (h : OutInt g N N (fun i => (F i : Int)) w) {v : Nat} (hv : v < N) : natAt w g v = F v := by
  obtain ⟨⟨x, h0, hx⟩, _⟩ := h.2 v hv
  unfold natAt
  rw [h0, hx hv]
  simp
set_option maxRecDepth 100000 in
set_option maxHeartbeats 3200000 in
theorem i_hasWheelE (a : Option Addr) (N c : Nat) (U : Nat → Pl) (w : World) (hN : N ≤ 1048576) (hl : LowS N U) (hR : RowK3 a N U w) :
    Calls Try.prog 39 #[.agg #[.slice a N c]] w fun e w' => e = .returned (.tuple #[.bool (whB N U), .bool (gsB N U)]) ∧ Below w.heap.size w w' := by
  have MX := Mut.new w #[.slice a N c] 27
  have dX : Below w.heap.size w (w.alloc (.cells #[.slice a N c] 27)) := below_box (Below.refl _ _)
  have c0 := MX.2.1 0 _ rfl
  have SG := hide (fun w R => i_goodSpp a N c U w hN hl R)
  by_cases hG : GS N U
  · have eG : gsB N U = true := pB_t hG
    rw [eG] at SG ⊢
    have hT : Hid (WH N U → whB N U = true) := fun h => pB_t ⟨hG, h⟩
    have hF : Hid (¬ WH N U → whB N U = false) := fun h => pB_f (fun k => h k.2)
    generalize whB N U = r at *
    have hN5 : (N : Int) ≤ 5 := by have := hG.2.1; omega
    have hNN : N ≤ 5 := hG.2.1
    have hG9 := hide hG
    have hLow := hide hG.low
    have hinfo : (Try.prog.info? 3).map (fun i => (i.zero, i.size, i.bytes)) = some (some (.int .i64 0), 1, 8) := by kernel_rfl
    obtain ⟨i, hi, hzz⟩ := Option.map_eq_some_iff.1 hinfo
    simp only [Prod.mk.injEq] at hzz
    obtain ⟨hz, hs, hby⟩ := hzz
    have hmk := fun w : World => run_make (P := Try.prog) w 31 3 i _ Try.underlying31 hi hz .i64 .i64 (N : Int) (N : Int) (by omega) (by omega) (by rw [hby]; omega) (by omega)
    rw [hs] at hmk
    clear hi hz hs hby hinfo
    simp only [Int.toNat_natCast, Nat.mul_one, Value.cells] at hmk
    have RS := hide (fun b off pc n w h1 h2 h3 => i_rest10 b off pc n w h1 h2 h3)
    have RK := hide (fun v pa pc p w hx hv h0 hp R P => i_rank10 a N c U v pa pc p w hN hx hv (hl v hv).1 (hl v hv).2 h0 hp R P)
    clear eG hG hl
    go_enter Try.func39, Try.ntmps39
    go_wp2_with fail
    go_step3
    go_wp2_with fail
    refine (SG.out _ (hR.below dX)).mono ?_
    rintro e w1 ⟨rfl, b⟩
    replace dX := dX.trans (b.mono dX.size)
    replace MX := MX.below b
    have c0 := MX.2.1 0 _ rfl
    clear b
    go_wp2_with fail
    have hO := made_zero w1 N 3
    have dB : Below w1.heap.size w1 (w1.alloc (.cells (madeCells #[.int .i64 0] N) 3)) := below_box (Below.refl _ _)
    have MB := MX.below dB
    have dW := dX.trans (dB.mono dX.size)
    have hgb : w.heap.size < w1.heap.size := MX.1
    clear dB hmk SG
    generalize w1.alloc (.cells (madeCells #[.int .i64 0] N) 3) = wz at *
    generalize w1.heap.size = g at *
    clear MX dX c0
    go_step3
    go_wp2_with fail
    go_loopw [] (fun wr => ∃ F : Nat → Nat, Hid (FrInv N U F) ∧ OutInt g N N (fun i => (F i : Int)) wr ∧ Mut wr w.heap.size [.slice a N c] ∧ Below w.heap.size w wr) (fun wr => msr U (natAt wr g) N)
    case atStart => exact ⟨fun _ => 0, FrInv.zero N U, hO, MB, dW⟩
    case round =>
      clear hO MB dW
      obtain ⟨F, hI, hO, MY, dY⟩ := hrel
      have hm0 : Hid (msr U (natAt wr g) N = msr U F N) := msr_congr (fun v hv => natAt_out hO hv)
      have hmF : Hid (∀ k, k < N → F k < (U k).n → ∀ w3 : World, OutInt g N N (fun i => (bump F k i : Int)) w3 → msr U (natAt w3 g) N < msr U (natAt wr g) N) := fun k hk hl w3 h => by
        rw [hm0.out, msr_congr (fun v hv => natAt_out h hv)]
        exact msr_bump hl hk
      have c0 := MY.2.1 0 _ rfl
      go_wp2_with fail
      clear c0 hm0
      go_loopw [5, 20] (fun x y wq => ∃ k : Nat, y = .int .i64 k ∧ x = .bool (pB (∃ v, v < k ∧ F v < (U v).n)) ∧ k ≤ N ∧ Hid (∀ v, v < k → F v < (U v).n → ¬ Frees U F v) ∧ Below wr.heap.size wr wq) (fun _ y _ => N - (intOf y).toNat)
      case atStart => exact ⟨0, rfl, by rw [pB_f (fun ⟨v, hv, _⟩ => absurd hv (by omega))], Nat.zero_le _, fun v hv => absurd hv (by omega), Below.refl _ _⟩
      case round =>
        obtain ⟨k, rfl, rfl, hk, hall, hb⟩ := hrel
        have hOq := hO.below hb
        have MQ := MY.below hb
        have c0 := MQ.2.1 0 _ rfl
        have dQ := dY.trans (hb.mono dY.size)
        by_cases hlt : k < N
        · obtain ⟨b1, off1, a1, c1, rfl, hb1, u1, hc1, ht1⟩ := (hR.below dQ) k hlt
          obtain ⟨⟨y1, f1, hy1⟩, z1⟩ := hOq.2 k hlt
          obtain rfl := hy1 hlt
          replace f1 : wr.cell? ⟨g, k, none⟩ = some (.int .i64 (F k : Int)) := f1
          have hlt' : (k : Int) < (N : Int) := by omega
          have hFn := hI.out.1 k hlt
          have hlow := hLow.out k hlt
          by_cases he : F k = (U k).n
          · rw [he] at f1
            have hN : Hid (∀ v, v < k + 1 → F v < (U v).n → ¬ Frees U F v) := fun v hv hl => by
              by_cases e : v = k
              · subst e; omega
              · exact hall.out v (by omega) hl
            have hbd : Hid (pB (∃ v, v < k ∧ F v < (U v).n) = pB (∃ v, v < k + 1 ∧ F v < (U v).n)) := pB_congr ⟨fun ⟨v, h1, h2⟩ => ⟨v, by omega, h2⟩, fun ⟨v, h1, h2⟩ => ⟨v, by
              by_cases e : v = k
              · subst e; omega
              · omega, h2⟩⟩
            generalize pB (∃ v, v < k ∧ F v < (U v).n) = bd at *
            clear hall hFn hlow ht1 RS RK hT hF he
            generalize (U k).n = m at *
            go_wp2_with fail
            exact ⟨⟨k + 1, by go_num, by rw [hbd.out], by omega, hN, hb⟩, by simp [intOf]; omega⟩
          · have he' : ((F k : Int) == ((U k).n : Int)) = false := by simp; omega
            have he2 : ¬ ((F k : Int) = ((U k).n : Int)) := by omega
            have hfk : (F k : Int) ≤ 6 := by omega
            have hfl : F k < (U k).n := by omega
            have hfl' : (F k : Int) < ((U k).n : Int) := by omega
            have hbd : Hid (true = pB (∃ v, v < k + 1 ∧ F v < (U v).n)) := (pB_t ⟨k, by omega, hfl⟩).symm
            have hway := ((hG9.out.2.2 k hlt).2 (F k) hfl).1
            have hp6 := hlow.2 (F k) hfl
            have h2n := hway.1
            have hnext := hide (fun (hf : Frees U F k) => hI.out.next hG9.out hlt hfl hf)
            obtain ⟨b2, off2, a2, c2, rfl, hb2, u2, hc2, ht2⟩ := ht1 (F k) hfl
            obtain ⟨b3, off3, rfl, hb3, u3⟩ := ht2 1 (by omega)
            have RE := hide (fun w => RS.out b3 off3 c2 ((U k).T (F k)).n w h2n hc2 (by omega))
            have hput : Hid (∀ w3 : World, OutInt g N N (fun i => (F i : Int)) w3 → OutInt g N N (fun i => (bump F k i : Int)) (w3.setCell ⟨g, k, none⟩ (.int .i64 ((F k : Int) + 1)))) := fun w3 h => by
              refine (h.put hlt ((F k : Int) + 1)).congr (fun i hi => ?_)
              unfold bump
              by_cases e : i = k
              · simp [e]
              · simp [e]
            have hNo : Hid (¬ Frees U F k → ∀ v, v < k + 1 → F v < (U v).n → ¬ Frees U F v) := fun h v hv hl => by
              by_cases e : v = k
              · subst e; exact h
              · exact hall.out v (by omega) hl
            have hmK := hide (hmF.out k hlt hfl)
            by_cases h2 : ((U k).T (F k)).n = 2
            · have hfr : Frees U F k := .inl h2
              have hI' := hide (hnext.out hfr)
              rw [h2] at RE u2
              simp only [show decide ((2 : Int) < ((2 : Nat) : Int)) = false from rfl] at RE
              generalize pB (∃ v, v < k ∧ F v < (U v).n) = bd at *
              clear hall hFn hlow ht1 ht2 RS RK hT hF he hnext hway hNo hbd h2n hp6 hfr u3
              generalize (U k).n = m at *
              generalize hfkk : F k = fk at *
              go_wp2_with fail
              refine (RE.out _).mono ?_
              rintro e w5 ⟨rfl, hw5⟩
              rw [hw5]; clear hw5 w5
              go_wp2_with fail
              refine wp_region_quiet_below (by kernel_rfl) (by kernel_rfl) ?_
              repeat (first | go_big_quiet_step (fail) | quiet_step (fail))
              refine wpQuiet_nil ?_
              intro _ hw'
              obtain ⟨⟨dq_, osq_⟩, hw''⟩ := hw'
              subst hw''
              have hq_ := below_regrown wr dq_ osq_
              generalize Go.Sort.grow (redrawn wr dq_) osq_ = wdr at hq_ ⊢
              have dr := hb.trans (hq_.mono hb.size)
              clear hq_ 
              have hOr := hO.below dr
              have MR := MY.below dr
              have dR := dY.trans (dr.mono dY.size)
              obtain ⟨⟨y5, f5, hy5⟩, z5⟩ := hOr.2 k hlt
              obtain rfl := hy5 hlt
              have hON := hide (hput.out _ hOr)
              replace f5 : wdr.cell? ⟨g, k, none⟩ = some (.int .i64 (fk : Int)) := by rw [← hfkk]; exact f5
              clear hOr dr
              go_wp2_with fail
              exact ⟨⟨_, hI', hON.out, MR.other (by omega) _ _, dR.setCell (show w.heap.size ≤ g by omega) _⟩, hmK.out _ hON.out⟩
            · have h23 : 2 < ((U k).T (F k)).n := by omega
              rw [show decide ((2 : Int) < (((U k).T (F k)).n : Int)) = true from decide_eq_true (by omega)] at RE
              obtain ⟨n1, n2, n3, n4⟩ := hway.next h23
              have hQ := hide (RowInt.tail rfl ht2)
              have tln : (tl ((U k).T (F k))).n = ((U k).T (F k)).n - 1 := rfl
              have hfx : Hid (Frees U F k ↔ rk U (nx ((U k).T (F k))) (tl ((U k).T (F k))) < (F (nx ((U k).T (F k))) : Int)) := ⟨fun h => by
                rcases h with h | h
                · omega
                · exact h, fun h => .inr h⟩
              generalize hx : nx ((U k).T (F k)) = x at *
              have n4' : ((U k).T (F k)).f 1 - 1 = (x : Int) := by omega
              have hx' : (x : Int) < (N : Int) := by omega
              have RR := hide (fun w R P => RK.out x (some ⟨b3, off3 + 1, none⟩) (c2 - 1) (tl ((U k).T (F k))) w (by show ((U k).T (F k)).f 1 = _; omega) n3 (by rw [tln]; omega) (by rw [tln]; omega) R P)
              rw [tln] at RR hQ
              have RW := hide (hR.below dQ)
              obtain ⟨⟨y7, f7, hy7⟩, _⟩ := hOq.2 x n3
              obtain rfl := hy7 n3
              replace f7 : wr.cell? ⟨g, x, none⟩ = some (.int .i64 (F x : Int)) := f7
              have k1 : (0 : Int) < ((((U k).T (F k)).n - 1 : Nat) : Int) := by omega
              generalize rk U x (tl ((U k).T (F k))) = rq at *
              by_cases hqx : rq < (F x : Int)
              · have hI' := hide (hnext.out (hfx.out.2 hqx))
                generalize pB (∃ v, v < k ∧ F v < (U v).n) = bd at *
                generalize hpn : ((U k).T (F k)).n - 1 = pn at *
                clear hall hFn hlow ht1 ht2 RS RK hT hF he hnext hway hNo hbd h2n hp6 hfx tln hpn
                generalize ((U k).T (F k)).f 1 = y1 at *
                generalize ((U k).T (F k)).n = tn at *
                generalize (U k).n = m at *
                generalize hfkk : F k = fk at *
                generalize hfxx : F x = fx at *
                clear hfxx
                go_wp2_with fail
                refine (RE.out _).mono ?_
                rintro e w5 ⟨rfl, hw5⟩
                rw [hw5]; clear hw5 w5
                go_wp2_with fail
                have q0 := cell_regrown c0
                have q3 := cell_regrown u3
                have q7 := cell_regrown f7
                refine wp_region_quiet_below (by kernel_rfl) (by kernel_rfl) ?_
                repeat (first | go_big_quiet_step ((first | (go_at_call 88; exact Calls.regrown_of (RR.out _ (RW.out.below (below_regrown _ _ _)) (hQ.out.below (below_regrown _ _ _)))))) | quiet_step ((first | (go_at_call 88; exact Calls.regrown_of (RR.out _ (RW.out.below (below_regrown _ _ _)) (hQ.out.below (below_regrown _ _ _)))))))
                refine wpQuiet_nil ?_
                intro _ hw'
                obtain ⟨⟨dq_, osq_⟩, hw''⟩ := hw'
                subst hw''
                have hq_ := below_regrown wr dq_ osq_
                generalize Go.Sort.grow (redrawn wr dq_) osq_ = wdr at hq_ ⊢
                have dr := hb.trans (hq_.mono hb.size)
                clear hq_ q0 q3 q7 c0 u1 u2 u3 f1 f7
                have hOr := hO.below dr
                have MR := MY.below dr
                have dR := dY.trans (dr.mono dY.size)
                obtain ⟨⟨y5, f5, hy5⟩, z5⟩ := hOr.2 k hlt
                obtain rfl := hy5 hlt
                have hON := hide (hput.out _ hOr)
                replace f5 : wdr.cell? ⟨g, k, none⟩ = some (.int .i64 (fk : Int)) := by rw [← hfkk]; exact f5
                clear hOr dr
                go_wp2_with fail
                exact ⟨⟨_, hI', hON.out, MR.other (by omega) _ _, dR.setCell (show w.heap.size ≤ g by omega) _⟩, hmK.out _ hON.out⟩
              · have hN := hide (hNo.out (fun h => hqx (hfx.out.1 h)))
                generalize pB (∃ v, v < k ∧ F v < (U v).n) = bd at *
                generalize hpn : ((U k).T (F k)).n - 1 = pn at *
                clear hall hFn hlow ht1 ht2 RS RK hT hF he hnext hway hNo h2n hp6 hfx tln hpn hput hmK
                generalize ((U k).T (F k)).f 1 = y1 at *
                generalize ((U k).T (F k)).n = tn at *
                generalize (U k).n = m at *
                generalize F k = fk at *
                generalize F x = fx at *
                go_wp2_with fail
                refine (RE.out _).mono ?_
                rintro e w5 ⟨rfl, hw5⟩
                rw [hw5]; clear hw5 w5
                go_wp2_with fail
                have q0 := cell_regrown c0
                have q3 := cell_regrown u3
                have q7 := cell_regrown f7
                refine wp_region_quiet_below (by kernel_rfl) (by kernel_rfl) ?_
                repeat (first | go_big_quiet_step ((first | (go_at_call 88; exact Calls.regrown_of (RR.out _ (RW.out.below (below_regrown _ _ _)) (hQ.out.below (below_regrown _ _ _)))))) | quiet_step ((first | (go_at_call 88; exact Calls.regrown_of (RR.out _ (RW.out.below (below_regrown _ _ _)) (hQ.out.below (below_regrown _ _ _)))))))
                refine wpQuiet_nil ?_
                intro _ hw'
                obtain ⟨⟨dq_, osq_⟩, hw''⟩ := hw'
                subst hw''
                have hq_ := below_regrown wr dq_ osq_
                generalize Go.Sort.grow (redrawn wr dq_) osq_ = wdr at hq_ ⊢
                have dr := hb.trans (hq_.mono hb.size)
                clear hq_ q0 q3 q7 c0 u1 u2 u3 f1 f7
                go_wp2_with fail
                exact ⟨⟨k + 1, by go_num, by rw [← hbd.out], by omega, hN, dr⟩, by simp [intOf]; omega⟩
        · have hlt' : ¬ (k : Int) < (N : Int) := by omega
          obtain rfl : k = N := by omega
          have hE : Hid (r = pB (∃ v, v < k ∧ F v < (U v).n)) := by
            show r = _
            by_cases hx : ∃ v, v < k ∧ F v < (U v).n
            · rw [pB_t hx, hT.out (FrInv.stuck hG9.out hall.out hx)]
            · rw [pB_f hx, hF.out (hI.out.all hG9.out (fun v hv => by
                have h1 := hI.out.1 v hv
                have h2 : ¬ F v < (U v).n := fun h => hx ⟨v, hv, h⟩
                omega))]
          generalize pB (∃ v, v < k ∧ F v < (U v).n) = bd at *
          clear hall hT hF
          go_wp2_with fail
          (try rw [Exit.noGoto_ret])
          go_ret2
          exact ⟨by rw [hE.out]; rfl, dQ⟩
  · have eG : gsB N U = false := pB_f hG
    have e0 : whB N U = false := pB_f (fun h => hG h.1)
    rw [eG] at SG ⊢
    rw [e0]
    clear hG hl eG e0
    go_enter Try.func39, Try.ntmps39
    go_wp2_with fail
    go_step3
    go_wp2_with fail
    refine (SG.out _ (hR.below dX)).mono ?_
    rintro e w1 ⟨rfl, b⟩
    replace dX := dX.trans (b.mono dX.size)
    clear b
    go_wp2_with fail
    (try rw [Exit.noGoto_ret])
    go_ret2
    exact ⟨rfl, dX⟩
end Go.Proofs.Ytcnlabedlcmilaa
