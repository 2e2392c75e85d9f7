/- ActivateAll, PlaySpp and SettleSpp of the program. -/
import Derived.Test.YtcnlabedlcmilaaI10b
import Derived.Test.YtcnlabedlcmilaaPlain10b
namespace Go.Proofs.Ytcnlabedlcmilaa
open Go.RowKit
set_option maxRecDepth 100000 in
set_option maxHeartbeats 800000 in
theorem i_none10 (a : Option Addr) (N c : Nat) (w : World) (h1 : 1 ≤ N) (h5 : N ≤ 5) :
    Calls Try.prog 84 #[.agg #[.slice a N c]] w fun e w' => ∃ g cap, e = .returned (.slice (some ⟨g, 0, none⟩) N cap) ∧ w.heap.size ≤ g ∧ N ≤ cap ∧ OutInt g N N (fun _ => -1) w' ∧ Below w.heap.size w w' := by
  have dX : Below w.heap.size w ((w.alloc (.cells #[.slice a N c] 27)).alloc (.cells #[.int .i64 (-1)] 3)) := below_box2 (Below.refl _ _)
  have MX := (Mut.new w #[.slice a N c] 27).alloc (.cells #[.int .i64 (-1)] 3)
  have MB := Mut.new (w.alloc (.cells #[.slice a N c] 27)) #[.int .i64 (-1)] 3
  have RP := hide (fun b w hbl hb => i_repeat b 1 N (-1) w h1 (by omega) hbl hb)
  have c0 := MX.2.1 0 _ rfl
  have c1 := hide (MB.2.1 0 _ rfl)
  simp only [World.size_alloc] at c1
  go_enter Try.func84, Try.ntmps84
  go_wp2_with fail
  refine (RP.out _ _ (by simp) c1.out).mono ?_
  rintro e w1 ⟨g, rfl, hg, hO, b1⟩
  have hsz : w.heap.size ≤ g := Nat.le_trans dX.size hg
  replace dX := dX.trans (b1.mono dX.size)
  clear b1 c0
  go_wp2_with fail
  go_ret
  exact ⟨g, N, rfl, hsz, Nat.le_refl _, hO, dX⟩
set_option maxRecDepth 100000 in
set_option maxHeartbeats 1600000 in
theorem i_actAll10 (a : Option Addr) (N c : Nat) (U : Nat → Pl) (f : Nat → Int) (g cap : Nat) (w0 w : World) (hG : GS N U) (hC : Chs N U f) (hR : RowK3 a N U w0) (hb0 : Below w0.heap.size w0 w) (hg : w0.heap.size ≤ g) (hO : OutInt g N N f w) :
    Calls Try.prog 81 #[.agg #[.slice a N c], .slice (some ⟨g, 0, none⟩) N cap] w fun e w' => e = .returned (.tuple #[]) ∧ OutInt g N N (actN U f N) w' ∧ Only g w w' := by
  have hN5 : (N : Int) ≤ 5 := by have := hG.2.1; omega
  have B := hide (fun f v ga gc w hC hv R P => i_best10 a N c U f v ga gc w hG hC hv R P)
  have MX := Mut.new w #[.slice a N c] 27
  have dX : Below w.heap.size w (w.alloc (.cells #[.slice a N c] 27)) := below_box (Below.refl _ _)
  have hgl := hO.1
  have hO1 := hO.below dX
  have hD1 : Only g w (w.alloc (.cells #[.slice a N c] 27)) := Only.of_below dX
  generalize hbs : w.heap.size = bs at *
  clear hG dX hO
  go_enter Try.func81, Try.ntmps81
  go_wp2_with fail
  go_loopw [7] (fun y wr => ∃ k : Nat, y = .int .i64 k ∧ k ≤ N ∧ OutInt g N N (actN U f k) wr ∧ Mut wr bs [.slice a N c] ∧ Only g w wr) (fun y _ => N - (intOf y).toNat)
  case atStart => exact ⟨0, rfl, Nat.zero_le _, hO1, MX, hD1⟩
  case round =>
    obtain ⟨k, rfl, hk, hO, MX, hD⟩ := hrel
    have c0 := MX.2.1 0 _ rfl
    have hdW := hide (hb0.trans ((hD.below (by omega)).mono hg))
    by_cases hlt : k < N
    · have hlt' : (k : Int) < (N : Int) := by omega
      obtain ⟨⟨y0, i0, _⟩, z0⟩ := hO.2 k hlt
      have BK := hide (fun w R P => B.out (actN U f k) k (some ⟨g, 0, none⟩) cap w (hC.act k) hlt R P)
      have RY := hide (hR.below hdW.out)
      have PY := hide hO.row
      have hP := hide (fun (w3 : World) (h : OutInt g N N (actN U f k) w3) => h.put hlt (bst U (actN U f k) k))
      have hnext : Hid ((fun j => if j = k then bst U (actN U f k) k else actN U f k j) = actN U f (k + 1)) := rfl
      generalize bst U (actN U f k) k = x at *
      go_wp2_with fail
      refine (BK.out _ RY.out PY.out).mono ?_
      rintro e w3 ⟨rfl, b3⟩
      have M3 := MX.below b3
      have O3 := hO.below b3
      obtain ⟨⟨y3, i3, _⟩, z3⟩ := O3.2 k hlt
      have ON := hide (hP.out _ O3)
      rw [hnext.out] at ON
      have D3 := hD.trans (Only.of_below b3)
      clear b3 i0 z0 c0 O3 hO hP
      go_wp2_with fail
      exact ⟨⟨k + 1, by go_num, by omega, ON.out, M3.other (by omega) _ _, D3.setCell _ _⟩, by simp [intOf]; omega⟩
    · have hlt' : ¬ (k : Int) < (N : Int) := by omega
      obtain rfl : k = N := by omega
      clear c0
      go_wp2_with fail
      go_end0
      exact ⟨rfl, hO, hD⟩
set_option maxRecDepth 100000 in
set_option maxHeartbeats 1600000 in
theorem i_activateAllE (a : Option Addr) (N c : Nat) (U : Nat → Pl) (gn : Nat) (gf : Nat → Int) (ga : Option Addr) (gc : Nat) (w : World) (hN : N ≤ 1048576) (hl : LowS N U) (hR : RowK3 a N U w) (hP : RowInt ga gn gf w) :
    Calls Try.prog 27 #[.agg #[.slice a N c], .slice ga gn gc] w fun e w' => ∃ v, e = .returned (.tuple #[v, .bool (chB N U ⟨gn, gf⟩)]) ∧ AnsL w.heap.size v (aaR N U gn gf) w' ∧ Below w.heap.size w w' := by
  have MX := Mut.new w #[.slice a N c] 27
  have dX : Below w.heap.size w (w.alloc (.cells #[.slice a N c] 27)) := below_box (Below.refl _ _)
  have c0 := MX.2.1 0 _ rfl
  have SC := hide (fun w R P => i_chosen10 a N c U gn gf ga gc w hN hl R P)
  by_cases hC : GS N U ∧ ChOk N U ⟨gn, gf⟩
  · have e1 : chB N U ⟨gn, gf⟩ = true := pB_t hC
    have e0 : Hid (aaR N U gn gf = lsI N (actN U gf N)) := by show _ = _; unfold aaR; rw [e1]; rfl
    rw [e1] at SC ⊢
    have hgn : gn = N := hC.2.1
    subst hgn
    have h1 := hC.1.1
    have h5 := hC.1.2.1
    obtain ⟨b0, off0, hga, _⟩ := hP 0 (by omega)
    subst hga
    have CL := hide (fun w P => i_cloneI b0 off0 gn gc gf w (by omega) (by omega) P)
    have SB := hide (fun g cap w hb hg hO => i_actAll10 a gn c U gf g cap _ w hC.1 hC.2.2 hR hb hg hO)
    clear hC e1
    go_enter Try.func27, Try.ntmps27
    go_wp2_with fail
    refine (SC.out _ (hR.below dX) (hP.below dX)).mono ?_
    rintro e w2 ⟨rfl, b⟩
    replace dX := dX.trans (b.mono dX.size)
    replace MX := MX.below b
    have c0 := MX.2.1 0 _ rfl
    clear b
    go_wp2_with fail
    have hsz := dX.size
    refine (CL.out _ (hP.below dX)).mono ?_
    rintro e w3 ⟨g, cap, rfl, hg, hcap, hO, b3⟩
    replace dX := dX.trans (b3.mono dX.size)
    replace MX := MX.below b3
    have c0 := MX.2.1 0 _ rfl
    clear b3
    go_wp2_with fail
    refine (SB.out _ _ _ dX (by omega) hO).mono ?_
    rintro e w4 ⟨rfl, hO4, h4⟩
    have d4 := dX.trans ((h4.below (Nat.le_of_lt hO.1)).mono (show w.heap.size ≤ g by omega))
    clear c0 hO h4
    go_wp2_with fail
    go_ret2
    refine ⟨_, rfl, ?_, d4⟩
    rw [e0.out]
    exact ansL_out (by omega) hO4
  · have e1 : chB N U ⟨gn, gf⟩ = false := pB_f hC
    have e0 : Hid (aaR N U gn gf = []) := by show _ = _; unfold aaR; rw [e1]; rfl
    rw [e1] at SC ⊢
    clear hC e1
    go_enter Try.func27, Try.ntmps27
    go_wp2_with fail
    refine (SC.out _ (hR.below dX) (hP.below dX)).mono ?_
    rintro e w2 ⟨rfl, b⟩
    replace dX := dX.trans (b.mono dX.size)
    clear b
    go_wp2_with fail
    go_ret2
    refine ⟨_, rfl, ?_, dX⟩
    rw [e0.out]
    exact ansL_nil _ _
set_option maxRecDepth 100000 in
set_option maxHeartbeats 3200000 in
theorem i_playSppE (a : Option Addr) (N c : Nat) (U : Nat → Pl) (ln : Nat) (lf : Nat → Int) (la : Option Addr) (lc : Nat) (w : World) (hN : N ≤ 1048576) (hl : LowS N U) (hR : RowK3 a N U w) (hP : RowInt la ln lf w) :
    Calls Try.prog 32 #[.agg #[.slice a N c], .slice la ln lc] w fun e w' => ∃ v, e = .returned (.tuple #[v, .bool (plB N U ln lf)]) ∧ AnsL w.heap.size v (plR N U ln lf) w' ∧ Below w.heap.size w w' := by
  have MX := Mut.new w #[.slice a N c] 27
  have dX : Below w.heap.size w (w.alloc (.cells #[.slice a N c] 27)) := below_box (Below.refl _ _)
  have c0 := MX.2.1 0 _ rfl
  have SG := hide (fun w R => i_goodSpp a N c U w hN hl R)
  have hno : Hid (¬ PlOk N U ln lf → plR N U ln lf = [] ∧ plB N U ln lf = false) := pl_no
  have hyes : Hid (PlOk N U ln lf → plR N U ln lf = lsI N (plN U lf ln) ∧ plB N U ln lf = true) := pl_yes
  generalize plR N U ln lf = r0 at *
  generalize plB N U ln lf = r1 at *
  by_cases hG : GS N U
  · rw [show gsB N U = true from pB_t hG] at SG
    by_cases h40 : ln ≤ 40
    · have h40' : ¬ ((ln : Int) > 40) := by omega
      have hln40 : (ln : Int) ≤ 40 := by omega
      have hY : Hid ((∀ k, k < ln → 1 ≤ lf k ∧ lf k ≤ (N : Int)) → r0 = lsI N (plN U lf ln) ∧ r1 = true) := fun h => hyes.out ⟨⟨hG, h40⟩, h⟩
      have hBad : Hid (∀ k, k < ln → ¬ (1 ≤ lf k ∧ lf k ≤ (N : Int)) → r0 = [] ∧ r1 = false) := fun k hk h => hno.out (fun q => h (q.2 k hk))
      have NO := hide (fun w => i_none10 a N c w hG.1 hG.2.1)
      have B := hide (fun f v ga gc w hC hv R P => i_best10 a N c U f v ga gc w hG hC hv R P)
      have hC := hide (plN_ok N U lf)
      have hN5 : (N : Int) ≤ 5 := by have := hG.2.1; omega
      clear hno hyes hG hl
      go_enter Try.func32, Try.ntmps32
      go_wp2_with fail
      refine (SG.out _ (hR.below dX)).mono ?_
      rintro e w1 ⟨rfl, b⟩
      replace dX := dX.trans (b.mono dX.size)
      replace MX := MX.below b
      have c0 := MX.2.1 0 _ rfl
      clear b
      go_wp2_with fail
      have hsz := dX.size
      have MX0 := MX
      have d1s := dX.size
      refine (NO.out _).mono ?_
      rintro e w2 ⟨g, cap, rfl, hg, hcap, hO, b2⟩
      replace dX := dX.trans (b2.mono dX.size)
      replace MX := MX.below b2
      have hgb : w.heap.size < g := Nat.lt_of_lt_of_le (by have := MX0.1; have h2 := d1s; omega) hg
      clear b2 c0 SG NO
      go_wp2_with fail
      have hszw : w.heap.size ≤ w2.heap.size := dX.size
      go_loopw [21] (fun y wr => ∃ k : Nat, y = .int .i64 k ∧ k ≤ ln ∧ Hid (∀ j, j < k → 1 ≤ lf j ∧ lf j ≤ (N : Int)) ∧ OutInt g N N (plN U lf k) wr ∧ Mut wr w.heap.size [.slice a N c] ∧ Below w.heap.size w wr) (fun y _ => ln - (intOf y).toNat)
      case atStart => exact ⟨0, rfl, Nat.zero_le _, fun j hj => absurd hj (by omega), hO, MX, dX⟩
      case round =>
        clear hO MX dX
        obtain ⟨k, rfl, hk, hall, hO, MY, dY⟩ := hrel
        have c0 := MY.2.1 0 _ rfl
        have hb := dY
        by_cases hlt : k < ln
        · have hlt' : (k : Int) < (ln : Int) := by omega
          obtain ⟨b1, off1, rfl, hb1, u1⟩ := (hP.below dY) k hlt
          have RY := hide (hR.below dY)
          have PY := hide hO.row
          have IN := hide (fun w => i_isNode10 a N c (lf k) w)
          by_cases g0 : 1 ≤ lf k ∧ lf k ≤ (N : Int)
          rotate_left
          · rw [pB_f g0] at IN
            obtain ⟨rfl, rfl⟩ := hBad.out k hlt g0
            clear hBad hY hall hO hC B
            generalize lf k = z at *
            go_wp2_with fail
            refine (IN.out _).mono ?_
            rintro e w3 ⟨rfl, b3⟩
            have d3 := dY.trans (b3.mono dY.size)
            clear b3 c0
            go_wp2_with fail
            go_ret2
            exact ⟨_, rfl, ansL_nil _ _, d3⟩
          · rw [pB_t g0] at IN
            · have hN : Hid (∀ j, j < k + 1 → 1 ≤ lf j ∧ lf j ≤ (N : Int)) := fun j hj => by
                by_cases e : j = k
                · subst e; exact ⟨by omega, by omega⟩
                · exact hall.out j (by omega)
              have hv : (lf k).toNat - 1 < N := by omega
              have BK := hide (fun w R P => B.out (plN U lf k) ((lf k).toNat - 1) (some ⟨g, 0, none⟩) cap w (hC.out k) hv R P)
              rw [show (((lf k).toNat - 1 : Nat) : Int) + 1 = lf k by omega] at BK
              have hPut := hide (fun (w3 : World) (h : OutInt g N N (plN U lf k) w3) => h.put hv (bst U (plN U lf k) ((lf k).toNat - 1)))
              have hnext : Hid ((fun j => if j = (lf k).toNat - 1 then bst U (plN U lf k) ((lf k).toNat - 1) else plN U lf k j) = plN U lf (k + 1)) := rfl
              have hvi : lf k - 1 = (((lf k).toNat - 1 : Nat) : Int) := by omega
              have hvN : (((lf k).toNat - 1 : Nat) : Int) < (N : Int) := by omega
              generalize bst U (plN U lf k) ((lf k).toNat - 1) = x at *
              generalize hvv : (lf k).toNat - 1 = v at *
              clear hBad hY hall B hvv
              generalize lf k = z at *
              go_wp2_with fail
              refine (IN.out _).mono ?_
              rintro e wn ⟨rfl, bn⟩
              replace MY := MY.below bn
              replace hO := hO.below bn
              replace hb := hb.trans (bn.mono hb.size)
              replace RY := hide (RY.out.below bn)
              replace PY := hide (PY.out.below bn)
              have c0 := MY.2.1 0 _ rfl
              clear bn
              go_wp2_with fail
              refine (BK.out _ RY.out PY.out).mono ?_
              rintro e w3 ⟨rfl, b3⟩
              have M3 := MY.below b3
              have O3 := hO.below b3
              obtain ⟨⟨y3, i3, _⟩, z3⟩ := O3.2 v hv
              have ON := hide (hPut.out _ O3)
              rw [hnext.out] at ON
              have D3 := hb.trans (b3.mono hb.size)
              clear b3 c0 O3 hO hPut
              go_wp2_with fail
              exact ⟨⟨k + 1, by go_num, by omega, hN, ON.out, M3.other (by omega) _ _, D3.setCell (show w.heap.size ≤ g by omega) _⟩, by simp [intOf]; omega⟩
        · have hlt' : ¬ (k : Int) < (ln : Int) := by omega
          obtain rfl : k = ln := by omega
          obtain ⟨rfl, rfl⟩ := hY.out hall.out
          clear c0 hall hY hBad B
          go_wp2_with fail
          go_ret2
          exact ⟨_, rfl, ansL_out (by omega) hO, dY⟩
    · have h40' : (ln : Int) > 40 := by omega
      obtain ⟨rfl, rfl⟩ := hno.out (fun h => h40 h.1.2)
      clear hno hyes hG hl
      go_enter Try.func32, Try.ntmps32
      go_wp2_with fail
      refine (SG.out _ (hR.below dX)).mono ?_
      rintro e w1 ⟨rfl, b⟩
      replace dX := dX.trans (b.mono dX.size)
      clear b
      go_wp2_with fail
      go_ret2
      exact ⟨_, rfl, ansL_nil _ _, dX⟩
  · rw [show gsB N U = false from pB_f hG] at SG
    obtain ⟨rfl, rfl⟩ := hno.out (fun h => hG h.1.1)
    clear hno hyes hG hl
    go_enter Try.func32, Try.ntmps32
    go_wp2_with fail
    refine (SG.out _ (hR.below dX)).mono ?_
    rintro e w1 ⟨rfl, b⟩
    replace dX := dX.trans (b.mono dX.size)
    clear b
    go_wp2_with fail
    go_ret2
    exact ⟨_, rfl, ansL_nil _ _, dX⟩
set_option maxRecDepth 100000 in
set_option maxHeartbeats 3200000 in
theorem i_settleSppE (a : Option Addr) (N c : Nat) (U : Nat → Pl) (w : World) (hN : N ≤ 1048576) (hl : LowS N U) (hR : RowK3 a N U w) :
    Calls Try.prog 41 #[.agg #[.slice a N c]] w fun e w' => ∃ v, e = .returned (.tuple #[v, .int .i64 (seN N U), .bool (seB N U)]) ∧ AnsL w.heap.size v (seR N U) w' ∧ Below w.heap.size w w' := by
  have MX := Mut.new w #[.slice a N c] 27
  have dX : Below w.heap.size w (w.alloc (.cells #[.slice a N c] 27)) := below_box (Below.refl _ _)
  have c0 := MX.2.1 0 _ rfl
  have SG := hide (fun w R => i_goodSpp a N c U w hN hl R)
  have hno : Hid (¬ SeOk N U → seR N U = [] ∧ seN N U = 0 ∧ seB N U = false) := se_no
  have hyes : Hid (∀ k, GS N U → k ≤ 40 → Stb N U (itr N U k) → (∀ j, j < k → ¬ Stb N U (itr N U j)) → seR N U = lsI N (itr N U k) ∧ seN N U = (k : Int) ∧ seB N U = true) := fun k h h1 h2 h3 => se_yes h h1 h2 h3
  generalize seR N U = r0 at *
  generalize seN N U = r1 at *
  generalize seB N U = r2 at *
  by_cases hG : GS N U
  · rw [show gsB N U = true from pB_t hG] at SG
    have hNever : Hid ((∀ j, j < 41 → ¬ Stb N U (itr N U j)) → r0 = [] ∧ r1 = 0 ∧ r2 = false) := fun h => hno.out (se_never h)
    have hYes : Hid (∀ k, k ≤ 40 → Stb N U (itr N U k) → (∀ j, j < k → ¬ Stb N U (itr N U j)) → r0 = lsI N (itr N U k) ∧ r1 = (k : Int) ∧ r2 = true) := fun k h1 h2 h3 => hyes.out k hG h1 h2 h3
    have NO := hide (fun w => i_none10 a N c w hG.1 hG.2.1)
    have ST := hide (fun f ga gc w hC R P => i_stable10 a N c U f ga gc w hG hC R P)
    have AL := hide (fun f g cap w hC hb hg hO => i_actAll10 a N c U f g cap _ w hG hC hR hb hg hO)
    have hC := hide (itr_ok N U)
    have hN5 : (N : Int) ≤ 5 := by have := hG.2.1; omega
    have hN1 := hG.1
    clear hno hyes hG hl
    go_enter Try.func41, Try.ntmps41
    go_wp2_with fail
    refine (SG.out _ (hR.below dX)).mono ?_
    rintro e w1 ⟨rfl, b⟩
    replace dX := dX.trans (b.mono dX.size)
    replace MX := MX.below b
    have c0 := MX.2.1 0 _ rfl
    clear b
    go_wp2_with fail
    have MX0 := MX
    have d1s := dX.size
    refine (NO.out _).mono ?_
    rintro e w2 ⟨g, cap, rfl, hg, hcap, hO, b2⟩
    replace dX := dX.trans (b2.mono dX.size)
    replace MX := MX.below b2
    have hgb : w.heap.size < g := Nat.lt_of_lt_of_le (by have := MX0.1; omega) hg
    clear b2 c0 SG NO MX0
    go_wp2_with fail
    go_loopw [6] (fun y wr => ∃ (k : Nat), y = .int .i64 k ∧ k ≤ 40 ∧ Hid (∀ j, j < k → ¬ Stb N U (itr N U j)) ∧ OutInt g N N (itr N U k) wr ∧ Mut wr w.heap.size [.slice a N c] ∧ Below w.heap.size w wr) (fun y _ => 40 - (intOf y).toNat)
    case atStart => exact ⟨0, rfl, Nat.zero_le _, fun j hj => absurd hj (by omega), hO, MX, dX⟩
    case round =>
      clear hO MX dX
      obtain ⟨k, rfl, hk, hall, hO, MY, dY⟩ := hrel
      have c0 := MY.2.1 0 _ rfl
      have ST1 := hide (fun w R P => ST.out (itr N U k) (some ⟨g, 0, none⟩) cap w (hC.out k) R P)
      have RY := hide (hR.below dY)
      have PY := hide hO.row
      by_cases hlt : k < 40
      · have hlt' : (k : Int) < 40 := by omega
        by_cases hs : Stb N U (itr N U k)
        · rw [pB_t hs] at ST1
          obtain ⟨rfl, rfl, rfl⟩ := hYes.out k (by omega) hs hall.out
          clear hYes hNever hall hs AL ST
          go_wp2_with fail
          refine (ST1.out _ RY.out PY.out).mono ?_
          rintro e w4 ⟨rfl, b4⟩
          replace hO := hO.below b4
          replace MY := MY.below b4
          have dZ := dY.trans (b4.mono dY.size)
          have c0 := MY.2.1 0 _ rfl
          clear b4
          go_wp2_with fail
          have RW := hide (hR.below dZ)
          have PW := hide hO.row
          refine (ST1.out _ RW.out PW.out).mono ?_
          rintro e w5 ⟨rfl, b5⟩
          have d5 := dZ.trans (b5.mono dZ.size)
          replace hO := hO.below b5
          clear b5
          go_wp2_with fail
          go_ret3
          exact ⟨_, rfl, ansL_out (by omega) hO, d5⟩
        · rw [pB_f hs] at ST1
          have hN : Hid (∀ j, j < k + 1 → ¬ Stb N U (itr N U j)) := fun j hj => by
            by_cases e : j = k
            · subst e; exact hs
            · exact hall.out j (by omega)
          have AK := hide (fun w hb hO => AL.out (itr N U k) g cap w (hC.out k) hb (by omega) hO)
          have hit : Hid (actN U (itr N U k) N = itr N U (k + 1)) := rfl
          clear hYes hNever hall hs AL ST
          go_wp2_with fail
          refine (ST1.out _ RY.out PY.out).mono ?_
          rintro e w4 ⟨rfl, b4⟩
          replace hO := hO.below b4
          replace MY := MY.below b4
          have dZ := dY.trans (b4.mono dY.size)
          have c0 := MY.2.1 0 _ rfl
          clear b4
          go_wp2_with fail
          refine (AK.out _ dZ hO).mono ?_
          rintro e w6 ⟨rfl, hO6, h6⟩
          have d6 := dZ.trans ((h6.below (Nat.le_of_lt hO.1)).mono (show w.heap.size ≤ g by omega))
          have M6 := MY.only h6 (by omega)
          rw [hit.out] at hO6
          clear c0 hO h6
          go_wp2_with fail
          exact ⟨⟨k + 1, by go_num, by omega, hN, hO6, M6, d6⟩, by simp [intOf]; omega⟩
      · have hlt' : ¬ (k : Int) < 40 := by omega
        obtain rfl : k = 40 := by omega
        have RW := RY
        have PW := PY
        have dZ := dY
        by_cases hs : Stb N U (itr N U 40)
        · rw [pB_t hs] at ST1
          obtain ⟨rfl, rfl, rfl⟩ := hYes.out 40 (by omega) hs hall.out
          clear hYes hNever hall hs AL ST
          go_wp2_with fail
          refine (ST1.out _ RW.out PW.out).mono ?_
          rintro e w5 ⟨rfl, b5⟩
          have d5 := dZ.trans (b5.mono dZ.size)
          replace hO := hO.below b5
          clear b5
          go_wp2_with fail
          go_ret3
          exact ⟨_, rfl, ansL_out (by omega) hO, d5⟩
        · rw [pB_f hs] at ST1
          obtain ⟨rfl, rfl, rfl⟩ := hNever.out (fun j hj => by
            by_cases e : j = 40
            · subst e; exact hs
            · exact hall.out j (by omega))
          clear hYes hNever hall hs AL ST
          go_wp2_with fail
          refine (ST1.out _ RW.out PW.out).mono ?_
          rintro e w5 ⟨rfl, b5⟩
          have d5 := dZ.trans (b5.mono dZ.size)
          replace hO := hO.below b5
          clear b5
          go_wp2_with fail
          go_ret3
          exact ⟨_, rfl, ansL_nil _ _, d5⟩
  · rw [show gsB N U = false from pB_f hG] at SG
    obtain ⟨rfl, rfl, rfl⟩ := hno.out (fun h => hG h.1)
    clear hno hyes hG hl
    go_enter Try.func41, Try.ntmps41
    go_wp2_with fail
    refine (SG.out _ (hR.below dX)).mono ?_
    rintro e w1 ⟨rfl, b⟩
    replace dX := dX.trans (b.mono dX.size)
    clear b
    go_wp2_with fail
    go_ret3
    exact ⟨_, rfl, ansL_nil _ _, dX⟩
end Go.Proofs.Ytcnlabedlcmilaa
