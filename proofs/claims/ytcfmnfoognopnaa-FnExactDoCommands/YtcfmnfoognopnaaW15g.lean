/- The law on DoCommands: the program answers as the specification. -/
import Derived.Test.YtcfmnfoognopnaaS15n
import Derived.Test.YtcfmnfoognopnaaI15o
import Derived.Test.YtcfmnfoognopnaaAns15
import Derived.Test.YtcfmnfoognopnaaCmdA15
import Derived.Test.YtcfmnfoognopnaaSet15
namespace Go.Proofs.Ytcfmnfoognopnaa
open Go.RowKit

set_option maxRecDepth 100000 in
set_option maxHeartbeats 6400000 in
theorem w_doCommands (a0 : Option Addr) (n0 c0 : Nat) (T0 : Nat → Lf) (a1 : Option Addr) (n1 c1 : Nat) (T1 : Nat → Cm15) (w : World) (hn0 : n0 ≤ maxLen) (hx0 : MaxF n0 T0) (hR0 : RowF false a0 n0 T0 w) (hn1 : n1 ≤ maxLen) (hx1 : MaxCX n1 T1) (hR1 : RowCX a1 n1 T1 w) :
    Calls Try.prog 4 #[.slice a0 n0 c0, .slice a1 n1 c1] w fun e w' => e = .returned (.bool true) ∧ Below w.heap.size w w' := by
  have SZ0 := hide (fun w R => w_szLeafS a0 n0 c0 T0 1048576 w hn0 hx0 (by omega) (by omega) R)
  have d0 : Below w.heap.size w w := Below.refl _ _
  go_enter Try.func4, Try.ntmps4
  go_wp2_with fail
  refine (SZ0.out _ (hR0.below d0)).mono ?_
  rintro e w1 ⟨r0, rfl, hr0, bb⟩
  have d1 := d0.trans (bb.mono d0.size)
  clear bb
  rcases hr0 with rfl | ⟨r0a, r0b, l0⟩
  · go_wp2_with fail
    go_ret
    exact ⟨rfl, d1⟩
  have z0 : ¬ (r0 < 0) := by omega
  have m0 : n0 ≤ 1048576 := by omega
  have y0 : (totF T0 n0 : Int) ≤ 1048576 := by omega
  clear SZ0
  have SZ1 := hide (fun w R => w_szCommandS a1 n1 c1 T1 r0 w hn1 hx1 (by omega) (by omega) R)
  go_wp2_with fail
  refine (SZ1.out _ (hR1.below d1)).mono ?_
  rintro e w2 ⟨r1, rfl, hr1, bb⟩
  have d2 := d1.trans (bb.mono d1.size)
  clear bb
  rcases hr1 with rfl | ⟨r1a, r1b, l1⟩
  · go_wp2_with fail
    go_ret
    exact ⟨rfl, d2⟩
  have z1 : ¬ (r1 < 0) := by omega
  have m1 : n1 ≤ 1048576 := by omega
  have y1 : (totC T1 n1 : Int) ≤ 1048576 := by omega
  clear SZ1
  have TO0 := hide (fun w R => w_toLeafS a0 n0 c0 T0 w m0 l0 R)
  have EQ0 := hide (fun a a' c c' w R Q => w_eqLeafS a a' n0 c c' T0 w m0 l0 R Q)
  have TO1 := hide (fun w R => w_toCommandS a1 n1 c1 T1 w m1 l1 R)
  have EQ1 := hide (fun a a' c c' w R Q => w_eqCommandS a a' n1 c c' T1 w m1 (fun i hi => (l1 i hi).1) R Q)
  have hsm := docA_small n0 T0 n1 T1
  have S := hide (fun q0 e0 q1 e1 w R0 R1 => s_doCommands (some ⟨q0, 0, none⟩) n0 e0 T0 (some ⟨q1, 0, none⟩) n1 e1 T1 w m0 l0 m1 l1 R0 R1)
  have I := hide (fun q0 e0 q1 e1 w R0 R1 => i_doCommands (some ⟨q0, 0, none⟩) n0 e0 T0 (some ⟨q1, 0, none⟩) n1 e1 T1 w m0 l0 m1 R0 R1)
  generalize docA n0 T0 n1 T1 = DA0 at *
  obtain ⟨DL, rb⟩ := DA0
  dsimp only at S I hsm
  obtain ⟨hs1, hs2, hs3⟩ := hsm
  have hlen : DL.length ≤ 1048576 := by omega
  have hsum : totF (TF DL) DL.length ≤ 1048576 := by rw [totF_sum]; omega
  have hok := lowF_TF hs3
  have ANS := hide (fun base v Z w (h : LsF base v Z w) (hM : Z.map (·.t) = DL) => h.ans hM)
  have EA := hide (fun a a' c c' w R Q => w_eqLeafS a a' DL.length c c' (TF DL) w hlen hok R Q)
  have MA := hide (fun va vc P w h => (show Calls Try.prog 16 #[.slice va DL.length vc, .int .i64 1] w _ from w_markAnsF va vc DL.length (TF DL) P 1 w (by omega) (by omega) (by omega) (by omega) h))
  have HA := hide (fun a cap w R => (show Calls Try.prog 18 #[.slice a DL.length cap, .int .i64 1] w _ from w_heldLeafS a DL.length cap (TF DL) 1 w (by omega) (by omega) (by omega) (by omega) R))
  have MX0 := hide (fun c X w (hs : SepF c n0 X) R => (show Calls Try.prog 16 #[.slice (some ⟨c, 0, none⟩) n0 n0, .int .i64 1] w _ from w_markLeafS c n0 n0 X (fun i => (T0 i).n) T0 1 w m0 (by omega) (by omega) (by omega) hs R))
  have hkx0 : kmF 1 T0 n0 ≤ 3000000 := by unfold kmF; omega
  have hky0 : 1 ≤ kmF 1 T0 n0 := by unfold kmF; omega
  generalize kmF 1 T0 n0 = kx0 at *
  have MX1 := hide (fun c X w (hs : SepF c n1 X) R => w_markCommandS c n1 n1 X (fun i => (T1 i).t.n) T1 kx0 w (by omega) (by omega) (by omega) (by omega) hs R)
  have hkx1 : kmC kx0 T1 n1 ≤ 6000000 := by unfold kmC; omega
  have hky1 : 1 ≤ kmC kx0 T1 n1 := by unfold kmC; omega
  generalize kmC kx0 T1 n1 = kx1 at *
  generalize kmF 1 (TF DL) DL.length = km at *
  generalize halfF 1 (TF DL) DL.length = HT at *
  generalize TF DL = TD at *
  generalize DL.length = nD at *
  have kb0 : (rb != rb) = false := by simp
  have km0 : ((km : Int) != (km : Int)) = false := by simp
  have km1 : ¬ ((km : Int) < 0) := by omega
  have kl0 : ¬ ((kx1 : Int) < 0) := by omega
  clear l0 hx0 r0a r0b y0 l1 hx1 r1a r1b y1 hs1 hs2 hs3 hsum hok hlen
  go_wp2_with fail
  refine (TO0.out _ (hR0.below d2)).mono ?_
  rintro e w3 ⟨rfl, ⟨Ys0, Os0⟩, Fs0, bb⟩
  have vs0 : w.heap.size ≤ w2.heap.size := d2.size
  have d3 := d2.trans (bb.mono d2.size)
  clear bb
  generalize w2.heap.size = s0 at *
  go_wp2_with fail
  refine (TO1.out _ (hR1.below d3)).mono ?_
  rintro e w4 ⟨rfl, ⟨Ys1, Os1⟩, Fs1, bb⟩
  have vs1 : w.heap.size ≤ w3.heap.size := d3.size
  replace Os0 := Os0.below bb
  have d4 := d3.trans (bb.mono d3.size)
  clear bb
  generalize w3.heap.size = s1 at *
  go_wp2_with fail
  refine (S.out _ _ _ _ _ Os0.row Os1.row).mono ?_
  rintro e w5 ⟨vW, rfl, ZW, hOW, hMW, bb⟩
  obtain ⟨aW, cW, rfl, AW, _⟩ := ANS.out _ _ _ _ hOW hMW
  clear hOW hMW
  clear Os0
  clear Os1
  have d5 := d4.trans (bb.mono d4.size)
  clear bb
  obtain ⟨wA, hwA⟩ : ∃ wA, wA = w5 := ⟨_, rfl⟩
  have DA : Below wA.heap.size wA w5 := by rw [hwA]; exact Below.refl _ _
  have RW : Hid (RowF true aW nD TD wA) := by rw [hwA]; exact AW.1
  have wAs : w.heap.size ≤ wA.heap.size := by rw [hwA]; exact d5.size
  clear hwA AW
  go_wp2_with fail
  refine (TO0.out _ (hR0.below d5)).mono ?_
  rintro e w6 ⟨rfl, ⟨Yx0, Ox0⟩, Fx0, bb⟩
  have vx0 : w.heap.size ≤ w5.heap.size := d5.size
  have ux0 : wA.heap.size ≤ w5.heap.size := DA.size
  replace DA := DA.trans (bb.mono DA.size)
  have d6 := d5.trans (bb.mono d5.size)
  clear bb
  generalize w5.heap.size = x0 at *
  obtain ⟨RX0, SX0, BX0⟩ := Ox0.own Fx0
  have lx0 : x0 < w6.heap.size := Fx0.1
  clear Ox0 Fx0
  go_wp2_with fail
  refine (TO1.out _ (hR1.below d6)).mono ?_
  rintro e w7 ⟨rfl, ⟨Yx1, Ox1⟩, Fx1, bb⟩
  have vx1 : w.heap.size ≤ w6.heap.size := d6.size
  have ux1 : wA.heap.size ≤ w6.heap.size := DA.size
  replace RX0 := RX0.below bb
  replace DA := DA.trans (bb.mono DA.size)
  have d7 := d6.trans (bb.mono d6.size)
  clear bb
  generalize w6.heap.size = x1 at *
  obtain ⟨RX1, SX1, BX1⟩ := Ox1.own Fx1
  have lx1 : x1 < w7.heap.size := Fx1.1
  clear Ox1 Fx1
  go_wp2_with fail
  refine (I.out _ _ _ _ _ RX0.row RX1.row).mono ?_
  rintro e w8 ⟨vG, rfl, ZG, hOG, hMG, bb⟩
  obtain ⟨aG, cG, rfl, AG, PG⟩ := ANS.out _ _ _ _ hOG hMG
  generalize ownP (.slice aG nD cG) ZG = QG at *
  clear hOG hMG
  have uI : wA.heap.size ≤ w7.heap.size := DA.size
  replace RX0 := RX0.below bb
  replace RX1 := RX1.below bb
  replace DA := DA.trans (bb.mono DA.size)
  have d8 := d7.trans (bb.mono d7.size)
  clear bb
  generalize w7.heap.size = bI at *
  go_wp2_with fail
  refine (EA.out _ _ _ _ _ AG.1.any (RW.out.below DA).any).mono ?_
  rintro e w9 ⟨rfl, bb⟩
  replace RX0 := RX0.below bb
  replace RX1 := RX1.below bb
  replace AG := AG.below bb
  replace DA := DA.trans (bb.mono DA.size)
  have d9 := d8.trans (bb.mono d8.size)
  clear bb
  go_wp2_with fail
  refine (TO0.out _ (hR0.below d9)).mono ?_
  rintro e w10 ⟨rfl, ⟨Yy0, Oy0⟩, Fy0, bb⟩
  have vy0 : w.heap.size ≤ w9.heap.size := d9.size
  have uy0 : wA.heap.size ≤ w9.heap.size := DA.size
  replace RX0 := RX0.below bb
  replace RX1 := RX1.below bb
  replace AG := AG.below bb
  replace DA := DA.trans (bb.mono DA.size)
  have d10 := d9.trans (bb.mono d9.size)
  clear bb
  generalize w9.heap.size = y0 at *
  go_wp2_with fail
  refine (EQ0.out _ _ _ _ _ RX0.row.any Oy0.row.any).mono ?_
  rintro e w11 ⟨rfl, bb⟩
  clear Oy0
  replace RX0 := RX0.below bb
  replace RX1 := RX1.below bb
  replace AG := AG.below bb
  replace DA := DA.trans (bb.mono DA.size)
  have d11 := d10.trans (bb.mono d10.size)
  clear bb
  go_wp2_with fail
  refine (TO1.out _ (hR1.below d11)).mono ?_
  rintro e w12 ⟨rfl, ⟨Yy1, Oy1⟩, Fy1, bb⟩
  have vy1 : w.heap.size ≤ w11.heap.size := d11.size
  have uy1 : wA.heap.size ≤ w11.heap.size := DA.size
  replace RX0 := RX0.below bb
  replace RX1 := RX1.below bb
  replace AG := AG.below bb
  replace DA := DA.trans (bb.mono DA.size)
  have d12 := d11.trans (bb.mono d11.size)
  clear bb
  generalize w11.heap.size = y1 at *
  go_wp2_with fail
  refine (EQ1.out _ _ _ _ _ RX1.row Oy1.row).mono ?_
  rintro e w13 ⟨rfl, bb⟩
  clear Oy1
  replace RX0 := RX0.below bb
  replace RX1 := RX1.below bb
  replace AG := AG.below bb
  replace DA := DA.trans (bb.mono DA.size)
  have d13 := d12.trans (bb.mono d12.size)
  clear bb
  go_wp2_with fail
  refine (MX0.out _ _ _ SX0 RX0).mono ?_
  rintro e w14 ⟨rfl, _, yy⟩
  have d14 := d13.trans (yy.below (base := w.heap.size) (fun k _ hk => by have h := BX0 k hk; omega) d13.size)
  replace DA := DA.trans (yy.below (base := wA.heap.size) (fun k _ hk => by have h := BX0 k hk; omega) DA.size)
  replace RX1 := RX1.onlyP yy (fun k hk hk2 => by have h := BX0 _ hk2; have h2 := BX1 _ hk; omega)
  replace AG := AG.onlyP yy (fun k hk hk2 => by have h := BX0 _ hk2; have h2 := PG k hk; omega)
  clear yy
  go_wp2_with fail
  refine (MX1.out _ _ _ SX1 RX1).mono ?_
  rintro e w15 ⟨rfl, _, yy⟩
  have d15 := d14.trans (yy.below (base := w.heap.size) (fun k _ hk => by have h := BX1 k hk; omega) d14.size)
  replace DA := DA.trans (yy.below (base := wA.heap.size) (fun k _ hk => by have h := BX1 k hk; omega) DA.size)
  replace AG := AG.onlyP yy (fun k hk hk2 => by have h := BX1 _ hk2; have h2 := PG k hk; omega)
  clear yy
  go_wp2_with fail
  refine (EA.out _ _ _ _ _ AG.1.any (RW.out.below DA).any).mono ?_
  rintro e w16 ⟨rfl, bb⟩
  replace AG := AG.below bb
  replace DA := DA.trans (bb.mono DA.size)
  have d16 := d15.trans (bb.mono d15.size)
  clear bb
  go_wp2_with fail
  refine (MA.out _ _ _ _ AG).mono ?_
  rintro e w17 ⟨rfl, AH, yy⟩
  have d17 := d16.trans (yy.below (base := w.heap.size) (fun k _ hk => by have h := PG k hk; omega) d16.size)
  replace DA := DA.trans (yy.below (base := wA.heap.size) (fun k _ hk => by have h := PG k hk; omega) DA.size)
  clear yy
  clear AG
  go_wp2_with fail
  refine (HA.out _ _ _ AH.1).mono ?_
  rintro e w18 ⟨rfl, bb⟩
  replace AH := AH.below bb
  replace DA := DA.trans (bb.mono DA.size)
  have d18 := d17.trans (bb.mono d17.size)
  clear bb
  go_wp2_with fail
  refine (TO0.out _ (hR0.below d18)).mono ?_
  rintro e w19 ⟨rfl, ⟨Yt0, Ot0⟩, Ft0, bb⟩
  have vt0 : w.heap.size ≤ w18.heap.size := d18.size
  have ut0 : wA.heap.size ≤ w18.heap.size := DA.size
  replace AH := AH.below bb
  replace DA := DA.trans (bb.mono DA.size)
  have d19 := d18.trans (bb.mono d18.size)
  clear bb
  generalize w18.heap.size = t0 at *
  go_wp2_with fail
  refine (TO1.out _ (hR1.below d19)).mono ?_
  rintro e w20 ⟨rfl, ⟨Yt1, Ot1⟩, Ft1, bb⟩
  have vt1 : w.heap.size ≤ w19.heap.size := d19.size
  have ut1 : wA.heap.size ≤ w19.heap.size := DA.size
  replace AH := AH.below bb
  replace Ot0 := Ot0.below bb
  replace DA := DA.trans (bb.mono DA.size)
  have d20 := d19.trans (bb.mono d19.size)
  clear bb
  generalize w19.heap.size = t1 at *
  go_wp2_with fail
  refine (I.out _ _ _ _ _ Ot0.row Ot1.row).mono ?_
  rintro e w21 ⟨vH, rfl, ZH, hOH, hMH, bb⟩
  obtain ⟨aH, cH, rfl, AK, _⟩ := ANS.out _ _ _ _ hOH hMH
  clear hOH hMH
  clear Ot0
  clear Ot1
  replace AH := AH.below bb
  replace DA := DA.trans (bb.mono DA.size)
  have d21 := d20.trans (bb.mono d20.size)
  clear bb
  go_wp2_with fail
  refine (EA.out _ _ _ _ _ AK.1.any (RW.out.below DA).any).mono ?_
  rintro e w22 ⟨rfl, bb⟩
  replace AH := AH.below bb
  replace DA := DA.trans (bb.mono DA.size)
  have d22 := d21.trans (bb.mono d21.size)
  clear bb
  clear AK
  go_wp2_with fail
  refine (HA.out _ _ _ AH.1).mono ?_
  rintro e w23 ⟨rfl, bb⟩
  replace AH := AH.below bb
  replace DA := DA.trans (bb.mono DA.size)
  have d23 := d22.trans (bb.mono d22.size)
  clear bb
  go_wp2_with fail
  go_ret
  exact ⟨rfl, d23⟩
end Go.Proofs.Ytcfmnfoognopnaa
