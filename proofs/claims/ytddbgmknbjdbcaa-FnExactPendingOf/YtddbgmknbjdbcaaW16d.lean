/- The law on PendingOf: the program answers as the specification. -/
import Derived.Test.YtddbgmknbjdbcaaS16d
import Derived.Test.YtddbgmknbjdbcaaI16d
import Derived.Test.YtddbgmknbjdbcaaSt16b
import Derived.Test.YtddbgmknbjdbcaaSt16c
import Derived.Test.YtddbgmknbjdbcaaSt16e
import Derived.Test.YtddbgmknbjdbcaaSt16f
import Derived.Test.YtddbgmknbjdbcaaAnsC15
import Derived.Test.YtddbgmknbjdbcaaBnd15
import Derived.Deep.RegionHeld3
namespace Go.Proofs.Ytddbgmknbjdbcaa
open Go.RowKit

set_option maxRecDepth 100000 in
set_option maxHeartbeats 3200000 in
theorem w_pendingOf (v0 : Value) (s0 : Sto) (w : World) (hX0 : MaxSt s0) (hR0 : RowSt false v0 s0 w) :
    Calls Try.prog 6 #[v0] w fun e w' => e = .returned (.bool true) ∧ Below w.heap.size w w' := by
  obtain ⟨ca, kc, ra, kr, ha, kh, hv0⟩ := hR0.form
  subst hv0
  have SZ0 := hide (fun w R => w_szStore (.agg #[.slice ca s0.C.n kc, .slice ra s0.R.n kr, .slice ha s0.h kh, .int .i64 s0.l]) s0 1048576 w hX0 (by omega) (by omega) R)
  have TO := hide (fun l0 w R => w_toStore (.agg #[.slice ca s0.C.n kc, .slice ra s0.R.n kr, .slice ha s0.h kh, .int .i64 s0.l]) s0 w l0 R)
  have EQ := hide (fun (l0 : LowSt s0) v v' w R Q => w_eqStore v v' s0 w ⟨l0.1.n, l0.1.2, l0.2.1.n, l0.2.1.2, l0.2.2.1, fun i hi => ⟨(l0.2.2.2.1 i hi).n, (l0.2.2.2.1 i hi).2⟩⟩ R Q)
  have M1 := Mut.new w #[.slice ca s0.C.n kc, .slice ra s0.R.n kr, .slice ha s0.h kh, .int .i64 s0.l] 33
  have d0 : Below w.heap.size w (w.alloc (.cells #[.slice ca s0.C.n kc, .slice ra s0.R.n kr, .slice ha s0.h kh, .int .i64 s0.l] 33)) := below_box (Below.refl _ _)
  clear hX0
  go_enter Try.func6, Try.ntmps6
  go_wp2_with fail
  generalize w.alloc (.cells #[.slice ca s0.C.n kc, .slice ra s0.R.n kr, .slice ha s0.h kh, .int .i64 s0.l] 33) = w1 at *
  have d1 := d0
  clear d0
  refine (SZ0.out _ (hR0.below d1)).mono ?_
  rintro e w2 ⟨r0, rfl, hr0, bb⟩
  replace M1 := M1.below bb
  have d2 := d1.trans (bb.mono d1.size)
  clear bb 
  clear SZ0
  rcases hr0 with rfl | ⟨r0a, r0b, l0⟩
  · go_wp2_with fail
    go_ret
    exact ⟨rfl, d2⟩
  have z0 : ¬ (r0 < 0) := by omega
  clear r0a r0b
  replace TO := hide (TO.out l0)
  replace EQ := hide (EQ.out l0)
  have hsm := penA_small l0
  have S := hide (fun v w R => s_pendingOf v s0 w l0 R)
  have I := hide (fun v w R => i_pendingOf v s0 w l0 R)
  have MX := hide (fun v lo hi w A => (show Calls Try.prog 11 #[v, .int .i64 1] w _ from w_markStore v s0 lo hi 1 w l0 (by omega) (by omega) A))
  have hks := kmSt_le (k0 := 1) l0 (by omega)
  generalize kmSt 1 s0 = ks at *
  generalize penA s0 = DA0 at *
  obtain ⟨DL, rb⟩ := DA0
  dsimp only at S I hsm
  obtain ⟨hs1, hs2, hs3⟩ := hsm
  have hlen : DL.length ≤ 1048576 := by omega
  have hsum : totC (TC DL) DL.length ≤ 1048576 := by rw [totC_sum]; omega
  have hok := lowC_TC hs3
  have ANS := hide (fun base v Z w (h : LsC base v Z w) (hM : Z.map (·.c) = DL) => h.ans hM)
  have EA := hide (fun a a' c c' w R Q => w_eqCommandS a a' DL.length c c' (TC DL) w hlen hok R Q)
  have MA := hide (fun va vc P w h => (show Calls Try.prog 25 #[.slice va DL.length vc, .int .i64 1] w _ from w_markAnsC va vc DL.length (TC DL) P 1 w (by omega) (by omega) (by omega) (by omega) h))
  have HA := hide (fun a cap w R => (show Calls Try.prog 26 #[.slice a DL.length cap, .int .i64 1] w _ from w_heldCommandS a DL.length cap (TC DL) 1 w (by omega) (by omega) (by omega) (by omega) R))
  generalize kmC 1 (TC DL) DL.length = km at *
  generalize halfC 1 (TC DL) DL.length = HT at *
  generalize TC DL = TD at *
  generalize DL.length = nD at *
  have kb0 : (rb != rb) = false := by simp
  have km0 : ((km : Int) != (km : Int)) = false := by simp
  have km1 : ¬ ((km : Int) < 0) := by omega
  have kl0 : ¬ ((ks : Int) < 0) := by omega
  clear l0 hs1 hs2 hs3 hsum hok hlen hks
  have c0 := M1.2.1 0 _ rfl
  have c1 := M1.2.1 1 _ rfl
  have c2 := M1.2.1 2 _ rfl
  have c3 := M1.2.1 3 _ rfl
  go_wp2_with fail
  refine (TO.out _ (hR0.below d2)).mono ?_
  rintro e w3 ⟨vs, rfl, Os, bb⟩
  have los : w.heap.size ≤ w2.heap.size := d2.size
  replace M1 := M1.below bb
  have d3 := d2.trans (bb.mono d2.size)
  clear bb c0 c1 c2 c3
  generalize w2.heap.size = bs0 at *
  obtain ⟨cas, kcs, ras, krs, has, khs, hfs⟩ := Os.form
  subst hfs
  generalize hs : w3.heap.size = ts0 at Os
  have les : ts0 ≤ w3.heap.size := by omega
  clear hs
  go_wp2_with fail
  refine (S.out _ _ Os.row).mono ?_
  rintro e w4 ⟨vW, rfl, ZW, hOW, hMW, bb⟩
  obtain ⟨aW, cW, rfl, AW, _⟩ := ANS.out _ _ _ _ hOW hMW
  clear hOW hMW
  clear Os
  replace M1 := M1.below bb
  have d4 := d3.trans (bb.mono d3.size)
  clear bb 
  obtain ⟨wA, hwA⟩ : ∃ wA, wA = w4 := ⟨_, rfl⟩
  have DA : Below wA.heap.size wA w4 := by rw [hwA]; exact Below.refl _ _
  have RW : Hid (RowC aW nD TD wA) := by rw [hwA]; exact AW.1
  have wAs : w.heap.size ≤ wA.heap.size := by rw [hwA]; exact d4.size
  have aW1 : w.heap.size < wA.heap.size := by rw [hwA]; exact M1.1
  clear hwA AW
  have c0 := M1.2.1 0 _ rfl
  have c1 := M1.2.1 1 _ rfl
  have c2 := M1.2.1 2 _ rfl
  have c3 := M1.2.1 3 _ rfl
  go_wp2_with fail
  refine (TO.out _ (hR0.below d4)).mono ?_
  rintro e w5 ⟨vx, rfl, Ox, bb⟩
  have lox : w.heap.size ≤ w4.heap.size := d4.size
  have ux : wA.heap.size ≤ w4.heap.size := DA.size
  replace M1 := M1.below bb
  replace DA := DA.trans (bb.mono DA.size)
  have d5 := d4.trans (bb.mono d4.size)
  clear bb c0 c1 c2 c3
  skip
  generalize w4.heap.size = bx0 at *
  obtain ⟨cax, kcx, rax, krx, hax, khx, hfx⟩ := Ox.form
  subst hfx
  generalize hx : w5.heap.size = tx0 at Ox
  have lex : tx0 ≤ w5.heap.size := by omega
  clear hx
  go_wp2_with fail
  have bb : Below w5.heap.size w5 (w5.alloc (.cells #[.slice cax s0.C.n kcx, .slice rax s0.R.n krx, .slice hax s0.h khx, .int .i64 s0.l] 25)) := below_box (Below.refl _ _)
  have N := Mut.new w5 #[.slice cax s0.C.n kcx, .slice rax s0.R.n krx, .slice hax s0.h khx, .int .i64 s0.l] 25
  replace M1 := M1.below bb
  replace Ox := Ox.below bb
  replace DA := DA.trans (bb.mono DA.size)
  have d6 := d5.trans (bb.mono d5.size)
  clear bb 
  generalize w5.alloc (.cells #[.slice cax s0.C.n kcx, .slice rax s0.R.n krx, .slice hax s0.h khx, .int .i64 s0.l] 25) = w6 at *
  have hbx : tx0 ≤ w5.heap.size := lex
  clear lex
  have hw1 : w.heap.size ≤ w6.heap.size := d6.size
  generalize w5.heap.size = bx at *
  have hbl : bx < w6.heap.size := N.1
  have x0 := N.2.1 0 _ rfl
  have x1 := N.2.1 1 _ rfl
  have x2 := N.2.1 2 _ rfl
  have x3 := N.2.1 3 _ rfl
  go_wp2_with fail
  refine (I.out _ _ Ox.row).mono ?_
  rintro e w7 ⟨vG, rfl, ZG, hOG, hMG, bb⟩
  obtain ⟨aG, cG, rfl, AG, PG⟩ := ANS.out _ _ _ _ hOG hMG
  generalize ownPC (.slice aG nD cG) ZG = QG at *
  clear hOG hMG
  have uI : wA.heap.size ≤ w6.heap.size := DA.size
  replace M1 := M1.below bb
  replace Ox := Ox.below bb
  replace N := N.below bb
  replace DA := DA.trans (bb.mono DA.size)
  have d7 := d6.trans (bb.mono d6.size)
  clear bb x0 x1 x2 x3
  generalize w6.heap.size = bI at *
  go_wp2_with fail
  refine (EA.out _ _ _ _ _ AG.1 (RW.out.below DA)).mono ?_
  rintro e w8 ⟨rfl, bb⟩
  replace M1 := M1.below bb
  replace Ox := Ox.below bb
  replace N := N.below bb
  replace AG := AG.below bb
  replace DA := DA.trans (bb.mono DA.size)
  have d8 := d7.trans (bb.mono d7.size)
  clear bb 
  go_wp2_with fail
  have KB : Hid (∀ X : World, Below w8.heap.size w8 X → (X.cell? ⟨w.heap.size, 0, none⟩ = some (.slice ca s0.C.n kc) ∧ X.cell? ⟨w.heap.size, 1, none⟩ = some (.slice ra s0.R.n kr) ∧ X.cell? ⟨w.heap.size, 2, none⟩ = some (.slice ha s0.h kh) ∧ X.cell? ⟨w.heap.size, 3, none⟩ = some (.int .i64 s0.l) ∧ X.cell? ⟨bx, 0, none⟩ = some (.slice cax s0.C.n kcx) ∧ X.cell? ⟨bx, 1, none⟩ = some (.slice rax s0.R.n krx) ∧ X.cell? ⟨bx, 2, none⟩ = some (.slice hax s0.h khx) ∧ X.cell? ⟨bx, 3, none⟩ = some (.int .i64 s0.l))) := fun X h => ⟨(M1.below h).2.1 0 _ rfl, (M1.below h).2.1 1 _ rfl, (M1.below h).2.1 2 _ rfl, (M1.below h).2.1 3 _ rfl, (N.below h).2.1 0 _ rfl, (N.below h).2.1 1 _ rfl, (N.below h).2.1 2 _ rfl, (N.below h).2.1 3 _ rfl⟩
  have dZ : Below w8.heap.size w8 w8 := Below.refl _ _
  have hR7 := hide (hR0.below d8)
  have c0 := M1.2.1 0 _ rfl
  have c1 := M1.2.1 1 _ rfl
  have c2 := M1.2.1 2 _ rfl
  have c3 := M1.2.1 3 _ rfl
  have x0 := N.2.1 0 _ rfl
  have x1 := N.2.1 1 _ rfl
  have x2 := N.2.1 2 _ rfl
  have x3 := N.2.1 3 _ rfl
  have OX := hide Ox
  go_region_held3 (fun X => X.cell? ⟨w.heap.size, 0, none⟩ = some (.slice ca s0.C.n kc) ∧ X.cell? ⟨w.heap.size, 1, none⟩ = some (.slice ra s0.R.n kr) ∧ X.cell? ⟨w.heap.size, 2, none⟩ = some (.slice ha s0.h kh) ∧ X.cell? ⟨w.heap.size, 3, none⟩ = some (.int .i64 s0.l) ∧ X.cell? ⟨bx, 0, none⟩ = some (.slice cax s0.C.n kcx) ∧ X.cell? ⟨bx, 1, none⟩ = some (.slice rax s0.R.n krx) ∧ X.cell? ⟨bx, 2, none⟩ = some (.slice hax s0.h khx) ∧ X.cell? ⟨bx, 3, none⟩ = some (.int .i64 s0.l)) (first | exact KB.out _ dE | exact KB.out _ dE.drew | exact KB.out _ dT | exact KB.out _ dT.drew | exact KB.out _ dZ | exact KB.out _ dZ.drew) (first | (go_at_call 15; refine (TO.out _ (hR7.out.below (by first | exact dZ | exact dZ.drew))).mono ?_; rintro e wT ⟨vT, rfl, oT, bT⟩; have dT : Below w8.heap.size w8 wT := (by first | exact below_step dZ bT | exact below_step dZ.drew bT)) | (go_at_call 10; refine (EQ.out _ _ _ (by first | exact (OX.out.below dT).row.any | exact (OX.out.below dT.drew).row.any) (by first | exact oT.row.any | exact (oT.below (Below.refl _ _).drew).row.any)).mono ?_; rintro e wE ⟨rfl, bE⟩; have dE : Below w8.heap.size w8 wE := (by first | exact below_step dT bE | exact below_step dT.drew bE)))
  all_goals
    have bb := dE
    clear OX KB hR7 dT dZ oT
    generalize wE = w9 at *
    replace M1 := M1.below bb
    replace Ox := Ox.below bb
    replace N := N.below bb
    replace AG := AG.below bb
    replace DA := DA.trans (bb.mono DA.size)
    have d9 := d8.trans (bb.mono d8.size)
    clear bb c0 c1 c2 c3 x0 x1 x2 x3
    have x0 := N.2.1 0 _ rfl
    have x1 := N.2.1 1 _ rfl
    have x2 := N.2.1 2 _ rfl
    have x3 := N.2.1 3 _ rfl
    go_wp2_with fail
    refine (MX.out _ _ _ _ Ox).mono ?_
    rintro e w10 ⟨rfl, Oy, yy⟩
    have d10 := d9.trans (yy.below (base := w.heap.size) (fun k _ hk => by omega) d9.size)
    replace DA := DA.trans (yy.below (base := wA.heap.size) (fun k _ hk => by omega) DA.size)
    replace AG := AG.onlyP yy (fun k hk hk2 => by have h2 := PG k hk; omega)
    replace N := N.onlyP yy (fun hk => by omega)
    replace M1 := M1.onlyP yy (fun hk => by omega)
    clear Oy Ox
    clear yy x0 x1 x2 x3
    go_wp2_with fail
    refine (EA.out _ _ _ _ _ AG.1 (RW.out.below DA)).mono ?_
    rintro e w11 ⟨rfl, bb⟩
    replace M1 := M1.below bb
    replace N := N.below bb
    replace AG := AG.below bb
    replace DA := DA.trans (bb.mono DA.size)
    have d11 := d10.trans (bb.mono d10.size)
    clear bb 
    go_wp2_with fail
    refine (MA.out _ _ _ _ AG).mono ?_
    rintro e w12 ⟨rfl, AH, yy⟩
    have d12 := d11.trans (yy.below (base := w.heap.size) (fun k _ hk => by have h := PG k hk; omega) d11.size)
    replace DA := DA.trans (yy.below (base := wA.heap.size) (fun k _ hk => by have h := PG k hk; omega) DA.size)
    replace N := N.onlyP yy (fun hk => by have h := PG _ hk; omega)
    replace M1 := M1.onlyP yy (fun hk => by have h := PG _ hk; omega)
    clear AG
    clear yy 
    go_wp2_with fail
    refine (HA.out _ _ _ AH.1).mono ?_
    rintro e w13 ⟨rfl, bb⟩
    replace M1 := M1.below bb
    replace N := N.below bb
    replace AH := AH.below bb
    replace DA := DA.trans (bb.mono DA.size)
    have d13 := d12.trans (bb.mono d12.size)
    clear bb 
    have c0 := M1.2.1 0 _ rfl
    have c1 := M1.2.1 1 _ rfl
    have c2 := M1.2.1 2 _ rfl
    have c3 := M1.2.1 3 _ rfl
    go_wp2_with fail
    refine (TO.out _ (hR0.below d13)).mono ?_
    rintro e w14 ⟨vz, rfl, Oz, bb⟩
    have loz : w.heap.size ≤ w13.heap.size := d13.size
    have uz : wA.heap.size ≤ w13.heap.size := DA.size
    replace M1 := M1.below bb
    replace N := N.below bb
    replace AH := AH.below bb
    replace DA := DA.trans (bb.mono DA.size)
    have d14 := d13.trans (bb.mono d13.size)
    clear bb c0 c1 c2 c3
    generalize w13.heap.size = bz0 at *
    obtain ⟨caz, kcz, raz, krz, haz, khz, hfz⟩ := Oz.form
    subst hfz
    generalize hz : w14.heap.size = tz0 at Oz
    have lez : tz0 ≤ w14.heap.size := by omega
    clear hz
    go_wp2_with fail
    refine (I.out _ _ Oz.row).mono ?_
    rintro e w15 ⟨vH, rfl, ZH, hOH, hMH, bb⟩
    obtain ⟨aH, cH, rfl, AK, _⟩ := ANS.out _ _ _ _ hOH hMH
    clear hOH hMH
    clear Oz
    replace M1 := M1.below bb
    replace N := N.below bb
    replace AH := AH.below bb
    replace DA := DA.trans (bb.mono DA.size)
    have d15 := d14.trans (bb.mono d14.size)
    clear bb 
    go_wp2_with fail
    refine (EA.out _ _ _ _ _ AK.1 (RW.out.below DA)).mono ?_
    rintro e w16 ⟨rfl, bb⟩
    replace M1 := M1.below bb
    replace N := N.below bb
    replace AH := AH.below bb
    replace DA := DA.trans (bb.mono DA.size)
    have d16 := d15.trans (bb.mono d15.size)
    clear bb 
    clear AK
    go_wp2_with fail
    refine (HA.out _ _ _ AH.1).mono ?_
    rintro e w17 ⟨rfl, bb⟩
    replace M1 := M1.below bb
    replace N := N.below bb
    replace AH := AH.below bb
    replace DA := DA.trans (bb.mono DA.size)
    have d17 := d16.trans (bb.mono d16.size)
    clear bb 
    go_wp2_with fail
    go_ret
    exact ⟨rfl, d17⟩
end Go.Proofs.Ytddbgmknbjdbcaa
