/- The law on SyncDisk: the program answers as the specification, in memory of its own. -/
import Derived.Test.YtddjefmokpfplaaDoorSS17y
import Derived.Test.YtddjefmokpfplaaDoorSY17
import Derived.Deep.RegionHeld3
namespace Go.Proofs.YtddjefmokpfplaaDoor
open Go.RowKit

set_option maxRecDepth 100000 in
set_option maxHeartbeats 6400000 in
theorem w_syncDisk (a0 b0 : Option Addr) (c0 e0 : Nat) (d0 : Dk) (gp : Addr) (w : World) (hn : d0.n ≤ maxLen) (hm : d0.m ≤ maxLen) (hf : ∀ i, i < d0.n → (d0.f i).size ≤ maxLen) (hD : ∀ i, i < d0.m → (d0.D i).size ≤ maxLen) (hR0 : RowD a0 b0 d0 w) (hG : GU gp w) :
    Calls Tryd.prog 4 #[.agg #[.slice a0 d0.n c0, .slice b0 d0.m e0]] w fun e w' => e = .returned (.bool true) ∧ Below w.heap.size w w' := by
  have SZ0 := hide (fun w R => w_szDisk a0 b0 c0 e0 d0 w hn hm hf hD R)
  have TO := hide (fun h1 h2 w R => w_toDisk a0 b0 c0 e0 d0 w h1 h2 R)
  have EQ := hide (fun (h1 : d0.n ≤ 1048576) (h2 : d0.m ≤ 1048576) a b a' b' c e c' e' w R Q => w_eqDisk a b a' b' c e c' e' d0 w h1 h2 R Q)
  have M1 := Mut.new w #[.slice a0 d0.n c0, .slice b0 d0.m e0] 25
  have dd0 : Below w.heap.size w (w.alloc (.cells #[.slice a0 d0.n c0, .slice b0 d0.m e0] 25)) := below_box (Below.refl _ _)
  clear hn hm hf hD
  go_enter Tryd.func4, Tryd.ntmps4
  go_wp2_with fail
  generalize w.alloc (.cells #[.slice a0 d0.n c0, .slice b0 d0.m e0] 25) = w1 at *
  have dd1 := dd0
  clear dd0
  refine (SZ0.out _ (hR0.below dd1)).mono ?_
  rintro e w2 ⟨r0, rfl, hr0, bb⟩
  replace M1 := M1.below bb
  have dd2 := below_step dd1 bb
  clear bb 
  clear SZ0
  rcases hr0 with rfl | ⟨r0a, l0n, l0m, l0f, l0D⟩
  · go_wp2_with fail
    go_ret
    exact ⟨rfl, dd2⟩
  have z0 : ¬ (r0 < 0) := by omega
  have l0 : LowD d0 := ⟨l0n, l0m, l0f, l0D⟩
  clear r0a l0f l0D
  replace TO := hide (TO.out l0n l0m)
  replace EQ := hide (EQ.out l0n l0m)
  have S := hide (fun xa xb w (R : RowD (some ⟨xa, 0, none⟩) (some ⟨xb, 0, none⟩) d0 w) => s_syncDisk (some ⟨xa, 0, none⟩) (some ⟨xb, 0, none⟩) d0.n d0.m d0 w l0 R ⟨_, _, rfl⟩)
  have I := hide (fun xa xb w (R : RowD (some ⟨xa, 0, none⟩) (some ⟨xb, 0, none⟩) d0 w) (hG : GU gp w) => i_syncDisk gp (some ⟨xa, 0, none⟩) (some ⟨xb, 0, none⟩) d0.n d0.m d0 w ⟨l0.1, l0.2.1⟩ R (.inr ⟨_, _, rfl⟩) hG)
  have MKX := hide (fun lo hi a b c e w (h : AnsD lo hi a b d0 w) => (show Calls Tryd.prog 11 #[.agg #[.slice a d0.n c, .slice b d0.m e], .int .i64 1] w _ from w_markDisk lo hi a b c e d0 1 w l0n l0m (by decide) (by decide) h))
  have hsm := syA_small d0 l0
  generalize syA d0 = RR at *
  obtain ⟨r, rb⟩ := RR
  dsimp only [AnsDB] at S I hsm
  have EA := hide (fun a b a' b' c e c' e' w R Q => w_eqDisk a b a' b' c e c' e' r w hsm.1 hsm.2 R Q)
  have MK := hide (fun lo hi a b c e w (h : AnsD lo hi a b r w) => (show Calls Tryd.prog 11 #[.agg #[.slice a r.n c, .slice b r.m e], .int .i64 1] w _ from w_markDisk lo hi a b c e r 1 w hsm.1 hsm.2 (by decide) (by decide) h))
  have HD := hide (fun a b c e w R => (show Calls Tryd.prog 12 #[.agg #[.slice a r.n c, .slice b r.m e], .int .i64 1] w _ from w_heldDisk a b c e r 1 w hsm.1 hsm.2 (by decide) (by decide) R))
  have kx1 : ¬ (((1 + d0.n + 2 * d0.m : Nat) : Int) < 0) := by omega
  have kx3 : ((1 + d0.n + 2 * d0.m : Nat) : Int) ≤ 10000000 ∧ 1 ≤ ((1 + d0.n + 2 * d0.m : Nat) : Int) := by omega
  have kg1 : ¬ (((1 + r.n + 2 * r.m : Nat) : Int) < 0) := by omega
  have kg2 : (((1 + r.n + 2 * r.m : Nat) : Int) != ((1 + r.n + 2 * r.m : Nat) : Int)) = false := by simp
  have kb0 : (rb != rb) = false := by simp
  generalize ((1 + d0.n + 2 * d0.m : Nat) : Int) = nmx at *
  generalize ((1 + r.n + 2 * r.m : Nat) : Int) = nmg at *
  generalize mkD 1 d0 = MX0 at *
  generalize mkD 1 r = MG0 at *
  clear l0 l0n l0m hsm
  have j0 := M1.2.1 0 _ rfl
  have j1 := M1.2.1 1 _ rfl
  go_wp2_with fail
  refine (TO.out _ (hR0.below dd2)).mono ?_
  rintro e w3 ⟨av, bv, rfl, Ov, bb⟩
  have lov : w.heap.size ≤ w2.heap.size := dd2.size
  have ltv : w2.heap.size ≤ w3.heap.size := bb.size
  replace M1 := M1.below bb
  have dd3 := below_step dd2 bb
  clear bb j0 j1
  generalize w2.heap.size = lv at *
  obtain ⟨tv, htv⟩ : ∃ tv, tv = w3.heap.size := ⟨_, rfl⟩
  rw [← htv] at Ov ltv
  have lev : tv ≤ w3.heap.size := by omega
  clear htv
  go_wp2_with fail
  refine (S.out _ _ _ Ov.row).mono ?_
  rintro e w4 ⟨aw, bw, ⟨cw, ew, rfl⟩, AW, bb⟩
  clear Ov
  replace M1 := M1.below bb
  have dd4 := below_step dd3 bb
  clear bb 
  obtain ⟨wA, hwA⟩ : ∃ wA, wA = w4 := ⟨_, rfl⟩
  have DA : Below wA.heap.size wA w4 := by rw [hwA]; exact Below.refl _ _
  have RW : Hid (RowD aw bw r wA) := by rw [hwA]; exact AW.row
  have hwAs : w.heap.size < wA.heap.size := by rw [hwA]; exact M1.1
  clear hwA AW
  have hkA := DA.size
  have bb : Below w4.heap.size w4 (w4.alloc (.cells #[.slice aw r.n cw, .slice bw r.m ew] 29)) := below_box (Below.refl _ _)
  have MW := Mut.new w4 #[.slice aw r.n cw, .slice bw r.m ew] 29
  have hzw : (w4.alloc (.cells #[.slice aw r.n cw, .slice bw r.m ew] 29)).heap.size = w4.heap.size + 1 := by simp
  replace M1 := M1.below bb
  replace DA := below_step DA bb
  have dd5 := below_step dd4 bb
  clear bb 
  have j0 := M1.2.1 0 _ rfl
  have j1 := M1.2.1 1 _ rfl
  go_wp2_with fail
  generalize w4.alloc (.cells #[.slice aw r.n cw, .slice bw r.m ew] 29) = w5 at *
  generalize hkw : w4.heap.size = kw at *
  clear hkw
  have hx0 := DA.size
  refine (TO.out _ (hR0.below dd5)).mono ?_
  rintro e w6 ⟨ax, bx, rfl, Ox, bb⟩
  have lox : w.heap.size ≤ w5.heap.size := dd5.size
  have ltx : w5.heap.size ≤ w6.heap.size := bb.size
  replace M1 := M1.below bb
  replace MW := MW.below bb
  replace DA := below_step DA bb
  have dd6 := below_step dd5 bb
  clear bb j0 j1
  generalize w5.heap.size = lx at *
  obtain ⟨tx, htx⟩ : ∃ tx, tx = w6.heap.size := ⟨_, rfl⟩
  rw [← htx] at Ox ltx
  have lex : tx ≤ w6.heap.size := by omega
  clear htx
  have hx1 : kw < lx := by omega
  have bb : Below w6.heap.size w6 (w6.alloc (.cells #[.slice (some ⟨ax, 0, none⟩) d0.n d0.n, .slice (some ⟨bx, 0, none⟩) d0.m d0.m] 29)) := below_box (Below.refl _ _)
  have N := Mut.new w6 #[.slice (some ⟨ax, 0, none⟩) d0.n d0.n, .slice (some ⟨bx, 0, none⟩) d0.m d0.m] 29
  have hzx : (w6.alloc (.cells #[.slice (some ⟨ax, 0, none⟩) d0.n d0.n, .slice (some ⟨bx, 0, none⟩) d0.m d0.m] 29)).heap.size = w6.heap.size + 1 := by simp
  replace M1 := M1.below bb
  replace MW := MW.below bb
  replace Ox := Ox.below bb
  replace DA := below_step DA bb
  have dd7 := below_step dd6 bb
  clear bb 
  have hx2 : tx ≤ w6.heap.size := lex
  clear lex
  have x0 := N.2.1 0 _ rfl
  have x1 := N.2.1 1 _ rfl
  go_wp2_with fail
  generalize w6.alloc (.cells #[.slice (some ⟨ax, 0, none⟩) d0.n d0.n, .slice (some ⟨bx, 0, none⟩) d0.m d0.m] 29) = w7 at *
  generalize hkx : w6.heap.size = kx at *
  clear hkx
  have hg0 := DA.size
  refine (I.out _ _ _ Ox.row (hG.below dd7)).mono ?_
  rintro e w8 ⟨ag, bg, ⟨cg, eg, rfl⟩, AG, bb⟩
  have hg1 := bb.size
  have hgN := N.1
  obtain ⟨lg, hlg⟩ : ∃ lg, lg = w7.heap.size := ⟨_, rfl⟩
  obtain ⟨tg, htg⟩ : ∃ tg, tg = w8.heap.size := ⟨_, rfl⟩
  rw [← hlg, ← htg] at AG
  replace M1 := M1.below bb
  replace MW := MW.below bb
  replace Ox := Ox.below bb
  replace N := N.below bb
  replace DA := below_step DA bb
  have dd8 := below_step dd7 bb
  clear bb x0 x1
  have bb : Below w8.heap.size w8 (w8.alloc (.cells #[.slice ag r.n cg, .slice bg r.m eg] 29)) := below_box (Below.refl _ _)
  have MG := Mut.new w8 #[.slice ag r.n cg, .slice bg r.m eg] 29
  have hzg : (w8.alloc (.cells #[.slice ag r.n cg, .slice bg r.m eg] 29)).heap.size = w8.heap.size + 1 := by simp
  replace M1 := M1.below bb
  replace MW := MW.below bb
  replace Ox := Ox.below bb
  replace N := N.below bb
  replace AG := AG.below bb
  replace DA := below_step DA bb
  have dd9 := below_step dd8 bb
  clear bb 
  have u0 := MW.2.1 0 _ rfl
  have u1 := MW.2.1 1 _ rfl
  have y0 := MG.2.1 0 _ rfl
  have y1 := MG.2.1 1 _ rfl
  go_wp2_with fail
  generalize w8.alloc (.cells #[.slice ag r.n cg, .slice bg r.m eg] 29) = w9 at *
  generalize hkg : w8.heap.size = kg at *
  clear hkg
  refine (EA.out _ _ _ _ _ _ _ _ _ AG.row (RW.out.below DA)).mono ?_
  rintro e w10 ⟨rfl, bb⟩
  replace M1 := M1.below bb
  replace MW := MW.below bb
  replace Ox := Ox.below bb
  replace N := N.below bb
  replace AG := AG.below bb
  replace MG := MG.below bb
  replace DA := below_step DA bb
  have dd10 := below_step dd9 bb
  clear bb u0 u1 y0 y1
  go_wp2_with fail
  have KB : Hid (∀ X : World, Below w10.heap.size w10 X → (X.cell? ⟨w.heap.size, 0, none⟩ = some (.slice a0 d0.n c0) ∧ X.cell? ⟨w.heap.size, 1, none⟩ = some (.slice b0 d0.m e0) ∧ X.cell? ⟨kx, 0, none⟩ = some (.slice (some ⟨ax, 0, none⟩) d0.n d0.n) ∧ X.cell? ⟨kx, 1, none⟩ = some (.slice (some ⟨bx, 0, none⟩) d0.m d0.m))) := fun X h => ⟨(M1.below h).2.1 0 _ rfl, (M1.below h).2.1 1 _ rfl, (N.below h).2.1 0 _ rfl, (N.below h).2.1 1 _ rfl⟩
  have dZ : Below w10.heap.size w10 w10 := Below.refl _ _
  have hR7 := hide (hR0.below dd10)
  have j0 := M1.2.1 0 _ rfl
  have j1 := M1.2.1 1 _ rfl
  have x0 := N.2.1 0 _ rfl
  have x1 := N.2.1 1 _ rfl
  have OX := hide Ox
  go_region_held3 (fun X => X.cell? ⟨w.heap.size, 0, none⟩ = some (.slice a0 d0.n c0) ∧ X.cell? ⟨w.heap.size, 1, none⟩ = some (.slice b0 d0.m e0) ∧ X.cell? ⟨kx, 0, none⟩ = some (.slice (some ⟨ax, 0, none⟩) d0.n d0.n) ∧ X.cell? ⟨kx, 1, none⟩ = some (.slice (some ⟨bx, 0, none⟩) d0.m d0.m)) (first | exact KB.out _ dE | exact KB.out _ dE.drew | exact KB.out _ dT | exact KB.out _ dT.drew | exact KB.out _ dZ | exact KB.out _ dZ.drew) (first | (go_at_call 8; refine (TO.out _ (hR7.out.below (by first | exact dZ | exact dZ.drew))).mono ?_; rintro e wT ⟨aT, bT, rfl, oT, zT⟩; have dT : Below w10.heap.size w10 wT := (by first | exact below_step dZ zT | exact below_step dZ.drew zT)) | (go_at_call 10; refine (EQ.out _ _ _ _ _ _ _ _ _ (by first | exact (OX.out.below dT).row | exact (OX.out.below dT.drew).row) (by first | exact oT.row | exact (oT.below (Below.refl _ _).drew).row)).mono ?_; rintro e wE ⟨rfl, bE⟩; have dE : Below w10.heap.size w10 wE := (by first | exact below_step dT bE | exact below_step dT.drew bE)))
  all_goals
    have bb := dE
    clear OX KB hR7 dT dZ oT
    generalize wE = w11 at *
    replace M1 := M1.below bb
    replace MW := MW.below bb
    replace Ox := Ox.below bb
    replace N := N.below bb
    replace AG := AG.below bb
    replace MG := MG.below bb
    replace DA := below_step DA bb
    have dd11 := below_step dd10 bb
    clear bb j0 j1 x0 x1
    have x0 := N.2.1 0 _ rfl
    have x1 := N.2.1 1 _ rfl
    go_wp2_with fail
    refine (MKX.out _ _ _ _ _ _ _ Ox).mono ?_
    rintro e w12 ⟨rfl, _, yy⟩
    have hdd := dd11.size
    have dd12 := dd11.trans (yy.below (base := w.heap.size) (fun z _ hz => by omega) dd11.size)
    replace DA := DA.trans (yy.below (base := wA.heap.size) (fun z _ hz => by omega) DA.size)
    replace M1 := M1.onlyP yy (by omega)
    replace MW := MW.onlyP yy (by omega)
    replace N := N.onlyP yy (by omega)
    replace MG := MG.onlyP yy (by omega)
    replace AG := AG.onlyP yy (fun z h1 h2 h3 => by omega)
    clear yy hdd x0 x1
    clear Ox
    have u0 := MW.2.1 0 _ rfl
    have u1 := MW.2.1 1 _ rfl
    have y0 := MG.2.1 0 _ rfl
    have y1 := MG.2.1 1 _ rfl
    go_wp2_with fail
    refine (EA.out _ _ _ _ _ _ _ _ _ AG.row (RW.out.below DA)).mono ?_
    rintro e w13 ⟨rfl, bb⟩
    replace M1 := M1.below bb
    replace MW := MW.below bb
    replace N := N.below bb
    replace AG := AG.below bb
    replace MG := MG.below bb
    replace DA := below_step DA bb
    have dd13 := below_step dd12 bb
    clear bb u0 u1 y0 y1
    have y0 := MG.2.1 0 _ rfl
    have y1 := MG.2.1 1 _ rfl
    go_wp2_with fail
    refine (MK.out _ _ _ _ _ _ _ AG).mono ?_
    rintro e w14 ⟨rfl, AH, yy⟩
    have hdd := dd13.size
    have dd14 := dd13.trans (yy.below (base := w.heap.size) (fun z _ hz => by omega) dd13.size)
    replace DA := DA.trans (yy.below (base := wA.heap.size) (fun z _ hz => by omega) DA.size)
    replace M1 := M1.onlyP yy (by omega)
    replace MW := MW.onlyP yy (by omega)
    replace N := N.onlyP yy (by omega)
    replace MG := MG.onlyP yy (by omega)
    clear yy hdd y0 y1
    clear AG
    have y0 := MG.2.1 0 _ rfl
    have y1 := MG.2.1 1 _ rfl
    go_wp2_with fail
    refine (HD.out _ _ _ _ _ AH.row).mono ?_
    rintro e w15 ⟨rfl, bb⟩
    replace M1 := M1.below bb
    replace MW := MW.below bb
    replace N := N.below bb
    replace MG := MG.below bb
    replace AH := AH.below bb
    replace DA := below_step DA bb
    have dd15 := below_step dd14 bb
    clear bb y0 y1
    have j0 := M1.2.1 0 _ rfl
    have j1 := M1.2.1 1 _ rfl
    go_wp2_with fail
    refine (TO.out _ (hR0.below dd15)).mono ?_
    rintro e w16 ⟨az, bz, rfl, Oz, bb⟩
    have loz : w.heap.size ≤ w15.heap.size := dd15.size
    have ltz : w15.heap.size ≤ w16.heap.size := bb.size
    replace M1 := M1.below bb
    replace MW := MW.below bb
    replace N := N.below bb
    replace MG := MG.below bb
    replace AH := AH.below bb
    replace DA := below_step DA bb
    have dd16 := below_step dd15 bb
    clear bb j0 j1
    generalize w15.heap.size = lz at *
    obtain ⟨tz, htz⟩ : ∃ tz, tz = w16.heap.size := ⟨_, rfl⟩
    rw [← htz] at Oz ltz
    have lez : tz ≤ w16.heap.size := by omega
    clear htz
    go_wp2_with fail
    refine (I.out _ _ _ Oz.row (hG.below dd16)).mono ?_
    rintro e w17 ⟨ah, bh, ⟨ch, eh, rfl⟩, AK, bb⟩
    clear Oz
    replace M1 := M1.below bb
    replace MW := MW.below bb
    replace N := N.below bb
    replace MG := MG.below bb
    replace AH := AH.below bb
    replace DA := below_step DA bb
    have dd17 := below_step dd16 bb
    clear bb 
    have bb : Below w17.heap.size w17 (w17.alloc (.cells #[.slice ah r.n ch, .slice bh r.m eh] 29)) := below_box (Below.refl _ _)
    have MH := Mut.new w17 #[.slice ah r.n ch, .slice bh r.m eh] 29
    have hzh : (w17.alloc (.cells #[.slice ah r.n ch, .slice bh r.m eh] 29)).heap.size = w17.heap.size + 1 := by simp
    replace M1 := M1.below bb
    replace MW := MW.below bb
    replace N := N.below bb
    replace MG := MG.below bb
    replace AH := AH.below bb
    replace AK := AK.below bb
    replace DA := below_step DA bb
    have dd18 := below_step dd17 bb
    clear bb 
    have u0 := MW.2.1 0 _ rfl
    have u1 := MW.2.1 1 _ rfl
    have y0 := MH.2.1 0 _ rfl
    have y1 := MH.2.1 1 _ rfl
    go_wp2_with fail
    generalize w17.alloc (.cells #[.slice ah r.n ch, .slice bh r.m eh] 29) = w18 at *
    generalize hkh : w17.heap.size = kh at *
    clear hkh
    refine (EA.out _ _ _ _ _ _ _ _ _ AK.row (RW.out.below DA)).mono ?_
    rintro e w19 ⟨rfl, bb⟩
    replace M1 := M1.below bb
    replace MW := MW.below bb
    replace N := N.below bb
    replace MG := MG.below bb
    replace AH := AH.below bb
    replace AK := AK.below bb
    replace MH := MH.below bb
    replace DA := below_step DA bb
    have dd19 := below_step dd18 bb
    clear bb u0 u1 y0 y1
    have y0 := MG.2.1 0 _ rfl
    have y1 := MG.2.1 1 _ rfl
    go_wp2_with fail
    refine (HD.out _ _ _ _ _ AH.row).mono ?_
    rintro e w20 ⟨rfl, bb⟩
    replace M1 := M1.below bb
    replace MW := MW.below bb
    replace N := N.below bb
    replace MG := MG.below bb
    replace AH := AH.below bb
    replace AK := AK.below bb
    replace MH := MH.below bb
    replace DA := below_step DA bb
    have dd20 := below_step dd19 bb
    clear bb y0 y1
    go_wp2_with fail
    go_ret
    exact ⟨rfl, dd20⟩
end Go.Proofs.YtddjefmokpfplaaDoor
