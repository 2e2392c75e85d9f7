/- The law on CrashDisk: the program answers as the specification, in memory of its own. -/
import Derived.Test.YtddjefmokpfplaaDoorSC17
import Derived.Test.YtddjefmokpfplaaDoorCD17
import Derived.Deep.RegionHeld3
namespace Go.Proofs.YtddjefmokpfplaaDoor
open Go.RowKit

theorem OutBl.onlyP17 {P : Nat → Prop} {c n k : Nat} {f : Nat → Bool} {w w' : World} (h : OutBl c n k f w) (b : OnlyP P w w') (hn : ¬ P c) : OutBl c n k f w' := by
  refine ⟨Nat.lt_of_lt_of_le h.1 b.2.2.2.1, fun i hi => ?_⟩
  obtain ⟨⟨x, h0, hk⟩, g0⟩ := h.2 i hi
  exact ⟨⟨x, (b.cell h.1 hn).trans h0, hk⟩, (b.frozen h.1 hn).trans g0⟩

set_option maxRecDepth 100000 in
set_option maxHeartbeats 6400000 in
theorem w_crashDisk (a0 b0 : Option Addr) (c0 e0 : Nat) (d0 : Dk) (kk : Option Addr) (kn kc : Nat) (kf : Nat → Bool) (gp : Addr) (w : World) (hn : d0.n ≤ maxLen) (hm : d0.m ≤ maxLen) (hf : ∀ i, i < d0.n → (d0.f i).size ≤ maxLen) (hD : ∀ i, i < d0.m → (d0.D i).size ≤ maxLen) (hR0 : RowD a0 b0 d0 w) (hkn : kn ≤ maxLen) (RK0 : RowBl kk kn kf w) (hG : GU gp w) :
    Calls Tryd.prog 5 #[.agg #[.slice a0 d0.n c0, .slice b0 d0.m e0], .slice kk kn kc] w fun e w' => e = .returned (.bool true) ∧ Below w.heap.size w w' := by
  have SZ0 := hide (fun w R => w_szDisk a0 b0 c0 e0 d0 w hn hm hf hD R)
  have TO := hide (fun h1 h2 w R => w_toDisk a0 b0 c0 e0 d0 w h1 h2 R)
  have EQ := hide (fun (h1 : d0.n ≤ 1048576) (h2 : d0.m ≤ 1048576) a b a' b' c e c' e' w R Q => w_eqDisk a b a' b' c e c' e' d0 w h1 h2 R Q)
  have M1 := Mut.new w #[.slice a0 d0.n c0, .slice b0 d0.m e0] 25
  have dd0 : Below w.heap.size w (w.alloc (.cells #[.slice a0 d0.n c0, .slice b0 d0.m e0] 25)) := below_box (Below.refl _ _)
  clear hn hm hf hD
  unfold maxLen at hkn
  by_cases hs1 : kn ≤ 1048576
  case neg =>
    have hs2 : (kn : Int) > 1048576 := by omega
    go_enter Tryd.func5, Tryd.ntmps5
    go_wp2_with fail
    go_ret
    exact ⟨rfl, dd0⟩
  have hs2 : ¬ ((kn : Int) > 1048576) := by omega
  have TB := hide (fun w R => w_toBoolS kk kn kc kf w hs1 R)
  have EB := hide (fun a a' c c' w R Q => w_eqBoolS a a' kn c c' kf w (by omega) R Q)
  go_enter Tryd.func5, Tryd.ntmps5
  go_wp2_with fail
  generalize w.alloc (.cells #[.slice a0 d0.n c0, .slice b0 d0.m e0] 25) = w1 at *
  have dd1 := dd0
  clear dd0
  refine (SZ0.out _ (hR0.below dd1)).mono ?_
  rintro e w2 ⟨r0, rfl, hr0, bb⟩
  replace M1 := M1.below bb
  have dd2 := below_step dd1 bb
  clear bb 
  clear SZ0
  rcases hr0 with rfl | ⟨r0a, l0n, l0m, l0f, l0D⟩
  · go_wp2_with fail
    go_ret
    exact ⟨rfl, dd2⟩
  have z0 : ¬ (r0 < 0) := by omega
  have l0 : LowD d0 := ⟨l0n, l0m, l0f, l0D⟩
  clear r0a l0f l0D
  replace TO := hide (TO.out l0n l0m)
  replace EQ := hide (EQ.out l0n l0m)
  have S := hide (fun xa xb xk w (R : RowD (some ⟨xa, 0, none⟩) (some ⟨xb, 0, none⟩) d0 w) (OB : OutBl xk kn kn kf w) => s_crashDisk (some ⟨xa, 0, none⟩) (some ⟨xb, 0, none⟩) d0.n d0.m d0 (some ⟨xk, 0, none⟩) kn kn kf w l0 hs1 R ⟨_, _, rfl⟩ OB.row (fun x off h => by have h := Option.some.inj h; have h : xk = x := congrArg Addr.block h; have := OB.1; omega))
  have I := hide (fun xa xb xk w (R : RowD (some ⟨xa, 0, none⟩) (some ⟨xb, 0, none⟩) d0 w) (OB : OutBl xk kn kn kf w) (hG : GU gp w) => i_crashDisk gp (some ⟨xa, 0, none⟩) (some ⟨xb, 0, none⟩) d0.n d0.m d0 (some ⟨xk, 0, none⟩) kn kn kf w ⟨l0.1, l0.2.1⟩ R (.inr ⟨_, _, rfl⟩) OB.row hG)
  have MKX := hide (fun lo hi a b c e w (h : AnsD lo hi a b d0 w) => (show Calls Tryd.prog 11 #[.agg #[.slice a d0.n c, .slice b d0.m e], .int .i64 1] w _ from w_markDisk lo hi a b c e d0 1 w l0n l0m (by decide) (by decide) h))
  have hsm := cdA_small d0 kn kf l0
  generalize cdA d0 kn kf = RR at *
  obtain ⟨r, rb⟩ := RR
  dsimp only [AnsDB] at S I hsm
  have EA := hide (fun a b a' b' c e c' e' w R Q => w_eqDisk a b a' b' c e c' e' r w hsm.1 hsm.2 R Q)
  have MK := hide (fun lo hi a b c e w (h : AnsD lo hi a b r w) => (show Calls Tryd.prog 11 #[.agg #[.slice a r.n c, .slice b r.m e], .int .i64 1] w _ from w_markDisk lo hi a b c e r 1 w hsm.1 hsm.2 (by decide) (by decide) h))
  have HD := hide (fun a b c e w R => (show Calls Tryd.prog 12 #[.agg #[.slice a r.n c, .slice b r.m e], .int .i64 1] w _ from w_heldDisk a b c e r 1 w hsm.1 hsm.2 (by decide) (by decide) R))
  have kx1 : ¬ (((1 + d0.n + 2 * d0.m : Nat) : Int) < 0) := by omega
  have kx3 : ((1 + d0.n + 2 * d0.m : Nat) : Int) ≤ 10000000 ∧ 1 ≤ ((1 + d0.n + 2 * d0.m : Nat) : Int) := by omega
  have kg1 : ¬ (((1 + r.n + 2 * r.m : Nat) : Int) < 0) := by omega
  have kg2 : (((1 + r.n + 2 * r.m : Nat) : Int) != ((1 + r.n + 2 * r.m : Nat) : Int)) = false := by simp
  have kb0 : (rb != rb) = false := by simp
  generalize ((1 + d0.n + 2 * d0.m : Nat) : Int) = nmx at *
  generalize ((1 + r.n + 2 * r.m : Nat) : Int) = nmg at *
  have MBX := hide (fun c w O => w_markBoolS c kn kn kf nmx w (by omega) (by omega) (by omega) O)
  have kx2 : ¬ (nmx + (kn : Int) < 0) := by omega
  generalize mkD 1 d0 = MX0 at *
  generalize mkD 1 r = MG0 at *
  clear l0 l0n l0m hsm
  have j0 := M1.2.1 0 _ rfl
  have j1 := M1.2.1 1 _ rfl
  go_wp2_with fail
  refine (TO.out _ (hR0.below dd2)).mono ?_
  rintro e w3 ⟨av, bv, rfl, Ov, bb⟩
  have lov : w.heap.size ≤ w2.heap.size := dd2.size
  have ltv : w2.heap.size ≤ w3.heap.size := bb.size
  replace M1 := M1.below bb
  have dd3 := below_step dd2 bb
  clear bb j0 j1
  generalize w2.heap.size = lv at *
  obtain ⟨tv, htv⟩ : ∃ tv, tv = w3.heap.size := ⟨_, rfl⟩
  rw [← htv] at Ov ltv
  have lev : tv ≤ w3.heap.size := by omega
  clear htv
  go_wp2_with fail
  refine (TB.out _ (RK0.below dd3)).mono ?_
  rintro e w4 ⟨rfl, bb, OBv⟩
  have hbv := bb.size
  have hdv := dd3.size
  replace M1 := M1.below bb
  replace Ov := Ov.below bb
  have dd4 := below_step dd3 bb
  clear bb 
  generalize w3.heap.size = kbv at *
  go_wp2_with fail
  refine (S.out _ _ _ _ Ov.row OBv).mono ?_
  rintro e w5 ⟨aw, bw, ⟨cw, ew, rfl⟩, AW, bb⟩
  clear Ov
  clear OBv
  replace M1 := M1.below bb
  have dd5 := below_step dd4 bb
  clear bb 
  obtain ⟨wA, hwA⟩ : ∃ wA, wA = w5 := ⟨_, rfl⟩
  have DA : Below wA.heap.size wA w5 := by rw [hwA]; exact Below.refl _ _
  have RW : Hid (RowD aw bw r wA) := by rw [hwA]; exact AW.row
  have hwAs : w.heap.size < wA.heap.size := by rw [hwA]; exact M1.1
  clear hwA AW
  have hkA := DA.size
  have bb : Below w5.heap.size w5 (w5.alloc (.cells #[.slice aw r.n cw, .slice bw r.m ew] 29)) := below_box (Below.refl _ _)
  have MW := Mut.new w5 #[.slice aw r.n cw, .slice bw r.m ew] 29
  have hzw : (w5.alloc (.cells #[.slice aw r.n cw, .slice bw r.m ew] 29)).heap.size = w5.heap.size + 1 := by simp
  replace M1 := M1.below bb
  replace DA := below_step DA bb
  have dd6 := below_step dd5 bb
  clear bb 
  have j0 := M1.2.1 0 _ rfl
  have j1 := M1.2.1 1 _ rfl
  go_wp2_with fail
  generalize w5.alloc (.cells #[.slice aw r.n cw, .slice bw r.m ew] 29) = w6 at *
  generalize hkw : w5.heap.size = kw at *
  clear hkw
  have hx0 := DA.size
  refine (TO.out _ (hR0.below dd6)).mono ?_
  rintro e w7 ⟨ax, bx, rfl, Ox, bb⟩
  have lox : w.heap.size ≤ w6.heap.size := dd6.size
  have ltx : w6.heap.size ≤ w7.heap.size := bb.size
  replace M1 := M1.below bb
  replace MW := MW.below bb
  replace DA := below_step DA bb
  have dd7 := below_step dd6 bb
  clear bb j0 j1
  generalize w6.heap.size = lx at *
  obtain ⟨tx, htx⟩ : ∃ tx, tx = w7.heap.size := ⟨_, rfl⟩
  rw [← htx] at Ox ltx
  have lex : tx ≤ w7.heap.size := by omega
  clear htx
  have hx1 : kw < lx := by omega
  have bb : Below w7.heap.size w7 (w7.alloc (.cells #[.slice (some ⟨ax, 0, none⟩) d0.n d0.n, .slice (some ⟨bx, 0, none⟩) d0.m d0.m] 29)) := below_box (Below.refl _ _)
  have N := Mut.new w7 #[.slice (some ⟨ax, 0, none⟩) d0.n d0.n, .slice (some ⟨bx, 0, none⟩) d0.m d0.m] 29
  have hzx : (w7.alloc (.cells #[.slice (some ⟨ax, 0, none⟩) d0.n d0.n, .slice (some ⟨bx, 0, none⟩) d0.m d0.m] 29)).heap.size = w7.heap.size + 1 := by simp
  replace M1 := M1.below bb
  replace MW := MW.below bb
  replace Ox := Ox.below bb
  replace DA := below_step DA bb
  have dd8 := below_step dd7 bb
  clear bb 
  have hx2 : tx ≤ w7.heap.size := lex
  clear lex
  go_wp2_with fail
  generalize w7.alloc (.cells #[.slice (some ⟨ax, 0, none⟩) d0.n d0.n, .slice (some ⟨bx, 0, none⟩) d0.m d0.m] 29) = w8 at *
  generalize hkx : w7.heap.size = kx at *
  clear hkx
  have hxk := N.1
  refine (TB.out _ (RK0.below dd8)).mono ?_
  rintro e w9 ⟨rfl, bb, OBx⟩
  have hbx := bb.size
  have hdx := dd8.size
  replace M1 := M1.below bb
  replace MW := MW.below bb
  replace Ox := Ox.below bb
  replace N := N.below bb
  replace DA := below_step DA bb
  have dd9 := below_step dd8 bb
  clear bb 
  generalize w8.heap.size = kbx at *
  have hkb1 : kx < kbx := by omega
  clear hzx
  have x0 := N.2.1 0 _ rfl
  have x1 := N.2.1 1 _ rfl
  go_wp2_with fail
  have hg0 := DA.size
  refine (I.out _ _ _ _ Ox.row OBx (hG.below dd9)).mono ?_
  rintro e w10 ⟨ag, bg, ⟨cg, eg, rfl⟩, AG, bb⟩
  have hgB := OBx.1
  have hg1 := bb.size
  have hgN := N.1
  obtain ⟨lg, hlg⟩ : ∃ lg, lg = w9.heap.size := ⟨_, rfl⟩
  obtain ⟨tg, htg⟩ : ∃ tg, tg = w10.heap.size := ⟨_, rfl⟩
  rw [← hlg, ← htg] at AG
  replace M1 := M1.below bb
  replace MW := MW.below bb
  replace Ox := Ox.below bb
  replace N := N.below bb
  replace OBx := OBx.below bb
  replace DA := below_step DA bb
  have dd10 := below_step dd9 bb
  clear bb x0 x1
  have bb : Below w10.heap.size w10 (w10.alloc (.cells #[.slice ag r.n cg, .slice bg r.m eg] 29)) := below_box (Below.refl _ _)
  have MG := Mut.new w10 #[.slice ag r.n cg, .slice bg r.m eg] 29
  have hzg : (w10.alloc (.cells #[.slice ag r.n cg, .slice bg r.m eg] 29)).heap.size = w10.heap.size + 1 := by simp
  replace M1 := M1.below bb
  replace MW := MW.below bb
  replace Ox := Ox.below bb
  replace N := N.below bb
  replace OBx := OBx.below bb
  replace AG := AG.below bb
  replace DA := below_step DA bb
  have dd11 := below_step dd10 bb
  clear bb 
  have u0 := MW.2.1 0 _ rfl
  have u1 := MW.2.1 1 _ rfl
  have y0 := MG.2.1 0 _ rfl
  have y1 := MG.2.1 1 _ rfl
  go_wp2_with fail
  generalize w10.alloc (.cells #[.slice ag r.n cg, .slice bg r.m eg] 29) = w11 at *
  generalize hkg : w10.heap.size = kg at *
  clear hkg
  refine (EA.out _ _ _ _ _ _ _ _ _ AG.row (RW.out.below DA)).mono ?_
  rintro e w12 ⟨rfl, bb⟩
  replace M1 := M1.below bb
  replace MW := MW.below bb
  replace Ox := Ox.below bb
  replace N := N.below bb
  replace OBx := OBx.below bb
  replace AG := AG.below bb
  replace MG := MG.below bb
  replace DA := below_step DA bb
  have dd12 := below_step dd11 bb
  clear bb u0 u1 y0 y1
  go_wp2_with fail
  have KB : Hid (∀ X : World, Below w12.heap.size w12 X → (X.cell? ⟨w.heap.size, 0, none⟩ = some (.slice a0 d0.n c0) ∧ X.cell? ⟨w.heap.size, 1, none⟩ = some (.slice b0 d0.m e0) ∧ X.cell? ⟨kx, 0, none⟩ = some (.slice (some ⟨ax, 0, none⟩) d0.n d0.n) ∧ X.cell? ⟨kx, 1, none⟩ = some (.slice (some ⟨bx, 0, none⟩) d0.m d0.m))) := fun X h => ⟨(M1.below h).2.1 0 _ rfl, (M1.below h).2.1 1 _ rfl, (N.below h).2.1 0 _ rfl, (N.below h).2.1 1 _ rfl⟩
  have dZ : Below w12.heap.size w12 w12 := Below.refl _ _
  have hR7 := hide (hR0.below dd12)
  have j0 := M1.2.1 0 _ rfl
  have j1 := M1.2.1 1 _ rfl
  have x0 := N.2.1 0 _ rfl
  have x1 := N.2.1 1 _ rfl
  have OX := hide Ox
  go_region_held3 (fun X => X.cell? ⟨w.heap.size, 0, none⟩ = some (.slice a0 d0.n c0) ∧ X.cell? ⟨w.heap.size, 1, none⟩ = some (.slice b0 d0.m e0) ∧ X.cell? ⟨kx, 0, none⟩ = some (.slice (some ⟨ax, 0, none⟩) d0.n d0.n) ∧ X.cell? ⟨kx, 1, none⟩ = some (.slice (some ⟨bx, 0, none⟩) d0.m d0.m)) (first | exact KB.out _ dE | exact KB.out _ dE.drew | exact KB.out _ dT | exact KB.out _ dT.drew | exact KB.out _ dZ | exact KB.out _ dZ.drew) (first | (go_at_call 8; refine (TO.out _ (hR7.out.below (by first | exact dZ | exact dZ.drew))).mono ?_; rintro e wT ⟨aT, bT, rfl, oT, zT⟩; have dT : Below w12.heap.size w12 wT := (by first | exact below_step dZ zT | exact below_step dZ.drew zT)) | (go_at_call 10; refine (EQ.out _ _ _ _ _ _ _ _ _ (by first | exact (OX.out.below dT).row | exact (OX.out.below dT.drew).row) (by first | exact oT.row | exact (oT.below (Below.refl _ _).drew).row)).mono ?_; rintro e wE ⟨rfl, bE⟩; have dE : Below w12.heap.size w12 wE := (by first | exact below_step dT bE | exact below_step dT.drew bE)))
  all_goals
    have bb := dE
    clear OX KB hR7 dT dZ oT
    generalize wE = w13 at *
    replace M1 := M1.below bb
    replace MW := MW.below bb
    replace Ox := Ox.below bb
    replace N := N.below bb
    replace OBx := OBx.below bb
    replace AG := AG.below bb
    replace MG := MG.below bb
    replace DA := below_step DA bb
    have dd13 := below_step dd12 bb
    clear bb j0 j1 x0 x1
    go_wp2_with fail
    refine (TB.out _ (RK0.below dd13)).mono ?_
    rintro e w14 ⟨rfl, bb, OBy⟩
    have hby := bb.size
    have hdy := dd13.size
    replace M1 := M1.below bb
    replace MW := MW.below bb
    replace Ox := Ox.below bb
    replace N := N.below bb
    replace OBx := OBx.below bb
    replace AG := AG.below bb
    replace MG := MG.below bb
    replace DA := below_step DA bb
    have dd14 := below_step dd13 bb
    clear bb 
    generalize w13.heap.size = kby at *
    go_wp2_with fail
    refine (EB.out _ _ _ _ _ OBx.row OBy.row).mono ?_
    rintro e w15 ⟨rfl, bb⟩
    clear OBy
    replace M1 := M1.below bb
    replace MW := MW.below bb
    replace Ox := Ox.below bb
    replace N := N.below bb
    replace OBx := OBx.below bb
    replace AG := AG.below bb
    replace MG := MG.below bb
    replace DA := below_step DA bb
    have dd15 := below_step dd14 bb
    clear bb 
    have x0 := N.2.1 0 _ rfl
    have x1 := N.2.1 1 _ rfl
    go_wp2_with fail
    refine (MKX.out _ _ _ _ _ _ _ Ox).mono ?_
    rintro e w16 ⟨rfl, _, yy⟩
    replace OBx := OBx.onlyP17 yy (by omega)
    have hdd := dd15.size
    have dd16 := dd15.trans (yy.below (base := w.heap.size) (fun z _ hz => by omega) dd15.size)
    replace DA := DA.trans (yy.below (base := wA.heap.size) (fun z _ hz => by omega) DA.size)
    replace M1 := M1.onlyP yy (by omega)
    replace MW := MW.onlyP yy (by omega)
    replace N := N.onlyP yy (by omega)
    replace MG := MG.onlyP yy (by omega)
    replace AG := AG.onlyP yy (fun z h1 h2 h3 => by omega)
    clear yy hdd x0 x1
    clear Ox
    go_wp2_with fail
    refine (MBX.out _ _ OBx).mono ?_
    rintro e w17 ⟨rfl, y0⟩
    have yy := OnlyP.of_only (P := fun z => kbx ≤ z ∧ z < kbx + 1) y0 ⟨Nat.le_refl _, Nat.lt_succ_self _⟩
    clear y0
    have hdd := dd16.size
    have dd17 := dd16.trans (yy.below (base := w.heap.size) (fun z _ hz => by omega) dd16.size)
    replace DA := DA.trans (yy.below (base := wA.heap.size) (fun z _ hz => by omega) DA.size)
    replace M1 := M1.onlyP yy (by omega)
    replace MW := MW.onlyP yy (by omega)
    replace N := N.onlyP yy (by omega)
    replace MG := MG.onlyP yy (by omega)
    replace AG := AG.onlyP yy (fun z h1 h2 h3 => by omega)
    clear yy hdd 
    have u0 := MW.2.1 0 _ rfl
    have u1 := MW.2.1 1 _ rfl
    have y0 := MG.2.1 0 _ rfl
    have y1 := MG.2.1 1 _ rfl
    go_wp2_with fail
    refine (EA.out _ _ _ _ _ _ _ _ _ AG.row (RW.out.below DA)).mono ?_
    rintro e w18 ⟨rfl, bb⟩
    replace M1 := M1.below bb
    replace MW := MW.below bb
    replace N := N.below bb
    replace AG := AG.below bb
    replace MG := MG.below bb
    replace DA := below_step DA bb
    have dd18 := below_step dd17 bb
    clear bb u0 u1 y0 y1
    have y0 := MG.2.1 0 _ rfl
    have y1 := MG.2.1 1 _ rfl
    go_wp2_with fail
    refine (MK.out _ _ _ _ _ _ _ AG).mono ?_
    rintro e w19 ⟨rfl, AH, yy⟩
    have hdd := dd18.size
    have dd19 := dd18.trans (yy.below (base := w.heap.size) (fun z _ hz => by omega) dd18.size)
    replace DA := DA.trans (yy.below (base := wA.heap.size) (fun z _ hz => by omega) DA.size)
    replace M1 := M1.onlyP yy (by omega)
    replace MW := MW.onlyP yy (by omega)
    replace N := N.onlyP yy (by omega)
    replace MG := MG.onlyP yy (by omega)
    clear yy hdd y0 y1
    clear AG
    have y0 := MG.2.1 0 _ rfl
    have y1 := MG.2.1 1 _ rfl
    go_wp2_with fail
    refine (HD.out _ _ _ _ _ AH.row).mono ?_
    rintro e w20 ⟨rfl, bb⟩
    replace M1 := M1.below bb
    replace MW := MW.below bb
    replace N := N.below bb
    replace MG := MG.below bb
    replace AH := AH.below bb
    replace DA := below_step DA bb
    have dd20 := below_step dd19 bb
    clear bb y0 y1
    have j0 := M1.2.1 0 _ rfl
    have j1 := M1.2.1 1 _ rfl
    go_wp2_with fail
    refine (TO.out _ (hR0.below dd20)).mono ?_
    rintro e w21 ⟨az, bz, rfl, Oz, bb⟩
    have loz : w.heap.size ≤ w20.heap.size := dd20.size
    have ltz : w20.heap.size ≤ w21.heap.size := bb.size
    replace M1 := M1.below bb
    replace MW := MW.below bb
    replace N := N.below bb
    replace MG := MG.below bb
    replace AH := AH.below bb
    replace DA := below_step DA bb
    have dd21 := below_step dd20 bb
    clear bb j0 j1
    generalize w20.heap.size = lz at *
    obtain ⟨tz, htz⟩ : ∃ tz, tz = w21.heap.size := ⟨_, rfl⟩
    rw [← htz] at Oz ltz
    have lez : tz ≤ w21.heap.size := by omega
    clear htz
    go_wp2_with fail
    refine (TB.out _ (RK0.below dd21)).mono ?_
    rintro e w22 ⟨rfl, bb, OBz⟩
    have hbz := bb.size
    have hdz := dd21.size
    replace M1 := M1.below bb
    replace MW := MW.below bb
    replace N := N.below bb
    replace MG := MG.below bb
    replace AH := AH.below bb
    replace Oz := Oz.below bb
    replace DA := below_step DA bb
    have dd22 := below_step dd21 bb
    clear bb 
    generalize w21.heap.size = kbz at *
    go_wp2_with fail
    refine (I.out _ _ _ _ Oz.row OBz (hG.below dd22)).mono ?_
    rintro e w23 ⟨ah, bh, ⟨ch, eh, rfl⟩, AK, bb⟩
    clear Oz
    clear OBz
    replace M1 := M1.below bb
    replace MW := MW.below bb
    replace N := N.below bb
    replace MG := MG.below bb
    replace AH := AH.below bb
    replace DA := below_step DA bb
    have dd23 := below_step dd22 bb
    clear bb 
    have bb : Below w23.heap.size w23 (w23.alloc (.cells #[.slice ah r.n ch, .slice bh r.m eh] 29)) := below_box (Below.refl _ _)
    have MH := Mut.new w23 #[.slice ah r.n ch, .slice bh r.m eh] 29
    have hzh : (w23.alloc (.cells #[.slice ah r.n ch, .slice bh r.m eh] 29)).heap.size = w23.heap.size + 1 := by simp
    replace M1 := M1.below bb
    replace MW := MW.below bb
    replace N := N.below bb
    replace MG := MG.below bb
    replace AH := AH.below bb
    replace AK := AK.below bb
    replace DA := below_step DA bb
    have dd24 := below_step dd23 bb
    clear bb 
    have u0 := MW.2.1 0 _ rfl
    have u1 := MW.2.1 1 _ rfl
    have y0 := MH.2.1 0 _ rfl
    have y1 := MH.2.1 1 _ rfl
    go_wp2_with fail
    generalize w23.alloc (.cells #[.slice ah r.n ch, .slice bh r.m eh] 29) = w24 at *
    generalize hkh : w23.heap.size = kh at *
    clear hkh
    refine (EA.out _ _ _ _ _ _ _ _ _ AK.row (RW.out.below DA)).mono ?_
    rintro e w25 ⟨rfl, bb⟩
    replace M1 := M1.below bb
    replace MW := MW.below bb
    replace N := N.below bb
    replace MG := MG.below bb
    replace AH := AH.below bb
    replace AK := AK.below bb
    replace MH := MH.below bb
    replace DA := below_step DA bb
    have dd25 := below_step dd24 bb
    clear bb u0 u1 y0 y1
    have y0 := MG.2.1 0 _ rfl
    have y1 := MG.2.1 1 _ rfl
    go_wp2_with fail
    refine (HD.out _ _ _ _ _ AH.row).mono ?_
    rintro e w26 ⟨rfl, bb⟩
    replace M1 := M1.below bb
    replace MW := MW.below bb
    replace N := N.below bb
    replace MG := MG.below bb
    replace AH := AH.below bb
    replace AK := AK.below bb
    replace MH := MH.below bb
    replace DA := below_step DA bb
    have dd26 := below_step dd25 bb
    clear bb y0 y1
    go_wp2_with fail
    go_ret
    exact ⟨rfl, dd26⟩
end Go.Proofs.YtddjefmokpfplaaDoor
