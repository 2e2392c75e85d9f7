/- The law on LoadFrom: the program answers as the specification. -/
import Derived.Test.YtnpnhdaehddnmaaDoorLg17
import Derived.Test.YtnpnhdaehddnmaaDoorLd17
import Derived.Deep.RegionHeld3
namespace Go.Proofs.YtnpnhdaehddnmaaDoor
open Go.RowKit

set_option maxRecDepth 100000 in
set_option maxHeartbeats 3200000 in
theorem w_loadFrom (a0 b0 : Option Addr) (c0 e0 : Nat) (d0 : Dk) (gp : Addr) (w : World) (hn : d0.n ≤ maxLen) (hm : d0.m ≤ maxLen) (hf : ∀ i, i < d0.n → (d0.f i).size ≤ maxLen) (hD : ∀ i, i < d0.m → (d0.D i).size ≤ maxLen) (hR0 : RowD a0 b0 d0 w) (hG : GU gp w) :
    Calls Tryd.prog 3 #[.agg #[.slice a0 d0.n c0, .slice b0 d0.m e0]] w fun e w' => e = .returned (.bool true) ∧ Below w.heap.size w w' := by
  have SZ0 := hide (fun w R => w_szDisk a0 b0 c0 e0 d0 w hn hm hf hD R)
  have TO := hide (fun h1 h2 w R => w_toDisk a0 b0 c0 e0 d0 w h1 h2 R)
  have EQ := hide (fun (h1 : d0.n ≤ 1048576) (h2 : d0.m ≤ 1048576) a b a' b' c e c' e' w R Q => w_eqDisk a b a' b' c e c' e' d0 w h1 h2 R Q)
  have M1 := Mut.new w #[.slice a0 d0.n c0, .slice b0 d0.m e0] 25
  have dd0 : Below w.heap.size w (w.alloc (.cells #[.slice a0 d0.n c0, .slice b0 d0.m e0] 25)) := below_box (Below.refl _ _)
  clear hn hm hf hD
  go_enter Tryd.func3, Tryd.ntmps3
  go_wp2_with fail
  generalize w.alloc (.cells #[.slice a0 d0.n c0, .slice b0 d0.m e0] 25) = w1 at *
  have dd1 := dd0
  clear dd0
  refine (SZ0.out _ (hR0.below dd1)).mono ?_
  rintro e w2 ⟨r0, rfl, hr0, bb⟩
  replace M1 := M1.below bb
  have dd2 := dd1.trans (bb.mono dd1.size)
  clear bb 
  clear SZ0
  rcases hr0 with rfl | ⟨r0a, l0n, l0m, l0f, l0D⟩
  · go_wp2_with fail
    go_ret
    exact ⟨rfl, dd2⟩
  have z0 : ¬ (r0 < 0) := by omega
  have l0 : LowD d0 := ⟨l0n, l0m, l0f, l0D⟩
  clear r0a l0f l0D
  replace TO := hide (TO.out l0n l0m)
  replace EQ := hide (EQ.out l0n l0m)
  clear l0n l0m
  have S := hide (fun a b c e w R => s_loadFrom a b c e d0 w l0 R)
  have I := hide (fun xa xb c e w (R : RowD (some ⟨xa, 0, none⟩) (some ⟨xb, 0, none⟩) d0 w) (hG : GU gp w) => i_loadFrom gp (some ⟨xa, 0, none⟩) (some ⟨xb, 0, none⟩) c e d0 w ⟨l0.1, l0.2.1⟩ R (.inr ⟨_, _, rfl⟩) hG)
  generalize (lfA d0).1 = t at *
  generalize (lfA d0).2.1 = x at *
  generalize (lfA d0).2.2 = bo at *
  have kt : (t.toList != t.toList) = false := by simp
  have kx1 : (x != x) = false := by simp
  have kb1 : (bo != bo) = false := by simp
  clear l0
  have j0 := M1.2.1 0 _ rfl
  have j1 := M1.2.1 1 _ rfl
  go_wp2_with fail
  refine (TO.out _ (hR0.below dd2)).mono ?_
  rintro e w3 ⟨av, bv, rfl, Ov, bb⟩
  have lov : w.heap.size ≤ w2.heap.size := dd2.size
  replace M1 := M1.below bb
  have dd3 := dd2.trans (bb.mono dd2.size)
  clear bb j0 j1
  generalize w2.heap.size = lv at *
  generalize hv : w3.heap.size = tv at Ov
  have lev : tv ≤ w3.heap.size := by omega
  clear hv
  go_wp2_with fail
  refine (S.out _ _ _ _ _ Ov.row).mono ?_
  rintro e w4 ⟨rfl, bb⟩
  clear Ov
  replace M1 := M1.below bb
  have dd4 := dd3.trans (bb.mono dd3.size)
  clear bb 
  have j0 := M1.2.1 0 _ rfl
  have j1 := M1.2.1 1 _ rfl
  go_wp2_with fail
  refine (TO.out _ (hR0.below dd4)).mono ?_
  rintro e w5 ⟨ax, bx, rfl, Ox, bb⟩
  have lox : w.heap.size ≤ w4.heap.size := dd4.size
  replace M1 := M1.below bb
  have dd5 := dd4.trans (bb.mono dd4.size)
  clear bb j0 j1
  generalize w4.heap.size = lx at *
  generalize hx : w5.heap.size = tx at Ox
  have lex : tx ≤ w5.heap.size := by omega
  clear hx
  go_wp2_with fail
  have bb : Below w5.heap.size w5 (w5.alloc (.cells #[.slice (some ⟨ax, 0, none⟩) d0.n d0.n, .slice (some ⟨bx, 0, none⟩) d0.m d0.m] 31)) := below_box (Below.refl _ _)
  have N := Mut.new w5 #[.slice (some ⟨ax, 0, none⟩) d0.n d0.n, .slice (some ⟨bx, 0, none⟩) d0.m d0.m] 31
  replace M1 := M1.below bb
  replace Ox := Ox.below bb
  have dd6 := dd5.trans (bb.mono dd5.size)
  clear bb 
  generalize w5.alloc (.cells #[.slice (some ⟨ax, 0, none⟩) d0.n d0.n, .slice (some ⟨bx, 0, none⟩) d0.m d0.m] 31) = w6 at *
  have hbx : tx ≤ w5.heap.size := lex
  clear lex
  have hw1 : w.heap.size ≤ w6.heap.size := dd6.size
  generalize w5.heap.size = kx at *
  have hbl : kx < w6.heap.size := N.1
  have x0 := N.2.1 0 _ rfl
  have x1 := N.2.1 1 _ rfl
  go_wp2_with fail
  refine (I.out _ _ _ _ _ Ox.row (hG.below dd6)).mono ?_
  rintro e w7 ⟨rfl, bb⟩
  replace M1 := M1.below bb
  replace Ox := Ox.below bb
  replace N := N.below bb
  have dd7 := dd6.trans (bb.mono dd6.size)
  clear bb x0 x1
  go_wp2_with fail
  have KB : Hid (∀ X : World, Below w7.heap.size w7 X → (X.cell? ⟨w.heap.size, 0, none⟩ = some (.slice a0 d0.n c0) ∧ X.cell? ⟨w.heap.size, 1, none⟩ = some (.slice b0 d0.m e0) ∧ X.cell? ⟨kx, 0, none⟩ = some (.slice (some ⟨ax, 0, none⟩) d0.n d0.n) ∧ X.cell? ⟨kx, 1, none⟩ = some (.slice (some ⟨bx, 0, none⟩) d0.m d0.m))) := fun X h => ⟨(M1.below h).2.1 0 _ rfl, (M1.below h).2.1 1 _ rfl, (N.below h).2.1 0 _ rfl, (N.below h).2.1 1 _ rfl⟩
  have dZ : Below w7.heap.size w7 w7 := Below.refl _ _
  have hR7 := hide (hR0.below dd7)
  have j0 := M1.2.1 0 _ rfl
  have j1 := M1.2.1 1 _ rfl
  have x0 := N.2.1 0 _ rfl
  have x1 := N.2.1 1 _ rfl
  have OX := hide Ox
  go_region_held3 (fun X => X.cell? ⟨w.heap.size, 0, none⟩ = some (.slice a0 d0.n c0) ∧ X.cell? ⟨w.heap.size, 1, none⟩ = some (.slice b0 d0.m e0) ∧ X.cell? ⟨kx, 0, none⟩ = some (.slice (some ⟨ax, 0, none⟩) d0.n d0.n) ∧ X.cell? ⟨kx, 1, none⟩ = some (.slice (some ⟨bx, 0, none⟩) d0.m d0.m)) (first | exact KB.out _ dE | exact KB.out _ dE.drew | exact KB.out _ dT | exact KB.out _ dT.drew | exact KB.out _ dZ | exact KB.out _ dZ.drew) (first | (go_at_call 8; refine (TO.out _ (hR7.out.below (by first | exact dZ | exact dZ.drew))).mono ?_; rintro e wT ⟨aT, bT, rfl, oT, zT⟩; have dT : Below w7.heap.size w7 wT := (by first | exact below_step dZ zT | exact below_step dZ.drew zT)) | (go_at_call 10; refine (EQ.out _ _ _ _ _ _ _ _ _ (by first | exact (OX.out.below dT).row | exact (OX.out.below dT.drew).row) (by first | exact oT.row | exact (oT.below (Below.refl _ _).drew).row)).mono ?_; rintro e wE ⟨rfl, bE⟩; have dE : Below w7.heap.size w7 wE := (by first | exact below_step dT bE | exact below_step dT.drew bE)))
  all_goals
    have bb := dE
    clear OX KB hR7 dT dZ oT
    generalize wE = w8 at *
    replace M1 := M1.below bb
    replace Ox := Ox.below bb
    replace N := N.below bb
    have dd8 := dd7.trans (bb.mono dd7.size)
    clear bb j0 j1 x0 x1
    have x0 := N.2.1 0 _ rfl
    have x1 := N.2.1 1 _ rfl
    go_wp2_with fail
    go_ret
    exact ⟨rfl, dd8⟩
end Go.Proofs.YtnpnhdaehddnmaaDoor
