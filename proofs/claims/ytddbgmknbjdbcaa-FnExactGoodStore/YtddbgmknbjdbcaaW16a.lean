/- The law on GoodStore: the program answers as the specification. -/
import Derived.Test.YtddbgmknbjdbcaaS16a
import Derived.Test.YtddbgmknbjdbcaaI16a
import Derived.Test.YtddbgmknbjdbcaaSt16b
import Derived.Test.YtddbgmknbjdbcaaSt16e
import Derived.Test.YtddbgmknbjdbcaaSt16f
import Derived.Deep.RegionHeld3
namespace Go.Proofs.Ytddbgmknbjdbcaa
open Go.RowKit

set_option maxRecDepth 100000 in
set_option maxHeartbeats 3200000 in
theorem w_goodStore (v0 : Value) (s0 : Sto) (w : World) (hX0 : MaxSt s0) (hR0 : RowSt false v0 s0 w) :
    Calls Try.prog 4 #[v0] w fun e w' => e = .returned (.bool true) ∧ Below w.heap.size w w' := by
  obtain ⟨ca, kc, ra, kr, ha, kh, hv0⟩ := hR0.form
  subst hv0
  have SZ0 := hide (fun w R => w_szStore (.agg #[.slice ca s0.C.n kc, .slice ra s0.R.n kr, .slice ha s0.h kh, .int .i64 s0.l]) s0 1048576 w hX0 (by omega) (by omega) R)
  have TO := hide (fun l0 w R => w_toStore (.agg #[.slice ca s0.C.n kc, .slice ra s0.R.n kr, .slice ha s0.h kh, .int .i64 s0.l]) s0 w l0 R)
  have EQ := hide (fun (l0 : LowSt s0) v v' w R Q => w_eqStore v v' s0 w ⟨l0.1.n, l0.1.2, l0.2.1.n, l0.2.1.2, l0.2.2.1, fun i hi => ⟨(l0.2.2.2.1 i hi).n, (l0.2.2.2.1 i hi).2⟩⟩ R Q)
  have M1 := Mut.new w #[.slice ca s0.C.n kc, .slice ra s0.R.n kr, .slice ha s0.h kh, .int .i64 s0.l] 33
  have d0 : Below w.heap.size w (w.alloc (.cells #[.slice ca s0.C.n kc, .slice ra s0.R.n kr, .slice ha s0.h kh, .int .i64 s0.l] 33)) := below_box (Below.refl _ _)
  clear hX0
  go_enter Try.func4, Try.ntmps4
  go_wp2_with fail
  generalize w.alloc (.cells #[.slice ca s0.C.n kc, .slice ra s0.R.n kr, .slice ha s0.h kh, .int .i64 s0.l] 33) = w1 at *
  have d1 := d0
  clear d0
  refine (SZ0.out _ (hR0.below d1)).mono ?_
  rintro e w2 ⟨r0, rfl, hr0, bb⟩
  replace M1 := M1.below bb
  have d2 := d1.trans (bb.mono d1.size)
  clear bb 
  clear SZ0
  rcases hr0 with rfl | ⟨r0a, r0b, l0⟩
  · go_wp2_with fail
    go_ret
    exact ⟨rfl, d2⟩
  have z0 : ¬ (r0 < 0) := by omega
  clear r0a r0b
  replace TO := hide (TO.out l0)
  replace EQ := hide (EQ.out l0)
  have S := hide (fun v w R => s_goodStore v s0 w l0 R)
  have I := hide (fun v w R => i_goodStore v s0 w l0 R)
  generalize tB (GS s0) = b at *
  have k0 : (b != b) = false := by simp
  clear l0
  have c0 := M1.2.1 0 _ rfl
  have c1 := M1.2.1 1 _ rfl
  have c2 := M1.2.1 2 _ rfl
  have c3 := M1.2.1 3 _ rfl
  go_wp2_with fail
  refine (TO.out _ (hR0.below d2)).mono ?_
  rintro e w3 ⟨vs, rfl, Os, bb⟩
  have los : w.heap.size ≤ w2.heap.size := d2.size
  replace M1 := M1.below bb
  have d3 := d2.trans (bb.mono d2.size)
  clear bb c0 c1 c2 c3
  generalize w2.heap.size = bs0 at *
  obtain ⟨cas, kcs, ras, krs, has, khs, hfs⟩ := Os.form
  subst hfs
  generalize hs : w3.heap.size = ts0 at Os
  have les : ts0 ≤ w3.heap.size := by omega
  clear hs
  go_wp2_with fail
  refine (S.out _ _ Os.row).mono ?_
  rintro e w4 ⟨rfl, bb⟩
  clear Os
  replace M1 := M1.below bb
  have d4 := d3.trans (bb.mono d3.size)
  clear bb 
  have c0 := M1.2.1 0 _ rfl
  have c1 := M1.2.1 1 _ rfl
  have c2 := M1.2.1 2 _ rfl
  have c3 := M1.2.1 3 _ rfl
  go_wp2_with fail
  refine (TO.out _ (hR0.below d4)).mono ?_
  rintro e w5 ⟨vx, rfl, Ox, bb⟩
  have lox : w.heap.size ≤ w4.heap.size := d4.size
  replace M1 := M1.below bb
  have d5 := d4.trans (bb.mono d4.size)
  clear bb c0 c1 c2 c3
  skip
  generalize w4.heap.size = bx0 at *
  obtain ⟨cax, kcx, rax, krx, hax, khx, hfx⟩ := Ox.form
  subst hfx
  generalize hx : w5.heap.size = tx0 at Ox
  have lex : tx0 ≤ w5.heap.size := by omega
  clear hx
  go_wp2_with fail
  have bb : Below w5.heap.size w5 (w5.alloc (.cells #[.slice cax s0.C.n kcx, .slice rax s0.R.n krx, .slice hax s0.h khx, .int .i64 s0.l] 25)) := below_box (Below.refl _ _)
  have N := Mut.new w5 #[.slice cax s0.C.n kcx, .slice rax s0.R.n krx, .slice hax s0.h khx, .int .i64 s0.l] 25
  replace M1 := M1.below bb
  replace Ox := Ox.below bb
  have d6 := d5.trans (bb.mono d5.size)
  clear bb 
  generalize w5.alloc (.cells #[.slice cax s0.C.n kcx, .slice rax s0.R.n krx, .slice hax s0.h khx, .int .i64 s0.l] 25) = w6 at *
  have hbx : tx0 ≤ w5.heap.size := lex
  clear lex
  have hw1 : w.heap.size ≤ w6.heap.size := d6.size
  generalize w5.heap.size = bx at *
  have hbl : bx < w6.heap.size := N.1
  have x0 := N.2.1 0 _ rfl
  have x1 := N.2.1 1 _ rfl
  have x2 := N.2.1 2 _ rfl
  have x3 := N.2.1 3 _ rfl
  go_wp2_with fail
  refine (I.out _ _ Ox.row).mono ?_
  rintro e w7 ⟨rfl, bb⟩
  replace M1 := M1.below bb
  replace Ox := Ox.below bb
  replace N := N.below bb
  have d7 := d6.trans (bb.mono d6.size)
  clear bb x0 x1 x2 x3
  go_wp2_with fail
  have KB : Hid (∀ X : World, Below w7.heap.size w7 X → (X.cell? ⟨w.heap.size, 0, none⟩ = some (.slice ca s0.C.n kc) ∧ X.cell? ⟨w.heap.size, 1, none⟩ = some (.slice ra s0.R.n kr) ∧ X.cell? ⟨w.heap.size, 2, none⟩ = some (.slice ha s0.h kh) ∧ X.cell? ⟨w.heap.size, 3, none⟩ = some (.int .i64 s0.l) ∧ X.cell? ⟨bx, 0, none⟩ = some (.slice cax s0.C.n kcx) ∧ X.cell? ⟨bx, 1, none⟩ = some (.slice rax s0.R.n krx) ∧ X.cell? ⟨bx, 2, none⟩ = some (.slice hax s0.h khx) ∧ X.cell? ⟨bx, 3, none⟩ = some (.int .i64 s0.l))) := fun X h => ⟨(M1.below h).2.1 0 _ rfl, (M1.below h).2.1 1 _ rfl, (M1.below h).2.1 2 _ rfl, (M1.below h).2.1 3 _ rfl, (N.below h).2.1 0 _ rfl, (N.below h).2.1 1 _ rfl, (N.below h).2.1 2 _ rfl, (N.below h).2.1 3 _ rfl⟩
  have dZ : Below w7.heap.size w7 w7 := Below.refl _ _
  have hR7 := hide (hR0.below d7)
  have c0 := M1.2.1 0 _ rfl
  have c1 := M1.2.1 1 _ rfl
  have c2 := M1.2.1 2 _ rfl
  have c3 := M1.2.1 3 _ rfl
  have x0 := N.2.1 0 _ rfl
  have x1 := N.2.1 1 _ rfl
  have x2 := N.2.1 2 _ rfl
  have x3 := N.2.1 3 _ rfl
  have OX := hide Ox
  go_region_held3 (fun X => X.cell? ⟨w.heap.size, 0, none⟩ = some (.slice ca s0.C.n kc) ∧ X.cell? ⟨w.heap.size, 1, none⟩ = some (.slice ra s0.R.n kr) ∧ X.cell? ⟨w.heap.size, 2, none⟩ = some (.slice ha s0.h kh) ∧ X.cell? ⟨w.heap.size, 3, none⟩ = some (.int .i64 s0.l) ∧ X.cell? ⟨bx, 0, none⟩ = some (.slice cax s0.C.n kcx) ∧ X.cell? ⟨bx, 1, none⟩ = some (.slice rax s0.R.n krx) ∧ X.cell? ⟨bx, 2, none⟩ = some (.slice hax s0.h khx) ∧ X.cell? ⟨bx, 3, none⟩ = some (.int .i64 s0.l)) (first | exact KB.out _ dE | exact KB.out _ dE.drew | exact KB.out _ dT | exact KB.out _ dT.drew | exact KB.out _ dZ | exact KB.out _ dZ.drew) (first | (go_at_call 15; refine (TO.out _ (hR7.out.below (by first | exact dZ | exact dZ.drew))).mono ?_; rintro e wT ⟨vT, rfl, oT, bT⟩; have dT : Below w7.heap.size w7 wT := (by first | exact below_step dZ bT | exact below_step dZ.drew bT)) | (go_at_call 10; refine (EQ.out _ _ _ (by first | exact (OX.out.below dT).row.any | exact (OX.out.below dT.drew).row.any) (by first | exact oT.row.any | exact (oT.below (Below.refl _ _).drew).row.any)).mono ?_; rintro e wE ⟨rfl, bE⟩; have dE : Below w7.heap.size w7 wE := (by first | exact below_step dT bE | exact below_step dT.drew bE)))
  all_goals
    have bb := dE
    clear OX KB hR7 dT dZ oT
    generalize wE = w8 at *
    replace M1 := M1.below bb
    replace Ox := Ox.below bb
    replace N := N.below bb
    have d8 := d7.trans (bb.mono d7.size)
    clear bb c0 c1 c2 c3 x0 x1 x2 x3
    have x0 := N.2.1 0 _ rfl
    have x1 := N.2.1 1 _ rfl
    have x2 := N.2.1 2 _ rfl
    have x3 := N.2.1 3 _ rfl
    go_wp2_with fail
    go_ret
    exact ⟨rfl, d8⟩
end Go.Proofs.Ytddbgmknbjdbcaa
