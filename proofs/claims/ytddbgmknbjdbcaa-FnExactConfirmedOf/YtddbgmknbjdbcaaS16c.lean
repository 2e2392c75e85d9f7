/- ConfirmedOf of the specification. -/
import Derived.Test.YtddbgmknbjdbcaaS16a
import Derived.Test.YtddbgmknbjdbcaaPlain16b
import Derived.Test.YtddbgmknbjdbcaaOwn15s
namespace Go.Proofs.Ytddbgmknbjdbcaa
open Go.RowKit

set_option maxRecDepth 100000 in
set_option maxHeartbeats 1600000 in
theorem s_confirmedOf (v : Value) (s : Sto) (w : World) (hl : LowSt s) (hR : RowSt true v s w) :
    Calls Try.prog 17 #[v] w fun e w' => ∃ v, e = .returned (.tuple #[v, .bool (cofA s).2]) ∧ ∃ L, LsF w.heap.size v L w' ∧ L.map (·.t) = (cofA s).1 ∧ Below w.heap.size w w' := by
  have hY : Hid (GS s → _) := fun h => cofA_yes h
  have hZ : Hid (¬ GS s → _) := fun h => cofA_no h
  have G := hide (fun v w R => s_goodStore v s w hl R)
  have hV : Hid (RowSt true v s w) := hR
  have OW := hide (fun (hg : GS s) a c w R => s_own15 a (s.H 0).n c (s.H 0).T w (hl.2.2.2.1 0 (by have := hg.2.2.1; omega)).n (fun i hi => ⟨((hg.2.2.2.2.1 0 (by have := hg.2.2.1; omega)).1 i hi).1.1, Nat.le_trans ((hg.2.2.2.2.1 0 (by have := hg.2.2.1; omega)).1 i hi).1.2.1 (by omega)⟩) R)
  obtain ⟨ca, kc, ra, kr, ha, kh, rfl, R1, R2, R3, _⟩ := hR
  generalize cofA s = GA at *
  have hVd : ∀ w', Below w.heap.size w w' → RowSt true (.agg #[.slice ca s.C.n kc, .slice ra s.R.n kr, .slice ha s.h kh, .int .i64 s.l]) s w' := fun w' d => hV.out.below d
  unfold stV
  have M0 := Mut.new w #[.slice ca s.C.n kc, .slice ra s.R.n kr, .slice ha s.h kh, .int .i64 s.l] 25
  have d0 : Below w.heap.size w (w.alloc (.cells #[.slice ca s.C.n kc, .slice ra s.R.n kr, .slice ha s.h kh, .int .i64 s.l] 25)) := below_box (Below.refl _ _)
  have z0 := M0.2.1 0 _ rfl
  have z1 := M0.2.1 1 _ rfl
  have z2 := M0.2.1 2 _ rfl
  have z3 := M0.2.1 3 _ rfl
  clear hV
  go_enter Try.func17, Try.ntmps17
  go_wp2_with fail
  generalize w.alloc (.cells #[.slice ca s.C.n kc, .slice ra s.R.n kr, .slice ha s.h kh, .int .i64 s.l] 25) = w1 at *
  refine (G.out _ _ (hVd _ d0)).mono ?_
  rintro e w2 ⟨rfl, bb⟩
  replace M0 := M0.below bb
  have d2 := d0.trans (bb.mono d0.size)
  clear bb d0 z0 z1 z2 z3 hVd G
  by_cases hg : GS s
  case neg =>
    rw [tB_f hg]
    have hE := hide (hZ.out hg)
    clear hY hZ
    go_wp2_with fail
    exact bodyPost_ret (v := .tuple #[.slice none 0 0, .bool GA.2]) (by rw [hE.out]; simp [results, Try.results17, go_sem]) rfl ⟨_, rfl, [], LsF.nil _ _, by rw [hE.out]; rfl, d2⟩
  rw [tB_t hg]
  have hE := hide (hY.out hg)
  clear hY hZ
  have h1 := hg.2.2.1
  obtain ⟨b, off, a0, c0, rfl, hb, u0, R4⟩ := R3 0 (by omega)
  rw [Nat.add_zero] at u0
  replace OW := hide (OW.out hg)
  replace u0 := (d2.cell (p := ⟨b, off, none⟩) hb).trans u0
  have R4 := hide (R4.any.below d2)
  have h0 : (0 : Int) < (s.h : Int) := by omega
  clear R1 R2 R3 hg hl
  have z2 := M0.2.1 2 _ rfl
  go_wp2_with fail
  refine (OW.out _ _ _ R4.out).mono ?_
  rintro e w4 ⟨v, rfl, L, LL, hm, bb⟩
  have d4 := d2.trans (bb.mono d2.size)
  replace LL := LL.base d2.size
  clear bb
  go_wp2_with fail
  exact bodyPost_ret (v := .tuple #[v, .bool GA.2]) (by rw [hE.out]; simp [results, Try.results17, go_sem]) rfl ⟨v, rfl, L, LL, by rw [hE.out]; exact hm, d4⟩
end Go.Proofs.Ytddbgmknbjdbcaa
