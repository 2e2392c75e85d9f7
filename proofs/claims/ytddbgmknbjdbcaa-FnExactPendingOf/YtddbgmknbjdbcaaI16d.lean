/- PendingOf of the program. -/
import Derived.Test.YtddbgmknbjdbcaaI16a
import Derived.Test.YtddbgmknbjdbcaaPlain16b
import Derived.Test.YtddbgmknbjdbcaaI15h
namespace Go.Proofs.Ytddbgmknbjdbcaa
open Go.RowKit

set_option maxRecDepth 100000 in
set_option maxHeartbeats 1600000 in
theorem i_pendingOf (v : Value) (s : Sto) (w : World) (hl : LowSt s) (hR : RowSt true v s w) :
    Calls Try.prog 23 #[v] w fun e w' => ∃ v, e = .returned (.tuple #[v, .bool (penA s).2]) ∧ ∃ L, LsC w.heap.size v L w' ∧ L.map (·.c) = (penA s).1 ∧ Below w.heap.size w w' := by
  have hY : Hid (GS s → _) := fun h => penA_yes h
  have hZ : Hid (¬ GS s → _) := fun h => penA_no h
  have G := hide (fun v w R => i_goodStore v s w hl R)
  have hV : Hid (RowSt true v s w) := hR
  have DF := hide (fun a c a1 c1 w R R2 => i_diffOf a s.R.n c s.R.T a1 s.C.n c1 s.C.T w hl.2.1.n hl.2.1.2 hl.1.n hl.1.2 R R2)
  obtain ⟨ca, kc, ra, kr, ha, kh, rfl, R1, R2, R3, _⟩ := hR
  generalize penA s = GA at *
  have hVd : ∀ w', Below w.heap.size w w' → RowSt true (.agg #[.slice ca s.C.n kc, .slice ra s.R.n kr, .slice ha s.h kh, .int .i64 s.l]) s w' := fun w' d => hV.out.below d
  unfold stV
  have M0 := Mut.new w #[.slice ca s.C.n kc, .slice ra s.R.n kr, .slice ha s.h kh, .int .i64 s.l] 25
  have d0 : Below w.heap.size w (w.alloc (.cells #[.slice ca s.C.n kc, .slice ra s.R.n kr, .slice ha s.h kh, .int .i64 s.l] 25)) := below_box (Below.refl _ _)
  have z0 := M0.2.1 0 _ rfl
  have z1 := M0.2.1 1 _ rfl
  have z2 := M0.2.1 2 _ rfl
  have z3 := M0.2.1 3 _ rfl
  clear hV
  go_enter Try.func23, Try.ntmps23
  go_wp2_with fail
  generalize w.alloc (.cells #[.slice ca s.C.n kc, .slice ra s.R.n kr, .slice ha s.h kh, .int .i64 s.l] 25) = w1 at *
  refine (G.out _ _ (hVd _ d0)).mono ?_
  rintro e w2 ⟨rfl, bb⟩
  replace M0 := M0.below bb
  have d2 := d0.trans (bb.mono d0.size)
  clear bb d0 z0 z1 z2 z3 hVd G
  by_cases hg : GS s
  case neg =>
    rw [tB_f hg]
    have hE := hide (hZ.out hg)
    clear hY hZ
    go_wp2_with fail
    exact bodyPost_ret (v := .tuple #[.slice none 0 0, .bool GA.2]) (by rw [hE.out]; simp [results, Try.results23, go_sem]) rfl ⟨_, rfl, [], LsC.nil _ _, by rw [hE.out]; rfl, d2⟩
  rw [tB_t hg]
  have hE := hide (hY.out hg)
  clear hY hZ
  have z0 := M0.2.1 0 _ rfl
  have z1 := M0.2.1 1 _ rfl
  replace R1 := R1.below d2
  replace R2 := R2.below d2
  rw [← hE.out] at DF
  clear R3 hg hl
  go_wp2_with fail
  refine (DF.out _ _ _ _ _ R2 R1).mono ?_
  rintro e w4 ⟨v, rfl, L, LL, hm, bb⟩
  have d4 := d2.trans (bb.mono d2.size)
  replace LL := LL.base d2.size
  clear bb z0 z1
  go_wp2_with fail
  exact bodyPost_ret (v := .tuple #[v, .bool GA.2]) (by simp [results, Try.results23, go_sem]) rfl ⟨v, rfl, L, LL, hm, d4⟩
end Go.Proofs.Ytddbgmknbjdbcaa
