/- TicksLeft of the specification. -/
import Derived.Test.YtddbgmknbjdbcaaS16a
import Derived.Test.YtddbgmknbjdbcaaPlain16b
namespace Go.Proofs.Ytddbgmknbjdbcaa
open Go.RowKit

set_option maxRecDepth 100000 in
set_option maxHeartbeats 1600000 in
theorem s_ticksLeft (v : Value) (s : Sto) (w : World) (hl : LowSt s) (hR : RowSt true v s w) :
    Calls Try.prog 27 #[v] w fun e w' => e = .returned (.tuple #[.int .i64 (tiA s).1, .bool (tiA s).2]) ∧ Below w.heap.size w w' := by
  have hY : Hid (GS s → _) := fun h => tiA_yes h
  have hZ : Hid (¬ GS s → _) := fun h => tiA_no h
  have G := hide (fun v w R => s_goodStore v s w hl R)
  have hV : Hid (RowSt true v s w) := hR

  obtain ⟨ca, kc, ra, kr, ha, kh, rfl, R1, R2, R3, _⟩ := hR
  generalize tiA s = GA at *
  have hVd : ∀ w', Below w.heap.size w w' → RowSt true (.agg #[.slice ca s.C.n kc, .slice ra s.R.n kr, .slice ha s.h kh, .int .i64 s.l]) s w' := fun w' d => hV.out.below d
  unfold stV
  have M0 := Mut.new w #[.slice ca s.C.n kc, .slice ra s.R.n kr, .slice ha s.h kh, .int .i64 s.l] 25
  have d0 : Below w.heap.size w (w.alloc (.cells #[.slice ca s.C.n kc, .slice ra s.R.n kr, .slice ha s.h kh, .int .i64 s.l] 25)) := below_box (Below.refl _ _)
  have z0 := M0.2.1 0 _ rfl
  have z1 := M0.2.1 1 _ rfl
  have z2 := M0.2.1 2 _ rfl
  have z3 := M0.2.1 3 _ rfl
  clear hV
  go_enter Try.func27, Try.ntmps27
  go_wp2_with fail
  generalize w.alloc (.cells #[.slice ca s.C.n kc, .slice ra s.R.n kr, .slice ha s.h kh, .int .i64 s.l] 25) = w1 at *
  refine (G.out _ _ (hVd _ d0)).mono ?_
  rintro e w2 ⟨rfl, bb⟩
  replace M0 := M0.below bb
  have d2 := d0.trans (bb.mono d0.size)
  clear bb d0 z0 z1 z2 z3 hVd G
  by_cases hg : GS s
  case neg =>
    rw [tB_f hg]
    have hE := hide (hZ.out hg)
    clear hY hZ
    go_wp2_with fail
    exact bodyPost_ret (v := .tuple #[.int .i64 GA.1, .bool GA.2]) (by rw [hE.out]; simp [results, Try.results27, go_sem]) rfl ⟨rfl, d2⟩
  rw [tB_t hg]
  have hE := hide (hY.out hg)
  clear hY hZ
  have z3 := M0.2.1 3 _ rfl
  go_wp2_with fail
  exact bodyPost_ret (v := .tuple #[.int .i64 GA.1, .bool GA.2]) (by rw [hE.out]; simp [results, Try.results27, go_sem]) rfl ⟨rfl, d2⟩
end Go.Proofs.Ytddbgmknbjdbcaa
