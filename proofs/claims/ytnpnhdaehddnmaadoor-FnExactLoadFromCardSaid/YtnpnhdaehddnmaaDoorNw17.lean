/- l17Newest of the specification. -/
import Derived.Test.YtnpnhdaehddnmaaDoorRd17
import Derived.Test.YtnpnhdaehddnmaaDoorPlain17m
import Derived.Test.YtnpnhdaehddnmaaDoorMut4
namespace Go.Proofs.YtnpnhdaehddnmaaDoor
open Go.RowKit

set_option maxRecDepth 100000 in
set_option maxHeartbeats 1600000 in
theorem s_l17Newest (a b : Option Addr) (c e : Nat) (d : Dk) (w : World) (hg : GD17 d) (hR : RowD a b d w) :
    Calls Tryd.prog 43 #[.agg #[.slice a d.n c, .slice b d.m e]] w fun e w' => e = .returned (.int .i64 (nwI d)) ∧ Below w.heap.size w w' := by
  obtain ⟨h10, _, hsz, _⟩ := hg
  obtain ⟨ba, off, rfl, hba, c8⟩ := hR.1 8 (by omega)
  obtain ⟨ba', off', e9, _, c9⟩ := hR.1 9 (by omega)
  simp only [Option.some.injEq, Addr.mk.injEq, and_true] at e9
  obtain ⟨rfl, rfl⟩ := e9
  have L8 := hide (fun w => s_l17Read (d.f 8) w (by have := hsz 8 (by omega); omega))
  have L9 := hide (fun w => s_l17Read (d.f 9) w (by have := hsz 9 (by omega); omega))
  have hn8 : (8 : Int) < (d.n : Int) := by omega
  have hn9 : (9 : Int) < (d.n : Int) := by omega
  have hm8 : 8 < d.n := by omega
  have hm9 : 9 < d.n := by omega
  unfold nwI
  generalize decide (RdOk (d.f 8)) = p at *
  generalize decide (RdOk (d.f 9)) = q at *
  generalize (rdA (d.f 8)).1 = x8 at *
  generalize (rdA (d.f 8)).2 = z8 at *
  generalize (rdA (d.f 9)).1 = x9 at *
  generalize (rdA (d.f 9)).2 = z9 at *
  generalize d.f 8 = s8 at *
  generalize d.f 9 = s9 at *
  obtain ⟨r, hr⟩ : ∃ r, Hid (nwB p q x8 x9 = r) := ⟨_, hide rfl⟩
  rw [hr.out]
  have M := Mut.new w #[.slice (some ⟨ba, off, none⟩) d.n c, .slice b d.m e] 31
  have d0 : Below w.heap.size w (w.alloc (.cells #[.slice (some ⟨ba, off, none⟩) d.n c, .slice b d.m e] 31)) := below_box (Below.refl _ _)
  replace c8 := (d0.cell (p := ⟨ba, off + 8, none⟩) hba).trans c8
  replace c9 := (d0.cell (p := ⟨ba, off + 9, none⟩) hba).trans c9
  have m0 := M.2.1 0 _ rfl
  clear hsz h10 hR
  go_enter Tryd.func43, Tryd.ntmps43
  go_wp2_with fail
  have hba1 := Nat.lt_of_lt_of_le hba d0.size
  have hws : w.heap.size < (w.alloc (.cells #[.slice (some ⟨ba, off, none⟩) d.n c, .slice b d.m e] 31)).heap.size := M.1
  generalize w.alloc (.cells #[.slice (some ⟨ba, off, none⟩) d.n c, .slice b d.m e] 31) = w0 at *
  refine (L8.out _).mono ?_
  rintro ex w1 ⟨rfl, b1⟩
  have d1 := below_step d0 b1
  have m1 := (M.below b1).2.1 0 _ rfl
  have c91 := (b1.cell (p := ⟨ba, off + 9, none⟩) hba1).trans c9
  clear c8 c9 m0 M d0 b1
  go_wp2_with fail
  refine (L9.out _).mono ?_
  rintro ex w2 ⟨rfl, b2⟩
  have d2 := below_step d1 b2
  clear m1 c91 d1 b2
  have fin : ∀ v, Hid (nwB p q x8 x9 = v) → v = r := fun v h => h.out.symm.trans hr.out
  cases p <;> cases q
  · obtain rfl := fin (-1) (hide rfl)
    clear hr fin
    go_wp2_with fail
    go_ret
    exact ⟨rfl, d2⟩
  · obtain rfl := fin 1 (hide rfl)
    clear hr fin
    go_wp2_with fail
    go_ret
    exact ⟨rfl, d2⟩
  · obtain rfl := fin 0 (hide rfl)
    clear hr fin
    go_wp2_with fail
    go_ret
    exact ⟨rfl, d2⟩
  · by_cases hge : x9 ≤ x8
    · obtain rfl := fin 0 (hide (by simp [nwB, hge]))
      have hge2 : x8 ≥ x9 := hge
      clear hr fin
      go_wp2_with fail
      go_ret
      exact ⟨rfl, d2⟩
    · obtain rfl := fin 1 (hide (by simp [nwB]; omega))
      have hge2 : ¬ (x8 ≥ x9) := hge
      clear hr fin
      go_wp2_with fail
      go_ret
      exact ⟨rfl, d2⟩
end Go.Proofs.YtnpnhdaehddnmaaDoor
