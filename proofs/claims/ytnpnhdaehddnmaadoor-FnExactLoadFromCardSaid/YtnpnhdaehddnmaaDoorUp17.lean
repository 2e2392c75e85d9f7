/- Giving up, and how it is caught: must, and the deferred literals. -/
import Derived.Test.YtnpnhdaehddnmaaDoorKit
import Derived.Defers
import Derived.Recover
import Derived.WalkLawsBesides
import Derived.LaidEql
import Derived.Stop.IfaceNil
namespace Go.Proofs.YtnpnhdaehddnmaaDoor
open Go.RowKit

/-- What the variable holds: the error that tells of giving up. -/
def GU (gp : Addr) (w : World) : Prop := w.cell? ⟨0, 0, none⟩ = some (.iface 93 (.pointer (some gp))) ∧ 0 < w.heap.size
theorem GU.below {gp : Addr} {w w' : World} (h : GU gp w) (k : Below w.heap.size w w') : GU gp w' :=
  ⟨((bcell k).1 _ _ h.2).trans h.1, Nat.lt_of_lt_of_le h.2 k.size⟩
/-- The panic of giving up. -/
def gaveUp (gp : Addr) : Ending := .panicked [{ v := .iface 93 (.pointer (some gp)), recovered := false }]
set_option maxRecDepth 100000 in
set_option maxHeartbeats 800000 in
theorem i_mustY (w : World) :
    Calls Tryd.prog 47 #[.bool true] w fun e w' => e = .returned (.tuple #[]) ∧ w' = w := by
  go_enter Tryd.func47, Tryd.ntmps47
  go_wp2_with fail
  exact ⟨rfl, .tuple #[], by simp [results, Tryd.results47, go_sem], rfl, rfl⟩
set_option maxRecDepth 100000 in
set_option maxHeartbeats 800000 in
theorem i_mustN (gp : Addr) (w : World) (hG : GU gp w) :
    Calls Tryd.prog 47 #[.bool false] w fun e w' => e = gaveUp gp ∧ w' = w := by
  obtain ⟨h1, _⟩ := hG
  go_enter Tryd.func47, Tryd.ntmps47
  go_wp2_with fail
  exact ⟨rfl, rfl, rfl⟩
theorem upComp17 : (Tryd.prog.info? 93).map (·.comparable) = some true := by kernel_rfl
theorem upSize17 : (Tryd.prog.info? 110).map (·.size) = some 1 := by kernel_rfl
theorem upNeq17 (gp : Addr) (w : World) : (binOp .neq 20 (.iface 93 (.pointer (some gp))) (.iface 93 (.pointer (some gp)))).run Tryd.prog w = .ok (.bool false) w := by
  obtain ⟨i, hi, hcmp⟩ := Option.map_eq_some_iff.1 upComp17
  obtain ⟨j, hj, _⟩ := Option.map_eq_some_iff.1 upSize17
  simp only [binOp]
  simp [Op.equal, Op.maxDepth, run_equalIn_iface_ptr_same (P := Tryd.prog) w 9998 gp Tryd.underlying20 Tryd.underlying93 hi hcmp hj]
set_option maxRecDepth 100000 in
set_option maxHeartbeats 800000 in
theorem catch_idleS (w : World) :
    CallsD Tryd.prog 56 #[] .returning w fun e u' w' => e = .returned (.tuple #[]) ∧ u' = .returning ∧ w' = w := by
  have hn : (binOp .neq 20 .nilIface .nilIface).run Tryd.prog w = .ok (.bool false) w := run_neq_nil_nil_at w _ (by kernel_rfl)
  refine callsD_of_wpS Tryd.func56 rfl fun c₀ cs hu => ?_
  apply wpS_seq
  apply wpS_region
  simp [wpOpsS, go_sem, recoverD, hu, Tryd.ntmps56, Exit.thenS]
  refine wpS_of_wp ?_
  go_wp2_with fail
  cases c₀
  simp_all [bodyPostS, results, Tryd.results56]
set_option maxRecDepth 100000 in
set_option maxHeartbeats 800000 in
theorem catch_upS (gp : Addr) (older : List PanicEntry) (w : World) (hG : GU gp w) :
    CallsD Tryd.prog 56 #[] (.panicking ({ v := .iface 93 (.pointer (some gp)), recovered := false } :: older)) w fun e u' w' => e = .returned (.tuple #[]) ∧ u' = .panicking ({ v := .iface 93 (.pointer (some gp)), recovered := true } :: older) ∧ w' = w := by
  obtain ⟨h1, _⟩ := hG
  have hn : (binOp .neq 20 (.iface 93 (.pointer (some gp))) .nilIface).run Tryd.prog w = .ok (.bool true) w := run_neq_iface_nil w _ (by kernel_rfl) _ _
  have hq := upNeq17 gp w
  have g1 : ∀ x y (w : World), (eqGuard .neq 20 x y (.iface 93 (.pointer (some gp))) .nilIface).run Tryd.prog w = .ok () w := fun _ _ _ => rfl
  have g2 : ∀ x y (w : World), (eqGuard .neq 20 x y (.iface 93 (.pointer (some gp))) (.iface 93 (.pointer (some gp)))).run Tryd.prog w = .ok () w := fun _ _ _ => rfl
  generalize (Value.iface 93 (.pointer (some gp))) = V at *
  refine callsD_of_wpS Tryd.func56 rfl fun c₀ cs hu => ?_
  apply wpS_seq
  apply wpS_region
  simp [wpOpsS, go_sem, recoverD, hu, Tryd.ntmps56, Exit.thenS]
  apply wpS_seq
  apply wpS_region
  simp [wpOpsS, go_sem, Exit.thenS, hn, hq, g1, g2, h1, Region.wanted, yielded]
  refine wpS_cond (t := false) (by simp [Act.eval, Array.replicate]) ?_
  simp only [Bool.false_eq_true, if_false]
  refine wpS_of_wp (wp_skip ?_)
  exact ⟨rfl, _, rfl, .tuple #[], by simp [results, Tryd.results56, go_sem], rfl, rfl, rfl⟩
set_option maxRecDepth 100000 in
set_option maxHeartbeats 800000 in
theorem catch_idleL (w : World) :
    CallsD Tryd.prog 46 #[] .returning w fun e u' w' => e = .returned (.tuple #[]) ∧ u' = .returning ∧ w' = w := by
  have hn : (binOp .neq 20 .nilIface .nilIface).run Tryd.prog w = .ok (.bool false) w := run_neq_nil_nil_at w _ (by kernel_rfl)
  refine callsD_of_wpS Tryd.func46 rfl fun c₀ cs hu => ?_
  apply wpS_seq
  apply wpS_region
  simp [wpOpsS, go_sem, recoverD, hu, Tryd.ntmps46, Exit.thenS]
  refine wpS_of_wp ?_
  go_wp2_with fail
  cases c₀
  simp_all [bodyPostS, results, Tryd.results46]
set_option maxRecDepth 100000 in
set_option maxHeartbeats 800000 in
theorem catch_upL (gp : Addr) (older : List PanicEntry) (w : World) (hG : GU gp w) :
    CallsD Tryd.prog 46 #[] (.panicking ({ v := .iface 93 (.pointer (some gp)), recovered := false } :: older)) w fun e u' w' => e = .returned (.tuple #[]) ∧ u' = .panicking ({ v := .iface 93 (.pointer (some gp)), recovered := true } :: older) ∧ w' = w := by
  obtain ⟨h1, _⟩ := hG
  have hn : (binOp .neq 20 (.iface 93 (.pointer (some gp))) .nilIface).run Tryd.prog w = .ok (.bool true) w := run_neq_iface_nil w _ (by kernel_rfl) _ _
  have hq := upNeq17 gp w
  have g1 : ∀ x y (w : World), (eqGuard .neq 20 x y (.iface 93 (.pointer (some gp))) .nilIface).run Tryd.prog w = .ok () w := fun _ _ _ => rfl
  have g2 : ∀ x y (w : World), (eqGuard .neq 20 x y (.iface 93 (.pointer (some gp))) (.iface 93 (.pointer (some gp)))).run Tryd.prog w = .ok () w := fun _ _ _ => rfl
  generalize (Value.iface 93 (.pointer (some gp))) = V at *
  refine callsD_of_wpS Tryd.func46 rfl fun c₀ cs hu => ?_
  apply wpS_seq
  apply wpS_region
  simp [wpOpsS, go_sem, recoverD, hu, Tryd.ntmps46, Exit.thenS]
  apply wpS_seq
  apply wpS_region
  simp [wpOpsS, go_sem, Exit.thenS, hn, hq, g1, g2, h1, Region.wanted, yielded]
  refine wpS_cond (t := false) (by simp [Act.eval, Array.replicate]) ?_
  simp only [Bool.false_eq_true, if_false]
  refine wpS_of_wp (wp_skip ?_)
  exact ⟨rfl, _, rfl, .tuple #[], by simp [results, Tryd.results46, go_sem], rfl, rfl, rfl⟩
set_option maxRecDepth 100000 in
set_option maxHeartbeats 800000 in
theorem catch_idleW (w : World) :
    CallsD Tryd.prog 53 #[] .returning w fun e u' w' => e = .returned (.tuple #[]) ∧ u' = .returning ∧ w' = w := by
  have hn : (binOp .neq 20 .nilIface .nilIface).run Tryd.prog w = .ok (.bool false) w := run_neq_nil_nil_at w _ (by kernel_rfl)
  refine callsD_of_wpS Tryd.func53 rfl fun c₀ cs hu => ?_
  apply wpS_seq
  apply wpS_region
  simp [wpOpsS, go_sem, recoverD, hu, Tryd.ntmps53, Exit.thenS]
  refine wpS_of_wp ?_
  go_wp2_with fail
  cases c₀
  simp_all [bodyPostS, results, Tryd.results53]
set_option maxRecDepth 100000 in
set_option maxHeartbeats 800000 in
theorem catch_upW (gp : Addr) (older : List PanicEntry) (w : World) (hG : GU gp w) :
    CallsD Tryd.prog 53 #[] (.panicking ({ v := .iface 93 (.pointer (some gp)), recovered := false } :: older)) w fun e u' w' => e = .returned (.tuple #[]) ∧ u' = .panicking ({ v := .iface 93 (.pointer (some gp)), recovered := true } :: older) ∧ w' = w := by
  obtain ⟨h1, _⟩ := hG
  have hn : (binOp .neq 20 (.iface 93 (.pointer (some gp))) .nilIface).run Tryd.prog w = .ok (.bool true) w := run_neq_iface_nil w _ (by kernel_rfl) _ _
  have hq := upNeq17 gp w
  have g1 : ∀ x y (w : World), (eqGuard .neq 20 x y (.iface 93 (.pointer (some gp))) .nilIface).run Tryd.prog w = .ok () w := fun _ _ _ => rfl
  have g2 : ∀ x y (w : World), (eqGuard .neq 20 x y (.iface 93 (.pointer (some gp))) (.iface 93 (.pointer (some gp)))).run Tryd.prog w = .ok () w := fun _ _ _ => rfl
  generalize (Value.iface 93 (.pointer (some gp))) = V at *
  refine callsD_of_wpS Tryd.func53 rfl fun c₀ cs hu => ?_
  apply wpS_seq
  apply wpS_region
  simp [wpOpsS, go_sem, recoverD, hu, Tryd.ntmps53, Exit.thenS]
  apply wpS_seq
  apply wpS_region
  simp [wpOpsS, go_sem, Exit.thenS, hn, hq, g1, g2, h1, Region.wanted, yielded]
  refine wpS_cond (t := false) (by simp [Act.eval, Array.replicate]) ?_
  simp only [Bool.false_eq_true, if_false]
  refine wpS_of_wp (wp_skip ?_)
  exact ⟨rfl, _, rfl, .tuple #[], by simp [results, Tryd.results53, go_sem], rfl, rfl, rfl⟩
set_option maxRecDepth 100000 in
set_option maxHeartbeats 800000 in
theorem catch_idleV (w : World) :
    CallsD Tryd.prog 66 #[] .returning w fun e u' w' => e = .returned (.tuple #[]) ∧ u' = .returning ∧ w' = w := by
  have hn : (binOp .neq 20 .nilIface .nilIface).run Tryd.prog w = .ok (.bool false) w := run_neq_nil_nil_at w _ (by kernel_rfl)
  refine callsD_of_wpS Tryd.func66 rfl fun c₀ cs hu => ?_
  apply wpS_seq
  apply wpS_region
  simp [wpOpsS, go_sem, recoverD, hu, Tryd.ntmps66, Exit.thenS]
  refine wpS_of_wp ?_
  go_wp2_with fail
  cases c₀
  simp_all [bodyPostS, results, Tryd.results66]
set_option maxRecDepth 100000 in
set_option maxHeartbeats 800000 in
theorem catch_upV (gp : Addr) (older : List PanicEntry) (w : World) (hG : GU gp w) :
    CallsD Tryd.prog 66 #[] (.panicking ({ v := .iface 93 (.pointer (some gp)), recovered := false } :: older)) w fun e u' w' => e = .returned (.tuple #[]) ∧ u' = .panicking ({ v := .iface 93 (.pointer (some gp)), recovered := true } :: older) ∧ w' = w := by
  obtain ⟨h1, _⟩ := hG
  have hn : (binOp .neq 20 (.iface 93 (.pointer (some gp))) .nilIface).run Tryd.prog w = .ok (.bool true) w := run_neq_iface_nil w _ (by kernel_rfl) _ _
  have hq := upNeq17 gp w
  have g1 : ∀ x y (w : World), (eqGuard .neq 20 x y (.iface 93 (.pointer (some gp))) .nilIface).run Tryd.prog w = .ok () w := fun _ _ _ => rfl
  have g2 : ∀ x y (w : World), (eqGuard .neq 20 x y (.iface 93 (.pointer (some gp))) (.iface 93 (.pointer (some gp)))).run Tryd.prog w = .ok () w := fun _ _ _ => rfl
  generalize (Value.iface 93 (.pointer (some gp))) = V at *
  refine callsD_of_wpS Tryd.func66 rfl fun c₀ cs hu => ?_
  apply wpS_seq
  apply wpS_region
  simp [wpOpsS, go_sem, recoverD, hu, Tryd.ntmps66, Exit.thenS]
  apply wpS_seq
  apply wpS_region
  simp [wpOpsS, go_sem, Exit.thenS, hn, hq, g1, g2, h1, Region.wanted, yielded]
  refine wpS_cond (t := false) (by simp [Act.eval, Array.replicate]) ?_
  simp only [Bool.false_eq_true, if_false]
  refine wpS_of_wp (wp_skip ?_)
  exact ⟨rfl, _, rfl, .tuple #[], by simp [results, Tryd.results66, go_sem], rfl, rfl, rfl⟩
end Go.Proofs.YtnpnhdaehddnmaaDoor
