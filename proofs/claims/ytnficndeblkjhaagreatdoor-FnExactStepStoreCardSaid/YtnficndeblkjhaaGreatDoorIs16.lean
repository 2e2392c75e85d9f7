/- errors.Is of a fault and one of two kinds: what it answers. -/
import Derived.Test.YtnficndeblkjhaaGreatDoorGrp2
import Derived.WalkKit
import Derived.LaidEql
import Derived.Stop.Asserts
import Derived.RowKitTokens
namespace Go.Proofs.YtnficndeblkjhaaGreatDoor
open Go.RowKit Go.Extern.Stop Go.Stop Go.Extern

theorem isTypeOf16 (v : Value) (w : World) : (Extern.ReflectliteType.typeOf #[.iface 173 v]).run Tryz.prog w = .ok (.iface 129 (.agg #[.pointer (some ⟨3, 173, none⟩)])) w := by kernel_rfl
theorem isComparable16 (w : World) : Sem.run Tryz.prog (callFunc 157 #[.agg #[.pointer (some ⟨3, 173, none⟩)]]) w = Result.ok (Next.value (.bool true)) w := by
  have h := @run_callFunc_extern Tryz.prog 157 _ (ReflectliteType.method fun t => do Rtype.noPackHeld "Comparable" t; pure (.bool (← typeInfo t).comparable)) Tryz.func157 (by kernel_rfl) (by kernel_rfl) (by kernel_rfl) (by kernel_rfl)
  rw [h]
  have e : Sem.run Tryz.prog (ReflectliteType.method (fun t => do Rtype.noPackHeld "Comparable" t; pure (.bool (← typeInfo t).comparable)) #[.agg #[.pointer (some ⟨3, 173, none⟩)]]) w = Result.ok (.bool true) w := by kernel_rfl
  rw [e]
  rfl
theorem isMethodComparable16 (v : Value) (w : World) : (Go.method 306 129 v "Comparable").run Tryz.prog w = .ok (157, v) w := by kernel_rfl
theorem isComp16 : (Tryz.prog.info? 173).map (·.comparable) = some true := by kernel_rfl
theorem isSize16 : (Tryz.prog.info? 194).map (·.size) = some 1 := by kernel_rfl
theorem noIsE16 (v : Value) (xT : TypeId) (w : World) : (Instr.typeAssert (.iface 173 v) xT 141 true).run Tryz.prog w = .ok (.tuple #[.nilIface, .bool false]) w := run_typeAssert_lacksB Tryz.underlying141 (by kernel_rfl) (by kernel_rfl) v xT w
theorem noUnwrapE16 (v : Value) (xT : TypeId) (w : World) : (Instr.typeAssert (.iface 173 v) xT 136 true).run Tryz.prog w = .ok (.tuple #[.nilIface, .bool false]) w := run_typeAssert_lacksB Tryz.underlying136 (by kernel_rfl) (by kernel_rfl) v xT w
theorem noUnwrapsE16 (v : Value) (xT : TypeId) (w : World) : (Instr.typeAssert (.iface 173 v) xT 138 true).run Tryz.prog w = .ok (.tuple #[.nilIface, .bool false]) w := run_typeAssert_lacksB Tryz.underlying138 (by kernel_rfl) (by kernel_rfl) v xT w
theorem noIsW16 (v : Value) (xT : TypeId) (w : World) : (Instr.typeAssert (.iface 91 v) xT 141 true).run Tryz.prog w = .ok (.tuple #[.nilIface, .bool false]) w := run_typeAssert_lacksB Tryz.underlying141 (by kernel_rfl) (by kernel_rfl) v xT w
theorem hasUnwrapW16 (v : Value) (xT : TypeId) (w : World) : (Instr.typeAssert (.iface 91 v) xT 136 true).run Tryz.prog w = .ok (.tuple #[.iface 91 v, .bool true]) w := run_typeAssert_hasB Tryz.underlying136 (by kernel_rfl) v xT w
theorem methodUnwrap16 (v : Value) (w : World) : (Go.method 306 91 v "Unwrap").run Tryz.prog w = .ok (151, v) w := by kernel_rfl
theorem i_unwrap16 (pb : Nat) (k : Value) (w : World) (h : w.cell? ⟨pb, 0, none⟩ = some k) :
    Calls Tryz.prog 151 #[.pointer (some ⟨pb, 0, none⟩)] w fun e w' => e = .returned k ∧ w' = w := by
  go_enter Tryz.func151, Tryz.ntmps151
  go_wp2
  go_ret
  exact ⟨rfl, rfl⟩
theorem is_same16 (pb : Nat) (b : Addr) (w : World) (h1 : w.cell? ⟨pb, 0, none⟩ = some (.iface 173 (.pointer (some b)))) :
    Calls Tryz.prog 63 #[.iface 91 (.pointer (some ⟨pb, 0, none⟩)), .iface 173 (.pointer (some b))] w fun e w' => e = .returned (.bool true) ∧ w' = w := by
  obtain ⟨i, hi, hcmp⟩ := Option.map_eq_some_iff.1 isComp16
  obtain ⟨j, hj, hjs⟩ := Option.map_eq_some_iff.1 isSize16
  have h8 := @run_callFunc_extern Tryz.prog 95 _ Extern.ReflectliteType.typeOf Tryz.func95 (by kernel_rfl) (by kernel_rfl) (by kernel_rfl) (by kernel_rfl)
  have tT := isTypeOf16
  have cT := isComparable16
  have mR := isMethodComparable16
  have nE := noIsE16
  have uE := noUnwrapE16
  have vE := noUnwrapsE16
  have nW := noIsW16
  have uW := hasUnwrapW16
  have mU := methodUnwrap16
  have heq := run_eql_iface_ptr_same (P := Tryz.prog) w b Tryz.underlying67 Tryz.underlying173 hi hcmp hj
  have hty := run_eql_iface_types (P := Tryz.prog) 91 173 (.pointer (some ⟨pb, 0, none⟩)) (.pointer (some b)) Tryz.underlying67 (by decide) w
  go_enter Tryz.func63, Tryz.ntmps63
  go_wp2
  refine wp_loop_rounds 2 ?_
  rw [rounds_succ]
  go_wp2
  rw [rounds_succ]
  go_wp2
  go_ret
  exact ⟨rfl, rfl⟩
theorem is_other16 (pb : Nat) (a b : Addr) (ca cb : Array Value) (ta tb : TypeId) (w : World) (h1 : w.cell? ⟨pb, 0, none⟩ = some (.iface 173 (.pointer (some a)))) (hne : a ≠ b) (ha : w.heap[a.block]? = some (.cells ca ta (0, 0))) (hb : w.heap[b.block]? = some (.cells cb tb (0, 0))) :
    Calls Tryz.prog 63 #[.iface 91 (.pointer (some ⟨pb, 0, none⟩)), .iface 173 (.pointer (some b))] w fun e w' => e = .returned (.bool false) ∧ w' = w := by
  obtain ⟨i, hi, hcmp⟩ := Option.map_eq_some_iff.1 isComp16
  obtain ⟨j, hj, hjs⟩ := Option.map_eq_some_iff.1 isSize16
  have h8 := @run_callFunc_extern Tryz.prog 95 _ Extern.ReflectliteType.typeOf Tryz.func95 (by kernel_rfl) (by kernel_rfl) (by kernel_rfl) (by kernel_rfl)
  have tT := isTypeOf16
  have cT := isComparable16
  have mR := isMethodComparable16
  have nE := noIsE16
  have uE := noUnwrapE16
  have vE := noUnwrapsE16
  have nW := noIsW16
  have uW := hasUnwrapW16
  have mU := methodUnwrap16
  have heq := run_eql_iface_ptr_other (P := Tryz.prog) w Tryz.underlying67 Tryz.underlying173 hi hcmp hj (by rw [hjs]; decide) hne ha hb
  have hty := run_eql_iface_types (P := Tryz.prog) 91 173 (.pointer (some ⟨pb, 0, none⟩)) (.pointer (some b)) Tryz.underlying67 (by decide) w
  go_enter Tryz.func63, Tryz.ntmps63
  go_wp2
  refine wp_loop_rounds 2 ?_
  rw [rounds_succ]
  go_wp2
  rw [rounds_succ]
  go_wp2
  go_ret
  exact ⟨rfl, rfl⟩
end Go.Proofs.YtnficndeblkjhaaGreatDoor
