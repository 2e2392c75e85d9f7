/- The program's parts as values, and what a type switch and a method answer at them. -/
import Derived.Test.YtflakkbodbnndaaMemQ
import Derived.Test.YtflakkbodbnndaaPlain6b
namespace Go.Proofs.Ytflakkbodbnndaa
open Go.RowKit

/-- A tree as the program holds it: an interface value, part within part. -/
def pv : Re → Value
  | .non => .iface 162 (.agg #[])
  | .emp => .iface 163 (.agg #[])
  | .one n => .iface 165 (.agg #[.int .i64 n])
  | .any => .iface 166 (.agg #[])
  | .thn a b => .iface 170 (.agg #[pv a, pv b])
  | .alt a b => .iface 171 (.agg #[pv a, pv b])
  | .str a => .iface 173 (.agg #[pv a])
theorem pv_shape (t : Re) : ∃ T cs, pv t = .iface T (.agg cs) := by cases t <;> exact ⟨_, _, rfl⟩
theorem ta_non_non (v : Value) (w : World) : (Instr.typeAssert (.iface 162 v) 149 162 true).run Try.prog w = .ok (.tuple #[v, .bool true]) w := by kernel_rfl
theorem ta_non_emp (v : Value) (w : World) : (Instr.typeAssert (.iface 162 v) 149 163 true).run Try.prog w = .ok (.tuple #[.agg #[], .bool false]) w := by kernel_rfl
theorem ta_non_one (v : Value) (w : World) : (Instr.typeAssert (.iface 162 v) 149 165 true).run Try.prog w = .ok (.tuple #[.agg #[.int .i64 0], .bool false]) w := by kernel_rfl
theorem ta_non_any (v : Value) (w : World) : (Instr.typeAssert (.iface 162 v) 149 166 true).run Try.prog w = .ok (.tuple #[.agg #[], .bool false]) w := by kernel_rfl
theorem ta_non_thn (v : Value) (w : World) : (Instr.typeAssert (.iface 162 v) 149 170 true).run Try.prog w = .ok (.tuple #[.agg #[.nilIface, .nilIface], .bool false]) w := by kernel_rfl
theorem ta_non_alt (v : Value) (w : World) : (Instr.typeAssert (.iface 162 v) 149 171 true).run Try.prog w = .ok (.tuple #[.agg #[.nilIface, .nilIface], .bool false]) w := by kernel_rfl
theorem ta_non_str (v : Value) (w : World) : (Instr.typeAssert (.iface 162 v) 149 173 true).run Try.prog w = .ok (.tuple #[.agg #[.nilIface], .bool false]) w := by kernel_rfl
theorem ta_emp_non (v : Value) (w : World) : (Instr.typeAssert (.iface 163 v) 149 162 true).run Try.prog w = .ok (.tuple #[.agg #[], .bool false]) w := by kernel_rfl
theorem ta_emp_emp (v : Value) (w : World) : (Instr.typeAssert (.iface 163 v) 149 163 true).run Try.prog w = .ok (.tuple #[v, .bool true]) w := by kernel_rfl
theorem ta_emp_one (v : Value) (w : World) : (Instr.typeAssert (.iface 163 v) 149 165 true).run Try.prog w = .ok (.tuple #[.agg #[.int .i64 0], .bool false]) w := by kernel_rfl
theorem ta_emp_any (v : Value) (w : World) : (Instr.typeAssert (.iface 163 v) 149 166 true).run Try.prog w = .ok (.tuple #[.agg #[], .bool false]) w := by kernel_rfl
theorem ta_emp_thn (v : Value) (w : World) : (Instr.typeAssert (.iface 163 v) 149 170 true).run Try.prog w = .ok (.tuple #[.agg #[.nilIface, .nilIface], .bool false]) w := by kernel_rfl
theorem ta_emp_alt (v : Value) (w : World) : (Instr.typeAssert (.iface 163 v) 149 171 true).run Try.prog w = .ok (.tuple #[.agg #[.nilIface, .nilIface], .bool false]) w := by kernel_rfl
theorem ta_emp_str (v : Value) (w : World) : (Instr.typeAssert (.iface 163 v) 149 173 true).run Try.prog w = .ok (.tuple #[.agg #[.nilIface], .bool false]) w := by kernel_rfl
theorem ta_one_non (v : Value) (w : World) : (Instr.typeAssert (.iface 165 v) 149 162 true).run Try.prog w = .ok (.tuple #[.agg #[], .bool false]) w := by kernel_rfl
theorem ta_one_emp (v : Value) (w : World) : (Instr.typeAssert (.iface 165 v) 149 163 true).run Try.prog w = .ok (.tuple #[.agg #[], .bool false]) w := by kernel_rfl
theorem ta_one_one (v : Value) (w : World) : (Instr.typeAssert (.iface 165 v) 149 165 true).run Try.prog w = .ok (.tuple #[v, .bool true]) w := by kernel_rfl
theorem ta_one_any (v : Value) (w : World) : (Instr.typeAssert (.iface 165 v) 149 166 true).run Try.prog w = .ok (.tuple #[.agg #[], .bool false]) w := by kernel_rfl
theorem ta_one_thn (v : Value) (w : World) : (Instr.typeAssert (.iface 165 v) 149 170 true).run Try.prog w = .ok (.tuple #[.agg #[.nilIface, .nilIface], .bool false]) w := by kernel_rfl
theorem ta_one_alt (v : Value) (w : World) : (Instr.typeAssert (.iface 165 v) 149 171 true).run Try.prog w = .ok (.tuple #[.agg #[.nilIface, .nilIface], .bool false]) w := by kernel_rfl
theorem ta_one_str (v : Value) (w : World) : (Instr.typeAssert (.iface 165 v) 149 173 true).run Try.prog w = .ok (.tuple #[.agg #[.nilIface], .bool false]) w := by kernel_rfl
theorem ta_any_non (v : Value) (w : World) : (Instr.typeAssert (.iface 166 v) 149 162 true).run Try.prog w = .ok (.tuple #[.agg #[], .bool false]) w := by kernel_rfl
theorem ta_any_emp (v : Value) (w : World) : (Instr.typeAssert (.iface 166 v) 149 163 true).run Try.prog w = .ok (.tuple #[.agg #[], .bool false]) w := by kernel_rfl
theorem ta_any_one (v : Value) (w : World) : (Instr.typeAssert (.iface 166 v) 149 165 true).run Try.prog w = .ok (.tuple #[.agg #[.int .i64 0], .bool false]) w := by kernel_rfl
theorem ta_any_any (v : Value) (w : World) : (Instr.typeAssert (.iface 166 v) 149 166 true).run Try.prog w = .ok (.tuple #[v, .bool true]) w := by kernel_rfl
theorem ta_any_thn (v : Value) (w : World) : (Instr.typeAssert (.iface 166 v) 149 170 true).run Try.prog w = .ok (.tuple #[.agg #[.nilIface, .nilIface], .bool false]) w := by kernel_rfl
theorem ta_any_alt (v : Value) (w : World) : (Instr.typeAssert (.iface 166 v) 149 171 true).run Try.prog w = .ok (.tuple #[.agg #[.nilIface, .nilIface], .bool false]) w := by kernel_rfl
theorem ta_any_str (v : Value) (w : World) : (Instr.typeAssert (.iface 166 v) 149 173 true).run Try.prog w = .ok (.tuple #[.agg #[.nilIface], .bool false]) w := by kernel_rfl
theorem ta_thn_non (v : Value) (w : World) : (Instr.typeAssert (.iface 170 v) 149 162 true).run Try.prog w = .ok (.tuple #[.agg #[], .bool false]) w := by kernel_rfl
theorem ta_thn_emp (v : Value) (w : World) : (Instr.typeAssert (.iface 170 v) 149 163 true).run Try.prog w = .ok (.tuple #[.agg #[], .bool false]) w := by kernel_rfl
theorem ta_thn_one (v : Value) (w : World) : (Instr.typeAssert (.iface 170 v) 149 165 true).run Try.prog w = .ok (.tuple #[.agg #[.int .i64 0], .bool false]) w := by kernel_rfl
theorem ta_thn_any (v : Value) (w : World) : (Instr.typeAssert (.iface 170 v) 149 166 true).run Try.prog w = .ok (.tuple #[.agg #[], .bool false]) w := by kernel_rfl
theorem ta_thn_thn (v : Value) (w : World) : (Instr.typeAssert (.iface 170 v) 149 170 true).run Try.prog w = .ok (.tuple #[v, .bool true]) w := by kernel_rfl
theorem ta_thn_alt (v : Value) (w : World) : (Instr.typeAssert (.iface 170 v) 149 171 true).run Try.prog w = .ok (.tuple #[.agg #[.nilIface, .nilIface], .bool false]) w := by kernel_rfl
theorem ta_thn_str (v : Value) (w : World) : (Instr.typeAssert (.iface 170 v) 149 173 true).run Try.prog w = .ok (.tuple #[.agg #[.nilIface], .bool false]) w := by kernel_rfl
theorem ta_alt_non (v : Value) (w : World) : (Instr.typeAssert (.iface 171 v) 149 162 true).run Try.prog w = .ok (.tuple #[.agg #[], .bool false]) w := by kernel_rfl
theorem ta_alt_emp (v : Value) (w : World) : (Instr.typeAssert (.iface 171 v) 149 163 true).run Try.prog w = .ok (.tuple #[.agg #[], .bool false]) w := by kernel_rfl
theorem ta_alt_one (v : Value) (w : World) : (Instr.typeAssert (.iface 171 v) 149 165 true).run Try.prog w = .ok (.tuple #[.agg #[.int .i64 0], .bool false]) w := by kernel_rfl
theorem ta_alt_any (v : Value) (w : World) : (Instr.typeAssert (.iface 171 v) 149 166 true).run Try.prog w = .ok (.tuple #[.agg #[], .bool false]) w := by kernel_rfl
theorem ta_alt_thn (v : Value) (w : World) : (Instr.typeAssert (.iface 171 v) 149 170 true).run Try.prog w = .ok (.tuple #[.agg #[.nilIface, .nilIface], .bool false]) w := by kernel_rfl
theorem ta_alt_alt (v : Value) (w : World) : (Instr.typeAssert (.iface 171 v) 149 171 true).run Try.prog w = .ok (.tuple #[v, .bool true]) w := by kernel_rfl
theorem ta_alt_str (v : Value) (w : World) : (Instr.typeAssert (.iface 171 v) 149 173 true).run Try.prog w = .ok (.tuple #[.agg #[.nilIface], .bool false]) w := by kernel_rfl
theorem ta_str_non (v : Value) (w : World) : (Instr.typeAssert (.iface 173 v) 149 162 true).run Try.prog w = .ok (.tuple #[.agg #[], .bool false]) w := by kernel_rfl
theorem ta_str_emp (v : Value) (w : World) : (Instr.typeAssert (.iface 173 v) 149 163 true).run Try.prog w = .ok (.tuple #[.agg #[], .bool false]) w := by kernel_rfl
theorem ta_str_one (v : Value) (w : World) : (Instr.typeAssert (.iface 173 v) 149 165 true).run Try.prog w = .ok (.tuple #[.agg #[.int .i64 0], .bool false]) w := by kernel_rfl
theorem ta_str_any (v : Value) (w : World) : (Instr.typeAssert (.iface 173 v) 149 166 true).run Try.prog w = .ok (.tuple #[.agg #[], .bool false]) w := by kernel_rfl
theorem ta_str_thn (v : Value) (w : World) : (Instr.typeAssert (.iface 173 v) 149 170 true).run Try.prog w = .ok (.tuple #[.agg #[.nilIface, .nilIface], .bool false]) w := by kernel_rfl
theorem ta_str_alt (v : Value) (w : World) : (Instr.typeAssert (.iface 173 v) 149 171 true).run Try.prog w = .ok (.tuple #[.agg #[.nilIface, .nilIface], .bool false]) w := by kernel_rfl
theorem ta_str_str (v : Value) (w : World) : (Instr.typeAssert (.iface 173 v) 149 173 true).run Try.prog w = .ok (.tuple #[v, .bool true]) w := by kernel_rfl
end Go.Proofs.Ytflakkbodbnndaa
