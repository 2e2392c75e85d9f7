/- The program's parts as values, and what a type switch and a method answer at them. -/
import Derived.Test.YtocgghhlfmgndaaMemQ
import Derived.Test.YtocgghhlfmgndaaPlain6b
namespace Go.Proofs.Ytocgghhlfmgndaa
open Go.RowKit

/-- A tree as the program holds it: an interface value, part within part. -/
def pv : Re → Value
  | .non => .iface 231 (.agg #[])
  | .emp => .iface 204 (.agg #[])
  | .one n => .iface 207 (.agg #[.int .i64 n])
  | .any => .iface 209 (.agg #[])
  | .thn a b => .iface 211 (.agg #[pv a, pv b])
  | .alt a b => .iface 213 (.agg #[pv a, pv b])
  | .str a => .iface 215 (.agg #[pv a])
theorem pv_shape (t : Re) : ∃ T cs, pv t = .iface T (.agg cs) := by cases t <;> exact ⟨_, _, rfl⟩
theorem ta_non_non (v : Value) (w : World) : (Instr.typeAssert (.iface 231 v) 138 231 true).run Try.prog w = .ok (.tuple #[v, .bool true]) w := by kernel_rfl
theorem ta_non_emp (v : Value) (w : World) : (Instr.typeAssert (.iface 231 v) 138 204 true).run Try.prog w = .ok (.tuple #[.agg #[], .bool false]) w := by kernel_rfl
theorem ta_non_one (v : Value) (w : World) : (Instr.typeAssert (.iface 231 v) 138 207 true).run Try.prog w = .ok (.tuple #[.agg #[.int .i64 0], .bool false]) w := by kernel_rfl
theorem ta_non_any (v : Value) (w : World) : (Instr.typeAssert (.iface 231 v) 138 209 true).run Try.prog w = .ok (.tuple #[.agg #[], .bool false]) w := by kernel_rfl
theorem ta_non_thn (v : Value) (w : World) : (Instr.typeAssert (.iface 231 v) 138 211 true).run Try.prog w = .ok (.tuple #[.agg #[.nilIface, .nilIface], .bool false]) w := by kernel_rfl
theorem ta_non_alt (v : Value) (w : World) : (Instr.typeAssert (.iface 231 v) 138 213 true).run Try.prog w = .ok (.tuple #[.agg #[.nilIface, .nilIface], .bool false]) w := by kernel_rfl
theorem ta_non_str (v : Value) (w : World) : (Instr.typeAssert (.iface 231 v) 138 215 true).run Try.prog w = .ok (.tuple #[.agg #[.nilIface], .bool false]) w := by kernel_rfl
theorem ta_emp_non (v : Value) (w : World) : (Instr.typeAssert (.iface 204 v) 138 231 true).run Try.prog w = .ok (.tuple #[.agg #[], .bool false]) w := by kernel_rfl
theorem ta_emp_emp (v : Value) (w : World) : (Instr.typeAssert (.iface 204 v) 138 204 true).run Try.prog w = .ok (.tuple #[v, .bool true]) w := by kernel_rfl
theorem ta_emp_one (v : Value) (w : World) : (Instr.typeAssert (.iface 204 v) 138 207 true).run Try.prog w = .ok (.tuple #[.agg #[.int .i64 0], .bool false]) w := by kernel_rfl
theorem ta_emp_any (v : Value) (w : World) : (Instr.typeAssert (.iface 204 v) 138 209 true).run Try.prog w = .ok (.tuple #[.agg #[], .bool false]) w := by kernel_rfl
theorem ta_emp_thn (v : Value) (w : World) : (Instr.typeAssert (.iface 204 v) 138 211 true).run Try.prog w = .ok (.tuple #[.agg #[.nilIface, .nilIface], .bool false]) w := by kernel_rfl
theorem ta_emp_alt (v : Value) (w : World) : (Instr.typeAssert (.iface 204 v) 138 213 true).run Try.prog w = .ok (.tuple #[.agg #[.nilIface, .nilIface], .bool false]) w := by kernel_rfl
theorem ta_emp_str (v : Value) (w : World) : (Instr.typeAssert (.iface 204 v) 138 215 true).run Try.prog w = .ok (.tuple #[.agg #[.nilIface], .bool false]) w := by kernel_rfl
theorem ta_one_non (v : Value) (w : World) : (Instr.typeAssert (.iface 207 v) 138 231 true).run Try.prog w = .ok (.tuple #[.agg #[], .bool false]) w := by kernel_rfl
theorem ta_one_emp (v : Value) (w : World) : (Instr.typeAssert (.iface 207 v) 138 204 true).run Try.prog w = .ok (.tuple #[.agg #[], .bool false]) w := by kernel_rfl
theorem ta_one_one (v : Value) (w : World) : (Instr.typeAssert (.iface 207 v) 138 207 true).run Try.prog w = .ok (.tuple #[v, .bool true]) w := by kernel_rfl
theorem ta_one_any (v : Value) (w : World) : (Instr.typeAssert (.iface 207 v) 138 209 true).run Try.prog w = .ok (.tuple #[.agg #[], .bool false]) w := by kernel_rfl
theorem ta_one_thn (v : Value) (w : World) : (Instr.typeAssert (.iface 207 v) 138 211 true).run Try.prog w = .ok (.tuple #[.agg #[.nilIface, .nilIface], .bool false]) w := by kernel_rfl
theorem ta_one_alt (v : Value) (w : World) : (Instr.typeAssert (.iface 207 v) 138 213 true).run Try.prog w = .ok (.tuple #[.agg #[.nilIface, .nilIface], .bool false]) w := by kernel_rfl
theorem ta_one_str (v : Value) (w : World) : (Instr.typeAssert (.iface 207 v) 138 215 true).run Try.prog w = .ok (.tuple #[.agg #[.nilIface], .bool false]) w := by kernel_rfl
theorem ta_any_non (v : Value) (w : World) : (Instr.typeAssert (.iface 209 v) 138 231 true).run Try.prog w = .ok (.tuple #[.agg #[], .bool false]) w := by kernel_rfl
theorem ta_any_emp (v : Value) (w : World) : (Instr.typeAssert (.iface 209 v) 138 204 true).run Try.prog w = .ok (.tuple #[.agg #[], .bool false]) w := by kernel_rfl
theorem ta_any_one (v : Value) (w : World) : (Instr.typeAssert (.iface 209 v) 138 207 true).run Try.prog w = .ok (.tuple #[.agg #[.int .i64 0], .bool false]) w := by kernel_rfl
theorem ta_any_any (v : Value) (w : World) : (Instr.typeAssert (.iface 209 v) 138 209 true).run Try.prog w = .ok (.tuple #[v, .bool true]) w := by kernel_rfl
theorem ta_any_thn (v : Value) (w : World) : (Instr.typeAssert (.iface 209 v) 138 211 true).run Try.prog w = .ok (.tuple #[.agg #[.nilIface, .nilIface], .bool false]) w := by kernel_rfl
theorem ta_any_alt (v : Value) (w : World) : (Instr.typeAssert (.iface 209 v) 138 213 true).run Try.prog w = .ok (.tuple #[.agg #[.nilIface, .nilIface], .bool false]) w := by kernel_rfl
theorem ta_any_str (v : Value) (w : World) : (Instr.typeAssert (.iface 209 v) 138 215 true).run Try.prog w = .ok (.tuple #[.agg #[.nilIface], .bool false]) w := by kernel_rfl
theorem ta_thn_non (v : Value) (w : World) : (Instr.typeAssert (.iface 211 v) 138 231 true).run Try.prog w = .ok (.tuple #[.agg #[], .bool false]) w := by kernel_rfl
theorem ta_thn_emp (v : Value) (w : World) : (Instr.typeAssert (.iface 211 v) 138 204 true).run Try.prog w = .ok (.tuple #[.agg #[], .bool false]) w := by kernel_rfl
theorem ta_thn_one (v : Value) (w : World) : (Instr.typeAssert (.iface 211 v) 138 207 true).run Try.prog w = .ok (.tuple #[.agg #[.int .i64 0], .bool false]) w := by kernel_rfl
theorem ta_thn_any (v : Value) (w : World) : (Instr.typeAssert (.iface 211 v) 138 209 true).run Try.prog w = .ok (.tuple #[.agg #[], .bool false]) w := by kernel_rfl
theorem ta_thn_thn (v : Value) (w : World) : (Instr.typeAssert (.iface 211 v) 138 211 true).run Try.prog w = .ok (.tuple #[v, .bool true]) w := by kernel_rfl
theorem ta_thn_alt (v : Value) (w : World) : (Instr.typeAssert (.iface 211 v) 138 213 true).run Try.prog w = .ok (.tuple #[.agg #[.nilIface, .nilIface], .bool false]) w := by kernel_rfl
theorem ta_thn_str (v : Value) (w : World) : (Instr.typeAssert (.iface 211 v) 138 215 true).run Try.prog w = .ok (.tuple #[.agg #[.nilIface], .bool false]) w := by kernel_rfl
theorem ta_alt_non (v : Value) (w : World) : (Instr.typeAssert (.iface 213 v) 138 231 true).run Try.prog w = .ok (.tuple #[.agg #[], .bool false]) w := by kernel_rfl
theorem ta_alt_emp (v : Value) (w : World) : (Instr.typeAssert (.iface 213 v) 138 204 true).run Try.prog w = .ok (.tuple #[.agg #[], .bool false]) w := by kernel_rfl
theorem ta_alt_one (v : Value) (w : World) : (Instr.typeAssert (.iface 213 v) 138 207 true).run Try.prog w = .ok (.tuple #[.agg #[.int .i64 0], .bool false]) w := by kernel_rfl
theorem ta_alt_any (v : Value) (w : World) : (Instr.typeAssert (.iface 213 v) 138 209 true).run Try.prog w = .ok (.tuple #[.agg #[], .bool false]) w := by kernel_rfl
theorem ta_alt_thn (v : Value) (w : World) : (Instr.typeAssert (.iface 213 v) 138 211 true).run Try.prog w = .ok (.tuple #[.agg #[.nilIface, .nilIface], .bool false]) w := by kernel_rfl
theorem ta_alt_alt (v : Value) (w : World) : (Instr.typeAssert (.iface 213 v) 138 213 true).run Try.prog w = .ok (.tuple #[v, .bool true]) w := by kernel_rfl
theorem ta_alt_str (v : Value) (w : World) : (Instr.typeAssert (.iface 213 v) 138 215 true).run Try.prog w = .ok (.tuple #[.agg #[.nilIface], .bool false]) w := by kernel_rfl
theorem ta_str_non (v : Value) (w : World) : (Instr.typeAssert (.iface 215 v) 138 231 true).run Try.prog w = .ok (.tuple #[.agg #[], .bool false]) w := by kernel_rfl
theorem ta_str_emp (v : Value) (w : World) : (Instr.typeAssert (.iface 215 v) 138 204 true).run Try.prog w = .ok (.tuple #[.agg #[], .bool false]) w := by kernel_rfl
theorem ta_str_one (v : Value) (w : World) : (Instr.typeAssert (.iface 215 v) 138 207 true).run Try.prog w = .ok (.tuple #[.agg #[.int .i64 0], .bool false]) w := by kernel_rfl
theorem ta_str_any (v : Value) (w : World) : (Instr.typeAssert (.iface 215 v) 138 209 true).run Try.prog w = .ok (.tuple #[.agg #[], .bool false]) w := by kernel_rfl
theorem ta_str_thn (v : Value) (w : World) : (Instr.typeAssert (.iface 215 v) 138 211 true).run Try.prog w = .ok (.tuple #[.agg #[.nilIface, .nilIface], .bool false]) w := by kernel_rfl
theorem ta_str_alt (v : Value) (w : World) : (Instr.typeAssert (.iface 215 v) 138 213 true).run Try.prog w = .ok (.tuple #[.agg #[.nilIface, .nilIface], .bool false]) w := by kernel_rfl
theorem ta_str_str (v : Value) (w : World) : (Instr.typeAssert (.iface 215 v) 138 215 true).run Try.prog w = .ok (.tuple #[v, .bool true]) w := by kernel_rfl
theorem im_non (v : Value) (w : World) : (method 377 231 v "loop.example/g00344/impl.cell").run Try.prog w = .ok (221, v) w := by kernel_rfl
set_option maxRecDepth 100000 in
set_option maxHeartbeats 400000 in
theorem i_cell_non (w : World) : Calls Try.prog 221 #[.agg #[]] w fun e w' => e = .returned (.agg #[.int .i64 1, .int .i64 0]) ∧ Below w.heap.size w w' := by
  go_enter Try.func221, Try.ntmps221
  go_wp2_with fail
  exact bodyPost_ret (v := .agg #[.int .i64 1, .int .i64 0]) (by simp [results, Try.results221, go_sem]) rfl ⟨rfl, below_box2 (Below.refl _ _)⟩
theorem im_emp (v : Value) (w : World) : (method 377 204 v "loop.example/g00344/impl.cell").run Try.prog w = .ok (215, v) w := by kernel_rfl
set_option maxRecDepth 100000 in
set_option maxHeartbeats 400000 in
theorem i_cell_emp (w : World) : Calls Try.prog 215 #[.agg #[]] w fun e w' => e = .returned (.agg #[.int .i64 2, .int .i64 0]) ∧ Below w.heap.size w w' := by
  go_enter Try.func215, Try.ntmps215
  go_wp2_with fail
  exact bodyPost_ret (v := .agg #[.int .i64 2, .int .i64 0]) (by simp [results, Try.results215, go_sem]) rfl ⟨rfl, below_box2 (Below.refl _ _)⟩
theorem im_one (v : Value) (w : World) : (method 377 207 v "loop.example/g00344/impl.cell").run Try.prog w = .ok (216, v) w := by kernel_rfl
set_option maxRecDepth 100000 in
set_option maxHeartbeats 400000 in
theorem i_cell_one (n : Int) (w : World) : Calls Try.prog 216 #[.agg #[.int .i64 n]] w fun e w' => e = .returned (.agg #[.int .i64 3, .int .i64 n]) ∧ Below w.heap.size w w' := by
  go_enter Try.func216, Try.ntmps216
  go_wp2_with fail
  exact bodyPost_ret (v := .agg #[.int .i64 3, .int .i64 n]) (by simp [results, Try.results216, go_sem]) rfl ⟨rfl, below_box2 (Below.refl _ _)⟩
theorem im_any (v : Value) (w : World) : (method 377 209 v "loop.example/g00344/impl.cell").run Try.prog w = .ok (217, v) w := by kernel_rfl
set_option maxRecDepth 100000 in
set_option maxHeartbeats 400000 in
theorem i_cell_any (w : World) : Calls Try.prog 217 #[.agg #[]] w fun e w' => e = .returned (.agg #[.int .i64 4, .int .i64 0]) ∧ Below w.heap.size w w' := by
  go_enter Try.func217, Try.ntmps217
  go_wp2_with fail
  exact bodyPost_ret (v := .agg #[.int .i64 4, .int .i64 0]) (by simp [results, Try.results217, go_sem]) rfl ⟨rfl, below_box2 (Below.refl _ _)⟩
theorem im_thn (v : Value) (w : World) : (method 377 211 v "loop.example/g00344/impl.cell").run Try.prog w = .ok (218, v) w := by kernel_rfl
set_option maxRecDepth 100000 in
set_option maxHeartbeats 400000 in
theorem i_cell_thn (ta tb : TypeId) (ca cb : Array Value) (w : World) : Calls Try.prog 218 #[.agg #[.iface ta (.agg ca), .iface tb (.agg cb)]] w fun e w' => e = .returned (.agg #[.int .i64 5, .int .i64 0]) ∧ Below w.heap.size w w' := by
  go_enter Try.func218, Try.ntmps218
  go_wp2_with fail
  exact bodyPost_ret (v := .agg #[.int .i64 5, .int .i64 0]) (by simp [results, Try.results218, go_sem]) rfl ⟨rfl, below_box2 (Below.refl _ _)⟩
theorem im_alt (v : Value) (w : World) : (method 377 213 v "loop.example/g00344/impl.cell").run Try.prog w = .ok (219, v) w := by kernel_rfl
set_option maxRecDepth 100000 in
set_option maxHeartbeats 400000 in
theorem i_cell_alt (ta tb : TypeId) (ca cb : Array Value) (w : World) : Calls Try.prog 219 #[.agg #[.iface ta (.agg ca), .iface tb (.agg cb)]] w fun e w' => e = .returned (.agg #[.int .i64 6, .int .i64 0]) ∧ Below w.heap.size w w' := by
  go_enter Try.func219, Try.ntmps219
  go_wp2_with fail
  exact bodyPost_ret (v := .agg #[.int .i64 6, .int .i64 0]) (by simp [results, Try.results219, go_sem]) rfl ⟨rfl, below_box2 (Below.refl _ _)⟩
theorem im_str (v : Value) (w : World) : (method 377 215 v "loop.example/g00344/impl.cell").run Try.prog w = .ok (220, v) w := by kernel_rfl
set_option maxRecDepth 100000 in
set_option maxHeartbeats 400000 in
theorem i_cell_str (ta : TypeId) (ca : Array Value) (w : World) : Calls Try.prog 220 #[.agg #[.iface ta (.agg ca)]] w fun e w' => e = .returned (.agg #[.int .i64 7, .int .i64 0]) ∧ Below w.heap.size w w' := by
  go_enter Try.func220, Try.ntmps220
  go_wp2_with fail
  exact bodyPost_ret (v := .agg #[.int .i64 7, .int .i64 0]) (by simp [results, Try.results220, go_sem]) rfl ⟨rfl, below_box2 (Below.refl _ _)⟩
theorem fld_kind (x y : Int) (w : World) : (Instr.field 134 (.agg #[.int .i64 x, .int .i64 y]) 0).run Try.prog w = .ok (.int .i64 x) w := by kernel_rfl
set_option maxRecDepth 100000 in
set_option maxHeartbeats 3200000 in
theorem i_hasKind (t : Re) (k : Int) (w : World) : Calls Try.prog 186 #[pv t, .int .i64 k] w fun e w' => e = .returned (.bool (t.kind == k)) ∧ Below w.heap.size w w' := by
  cases t with
  | non =>
    have M := im_non
    have F0 := fld_kind
    simp only [pv]
    have s1 := hide (fun w => i_cell_non w)
    go_enter Try.func186, Try.ntmps186
    go_wp2_with fail
    refine (s1.out _).mono ?_
    rintro e w1 ⟨rfl, b1⟩
    go_wp2_with fail
    go_ret
    exact ⟨rfl, b1⟩
  | emp =>
    have M := im_emp
    have F0 := fld_kind
    simp only [pv]
    have s1 := hide (fun w => i_cell_emp w)
    go_enter Try.func186, Try.ntmps186
    go_wp2_with fail
    refine (s1.out _).mono ?_
    rintro e w1 ⟨rfl, b1⟩
    go_wp2_with fail
    go_ret
    exact ⟨rfl, b1⟩
  | one n =>
    have M := im_one
    have F0 := fld_kind
    simp only [pv]
    have s1 := hide (fun w => i_cell_one n w)
    go_enter Try.func186, Try.ntmps186
    go_wp2_with fail
    refine (s1.out _).mono ?_
    rintro e w1 ⟨rfl, b1⟩
    go_wp2_with fail
    go_ret
    exact ⟨rfl, b1⟩
  | any =>
    have M := im_any
    have F0 := fld_kind
    simp only [pv]
    have s1 := hide (fun w => i_cell_any w)
    go_enter Try.func186, Try.ntmps186
    go_wp2_with fail
    refine (s1.out _).mono ?_
    rintro e w1 ⟨rfl, b1⟩
    go_wp2_with fail
    go_ret
    exact ⟨rfl, b1⟩
  | thn a b =>
    have M := im_thn
    have F0 := fld_kind
    simp only [pv]
    obtain ⟨ta, ca, ea⟩ := pv_shape a
    obtain ⟨tb, cb, eb⟩ := pv_shape b
    rw [ea, eb]
    clear ea eb
    have s1 := hide (fun w => i_cell_thn ta tb ca cb w)
    go_enter Try.func186, Try.ntmps186
    go_wp2_with fail
    refine (s1.out _).mono ?_
    rintro e w1 ⟨rfl, b1⟩
    go_wp2_with fail
    go_ret
    exact ⟨rfl, b1⟩
  | alt a b =>
    have M := im_alt
    have F0 := fld_kind
    simp only [pv]
    obtain ⟨ta, ca, ea⟩ := pv_shape a
    obtain ⟨tb, cb, eb⟩ := pv_shape b
    rw [ea, eb]
    clear ea eb
    have s1 := hide (fun w => i_cell_alt ta tb ca cb w)
    go_enter Try.func186, Try.ntmps186
    go_wp2_with fail
    refine (s1.out _).mono ?_
    rintro e w1 ⟨rfl, b1⟩
    go_wp2_with fail
    go_ret
    exact ⟨rfl, b1⟩
  | str a =>
    have M := im_str
    have F0 := fld_kind
    simp only [pv]
    obtain ⟨ta, ca, ea⟩ := pv_shape a
    rw [ea]
    clear ea
    have s1 := hide (fun w => i_cell_str ta ca w)
    go_enter Try.func186, Try.ntmps186
    go_wp2_with fail
    refine (s1.out _).mono ?_
    rintro e w1 ⟨rfl, b1⟩
    go_wp2_with fail
    go_ret
    exact ⟨rfl, b1⟩
set_option maxRecDepth 100000 in
set_option maxHeartbeats 3200000 in
theorem i_te (t : Re) : ∀ w : World, Calls Try.prog 108 #[pv t] w fun e w' => e = .returned (.bool t.te) ∧ Below w.heap.size w w' := by
  induction t with
  | non =>
    intro w
    have t_emp := ta_non_emp
    have t_str := ta_non_str
    have t_thn := ta_non_thn
    have t_alt := ta_non_alt
    simp only [pv, Re.te]
    go_enter Try.func108, Try.ntmps108
    go_wp2_with fail
    go_ret
    exact ⟨rfl, Below.refl _ _⟩
  | emp =>
    intro w
    have t_emp := ta_emp_emp
    have t_str := ta_emp_str
    have t_thn := ta_emp_thn
    have t_alt := ta_emp_alt
    simp only [pv, Re.te]
    go_enter Try.func108, Try.ntmps108
    go_wp2_with fail
    go_ret
    exact ⟨rfl, Below.refl _ _⟩
  | one n =>
    intro w
    have t_emp := ta_one_emp
    have t_str := ta_one_str
    have t_thn := ta_one_thn
    have t_alt := ta_one_alt
    simp only [pv, Re.te]
    go_enter Try.func108, Try.ntmps108
    go_wp2_with fail
    go_ret
    exact ⟨rfl, Below.refl _ _⟩
  | any =>
    intro w
    have t_emp := ta_any_emp
    have t_str := ta_any_str
    have t_thn := ta_any_thn
    have t_alt := ta_any_alt
    simp only [pv, Re.te]
    go_enter Try.func108, Try.ntmps108
    go_wp2_with fail
    go_ret
    exact ⟨rfl, Below.refl _ _⟩
  | thn a b ha hb =>
    intro w
    have t_emp := ta_thn_emp
    have t_str := ta_thn_str
    have t_thn := ta_thn_thn
    have t_alt := ta_thn_alt
    simp only [pv, Re.te]
    have ia := hide ha
    have ib := hide hb
    clear ha hb
    obtain ⟨ta, ca, ea⟩ := pv_shape a
    obtain ⟨tb, cb, eb⟩ := pv_shape b
    rw [ea, eb]
    rw [ea] at ia
    rw [eb] at ib
    clear ea eb
    cases ga : a.te with
    | false =>
      rw [ga] at ia
      go_enter Try.func108, Try.ntmps108
      go_wp2_with fail
      refine (ia.out _).mono ?_
      rintro e w1 ⟨rfl, b1⟩
      go_wp2_with fail
      go_ret
      exact ⟨rfl, below_box b1⟩
    | true =>
      rw [ga] at ia
      go_enter Try.func108, Try.ntmps108
      go_wp2_with fail
      refine (ia.out _).mono ?_
      rintro e w1 ⟨rfl, b1⟩
      obtain ⟨hc, _⟩ := bcell b1
      go_wp2_with fail
      refine (ib.out _).mono ?_
      rintro e w2 ⟨rfl, b2⟩
      have d2 := below_box (below_step b1 b2)
      clear hc
      go_wp2_with fail
      go_ret
      exact ⟨rfl, d2⟩
  | alt a b ha hb =>
    intro w
    have t_emp := ta_alt_emp
    have t_str := ta_alt_str
    have t_thn := ta_alt_thn
    have t_alt := ta_alt_alt
    simp only [pv, Re.te]
    have ia := hide ha
    have ib := hide hb
    clear ha hb
    obtain ⟨ta, ca, ea⟩ := pv_shape a
    obtain ⟨tb, cb, eb⟩ := pv_shape b
    rw [ea, eb]
    rw [ea] at ia
    rw [eb] at ib
    clear ea eb
    cases ga : a.te with
    | true =>
      rw [ga] at ia
      go_enter Try.func108, Try.ntmps108
      go_wp2_with fail
      refine (ia.out _).mono ?_
      rintro e w1 ⟨rfl, b1⟩
      go_wp2_with fail
      go_ret
      exact ⟨rfl, below_box b1⟩
    | false =>
      rw [ga] at ia
      go_enter Try.func108, Try.ntmps108
      go_wp2_with fail
      refine (ia.out _).mono ?_
      rintro e w1 ⟨rfl, b1⟩
      obtain ⟨hc, _⟩ := bcell b1
      go_wp2_with fail
      refine (ib.out _).mono ?_
      rintro e w2 ⟨rfl, b2⟩
      have d2 := below_box (below_step b1 b2)
      clear hc
      go_wp2_with fail
      go_ret
      exact ⟨rfl, d2⟩
  | str a _ha =>
    intro w
    have t_emp := ta_str_emp
    have t_str := ta_str_str
    have t_thn := ta_str_thn
    have t_alt := ta_str_alt
    simp only [pv, Re.te]
    obtain ⟨ta, ca, ea⟩ := pv_shape a
    rw [ea]
    clear ea
    go_enter Try.func108, Try.ntmps108
    go_wp2_with fail
    go_ret
    exact ⟨rfl, Below.refl _ _⟩
end Go.Proofs.Ytocgghhlfmgndaa
