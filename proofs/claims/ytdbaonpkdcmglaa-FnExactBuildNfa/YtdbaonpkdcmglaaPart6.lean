/- The program's parts as values, and what a type switch and a method answer at them. -/
import Derived.Test.YtdbaonpkdcmglaaMemQ
import Derived.Test.YtdbaonpkdcmglaaPlain6b
namespace Go.Proofs.Ytdbaonpkdcmglaa
open Go.RowKit

/-- A tree as the program holds it: an interface value, part within part. -/
def pv : Re → Value
  | .non => .iface 144 (.agg #[])
  | .emp => .iface 126 (.agg #[])
  | .one n => .iface 134 (.agg #[.int .i64 n])
  | .any => .iface 136 (.agg #[])
  | .thn a b => .iface 130 (.agg #[pv a, pv b])
  | .alt a b => .iface 131 (.agg #[pv a, pv b])
  | .str a => .iface 128 (.agg #[pv a])
theorem pv_shape (t : Re) : ∃ T cs, pv t = .iface T (.agg cs) := by cases t <;> exact ⟨_, _, rfl⟩
theorem ta_non_non (v : Value) (w : World) : (Instr.typeAssert (.iface 144 v) 74 144 true).run Try.prog w = .ok (.tuple #[v, .bool true]) w := by kernel_rfl
theorem ta_non_emp (v : Value) (w : World) : (Instr.typeAssert (.iface 144 v) 74 126 true).run Try.prog w = .ok (.tuple #[.agg #[], .bool false]) w := by kernel_rfl
theorem ta_non_one (v : Value) (w : World) : (Instr.typeAssert (.iface 144 v) 74 134 true).run Try.prog w = .ok (.tuple #[.agg #[.int .i64 0], .bool false]) w := by kernel_rfl
theorem ta_non_any (v : Value) (w : World) : (Instr.typeAssert (.iface 144 v) 74 136 true).run Try.prog w = .ok (.tuple #[.agg #[], .bool false]) w := by kernel_rfl
theorem ta_non_thn (v : Value) (w : World) : (Instr.typeAssert (.iface 144 v) 74 130 true).run Try.prog w = .ok (.tuple #[.agg #[.nilIface, .nilIface], .bool false]) w := by kernel_rfl
theorem ta_non_alt (v : Value) (w : World) : (Instr.typeAssert (.iface 144 v) 74 131 true).run Try.prog w = .ok (.tuple #[.agg #[.nilIface, .nilIface], .bool false]) w := by kernel_rfl
theorem ta_non_str (v : Value) (w : World) : (Instr.typeAssert (.iface 144 v) 74 128 true).run Try.prog w = .ok (.tuple #[.agg #[.nilIface], .bool false]) w := by kernel_rfl
theorem ta_emp_non (v : Value) (w : World) : (Instr.typeAssert (.iface 126 v) 74 144 true).run Try.prog w = .ok (.tuple #[.agg #[], .bool false]) w := by kernel_rfl
theorem ta_emp_emp (v : Value) (w : World) : (Instr.typeAssert (.iface 126 v) 74 126 true).run Try.prog w = .ok (.tuple #[v, .bool true]) w := by kernel_rfl
theorem ta_emp_one (v : Value) (w : World) : (Instr.typeAssert (.iface 126 v) 74 134 true).run Try.prog w = .ok (.tuple #[.agg #[.int .i64 0], .bool false]) w := by kernel_rfl
theorem ta_emp_any (v : Value) (w : World) : (Instr.typeAssert (.iface 126 v) 74 136 true).run Try.prog w = .ok (.tuple #[.agg #[], .bool false]) w := by kernel_rfl
theorem ta_emp_thn (v : Value) (w : World) : (Instr.typeAssert (.iface 126 v) 74 130 true).run Try.prog w = .ok (.tuple #[.agg #[.nilIface, .nilIface], .bool false]) w := by kernel_rfl
theorem ta_emp_alt (v : Value) (w : World) : (Instr.typeAssert (.iface 126 v) 74 131 true).run Try.prog w = .ok (.tuple #[.agg #[.nilIface, .nilIface], .bool false]) w := by kernel_rfl
theorem ta_emp_str (v : Value) (w : World) : (Instr.typeAssert (.iface 126 v) 74 128 true).run Try.prog w = .ok (.tuple #[.agg #[.nilIface], .bool false]) w := by kernel_rfl
theorem ta_one_non (v : Value) (w : World) : (Instr.typeAssert (.iface 134 v) 74 144 true).run Try.prog w = .ok (.tuple #[.agg #[], .bool false]) w := by kernel_rfl
theorem ta_one_emp (v : Value) (w : World) : (Instr.typeAssert (.iface 134 v) 74 126 true).run Try.prog w = .ok (.tuple #[.agg #[], .bool false]) w := by kernel_rfl
theorem ta_one_one (v : Value) (w : World) : (Instr.typeAssert (.iface 134 v) 74 134 true).run Try.prog w = .ok (.tuple #[v, .bool true]) w := by kernel_rfl
theorem ta_one_any (v : Value) (w : World) : (Instr.typeAssert (.iface 134 v) 74 136 true).run Try.prog w = .ok (.tuple #[.agg #[], .bool false]) w := by kernel_rfl
theorem ta_one_thn (v : Value) (w : World) : (Instr.typeAssert (.iface 134 v) 74 130 true).run Try.prog w = .ok (.tuple #[.agg #[.nilIface, .nilIface], .bool false]) w := by kernel_rfl
theorem ta_one_alt (v : Value) (w : World) : (Instr.typeAssert (.iface 134 v) 74 131 true).run Try.prog w = .ok (.tuple #[.agg #[.nilIface, .nilIface], .bool false]) w := by kernel_rfl
theorem ta_one_str (v : Value) (w : World) : (Instr.typeAssert (.iface 134 v) 74 128 true).run Try.prog w = .ok (.tuple #[.agg #[.nilIface], .bool false]) w := by kernel_rfl
theorem ta_any_non (v : Value) (w : World) : (Instr.typeAssert (.iface 136 v) 74 144 true).run Try.prog w = .ok (.tuple #[.agg #[], .bool false]) w := by kernel_rfl
theorem ta_any_emp (v : Value) (w : World) : (Instr.typeAssert (.iface 136 v) 74 126 true).run Try.prog w = .ok (.tuple #[.agg #[], .bool false]) w := by kernel_rfl
theorem ta_any_one (v : Value) (w : World) : (Instr.typeAssert (.iface 136 v) 74 134 true).run Try.prog w = .ok (.tuple #[.agg #[.int .i64 0], .bool false]) w := by kernel_rfl
theorem ta_any_any (v : Value) (w : World) : (Instr.typeAssert (.iface 136 v) 74 136 true).run Try.prog w = .ok (.tuple #[v, .bool true]) w := by kernel_rfl
theorem ta_any_thn (v : Value) (w : World) : (Instr.typeAssert (.iface 136 v) 74 130 true).run Try.prog w = .ok (.tuple #[.agg #[.nilIface, .nilIface], .bool false]) w := by kernel_rfl
theorem ta_any_alt (v : Value) (w : World) : (Instr.typeAssert (.iface 136 v) 74 131 true).run Try.prog w = .ok (.tuple #[.agg #[.nilIface, .nilIface], .bool false]) w := by kernel_rfl
theorem ta_any_str (v : Value) (w : World) : (Instr.typeAssert (.iface 136 v) 74 128 true).run Try.prog w = .ok (.tuple #[.agg #[.nilIface], .bool false]) w := by kernel_rfl
theorem ta_thn_non (v : Value) (w : World) : (Instr.typeAssert (.iface 130 v) 74 144 true).run Try.prog w = .ok (.tuple #[.agg #[], .bool false]) w := by kernel_rfl
theorem ta_thn_emp (v : Value) (w : World) : (Instr.typeAssert (.iface 130 v) 74 126 true).run Try.prog w = .ok (.tuple #[.agg #[], .bool false]) w := by kernel_rfl
theorem ta_thn_one (v : Value) (w : World) : (Instr.typeAssert (.iface 130 v) 74 134 true).run Try.prog w = .ok (.tuple #[.agg #[.int .i64 0], .bool false]) w := by kernel_rfl
theorem ta_thn_any (v : Value) (w : World) : (Instr.typeAssert (.iface 130 v) 74 136 true).run Try.prog w = .ok (.tuple #[.agg #[], .bool false]) w := by kernel_rfl
theorem ta_thn_thn (v : Value) (w : World) : (Instr.typeAssert (.iface 130 v) 74 130 true).run Try.prog w = .ok (.tuple #[v, .bool true]) w := by kernel_rfl
theorem ta_thn_alt (v : Value) (w : World) : (Instr.typeAssert (.iface 130 v) 74 131 true).run Try.prog w = .ok (.tuple #[.agg #[.nilIface, .nilIface], .bool false]) w := by kernel_rfl
theorem ta_thn_str (v : Value) (w : World) : (Instr.typeAssert (.iface 130 v) 74 128 true).run Try.prog w = .ok (.tuple #[.agg #[.nilIface], .bool false]) w := by kernel_rfl
theorem ta_alt_non (v : Value) (w : World) : (Instr.typeAssert (.iface 131 v) 74 144 true).run Try.prog w = .ok (.tuple #[.agg #[], .bool false]) w := by kernel_rfl
theorem ta_alt_emp (v : Value) (w : World) : (Instr.typeAssert (.iface 131 v) 74 126 true).run Try.prog w = .ok (.tuple #[.agg #[], .bool false]) w := by kernel_rfl
theorem ta_alt_one (v : Value) (w : World) : (Instr.typeAssert (.iface 131 v) 74 134 true).run Try.prog w = .ok (.tuple #[.agg #[.int .i64 0], .bool false]) w := by kernel_rfl
theorem ta_alt_any (v : Value) (w : World) : (Instr.typeAssert (.iface 131 v) 74 136 true).run Try.prog w = .ok (.tuple #[.agg #[], .bool false]) w := by kernel_rfl
theorem ta_alt_thn (v : Value) (w : World) : (Instr.typeAssert (.iface 131 v) 74 130 true).run Try.prog w = .ok (.tuple #[.agg #[.nilIface, .nilIface], .bool false]) w := by kernel_rfl
theorem ta_alt_alt (v : Value) (w : World) : (Instr.typeAssert (.iface 131 v) 74 131 true).run Try.prog w = .ok (.tuple #[v, .bool true]) w := by kernel_rfl
theorem ta_alt_str (v : Value) (w : World) : (Instr.typeAssert (.iface 131 v) 74 128 true).run Try.prog w = .ok (.tuple #[.agg #[.nilIface], .bool false]) w := by kernel_rfl
theorem ta_str_non (v : Value) (w : World) : (Instr.typeAssert (.iface 128 v) 74 144 true).run Try.prog w = .ok (.tuple #[.agg #[], .bool false]) w := by kernel_rfl
theorem ta_str_emp (v : Value) (w : World) : (Instr.typeAssert (.iface 128 v) 74 126 true).run Try.prog w = .ok (.tuple #[.agg #[], .bool false]) w := by kernel_rfl
theorem ta_str_one (v : Value) (w : World) : (Instr.typeAssert (.iface 128 v) 74 134 true).run Try.prog w = .ok (.tuple #[.agg #[.int .i64 0], .bool false]) w := by kernel_rfl
theorem ta_str_any (v : Value) (w : World) : (Instr.typeAssert (.iface 128 v) 74 136 true).run Try.prog w = .ok (.tuple #[.agg #[], .bool false]) w := by kernel_rfl
theorem ta_str_thn (v : Value) (w : World) : (Instr.typeAssert (.iface 128 v) 74 130 true).run Try.prog w = .ok (.tuple #[.agg #[.nilIface, .nilIface], .bool false]) w := by kernel_rfl
theorem ta_str_alt (v : Value) (w : World) : (Instr.typeAssert (.iface 128 v) 74 131 true).run Try.prog w = .ok (.tuple #[.agg #[.nilIface, .nilIface], .bool false]) w := by kernel_rfl
theorem ta_str_str (v : Value) (w : World) : (Instr.typeAssert (.iface 128 v) 74 128 true).run Try.prog w = .ok (.tuple #[v, .bool true]) w := by kernel_rfl
theorem im_non (v : Value) (w : World) : (method 282 144 v "loop.example/g00344/impl.cell").run Try.prog w = .ok (138, v) w := by kernel_rfl
set_option maxRecDepth 100000 in
set_option maxHeartbeats 400000 in
theorem i_cell_non (w : World) : Calls Try.prog 138 #[.agg #[]] w fun e w' => e = .returned (.agg #[.int .i64 1, .int .i64 0]) ∧ Below w.heap.size w w' := by
  go_enter Try.func138, Try.ntmps138
  go_wp2_with fail
  exact bodyPost_ret (v := .agg #[.int .i64 1, .int .i64 0]) (by simp [results, Try.results138, go_sem]) rfl ⟨rfl, below_box2 (Below.refl _ _)⟩
theorem im_emp (v : Value) (w : World) : (method 282 126 v "loop.example/g00344/impl.cell").run Try.prog w = .ok (132, v) w := by kernel_rfl
set_option maxRecDepth 100000 in
set_option maxHeartbeats 400000 in
theorem i_cell_emp (w : World) : Calls Try.prog 132 #[.agg #[]] w fun e w' => e = .returned (.agg #[.int .i64 2, .int .i64 0]) ∧ Below w.heap.size w w' := by
  go_enter Try.func132, Try.ntmps132
  go_wp2_with fail
  exact bodyPost_ret (v := .agg #[.int .i64 2, .int .i64 0]) (by simp [results, Try.results132, go_sem]) rfl ⟨rfl, below_box2 (Below.refl _ _)⟩
theorem im_one (v : Value) (w : World) : (method 282 134 v "loop.example/g00344/impl.cell").run Try.prog w = .ok (136, v) w := by kernel_rfl
set_option maxRecDepth 100000 in
set_option maxHeartbeats 400000 in
theorem i_cell_one (n : Int) (w : World) : Calls Try.prog 136 #[.agg #[.int .i64 n]] w fun e w' => e = .returned (.agg #[.int .i64 3, .int .i64 n]) ∧ Below w.heap.size w w' := by
  go_enter Try.func136, Try.ntmps136
  go_wp2_with fail
  exact bodyPost_ret (v := .agg #[.int .i64 3, .int .i64 n]) (by simp [results, Try.results136, go_sem]) rfl ⟨rfl, below_box2 (Below.refl _ _)⟩
theorem im_any (v : Value) (w : World) : (method 282 136 v "loop.example/g00344/impl.cell").run Try.prog w = .ok (137, v) w := by kernel_rfl
set_option maxRecDepth 100000 in
set_option maxHeartbeats 400000 in
theorem i_cell_any (w : World) : Calls Try.prog 137 #[.agg #[]] w fun e w' => e = .returned (.agg #[.int .i64 4, .int .i64 0]) ∧ Below w.heap.size w w' := by
  go_enter Try.func137, Try.ntmps137
  go_wp2_with fail
  exact bodyPost_ret (v := .agg #[.int .i64 4, .int .i64 0]) (by simp [results, Try.results137, go_sem]) rfl ⟨rfl, below_box2 (Below.refl _ _)⟩
theorem im_thn (v : Value) (w : World) : (method 282 130 v "loop.example/g00344/impl.cell").run Try.prog w = .ok (134, v) w := by kernel_rfl
set_option maxRecDepth 100000 in
set_option maxHeartbeats 400000 in
theorem i_cell_thn (ta tb : TypeId) (ca cb : Array Value) (w : World) : Calls Try.prog 134 #[.agg #[.iface ta (.agg ca), .iface tb (.agg cb)]] w fun e w' => e = .returned (.agg #[.int .i64 5, .int .i64 0]) ∧ Below w.heap.size w w' := by
  go_enter Try.func134, Try.ntmps134
  go_wp2_with fail
  exact bodyPost_ret (v := .agg #[.int .i64 5, .int .i64 0]) (by simp [results, Try.results134, go_sem]) rfl ⟨rfl, below_box2 (Below.refl _ _)⟩
theorem im_alt (v : Value) (w : World) : (method 282 131 v "loop.example/g00344/impl.cell").run Try.prog w = .ok (135, v) w := by kernel_rfl
set_option maxRecDepth 100000 in
set_option maxHeartbeats 400000 in
theorem i_cell_alt (ta tb : TypeId) (ca cb : Array Value) (w : World) : Calls Try.prog 135 #[.agg #[.iface ta (.agg ca), .iface tb (.agg cb)]] w fun e w' => e = .returned (.agg #[.int .i64 6, .int .i64 0]) ∧ Below w.heap.size w w' := by
  go_enter Try.func135, Try.ntmps135
  go_wp2_with fail
  exact bodyPost_ret (v := .agg #[.int .i64 6, .int .i64 0]) (by simp [results, Try.results135, go_sem]) rfl ⟨rfl, below_box2 (Below.refl _ _)⟩
theorem im_str (v : Value) (w : World) : (method 282 128 v "loop.example/g00344/impl.cell").run Try.prog w = .ok (133, v) w := by kernel_rfl
set_option maxRecDepth 100000 in
set_option maxHeartbeats 400000 in
theorem i_cell_str (ta : TypeId) (ca : Array Value) (w : World) : Calls Try.prog 133 #[.agg #[.iface ta (.agg ca)]] w fun e w' => e = .returned (.agg #[.int .i64 7, .int .i64 0]) ∧ Below w.heap.size w w' := by
  go_enter Try.func133, Try.ntmps133
  go_wp2_with fail
  exact bodyPost_ret (v := .agg #[.int .i64 7, .int .i64 0]) (by simp [results, Try.results133, go_sem]) rfl ⟨rfl, below_box2 (Below.refl _ _)⟩
theorem fld_kind (x y : Int) (w : World) : (Instr.field 70 (.agg #[.int .i64 x, .int .i64 y]) 0).run Try.prog w = .ok (.int .i64 x) w := by kernel_rfl
set_option maxRecDepth 100000 in
set_option maxHeartbeats 3200000 in
theorem i_hasKind (t : Re) (k : Int) (w : World) : Calls Try.prog 111 #[pv t, .int .i64 k] w fun e w' => e = .returned (.bool (t.kind == k)) ∧ Below w.heap.size w w' := by
  cases t with
  | non =>
    have M := im_non
    have F0 := fld_kind
    simp only [pv]
    have s1 := hide (fun w => i_cell_non w)
    go_enter Try.func111, Try.ntmps111
    go_wp2_with fail
    refine (s1.out _).mono ?_
    rintro e w1 ⟨rfl, b1⟩
    go_wp2_with fail
    go_ret
    exact ⟨rfl, b1⟩
  | emp =>
    have M := im_emp
    have F0 := fld_kind
    simp only [pv]
    have s1 := hide (fun w => i_cell_emp w)
    go_enter Try.func111, Try.ntmps111
    go_wp2_with fail
    refine (s1.out _).mono ?_
    rintro e w1 ⟨rfl, b1⟩
    go_wp2_with fail
    go_ret
    exact ⟨rfl, b1⟩
  | one n =>
    have M := im_one
    have F0 := fld_kind
    simp only [pv]
    have s1 := hide (fun w => i_cell_one n w)
    go_enter Try.func111, Try.ntmps111
    go_wp2_with fail
    refine (s1.out _).mono ?_
    rintro e w1 ⟨rfl, b1⟩
    go_wp2_with fail
    go_ret
    exact ⟨rfl, b1⟩
  | any =>
    have M := im_any
    have F0 := fld_kind
    simp only [pv]
    have s1 := hide (fun w => i_cell_any w)
    go_enter Try.func111, Try.ntmps111
    go_wp2_with fail
    refine (s1.out _).mono ?_
    rintro e w1 ⟨rfl, b1⟩
    go_wp2_with fail
    go_ret
    exact ⟨rfl, b1⟩
  | thn a b =>
    have M := im_thn
    have F0 := fld_kind
    simp only [pv]
    obtain ⟨ta, ca, ea⟩ := pv_shape a
    obtain ⟨tb, cb, eb⟩ := pv_shape b
    rw [ea, eb]
    clear ea eb
    have s1 := hide (fun w => i_cell_thn ta tb ca cb w)
    go_enter Try.func111, Try.ntmps111
    go_wp2_with fail
    refine (s1.out _).mono ?_
    rintro e w1 ⟨rfl, b1⟩
    go_wp2_with fail
    go_ret
    exact ⟨rfl, b1⟩
  | alt a b =>
    have M := im_alt
    have F0 := fld_kind
    simp only [pv]
    obtain ⟨ta, ca, ea⟩ := pv_shape a
    obtain ⟨tb, cb, eb⟩ := pv_shape b
    rw [ea, eb]
    clear ea eb
    have s1 := hide (fun w => i_cell_alt ta tb ca cb w)
    go_enter Try.func111, Try.ntmps111
    go_wp2_with fail
    refine (s1.out _).mono ?_
    rintro e w1 ⟨rfl, b1⟩
    go_wp2_with fail
    go_ret
    exact ⟨rfl, b1⟩
  | str a =>
    have M := im_str
    have F0 := fld_kind
    simp only [pv]
    obtain ⟨ta, ca, ea⟩ := pv_shape a
    rw [ea]
    clear ea
    have s1 := hide (fun w => i_cell_str ta ca w)
    go_enter Try.func111, Try.ntmps111
    go_wp2_with fail
    refine (s1.out _).mono ?_
    rintro e w1 ⟨rfl, b1⟩
    go_wp2_with fail
    go_ret
    exact ⟨rfl, b1⟩
set_option maxRecDepth 100000 in
set_option maxHeartbeats 3200000 in
theorem i_te (t : Re) : ∀ w : World, Calls Try.prog 48 #[pv t] w fun e w' => e = .returned (.bool t.te) ∧ Below w.heap.size w w' := by
  induction t with
  | non =>
    intro w
    have t_emp := ta_non_emp
    have t_str := ta_non_str
    have t_thn := ta_non_thn
    have t_alt := ta_non_alt
    simp only [pv, Re.te]
    go_enter Try.func48, Try.ntmps48
    go_wp2_with fail
    go_ret
    exact ⟨rfl, Below.refl _ _⟩
  | emp =>
    intro w
    have t_emp := ta_emp_emp
    have t_str := ta_emp_str
    have t_thn := ta_emp_thn
    have t_alt := ta_emp_alt
    simp only [pv, Re.te]
    go_enter Try.func48, Try.ntmps48
    go_wp2_with fail
    go_ret
    exact ⟨rfl, Below.refl _ _⟩
  | one n =>
    intro w
    have t_emp := ta_one_emp
    have t_str := ta_one_str
    have t_thn := ta_one_thn
    have t_alt := ta_one_alt
    simp only [pv, Re.te]
    go_enter Try.func48, Try.ntmps48
    go_wp2_with fail
    go_ret
    exact ⟨rfl, Below.refl _ _⟩
  | any =>
    intro w
    have t_emp := ta_any_emp
    have t_str := ta_any_str
    have t_thn := ta_any_thn
    have t_alt := ta_any_alt
    simp only [pv, Re.te]
    go_enter Try.func48, Try.ntmps48
    go_wp2_with fail
    go_ret
    exact ⟨rfl, Below.refl _ _⟩
  | thn a b ha hb =>
    intro w
    have t_emp := ta_thn_emp
    have t_str := ta_thn_str
    have t_thn := ta_thn_thn
    have t_alt := ta_thn_alt
    simp only [pv, Re.te]
    have ia := hide ha
    have ib := hide hb
    clear ha hb
    obtain ⟨ta, ca, ea⟩ := pv_shape a
    obtain ⟨tb, cb, eb⟩ := pv_shape b
    rw [ea, eb]
    rw [ea] at ia
    rw [eb] at ib
    clear ea eb
    cases ga : a.te with
    | false =>
      rw [ga] at ia
      go_enter Try.func48, Try.ntmps48
      go_wp2_with fail
      refine (ia.out _).mono ?_
      rintro e w1 ⟨rfl, b1⟩
      go_wp2_with fail
      go_ret
      exact ⟨rfl, below_box b1⟩
    | true =>
      rw [ga] at ia
      go_enter Try.func48, Try.ntmps48
      go_wp2_with fail
      refine (ia.out _).mono ?_
      rintro e w1 ⟨rfl, b1⟩
      obtain ⟨hc, _⟩ := bcell b1
      go_wp2_with fail
      refine (ib.out _).mono ?_
      rintro e w2 ⟨rfl, b2⟩
      have d2 := below_box (below_step b1 b2)
      clear hc
      go_wp2_with fail
      go_ret
      exact ⟨rfl, d2⟩
  | alt a b ha hb =>
    intro w
    have t_emp := ta_alt_emp
    have t_str := ta_alt_str
    have t_thn := ta_alt_thn
    have t_alt := ta_alt_alt
    simp only [pv, Re.te]
    have ia := hide ha
    have ib := hide hb
    clear ha hb
    obtain ⟨ta, ca, ea⟩ := pv_shape a
    obtain ⟨tb, cb, eb⟩ := pv_shape b
    rw [ea, eb]
    rw [ea] at ia
    rw [eb] at ib
    clear ea eb
    cases ga : a.te with
    | true =>
      rw [ga] at ia
      go_enter Try.func48, Try.ntmps48
      go_wp2_with fail
      refine (ia.out _).mono ?_
      rintro e w1 ⟨rfl, b1⟩
      go_wp2_with fail
      go_ret
      exact ⟨rfl, below_box b1⟩
    | false =>
      rw [ga] at ia
      go_enter Try.func48, Try.ntmps48
      go_wp2_with fail
      refine (ia.out _).mono ?_
      rintro e w1 ⟨rfl, b1⟩
      obtain ⟨hc, _⟩ := bcell b1
      go_wp2_with fail
      refine (ib.out _).mono ?_
      rintro e w2 ⟨rfl, b2⟩
      have d2 := below_box (below_step b1 b2)
      clear hc
      go_wp2_with fail
      go_ret
      exact ⟨rfl, d2⟩
  | str a _ha =>
    intro w
    have t_emp := ta_str_emp
    have t_str := ta_str_str
    have t_thn := ta_str_thn
    have t_alt := ta_str_alt
    simp only [pv, Re.te]
    obtain ⟨ta, ca, ea⟩ := pv_shape a
    rw [ea]
    clear ea
    go_enter Try.func48, Try.ntmps48
    go_wp2_with fail
    go_ret
    exact ⟨rfl, Below.refl _ _⟩
end Go.Proofs.Ytdbaonpkdcmglaa
