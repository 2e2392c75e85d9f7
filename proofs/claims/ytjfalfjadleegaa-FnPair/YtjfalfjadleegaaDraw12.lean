/- What the specification's cursor draws as events. -/
import Derived.Test.YtjfalfjadleegaaDrawOne
import Derived.Test.YtjfalfjadleegaaMemW
import Derived.Test.YtjfalfjadleegaaFlatEvent
import Derived.Test.YtjfalfjadleegaaPlain12
import Derived.Deep.DeepCutAuto
import Derived.Deep.CutRange
namespace Go.Proofs.Ytjfalfjadleegaa
open Go.RowKit

theorem own_only12 {e : TypeId} {m n base c : Nat} {v : Value} {xs : List Value} {w w' : World} (h : OwnW e m base v n xs w) (k : Only c w w') (hc : c < base) : OwnW e m base v n xs w' :=
  ownW_only h k (fun q => by have := (ownW_lt h q).1; omega)
theorem only_base12 {c : Nat} {w x y : World} (h : Only c w x) (k : Below w.heap.size x y) : Only c w y :=
  ⟨k.os.trans h.1, k.tape.trans h.2.1, k.output.trans h.2.2.1, Nat.le_trans h.2.2.2.1 k.size, fun i hi hn => (k.block i hi).trans (h.2.2.2.2 i hi hn)⟩
theorem cur_grown12 {c n base : Nat} {e : TypeId} {m q : Nat} {v u : Value} {xs : List Value} {w w' : World} (h : Cur c v n w) (ho : OwnW e m base u q xs w) (hc : c < base) (k : w.grownBy w' u.ownBlock) : Cur c v n w' := by
  obtain ⟨p, s, h0, h1, hcw, c0, c1, c2, hs, f0, f1, f2⟩ := h
  have hb := k.block c hcw (fun e => by have := (ownW_lt ho e.symm).1; omega)
  have hc' : ∀ o, w'.cell? ⟨c, o, none⟩ = w.cell? ⟨c, o, none⟩ := fun o => World.cell?_of_block (w := w) hb
  have hf' : ∀ o, w'.frozen? ⟨c, o, none⟩ = w.frozen? ⟨c, o, none⟩ := fun o => World.frozen?_of_block (w := w) hb
  exact ⟨p, s, h0, h1, Nat.lt_of_lt_of_le hcw k.size, (hc' _).trans c0, (hc' _).trans c1, (hc' _).trans c2, hs, (hf' _).trans f0, (hf' _).trans f1, (hf' _).trans f2⟩
/-- Cells that hold whole numbers. -/
def IntD (xs : List Value) : Prop := ∀ u ∈ xs, ∃ z : Int, u = .int .i64 z
theorem IntD.nil : IntD [] := fun u hu => by simp at hu
theorem IntD.app {xs ys : List Value} (h : IntD xs) (k : IntD ys) : IntD (xs ++ ys) := fun u hu => (List.mem_append.1 hu).elim (h u) (k u)
theorem IntD.two (x y : Int) : IntD [.int .i64 x, .int .i64 y] := fun u hu => by
  simp only [List.mem_cons, List.not_mem_nil, or_false] at hu
  rcases hu with h | h
  · exact ⟨x, h⟩
  · exact ⟨y, h⟩
theorem IntD.four (x y z t : Int) : IntD [.int .i64 x, .int .i64 y, .int .i64 z, .int .i64 t] := (IntD.two x y).app (IntD.two z t)
theorem IntD.one' {xs : List Value} (h : IntD xs) : ∀ u ∈ xs, u.oneCell' = true := fun u hu => by
  obtain ⟨z, rfl⟩ := h u hu
  rfl
noncomputable def nAt (xs : List Value) (i : Nat) : Int := match xs[i]? with | some (.int _ z) => z | _ => 0
theorem IntD.at {xs : List Value} (h : IntD xs) {i : Nat} (hi : i < xs.length) : xs[i]? = some (.int .i64 (nAt xs i)) := by
  obtain ⟨z, e⟩ := h xs[i] (List.getElem_mem hi)
  have e2 : xs[i]? = some (.int .i64 z) := by rw [List.getElem?_eq_getElem hi, e]
  simp [nAt, e2]
theorem nums12_3 (w : World) (t : TypeId) (z0 z1 z2 : Int) : NumsAt w.heap.size 0 3 (fun _ => True) (w.alloc (.cells #[.int .i64 z0, .int .i64 z1, .int .i64 z2] t)) := by
  refine ⟨by simp, fun j hj => ?_⟩
  obtain rfl | rfl | rfl : j = 0 ∨ j = 1 ∨ j = 2 := by omega
  all_goals exact ⟨_, by simp [go_sem]; rfl, trivial⟩
theorem nums12_4 (w : World) (t : TypeId) (z0 z1 z2 z3 : Int) : NumsAt w.heap.size 0 4 (fun _ => True) (w.alloc (.cells #[.int .i64 z0, .int .i64 z1, .int .i64 z2, .int .i64 z3] t)) := by
  refine ⟨by simp, fun j hj => ?_⟩
  obtain rfl | rfl | rfl | rfl : j = 0 ∨ j = 1 ∨ j = 2 ∨ j = 3 := by omega
  all_goals exact ⟨_, by simp [go_sem]; rfl, trivial⟩
theorem nums12_5 (w : World) (t : TypeId) (z0 z1 z2 z3 z4 : Int) : NumsAt w.heap.size 0 5 (fun _ => True) (w.alloc (.cells #[.int .i64 z0, .int .i64 z1, .int .i64 z2, .int .i64 z3, .int .i64 z4] t)) := by
  refine ⟨by simp, fun j hj => ?_⟩
  obtain rfl | rfl | rfl | rfl | rfl : j = 0 ∨ j = 1 ∨ j = 2 ∨ j = 3 ∨ j = 4 := by omega
  all_goals exact ⟨_, by simp [go_sem]; rfl, trivial⟩
theorem nums12_6 (w : World) (t : TypeId) (z0 z1 z2 z3 z4 z5 : Int) : NumsAt w.heap.size 0 6 (fun _ => True) (w.alloc (.cells #[.int .i64 z0, .int .i64 z1, .int .i64 z2, .int .i64 z3, .int .i64 z4, .int .i64 z5] t)) := by
  refine ⟨by simp, fun j hj => ?_⟩
  obtain rfl | rfl | rfl | rfl | rfl | rfl : j = 0 ∨ j = 1 ∨ j = 2 ∨ j = 3 ∨ j = 4 ∨ j = 5 := by omega
  all_goals exact ⟨_, by simp [go_sem]; rfl, trivial⟩
theorem nums12_7 (w : World) (t : TypeId) (z0 z1 z2 z3 z4 z5 z6 : Int) : NumsAt w.heap.size 0 7 (fun _ => True) (w.alloc (.cells #[.int .i64 z0, .int .i64 z1, .int .i64 z2, .int .i64 z3, .int .i64 z4, .int .i64 z5, .int .i64 z6] t)) := by
  refine ⟨by simp, fun j hj => ?_⟩
  obtain rfl | rfl | rfl | rfl | rfl | rfl | rfl : j = 0 ∨ j = 1 ∨ j = 2 ∨ j = 3 ∨ j = 4 ∨ j = 5 ∨ j = 6 := by omega
  all_goals exact ⟨_, by simp [go_sem]; rfl, trivial⟩
theorem nums12_12 (w : World) (t : TypeId) (z0 z1 z2 z3 z4 z5 z6 z7 z8 z9 z10 z11 : Int) : NumsAt w.heap.size 0 12 (fun _ => True) (w.alloc (.cells #[.int .i64 z0, .int .i64 z1, .int .i64 z2, .int .i64 z3, .int .i64 z4, .int .i64 z5, .int .i64 z6, .int .i64 z7, .int .i64 z8, .int .i64 z9, .int .i64 z10, .int .i64 z11] t)) := by
  refine ⟨by simp, fun j hj => ?_⟩
  obtain rfl | rfl | rfl | rfl | rfl | rfl | rfl | rfl | rfl | rfl | rfl | rfl : j = 0 ∨ j = 1 ∨ j = 2 ∨ j = 3 ∨ j = 4 ∨ j = 5 ∨ j = 6 ∨ j = 7 ∨ j = 8 ∨ j = 9 ∨ j = 10 ∨ j = 11 := by omega
  all_goals exact ⟨_, by simp [go_sem]; rfl, trivial⟩
end Go.Proofs.Ytjfalfjadleegaa
