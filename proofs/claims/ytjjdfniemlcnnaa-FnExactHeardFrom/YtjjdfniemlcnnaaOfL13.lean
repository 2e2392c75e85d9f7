/- An offer as an answer: of its own, in a box, marked and looked at again. -/
import Derived.Test.YtjjdfniemlcnnaaAll5
import Derived.Test.YtjjdfniemlcnnaaRib13
import Derived.Test.YtjjdfniemlcnnaaPlain13b
namespace Go.Proofs.Ytjjdfniemlcnnaa
open Go.RowKit

/-- An offer whose lists are its own from base on, or the one that says nothing. -/
def AnsF (base : Nat) (t : Oc) (a0 : Option Addr) (c0 : Nat) (a1 : Option Addr) (c1 : Nat) (w : World) : Prop := OfIn a0 a1 t w ∧ ((t = oc0 ∧ a0 = none ∧ c0 = 0 ∧ a1 = none ∧ c1 = 0) ∨ ∃ x y, a0 = some ⟨x, 0, none⟩ ∧ a1 = some ⟨y, 0, none⟩ ∧ base ≤ x ∧ x < y ∧ OutInt x t.n0 t.n0 t.f w ∧ OutInt y t.n1 t.n1 t.g w)
/-- The same, none of its lists in block kb. -/
def AnsK (base kb : Nat) (t : Oc) (a0 : Option Addr) (c0 : Nat) (a1 : Option Addr) (c1 : Nat) (w : World) : Prop := OfIn a0 a1 t w ∧ ((t = oc0 ∧ a0 = none ∧ c0 = 0 ∧ a1 = none ∧ c1 = 0) ∨ ∃ x y, a0 = some ⟨x, 0, none⟩ ∧ a1 = some ⟨y, 0, none⟩ ∧ base ≤ x ∧ x < y ∧ x ≠ kb ∧ y ≠ kb ∧ OutInt x t.n0 t.n0 t.f w ∧ OutInt y t.n1 t.n1 t.g w)
theorem ofInZ (w : World) : OfIn none none oc0 w := ⟨fun _ hi => absurd hi (Nat.not_lt_zero _), fun _ hi => absurd hi (Nat.not_lt_zero _)⟩
theorem ansF_zero (base : Nat) (w : World) : AnsF base oc0 none 0 none 0 w := ⟨ofInZ w, .inl ⟨rfl, rfl, rfl, rfl, rfl⟩⟩
theorem ansF_own {base x y : Nat} {t : Oc} {c0 c1 : Nat} {w : World} (hx : base ≤ x) (hy : x < y) (o1 : OutInt x t.n0 t.n0 t.f w) (o2 : OutInt y t.n1 t.n1 t.g w) : AnsF base t (some ⟨x, 0, none⟩) c0 (some ⟨y, 0, none⟩) c1 w :=
  ⟨⟨o1.row, o2.row⟩, .inr ⟨x, y, rfl, rfl, hx, hy, o1, o2⟩⟩
theorem AnsK.below {base kb : Nat} {t : Oc} {a0 : Option Addr} {c0 : Nat} {a1 : Option Addr} {c1 : Nat} {w w' : World} (h : AnsK base kb t a0 c0 a1 c1 w) (b : Below w.heap.size w w') : AnsK base kb t a0 c0 a1 c1 w' := by
  refine ⟨h.1.below b, ?_⟩
  rcases h.2 with h | ⟨x, y, h1, h2, h3, h4, h5, h6, o1, o2⟩
  · exact .inl h
  · exact .inr ⟨x, y, h1, h2, h3, h4, h5, h6, o1.below b, o2.below b⟩
theorem AnsK.onlyS {P : Nat → Prop} {base kb : Nat} {t : Oc} {a0 : Option Addr} {c0 : Nat} {a1 : Option Addr} {c1 : Nat} {w w' : World} (h : AnsK base kb t a0 c0 a1 c1 w) (b : OnlyS P w w') (hP : ∀ k, base ≤ k → ¬ P k) : AnsK base kb t a0 c0 a1 c1 w' := by
  rcases h.2 with ⟨rfl, rfl, rfl, rfl, rfl⟩ | ⟨x, y, rfl, rfl, h3, h4, h5, h6, o1, o2⟩
  · exact ⟨ofInZ _, .inl ⟨rfl, rfl, rfl, rfl, rfl⟩⟩
  · have q1 := o1.onlyS b (hP x h3)
    have q2 := o2.onlyS b (hP y (by omega))
    exact ⟨⟨q1.row, q2.row⟩, .inr ⟨x, y, rfl, rfl, h3, h4, h5, h6, q1, q2⟩⟩
theorem Mut.onlyS {P : Nat → Prop} {w w' : World} {b : Nat} {vs : List Value} (h : Mut w b vs) (k : OnlyS P w w') (hn : ¬ P b) : Mut w' b vs :=
  ⟨Nat.lt_of_lt_of_le h.1 k.2.2.2.1, fun i v hv => (k.cell h.1 hn).trans (h.2.1 i v hv), fun i hi => (k.frozen h.1 hn).trans (h.2.2 i hi)⟩
/-- An offer in a box, and whether there is one. -/
def BR (W : World) (t : Oc) (bb : Bool) (p b : Value) (wx : World) : Prop := ∃ (kb : Nat) (a0 : Option Addr) (c0 : Nat) (a1 : Option Addr) (c1 : Nat), p = .pointer (some ⟨kb, 0, none⟩) ∧ b = .bool bb ∧ W.heap.size ≤ kb ∧ Mut wx kb [.int .i64 t.pe, .int .i64 t.o, .slice a0 t.n0 c0, .int .i64 t.nx, .int .i64 t.md, .int .i64 t.pf, .slice a1 t.n1 c1] ∧ AnsK W.heap.size kb t a0 c0 a1 c1 wx ∧ Below W.heap.size W wx
theorem BR.new {W w3 : World} {t : Oc} {bb : Bool} {a0 : Option Addr} {c0 : Nat} {a1 : Option Addr} {c1 : Nat} {B : Nat} {ty : TypeId} (h : AnsF B t a0 c0 a1 c1 w3) (hB : W.heap.size ≤ B) (d : Below W.heap.size W w3) :
    BR W t bb (.pointer (some ⟨w3.heap.size, 0, none⟩)) (.bool bb) (w3.alloc (.cells #[.int .i64 t.pe, .int .i64 t.o, .slice a0 t.n0 c0, .int .i64 t.nx, .int .i64 t.md, .int .i64 t.pf, .slice a1 t.n1 c1] ty)) := by
  have b : Below w3.heap.size w3 (w3.alloc (.cells #[.int .i64 t.pe, .int .i64 t.o, .slice a0 t.n0 c0, .int .i64 t.nx, .int .i64 t.md, .int .i64 t.pf, .slice a1 t.n1 c1] ty)) := below_box (Below.refl _ _)
  refine ⟨_, a0, c0, a1, c1, rfl, rfl, d.size, Mut.new w3 _ _, ⟨h.1.below b, ?_⟩, d.alloc d.size _⟩
  rcases h.2 with h | ⟨x, y, h1, h2, h3, h4, o1, o2⟩
  · exact .inl h
  · have l1 := o1.1
    have l2 := o2.1
    exact .inr ⟨x, y, h1, h2, by omega, h4, by omega, by omega, o1.below b, o2.below b⟩
theorem BR.set {W w3 : World} {t : Oc} {bb : Bool} {a0 : Option Addr} {c0 : Nat} {a1 : Option Addr} {c1 : Nat} {B k : Nat} {z0 z1 z2 z3 z4 z5 z6 : Value} (M : Mut w3 k [z0, z1, z2, z3, z4, z5, z6]) (h : AnsF B t a0 c0 a1 c1 w3) (hk : k < B) (h0 : W.heap.size ≤ k) (d : Below W.heap.size W w3) :
    BR W t bb (.pointer (some ⟨k, 0, none⟩)) (.bool bb) (((((((w3.setCell ⟨k, 0, none⟩ (.int .i64 t.pe)).setCell ⟨k, 1, none⟩ (.int .i64 t.o)).setCell ⟨k, 2, none⟩ (.slice a0 t.n0 c0)).setCell ⟨k, 3, none⟩ (.int .i64 t.nx)).setCell ⟨k, 4, none⟩ (.int .i64 t.md)).setCell ⟨k, 5, none⟩ (.int .i64 t.pf)).setCell ⟨k, 6, none⟩ (.slice a1 t.n1 c1)) := by
  refine ⟨k, a0, c0, a1, c1, rfl, rfl, h0, (((((((M.set 0 _).set 1 _).set 2 _).set 3 _).set 4 _).set 5 _).set 6 _), ?_, ((((((d.setCell h0 _).setCell h0 _).setCell h0 _).setCell h0 _).setCell h0 _).setCell h0 _).setCell h0 _⟩
  rcases h.2 with ⟨rfl, rfl, rfl, rfl, rfl⟩ | ⟨x, y, rfl, rfl, h3, h4, o1, o2⟩
  · exact ⟨ofInZ _, .inl ⟨rfl, rfl, rfl, rfl, rfl⟩⟩
  · have q1 : OutInt x t.n0 t.n0 t.f (((((((w3.setCell ⟨k, 0, none⟩ (.int .i64 t.pe)).setCell ⟨k, 1, none⟩ (.int .i64 t.o)).setCell ⟨k, 2, none⟩ (.slice (some ⟨x, 0, none⟩) t.n0 c0)).setCell ⟨k, 3, none⟩ (.int .i64 t.nx)).setCell ⟨k, 4, none⟩ (.int .i64 t.md)).setCell ⟨k, 5, none⟩ (.int .i64 t.pf)).setCell ⟨k, 6, none⟩ (.slice (some ⟨y, 0, none⟩) t.n1 c1)) := by refine OutInt.other (OutInt.other (OutInt.other (OutInt.other (OutInt.other (OutInt.other (OutInt.other (o1) ?_ _ _) ?_ _ _) ?_ _ _) ?_ _ _) ?_ _ _) ?_ _ _) ?_ _ _ <;> omega
    have q2 : OutInt y t.n1 t.n1 t.g (((((((w3.setCell ⟨k, 0, none⟩ (.int .i64 t.pe)).setCell ⟨k, 1, none⟩ (.int .i64 t.o)).setCell ⟨k, 2, none⟩ (.slice (some ⟨x, 0, none⟩) t.n0 c0)).setCell ⟨k, 3, none⟩ (.int .i64 t.nx)).setCell ⟨k, 4, none⟩ (.int .i64 t.md)).setCell ⟨k, 5, none⟩ (.int .i64 t.pf)).setCell ⟨k, 6, none⟩ (.slice (some ⟨y, 0, none⟩) t.n1 c1)) := by refine OutInt.other (OutInt.other (OutInt.other (OutInt.other (OutInt.other (OutInt.other (OutInt.other (o2) ?_ _ _) ?_ _ _) ?_ _ _) ?_ _ _) ?_ _ _) ?_ _ _) ?_ _ _ <;> omega
    exact ⟨⟨q1.row, q2.row⟩, .inr ⟨x, y, rfl, rfl, by omega, h4, by omega, by omega, q1, q2⟩⟩
set_option maxRecDepth 100000 in
set_option maxHeartbeats 800000 in
theorem w_markAttrs0 (w : World) :
    Calls Try.prog 54 #[.agg #[.int .i64 0, .slice none 0 0, .int .i64 0, .int .i64 0, .int .i64 0, .slice none 0 0], .int .i64 1] w fun e w' => e = .returned (.int .i64 1) ∧ Below w.heap.size w w' := by
  have s0 := hide (fun k w => w_markIntS_nil none 0 k w)
  have d : Below w.heap.size w (w.alloc (.cells #[.int .i64 0, .slice none 0 0, .int .i64 0, .int .i64 0, .int .i64 0, .slice none 0 0] 47)) := below_box (Below.refl _ _)
  go_enter Try.func54, Try.ntmps54
  go_wp2_with fail
  refine (s0.out _ _).mono ?_
  rintro e w2 ⟨rfl, rfl⟩
  go_wp2_with fail
  refine (s0.out _ _).mono ?_
  rintro e w2 ⟨rfl, rfl⟩
  go_wp2_with fail
  go_ret
  exact ⟨rfl, d⟩
theorem OnlyS.of_below {P : Nat → Prop} {w w' : World} (d : Below w.heap.size w w') : OnlyS P w w' := ⟨d.os, d.tape, d.output, d.size, fun k hk _ => d.block k hk⟩
set_option maxRecDepth 100000 in
set_option maxHeartbeats 1600000 in
theorem w_markOf (base kb : Nat) (t : Oc) (a0 : Option Addr) (c0 : Nat) (a1 : Option Addr) (c1 : Nat) (w : World) (h0 : t.n0 ≤ 1048576) (h1 : t.n1 ≤ 1048576) (hA : AnsK base kb t a0 c0 a1 c1 w) :
    Calls Try.prog 25 #[.agg #[.int .i64 t.pe, .int .i64 t.o, .slice a0 t.n0 c0, .int .i64 t.nx, .int .i64 t.md, .int .i64 t.pf, .slice a1 t.n1 c1], .int .i64 1] w fun e w' => e = .returned (.int .i64 (1 + (t.n0 : Int) + (t.n1 : Int))) ∧ (RowInt a0 t.n0 (fun i => 1 + (i : Int)) w' ∧ RowInt a1 t.n1 (fun i => 1 + (t.n0 : Int) + (i : Int)) w') ∧ OnlyS (fun b => base ≤ b ∧ b ≠ kb) w w' := by
  rcases hA.2 with ⟨rfl, rfl, rfl, rfl, rfl⟩ | ⟨x, y, rfl, rfl, h3, h4, h5, h6, o1, o2⟩
  · have s0 := hide (fun w => w_markAttrs0 w)
    have d : Below w.heap.size w (w.alloc (.cells #[.int .i64 0, .int .i64 0, .slice none 0 0, .int .i64 0, .int .i64 0, .int .i64 0, .slice none 0 0] 49)) := below_box (Below.refl _ _)
    show Calls Try.prog 25 #[.agg #[.int .i64 0, .int .i64 0, .slice none 0 0, .int .i64 0, .int .i64 0, .int .i64 0, .slice none 0 0], .int .i64 1] w _
    go_enter Try.func25, Try.ntmps25
    go_wp2_with fail
    refine (s0.out _).mono ?_
    rintro e w2 ⟨rfl, b2⟩
    have d2 := d.trans (b2.mono d.size)
    go_wp2_with fail
    go_ret
    exact ⟨rfl, ⟨fun _ hi => absurd hi (Nat.not_lt_zero _), fun _ hi => absurd hi (Nat.not_lt_zero _)⟩, OnlyS.of_below d2⟩
  · have s0 := hide (fun w O P => w_markAttrs t.o t.nx t.md t.pf x t.n0 c0 t.f y t.n1 c1 t.g w h0 h1 (by omega) O P)
    have d : Below w.heap.size w (w.alloc (.cells #[.int .i64 t.pe, .int .i64 t.o, .slice (some ⟨x, 0, none⟩) t.n0 c0, .int .i64 t.nx, .int .i64 t.md, .int .i64 t.pf, .slice (some ⟨y, 0, none⟩) t.n1 c1] 49)) := below_box (Below.refl _ _)
    have q1 := o1.below d
    have q2 := o2.below d
    clear h0 h1 hA o1 o2
    go_enter Try.func25, Try.ntmps25
    go_wp2_with fail
    generalize w.alloc (.cells #[.int .i64 t.pe, .int .i64 t.o, .slice (some ⟨x, 0, none⟩) t.n0 c0, .int .i64 t.nx, .int .i64 t.md, .int .i64 t.pf, .slice (some ⟨y, 0, none⟩) t.n1 c1] 49) = w1 at *
    refine (s0.out _ q1 q2).mono ?_
    rintro e w2 ⟨rfl, p1, p2, u, b1, b2⟩
    have hO : OnlyS (fun b => base ≤ b ∧ b ≠ kb) w w2 := ((OnlyS.of_below d).trans (OnlyS.of_only b1 ⟨h3, h5⟩)).trans (OnlyS.of_only b2 ⟨by omega, h6⟩)
    have r1 := p1.row
    have r2 := p2.row
    clear b1 b2 p1 p2 q1 q2 s0
    go_wp2_with fail
    go_ret
    exact ⟨rfl, ⟨r1, r2⟩, hO⟩
set_option maxRecDepth 100000 in
set_option maxHeartbeats 1600000 in
theorem w_heldOf (t : Oc) (a0 : Option Addr) (c0 : Nat) (a1 : Option Addr) (c1 : Nat) (w : World) (h0 : t.n0 ≤ 1048576) (h1 : t.n1 ≤ 1048576) (R : RowInt a0 t.n0 (fun i => 1 + (i : Int)) w ∧ RowInt a1 t.n1 (fun i => 1 + (t.n0 : Int) + (i : Int)) w) :
    Calls Try.prog 26 #[.agg #[.int .i64 t.pe, .int .i64 t.o, .slice a0 t.n0 c0, .int .i64 t.nx, .int .i64 t.md, .int .i64 t.pf, .slice a1 t.n1 c1], .int .i64 1] w fun e w' => e = .returned (.int .i64 (1 + (t.n0 : Int) + (t.n1 : Int))) ∧ Below w.heap.size w w' := by
  have s0 := hide (fun w R0 R1 => w_heldAttrs t.o t.nx t.md t.pf a0 t.n0 c0 a1 t.n1 c1 w h0 h1 R0 R1)
  have d : Below w.heap.size w (w.alloc (.cells #[.int .i64 t.pe, .int .i64 t.o, .slice a0 t.n0 c0, .int .i64 t.nx, .int .i64 t.md, .int .i64 t.pf, .slice a1 t.n1 c1] 49)) := below_box (Below.refl _ _)
  have r0 := R.1.below d
  have r1 := R.2.below d
  have hp : ¬ (1 + (t.n0 : Int) + (t.n1 : Int) < 0) := by omega
  clear h0 h1 R
  go_enter Try.func26, Try.ntmps26
  go_wp2_with fail
  generalize w.alloc (.cells #[.int .i64 t.pe, .int .i64 t.o, .slice a0 t.n0 c0, .int .i64 t.nx, .int .i64 t.md, .int .i64 t.pf, .slice a1 t.n1 c1] 49) = w1 at *
  refine (s0.out _ r0 r1).mono ?_
  rintro e w2 ⟨rfl, b2⟩
  have d2 := d.trans (b2.mono d.size)
  go_wp2_with fail
  go_ret
  exact ⟨rfl, d2⟩
end Go.Proofs.Ytjjdfniemlcnnaa
