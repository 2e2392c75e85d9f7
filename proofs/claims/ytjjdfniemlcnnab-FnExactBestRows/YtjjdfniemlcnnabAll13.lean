/- BestAt of the specification. -/
import Derived.Test.YtjjdfniemlcnnabAll7
import Derived.Test.YtjjdfniemlcnnabAll10
import Derived.Lib.QuietBelow
import Derived.Test.YtjjdfniemlcnnabS13b
import Derived.Deep.RegionHeld3
import Derived.Test.YtjjdfniemlcnnabAll5
import Derived.Test.YtjjdfniemlcnnabRib13
import Derived.Test.YtjjdfniemlcnnabS13g
/- l13At of the specification: where a prefix's row stands. -/
namespace Go.Proofs.Ytjjdfniemlcnnab
open Go.RowKit

end Go.Proofs.Ytjjdfniemlcnnab

/- l13BestAt of the specification. -/
namespace Go.Proofs.Ytjjdfniemlcnnab
open Go.RowKit

end Go.Proofs.Ytjjdfniemlcnnab

/- An offer as an answer: of its own, in a box, marked and looked at again. -/
namespace Go.Proofs.Ytjjdfniemlcnnab
open Go.RowKit

/-- An offer whose lists are its own from base on, or the one that says nothing. -/
def AnsF (base : Nat) (t : Oc) (a0 : Option Addr) (c0 : Nat) (a1 : Option Addr) (c1 : Nat) (w : World) : Prop := OfIn a0 a1 t w ∧ ((t = oc0 ∧ a0 = none ∧ c0 = 0 ∧ a1 = none ∧ c1 = 0) ∨ ∃ x y, a0 = some ⟨x, 0, none⟩ ∧ a1 = some ⟨y, 0, none⟩ ∧ base ≤ x ∧ x < y ∧ OutInt x t.n0 t.n0 t.f w ∧ OutInt y t.n1 t.n1 t.g w)
/-- The same, none of its lists in block kb. -/
def AnsK (base kb : Nat) (t : Oc) (a0 : Option Addr) (c0 : Nat) (a1 : Option Addr) (c1 : Nat) (w : World) : Prop := OfIn a0 a1 t w ∧ ((t = oc0 ∧ a0 = none ∧ c0 = 0 ∧ a1 = none ∧ c1 = 0) ∨ ∃ x y, a0 = some ⟨x, 0, none⟩ ∧ a1 = some ⟨y, 0, none⟩ ∧ base ≤ x ∧ x < y ∧ x ≠ kb ∧ y ≠ kb ∧ OutInt x t.n0 t.n0 t.f w ∧ OutInt y t.n1 t.n1 t.g w)
theorem ofInZ (w : World) : OfIn none none oc0 w := ⟨fun _ hi => absurd hi (Nat.not_lt_zero _), fun _ hi => absurd hi (Nat.not_lt_zero _)⟩
theorem ansF_zero (base : Nat) (w : World) : AnsF base oc0 none 0 none 0 w := ⟨ofInZ w, .inl ⟨rfl, rfl, rfl, rfl, rfl⟩⟩
theorem ansF_own {base x y : Nat} {t : Oc} {c0 c1 : Nat} {w : World} (hx : base ≤ x) (hy : x < y) (o1 : OutInt x t.n0 t.n0 t.f w) (o2 : OutInt y t.n1 t.n1 t.g w) : AnsF base t (some ⟨x, 0, none⟩) c0 (some ⟨y, 0, none⟩) c1 w :=
  ⟨⟨o1.row, o2.row⟩, .inr ⟨x, y, rfl, rfl, hx, hy, o1, o2⟩⟩
theorem AnsK.below {base kb : Nat} {t : Oc} {a0 : Option Addr} {c0 : Nat} {a1 : Option Addr} {c1 : Nat} {w w' : World} (h : AnsK base kb t a0 c0 a1 c1 w) (b : Below w.heap.size w w') : AnsK base kb t a0 c0 a1 c1 w' := by
  refine ⟨h.1.below b, ?_⟩
  rcases h.2 with h | ⟨x, y, h1, h2, h3, h4, h5, h6, o1, o2⟩
  · exact .inl h
  · exact .inr ⟨x, y, h1, h2, h3, h4, h5, h6, o1.below b, o2.below b⟩
theorem AnsK.onlyS {P : Nat → Prop} {base kb : Nat} {t : Oc} {a0 : Option Addr} {c0 : Nat} {a1 : Option Addr} {c1 : Nat} {w w' : World} (h : AnsK base kb t a0 c0 a1 c1 w) (b : OnlyS P w w') (hP : ∀ k, base ≤ k → ¬ P k) : AnsK base kb t a0 c0 a1 c1 w' := by
  rcases h.2 with ⟨rfl, rfl, rfl, rfl, rfl⟩ | ⟨x, y, rfl, rfl, h3, h4, h5, h6, o1, o2⟩
  · exact ⟨ofInZ _, .inl ⟨rfl, rfl, rfl, rfl, rfl⟩⟩
  · have q1 := o1.onlyS b (hP x h3)
    have q2 := o2.onlyS b (hP y (by omega))
    exact ⟨⟨q1.row, q2.row⟩, .inr ⟨x, y, rfl, rfl, h3, h4, h5, h6, q1, q2⟩⟩
theorem Mut.onlyS {P : Nat → Prop} {w w' : World} {b : Nat} {vs : List Value} (h : Mut w b vs) (k : OnlyS P w w') (hn : ¬ P b) : Mut w' b vs :=
  ⟨Nat.lt_of_lt_of_le h.1 k.2.2.2.1, fun i v hv => (k.cell h.1 hn).trans (h.2.1 i v hv), fun i hi => (k.frozen h.1 hn).trans (h.2.2 i hi)⟩
/-- An offer in a box, and whether there is one. -/
def BR (W : World) (t : Oc) (bb : Bool) (p b : Value) (wx : World) : Prop := ∃ (kb : Nat) (a0 : Option Addr) (c0 : Nat) (a1 : Option Addr) (c1 : Nat), p = .pointer (some ⟨kb, 0, none⟩) ∧ b = .bool bb ∧ W.heap.size ≤ kb ∧ Mut wx kb [.int .i64 t.pe, .int .i64 t.o, .slice a0 t.n0 c0, .int .i64 t.nx, .int .i64 t.md, .int .i64 t.pf, .slice a1 t.n1 c1] ∧ AnsK W.heap.size kb t a0 c0 a1 c1 wx ∧ Below W.heap.size W wx
theorem BR.new {W w3 : World} {t : Oc} {bb : Bool} {a0 : Option Addr} {c0 : Nat} {a1 : Option Addr} {c1 : Nat} {B : Nat} {ty : TypeId} (h : AnsF B t a0 c0 a1 c1 w3) (hB : W.heap.size ≤ B) (d : Below W.heap.size W w3) :
    BR W t bb (.pointer (some ⟨w3.heap.size, 0, none⟩)) (.bool bb) (w3.alloc (.cells #[.int .i64 t.pe, .int .i64 t.o, .slice a0 t.n0 c0, .int .i64 t.nx, .int .i64 t.md, .int .i64 t.pf, .slice a1 t.n1 c1] ty)) := by
  have b : Below w3.heap.size w3 (w3.alloc (.cells #[.int .i64 t.pe, .int .i64 t.o, .slice a0 t.n0 c0, .int .i64 t.nx, .int .i64 t.md, .int .i64 t.pf, .slice a1 t.n1 c1] ty)) := below_box (Below.refl _ _)
  refine ⟨_, a0, c0, a1, c1, rfl, rfl, d.size, Mut.new w3 _ _, ⟨h.1.below b, ?_⟩, d.alloc d.size _⟩
  rcases h.2 with h | ⟨x, y, h1, h2, h3, h4, o1, o2⟩
  · exact .inl h
  · have l1 := o1.1
    have l2 := o2.1
    exact .inr ⟨x, y, h1, h2, by omega, h4, by omega, by omega, o1.below b, o2.below b⟩
theorem BR.set {W w3 : World} {t : Oc} {bb : Bool} {a0 : Option Addr} {c0 : Nat} {a1 : Option Addr} {c1 : Nat} {B k : Nat} {z0 z1 z2 z3 z4 z5 z6 : Value} (M : Mut w3 k [z0, z1, z2, z3, z4, z5, z6]) (h : AnsF B t a0 c0 a1 c1 w3) (hk : k < B) (h0 : W.heap.size ≤ k) (d : Below W.heap.size W w3) :
    BR W t bb (.pointer (some ⟨k, 0, none⟩)) (.bool bb) (((((((w3.setCell ⟨k, 0, none⟩ (.int .i64 t.pe)).setCell ⟨k, 1, none⟩ (.int .i64 t.o)).setCell ⟨k, 2, none⟩ (.slice a0 t.n0 c0)).setCell ⟨k, 3, none⟩ (.int .i64 t.nx)).setCell ⟨k, 4, none⟩ (.int .i64 t.md)).setCell ⟨k, 5, none⟩ (.int .i64 t.pf)).setCell ⟨k, 6, none⟩ (.slice a1 t.n1 c1)) := by
  refine ⟨k, a0, c0, a1, c1, rfl, rfl, h0, (((((((M.set 0 _).set 1 _).set 2 _).set 3 _).set 4 _).set 5 _).set 6 _), ?_, ((((((d.setCell h0 _).setCell h0 _).setCell h0 _).setCell h0 _).setCell h0 _).setCell h0 _).setCell h0 _⟩
  rcases h.2 with ⟨rfl, rfl, rfl, rfl, rfl⟩ | ⟨x, y, rfl, rfl, h3, h4, o1, o2⟩
  · exact ⟨ofInZ _, .inl ⟨rfl, rfl, rfl, rfl, rfl⟩⟩
  · have q1 : OutInt x t.n0 t.n0 t.f (((((((w3.setCell ⟨k, 0, none⟩ (.int .i64 t.pe)).setCell ⟨k, 1, none⟩ (.int .i64 t.o)).setCell ⟨k, 2, none⟩ (.slice (some ⟨x, 0, none⟩) t.n0 c0)).setCell ⟨k, 3, none⟩ (.int .i64 t.nx)).setCell ⟨k, 4, none⟩ (.int .i64 t.md)).setCell ⟨k, 5, none⟩ (.int .i64 t.pf)).setCell ⟨k, 6, none⟩ (.slice (some ⟨y, 0, none⟩) t.n1 c1)) := by refine OutInt.other (OutInt.other (OutInt.other (OutInt.other (OutInt.other (OutInt.other (OutInt.other (o1) ?_ _ _) ?_ _ _) ?_ _ _) ?_ _ _) ?_ _ _) ?_ _ _) ?_ _ _ <;> omega
    have q2 : OutInt y t.n1 t.n1 t.g (((((((w3.setCell ⟨k, 0, none⟩ (.int .i64 t.pe)).setCell ⟨k, 1, none⟩ (.int .i64 t.o)).setCell ⟨k, 2, none⟩ (.slice (some ⟨x, 0, none⟩) t.n0 c0)).setCell ⟨k, 3, none⟩ (.int .i64 t.nx)).setCell ⟨k, 4, none⟩ (.int .i64 t.md)).setCell ⟨k, 5, none⟩ (.int .i64 t.pf)).setCell ⟨k, 6, none⟩ (.slice (some ⟨y, 0, none⟩) t.n1 c1)) := by refine OutInt.other (OutInt.other (OutInt.other (OutInt.other (OutInt.other (OutInt.other (OutInt.other (o2) ?_ _ _) ?_ _ _) ?_ _ _) ?_ _ _) ?_ _ _) ?_ _ _) ?_ _ _ <;> omega
    exact ⟨⟨q1.row, q2.row⟩, .inr ⟨x, y, rfl, rfl, by omega, h4, by omega, by omega, q1, q2⟩⟩
end Go.Proofs.Ytjjdfniemlcnnab

namespace Go.Proofs.Ytjjdfniemlcnnab
open Go.RowKit

/-- Whether BestAt tells an offer, and which. -/
def beB (ow : Int) (n : Nat) (U : Nat → Rc) (a l : Int) : Bool := rbB ow n U && (goodB a l && baB ow n U a l)
def beT (ow : Int) (n : Nat) (U : Nat → Rc) (a l : Int) : Oc := if (rbB ow n U && goodB a l) = true then baT ow n U a l else oc0
theorem be_no1 {ow : Int} {n : Nat} {U : Nat → Rc} {a l : Int} (h : rbB ow n U = false) : beB ow n U a l = false ∧ beT ow n U a l = oc0 := by simp [beB, beT, h]
theorem be_no2 {ow : Int} {n : Nat} {U : Nat → Rc} {a l : Int} (h : goodB a l = false) : beB ow n U a l = false ∧ beT ow n U a l = oc0 := by simp [beB, beT, h]
theorem be_yes {ow : Int} {n : Nat} {U : Nat → Rc} {a l : Int} (h : rbB ow n U = true) (g : goodB a l = true) : beB ow n U a l = baB ow n U a l ∧ beT ow n U a l = baT ow n U a l := by simp [beB, beT, h, g]
theorem ofIn0 (w : World) : OfIn none none oc0 w := ⟨fun _ hi => absurd hi (Nat.not_lt_zero _), fun _ hi => absurd hi (Nat.not_lt_zero _)⟩
theorem s_ownQ (q : Oe) (w : World) (h : SrcO w q ∨ q = oe0) :
    Calls Try.prog 19 #[.agg #[.int .i64 q.t.o, .slice q.a0 q.t.n0 q.c0, .int .i64 q.t.nx, .int .i64 q.t.md, .int .i64 q.t.pf, .slice q.a1 q.t.n1 q.c1]] w fun e w' => ∃ x pc y yc, e = .returned (.agg #[.int .i64 q.t.o, .slice (some ⟨x, 0, none⟩) q.t.n0 pc, .int .i64 q.t.nx, .int .i64 q.t.md, .int .i64 q.t.pf, .slice (some ⟨y, 0, none⟩) q.t.n1 yc]) ∧ OutInt x q.t.n0 q.t.n0 q.t.f w' ∧ OutInt y q.t.n1 q.t.n1 q.t.g w' ∧ w.heap.size ≤ x ∧ x < y ∧ Below w.heap.size w w' := by
  rcases h with ⟨s0, s1, ⟨R0, R1⟩, h0, h1⟩ | rfl
  · exact s_own8 q.t.o q.t.nx q.t.md q.t.pf q.a0 q.t.n0 q.c0 q.t.f q.a1 q.t.n1 q.c1 q.t.g w h0 h1 ⟨R0.rowN, .inr s0⟩ ⟨R1.rowN, .inr s1⟩
  · exact s_own8 0 0 0 0 none 0 0 (fun _ => 0) none 0 0 (fun _ => 0) w (by omega) (by omega) ⟨(ofIn0 w).1.rowN, .inl ⟨rfl, rfl, rfl⟩⟩ ⟨(ofIn0 w).2.rowN, .inl ⟨rfl, rfl, rfl⟩⟩
end Go.Proofs.Ytjjdfniemlcnnab
