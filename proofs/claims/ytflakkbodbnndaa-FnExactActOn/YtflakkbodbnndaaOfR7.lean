/- A route as an answer: its marks, looked at again. -/
import Derived.Test.YtflakkbodbnndaaRou13
import Derived.Test.YtflakkbodbnndaaAll4
import Derived.Test.YtflakkbodbnndaaAll6
namespace Go.Proofs.Ytflakkbodbnndaa
open Go.RowKit

/-- A route of its own behind base, or the zero one. -/
def AnsG (base : Nat) (t : Ro) (a0 : Option Addr) (c0 : Nat) (a1 : Option Addr) (c1 : Nat) (w : World) : Prop := (RowInt a0 t.n0 t.f w ∧ RowInt a1 t.n1 t.g w) ∧ ((t = ro0 ∧ a0 = none ∧ c0 = 0 ∧ a1 = none ∧ c1 = 0) ∨ ∃ x y, a0 = some ⟨x, 0, none⟩ ∧ a1 = some ⟨y, 0, none⟩ ∧ base ≤ x ∧ base ≤ y ∧ x ≠ y ∧ OutInt x t.n0 t.n0 t.f w ∧ OutInt y t.n1 t.n1 t.g w)
theorem AnsG.below {base : Nat} {t : Ro} {a0 : Option Addr} {c0 : Nat} {a1 : Option Addr} {c1 : Nat} {w w' : World} (h : AnsG base t a0 c0 a1 c1 w) (b : Below w.heap.size w w') : AnsG base t a0 c0 a1 c1 w' := by
  refine ⟨⟨h.1.1.below b, h.1.2.below b⟩, ?_⟩
  rcases h.2 with h | ⟨x, y, h1, h2, h3, h4, h5, o1, o2⟩
  · exact .inl h
  · exact .inr ⟨x, y, h1, h2, h3, h4, h5, o1.below b, o2.below b⟩
theorem AnsG.only {base c : Nat} {t : Ro} {a0 : Option Addr} {c0 : Nat} {a1 : Option Addr} {c1 : Nat} {w w' : World} (h : AnsG base t a0 c0 a1 c1 w) (b : Only c w w') (hc : c < base) : AnsG base t a0 c0 a1 c1 w' := by
  rcases h.2 with ⟨rfl, rfl, rfl, rfl, rfl⟩ | ⟨x, y, rfl, rfl, h3, h4, h5, o1, o2⟩
  · exact ⟨⟨fun _ hi => absurd hi (Nat.not_lt_zero _), fun _ hi => absurd hi (Nat.not_lt_zero _)⟩, .inl ⟨rfl, rfl, rfl, rfl, rfl⟩⟩
  · have p1 := o1.only b (by omega)
    have p2 := o2.only b (by omega)
    exact ⟨⟨p1.row, p2.row⟩, .inr ⟨x, y, rfl, rfl, h3, h4, h5, p1, p2⟩⟩
theorem ansG_zero (base : Nat) (w : World) : AnsG base ro0 none 0 none 0 w := ⟨⟨fun _ hi => absurd hi (Nat.not_lt_zero _), fun _ hi => absurd hi (Nat.not_lt_zero _)⟩, .inl ⟨rfl, rfl, rfl, rfl, rfl⟩⟩
theorem ansG_own {base x y : Nat} {t : Ro} {c0 c1 : Nat} {w : World} (hx : base ≤ x) (hy : base ≤ y) (hn : x ≠ y) (o1 : OutInt x t.n0 t.n0 t.f w) (o2 : OutInt y t.n1 t.n1 t.g w) : AnsG base t (some ⟨x, 0, none⟩) c0 (some ⟨y, 0, none⟩) c1 w :=
  ⟨⟨o1.row, o2.row⟩, .inr ⟨x, y, rfl, rfl, hx, hy, hn, o1, o2⟩⟩
theorem AnsG.at0 {base : Nat} {t : Ro} {a0 : Option Addr} {c0 : Nat} {a1 : Option Addr} {c1 : Nat} {w : World} (h : AnsG base t a0 c0 a1 c1 w) : (∀ z, a0 = some ⟨z, 0, none⟩ → base ≤ z ∧ z < w.heap.size) ∧ (∀ z, a1 = some ⟨z, 0, none⟩ → base ≤ z ∧ z < w.heap.size) := by
  rcases h.2 with ⟨_, rfl, _, rfl, _⟩ | ⟨x, y, rfl, rfl, h3, h4, h5, o1, o2⟩
  · exact ⟨fun _ e => (by cases e), fun _ e => (by cases e)⟩
  · refine ⟨fun z e => ?_, fun z e => ?_⟩
    · simp only [Option.some.injEq, Addr.mk.injEq, and_true] at e
      subst e; exact ⟨h3, o1.1⟩
    · simp only [Option.some.injEq, Addr.mk.injEq, and_true] at e
      subst e; exact ⟨h4, o2.1⟩
theorem AnsG.mono {base base' : Nat} {t : Ro} {a0 : Option Addr} {c0 : Nat} {a1 : Option Addr} {c1 : Nat} {w : World} (h : AnsG base t a0 c0 a1 c1 w) (hb : base' ≤ base) : AnsG base' t a0 c0 a1 c1 w := by
  refine ⟨h.1, ?_⟩
  rcases h.2 with h | ⟨x, y, h1, h2, h3, h4, h5, o1, o2⟩
  · exact .inl h
  · exact .inr ⟨x, y, h1, h2, by omega, by omega, h5, o1, o2⟩
theorem RowInt.keepB {base : Nat} {a : Option Addr} {n : Nat} {f : Nat → Int} {w w' : World} (h : RowInt a n f w) (hs : w.heap.size ≤ w'.heap.size) (ha : ∀ b off, a = some ⟨b, off, none⟩ → base ≤ b) (hk : ∀ b, base ≤ b → b < w.heap.size → w'.heap[b]? = w.heap[b]?) : RowInt a n f w' := by
  intro i hi
  obtain ⟨b, off, e, hlt, hc⟩ := h i hi
  exact ⟨b, off, e, Nat.lt_of_lt_of_le hlt hs, (World.cell?_of_block (w := w) (hk b (ha b off e) hlt)).trans hc⟩
theorem OutInt.keepB {c n k : Nat} {f : Nat → Int} {w w' : World} (h : OutInt c n k f w) (hs : w.heap.size ≤ w'.heap.size) (hk : w'.heap[c]? = w.heap[c]?) : OutInt c n k f w' := by
  refine ⟨Nat.lt_of_lt_of_le h.1 hs, fun i hi => ?_⟩
  obtain ⟨⟨x, h0, hx⟩, g0⟩ := h.2 i hi
  exact ⟨⟨x, (World.cell?_of_block (w := w) hk).trans h0, hx⟩, (World.frozen?_of_block (w := w) hk).trans g0⟩
theorem AnsG.keep {base : Nat} {t : Ro} {a0 : Option Addr} {c0 : Nat} {a1 : Option Addr} {c1 : Nat} {w w' : World} (h : AnsG base t a0 c0 a1 c1 w) (hs : w.heap.size ≤ w'.heap.size) (hk : ∀ b, base ≤ b → b < w.heap.size → w'.heap[b]? = w.heap[b]?) : AnsG base t a0 c0 a1 c1 w' := by
  rcases h.2 with ⟨rfl, rfl, rfl, rfl, rfl⟩ | ⟨x, y, rfl, rfl, h3, h4, h5, o1, o2⟩
  · exact ansG_zero _ _
  · exact ansG_own h3 h4 h5 (o1.keepB hs (hk x h3 o1.1)) (o2.keepB hs (hk y h4 o2.1))
theorem RowInt.onlyB {a : Option Addr} {n c : Nat} {f : Nat → Int} {w w' : World} (h : RowInt a n f w) (o : Only c w w') (hn : ∀ b off, a = some ⟨b, off, none⟩ → b ≠ c) : RowInt a n f w' := by
  intro i hi
  obtain ⟨b, off, ha, hlt, e⟩ := h i hi
  exact ⟨b, off, ha, Nat.lt_of_lt_of_le hlt o.2.2.2.1, (o.cell hlt (hn b off ha)).trans e⟩
theorem Mut.blockB {w w' : World} {b : Nat} {vs : List Value} (h : Mut w b vs) (hb : w'.heap[b]? = w.heap[b]?) : Mut w' b vs := by
  refine ⟨?_, fun i v hv => (World.cell?_of_block (w := w) hb).trans (h.2.1 i v hv), fun i hi => (World.frozen?_of_block (w := w) hb).trans (h.2.2 i hi)⟩
  have h1 := Array.getElem?_eq_getElem h.1
  rw [← hb] at h1
  exact (Array.getElem?_eq_some_iff.1 h1).1
/-- Only blocks from base on are written. -/
theorem Below.of_only2 {base x y : Nat} {w u w' : World} (b1 : Only x w u) (b2 : Only y u w') (hx : base ≤ x) (hy : base ≤ y) (hb : base ≤ w.heap.size) : Below base w w' :=
  Below.trans ⟨b1.1, b1.2.1, b1.2.2.1, b1.2.2.2.1, fun k hk => b1.2.2.2.2 k (by omega) (by omega)⟩ ⟨b2.1, b2.2.1, b2.2.2.1, b2.2.2.2.1, fun k hk => b2.2.2.2.2 k (by have := b1.2.2.2.1; omega) (by omega)⟩
set_option maxRecDepth 100000 in
set_option maxHeartbeats 1600000 in
theorem w_markRt (base : Nat) (t : Ro) (a0 : Option Addr) (c0 : Nat) (a1 : Option Addr) (c1 : Nat) (w : World) (h0 : t.n0 ≤ 1048576) (h1 : t.n1 ≤ 1048576) (hb : base ≤ w.heap.size) (hA : AnsG base t a0 c0 a1 c1 w) :
    Calls Try.prog 11 #[.agg #[.int .i64 t.pa, .int .i64 t.pl, .int .i64 t.o, .slice a0 t.n0 c0, .int .i64 t.nx, .int .i64 t.md, .int .i64 t.pf, .slice a1 t.n1 c1], .int .i64 1] w fun e w' => e = .returned (.int .i64 (1 + (t.n0 : Int) + (t.n1 : Int))) ∧ (RowInt a0 t.n0 (fun i => 1 + (i : Int)) w' ∧ RowInt a1 t.n1 (fun i => 1 + (t.n0 : Int) + (i : Int)) w') ∧ Below base w w' ∧ (∀ kb, kb < w.heap.size → a0 ≠ some ⟨kb, 0, none⟩ → a1 ≠ some ⟨kb, 0, none⟩ → w'.heap[kb]? = w.heap[kb]?) := by
  rcases hA.2 with ⟨rfl, rfl, rfl, rfl, rfl⟩ | ⟨x, y, rfl, rfl, h3, h4, h5, o1, o2⟩
  · have s0 := hide (fun w => w_markAttrs_nil w)
    have d : Below w.heap.size w (w.alloc (.cells #[.int .i64 0, .int .i64 0, .int .i64 0, .slice none 0 0, .int .i64 0, .int .i64 0, .int .i64 0, .slice none 0 0] 35)) := below_box (Below.refl _ _)
    show Calls Try.prog 11 #[.agg #[.int .i64 0, .int .i64 0, .int .i64 0, .slice none 0 0, .int .i64 0, .int .i64 0, .int .i64 0, .slice none 0 0], .int .i64 1] w _
    go_enter Try.func11, Try.ntmps11
    go_wp2_with fail
    refine (s0.out _).mono ?_
    rintro e w2 ⟨rfl, b2⟩
    have d2 := d.trans (b2.mono d.size)
    go_wp2_with fail
    go_ret
    exact ⟨rfl, ⟨fun _ hi => absurd hi (Nat.not_lt_zero _), fun _ hi => absurd hi (Nat.not_lt_zero _)⟩, d2.mono hb, fun kb hk _ _ => d2.block kb hk⟩
  · have s0 := hide (fun w O P => w_markAttrs t.o t.nx t.md t.pf x t.n0 c0 t.f y t.n1 c1 t.g w h0 h1 h5 O P)
    have d : Below w.heap.size w (w.alloc (.cells #[.int .i64 t.pa, .int .i64 t.pl, .int .i64 t.o, .slice (some ⟨x, 0, none⟩) t.n0 c0, .int .i64 t.nx, .int .i64 t.md, .int .i64 t.pf, .slice (some ⟨y, 0, none⟩) t.n1 c1] 35)) := below_box (Below.refl _ _)
    have q1 := o1.below d
    have q2 := o2.below d
    clear h0 h1 hA o1 o2
    go_enter Try.func11, Try.ntmps11
    go_wp2_with fail
    generalize w.alloc (.cells #[.int .i64 t.pa, .int .i64 t.pl, .int .i64 t.o, .slice (some ⟨x, 0, none⟩) t.n0 c0, .int .i64 t.nx, .int .i64 t.md, .int .i64 t.pf, .slice (some ⟨y, 0, none⟩) t.n1 c1] 35) = w1 at *
    refine (s0.out _ q1 q2).mono ?_
    rintro e w2 ⟨rfl, p1, p2, u, b1, b2⟩
    have hO : Below base w w2 := (d.mono hb).trans (Below.of_only2 b1 b2 h3 h4 (Nat.le_trans hb d.size))
    have r1 := p1.row
    have r2 := p2.row
    have hBk : ∀ kb, kb < w.heap.size → (some ⟨x, 0, none⟩ : Option Addr) ≠ some ⟨kb, 0, none⟩ → (some ⟨y, 0, none⟩ : Option Addr) ≠ some ⟨kb, 0, none⟩ → w2.heap[kb]? = w.heap[kb]? := fun kb hk hx hy => by
      have k1 : kb ≠ x := fun e => hx (by rw [e])
      have k2 : kb ≠ y := fun e => hy (by rw [e])
      have h1 := Nat.lt_of_lt_of_le hk d.size
      exact ((b2.2.2.2.2 kb (Nat.lt_of_lt_of_le h1 b1.2.2.2.1) k2).trans (b1.2.2.2.2 kb h1 k1)).trans (d.block kb hk)
    have hBk := hide hBk
    clear b1 b2 p1 p2 q1 q2 s0
    go_wp2_with fail
    go_ret
    exact ⟨rfl, ⟨r1, r2⟩, hO, hBk.out⟩
set_option maxRecDepth 100000 in
set_option maxHeartbeats 1600000 in
theorem w_heldRt (t : Ro) (a0 : Option Addr) (c0 : Nat) (a1 : Option Addr) (c1 : Nat) (w : World) (h0 : t.n0 ≤ 1048576) (h1 : t.n1 ≤ 1048576) (R : RowInt a0 t.n0 (fun i => 1 + (i : Int)) w ∧ RowInt a1 t.n1 (fun i => 1 + (t.n0 : Int) + (i : Int)) w) :
    Calls Try.prog 12 #[.agg #[.int .i64 t.pa, .int .i64 t.pl, .int .i64 t.o, .slice a0 t.n0 c0, .int .i64 t.nx, .int .i64 t.md, .int .i64 t.pf, .slice a1 t.n1 c1], .int .i64 1] w fun e w' => e = .returned (.int .i64 (1 + (t.n0 : Int) + (t.n1 : Int))) ∧ Below w.heap.size w w' := by
  have s0 := hide (fun w R0 R1 => w_heldAttrs t.o t.nx t.md t.pf a0 t.n0 c0 a1 t.n1 c1 w h0 h1 R0 R1)
  have d : Below w.heap.size w (w.alloc (.cells #[.int .i64 t.pa, .int .i64 t.pl, .int .i64 t.o, .slice a0 t.n0 c0, .int .i64 t.nx, .int .i64 t.md, .int .i64 t.pf, .slice a1 t.n1 c1] 35)) := below_box (Below.refl _ _)
  have r0 := R.1.below d
  have r1 := R.2.below d
  have hp : ¬ (1 + (t.n0 : Int) + (t.n1 : Int) < 0) := by omega
  clear h0 h1 R
  go_enter Try.func12, Try.ntmps12
  go_wp2_with fail
  generalize w.alloc (.cells #[.int .i64 t.pa, .int .i64 t.pl, .int .i64 t.o, .slice a0 t.n0 c0, .int .i64 t.nx, .int .i64 t.md, .int .i64 t.pf, .slice a1 t.n1 c1] 35) = w1 at *
  refine (s0.out _ r0 r1).mono ?_
  rintro e w2 ⟨rfl, b2⟩
  have d2 := d.trans (b2.mono d.size)
  go_wp2_with fail
  go_ret
  exact ⟨rfl, d2⟩
end Go.Proofs.Ytflakkbodbnndaa
