/- ownOffer, apartFrom of the program. -/
import Derived.Test.YtjjdfniemlcnnaaAll6
import Derived.Test.YtjjdfniemlcnnaaAll14
import Derived.Deep.RegionHeld3
namespace Go.Proofs.Ytjjdfniemlcnnaa
open Go.RowKit

/-- An offer of its own, newer than z. -/
def NewO (z : Nat) (t : Oc) (w : World) (q : Oe) : Prop := q.t = t ∧ q.a0 = some ⟨bxO q, 0, none⟩ ∧ q.a1 = some ⟨byO q, 0, none⟩ ∧ z ≤ bxO q ∧ bxO q < byO q ∧ OutInt (bxO q) q.t.n0 q.t.n0 q.t.f w ∧ OutInt (byO q) q.t.n1 q.t.n1 q.t.g w
theorem NewO.below {z : Nat} {t : Oc} {w w' : World} {q : Oe} (h : NewO z t w q) (b : Below w.heap.size w w') : NewO z t w' q := by
  obtain ⟨h1, h2, h3, h4, h5, h6, h7⟩ := h
  exact ⟨h1, h2, h3, h4, h5, h6.below b, h7.below b⟩
theorem i_ownA (o nx md pf : Int) (a0 : Option Addr) (n0 c0 : Nat) (f : Nat → Int) (a1 : Option Addr) (n1 c1 : Nat) (g : Nat → Int) (w : World) (h0 : n0 ≤ 1048576) (h1 : n1 ≤ 1048576) (s0 : ∃ x f, a0 = some ⟨x, f, none⟩) (s1 : ∃ x f, a1 = some ⟨x, f, none⟩) (R0 : RowInt a0 n0 f w) (R1 : RowInt a1 n1 g w) :
    Calls Try.prog 66 #[.agg #[.int .i64 o, .slice a0 n0 c0, .int .i64 nx, .int .i64 md, .int .i64 pf, .slice a1 n1 c1]] w fun e w' => ∃ x pc y yc, e = .returned (.agg #[.int .i64 o, .slice (some ⟨x, 0, none⟩) n0 pc, .int .i64 nx, .int .i64 md, .int .i64 pf, .slice (some ⟨y, 0, none⟩) n1 yc]) ∧ OutInt x n0 n0 f w' ∧ OutInt y n1 n1 g w' ∧ w.heap.size ≤ x ∧ x < y ∧ Below w.heap.size w w' := by
  obtain ⟨x0, f0, rfl⟩ := s0
  obtain ⟨x1, f1, rfl⟩ := s1
  have h := i_ownAttrs o nx md pf x0 f0 c0 x1 f1 c1 ((List.range n0).map f) ((List.range n1).map g) w (by simpa using h0) (by simpa using h1) R0.rowN R1.rowN
  simp only [List.length_map, List.length_range] at h
  refine h.mono ?_
  rintro e w' ⟨x, k, y, l, rfl, o1, o2, hlt, b⟩
  have hx := (own_parts (L := (List.range n0).map f) (by simpa using o1)).1
  refine ⟨x, k, y, l, rfl, ?_, ?_, hx, hlt, b⟩
  · have := ownN_out (L := (List.range n0).map f) (by simpa using o1)
    exact outN_as this rfl
  · have := ownN_out (L := (List.range n1).map g) (by simpa using o2)
    exact outN_as this rfl
set_option maxRecDepth 100000 in
set_option maxHeartbeats 1600000 in
theorem i_ownOffer (e : Oe) (w : World) (hS : SrcO w e) :
    Calls Try.prog 52 #[.agg #[.int .i64 e.t.pe, .int .i64 e.t.o, .slice e.a0 e.t.n0 e.c0, .int .i64 e.t.nx, .int .i64 e.t.md, .int .i64 e.t.pf, .slice e.a1 e.t.n1 e.c1]] w fun r w' => ∃ q, r = .returned (.agg #[.int .i64 q.t.pe, .int .i64 q.t.o, .slice q.a0 q.t.n0 q.c0, .int .i64 q.t.nx, .int .i64 q.t.md, .int .i64 q.t.pf, .slice q.a1 q.t.n1 q.c1]) ∧ NewO w.heap.size e.t w' q ∧ Below w.heap.size w w' := by
  obtain ⟨s0, s1, ⟨R0, R1⟩, h0, h1⟩ := hS
  have A := hide (fun w R0 R1 => i_ownA e.t.o e.t.nx e.t.md e.t.pf e.a0 e.t.n0 e.c0 e.t.f e.a1 e.t.n1 e.c1 e.t.g w h0 h1 s0 s1 R0 R1)
  have d0 : Below w.heap.size w (w.alloc (.cells #[.int .i64 e.t.pe, .int .i64 e.t.o, .slice e.a0 e.t.n0 e.c0, .int .i64 e.t.nx, .int .i64 e.t.md, .int .i64 e.t.pf, .slice e.a1 e.t.n1 e.c1] 49)) := below_box (Below.refl _ _)
  have hz : (w.alloc (.cells #[.int .i64 e.t.pe, .int .i64 e.t.o, .slice e.a0 e.t.n0 e.c0, .int .i64 e.t.nx, .int .i64 e.t.md, .int .i64 e.t.pf, .slice e.a1 e.t.n1 e.c1] 49)).heap.size = w.heap.size + 1 := by simp
  clear h0 h1 s0 s1
  go_enter Try.func52, Try.ntmps52
  go_wp2_with fail
  have M1 := (Mut.new w #[.int .i64 e.t.pe, .int .i64 e.t.o, .slice e.a0 e.t.n0 e.c0, .int .i64 e.t.nx, .int .i64 e.t.md, .int .i64 e.t.pf, .slice e.a1 e.t.n1 e.c1] 49).alloc (.cells #[.int .i64 0, .int .i64 0, .slice none 0 0, .int .i64 0, .int .i64 0, .int .i64 0, .slice none 0 0] 49)
  have M2 := Mut.new (w.alloc (.cells #[.int .i64 e.t.pe, .int .i64 e.t.o, .slice e.a0 e.t.n0 e.c0, .int .i64 e.t.nx, .int .i64 e.t.md, .int .i64 e.t.pf, .slice e.a1 e.t.n1 e.c1] 49)) #[.int .i64 0, .int .i64 0, .slice none 0 0, .int .i64 0, .int .i64 0, .int .i64 0, .slice none 0 0] 49
  have d1 : Below w.heap.size w ((w.alloc (.cells #[.int .i64 e.t.pe, .int .i64 e.t.o, .slice e.a0 e.t.n0 e.c0, .int .i64 e.t.nx, .int .i64 e.t.md, .int .i64 e.t.pf, .slice e.a1 e.t.n1 e.c1] 49)).alloc (.cells #[.int .i64 0, .int .i64 0, .slice none 0 0, .int .i64 0, .int .i64 0, .int .i64 0, .slice none 0 0] 49)) := below_box2 (Below.refl _ _)
  rw [World.size_alloc] at M2
  generalize (w.alloc (.cells #[.int .i64 e.t.pe, .int .i64 e.t.o, .slice e.a0 e.t.n0 e.c0, .int .i64 e.t.nx, .int .i64 e.t.md, .int .i64 e.t.pf, .slice e.a1 e.t.n1 e.c1] 49)).alloc (.cells #[.int .i64 0, .int .i64 0, .slice none 0 0, .int .i64 0, .int .i64 0, .int .i64 0, .slice none 0 0] 49) = w1 at *
  have lt2 := M2.1
  have u0 := M1.2.1 0 _ rfl
  have u1 := M1.2.1 1 _ rfl
  have u2 := M1.2.1 2 _ rfl
  have u3 := M1.2.1 3 _ rfl
  have u4 := M1.2.1 4 _ rfl
  have u5 := M1.2.1 5 _ rfl
  have u6 := M1.2.1 6 _ rfl
  go_region_with (go_at_call 66; refine (A.out _ (R0.below (by first | exact d1 | exact d1.drew)) (R1.below (by first | exact d1 | exact d1.drew))).mono ?_; rintro r w3 ⟨x, pc, y, yc, rfl, o1, o2, hx, hy, b3⟩; have dA : Below w1.heap.size w1 w3 := (by first | exact b3 | exact (Below.refl _ _).drew.trans b3); have N := M2.below dA; have p0 := (M1.below dA).2.1 0 _ rfl; have n0 := N.2.1 0 _ rfl; have z0 := N.2.2 0 (by simp); have n1 := N.2.1 1 _ rfl; have z1 := N.2.2 1 (by simp); have n2 := N.2.1 2 _ rfl; have z2 := N.2.2 2 (by simp); have n3 := N.2.1 3 _ rfl; have z3 := N.2.2 3 (by simp); have n4 := N.2.1 4 _ rfl; have z4 := N.2.2 4 (by simp); have n5 := N.2.1 5 _ rfl; have z5 := N.2.2 5 (by simp); have n6 := N.2.1 6 _ rfl; have z6 := N.2.2 6 (by simp))
  all_goals
    have hx' : w1.heap.size ≤ x := hx
    have hd1 := d1.size
    clear u0 u1 u2 u3 u4 u5 u6 p0 M1 M2 N hx A b3
    have dF := d1.trans (dA.mono d1.size)
    clear dA d1
    go_wp2_with fail
    refine bodyPost_ret (v := .agg #[.int .i64 e.t.pe, .int .i64 e.t.o, .slice (some ⟨x, 0, none⟩) e.t.n0 pc, .int .i64 e.t.nx, .int .i64 e.t.md, .int .i64 e.t.pf, .slice (some ⟨y, 0, none⟩) e.t.n1 yc]) (by simp [results, Try.results52, go_sem, *]) rfl ⟨⟨e.t, some ⟨x, 0, none⟩, pc, some ⟨y, 0, none⟩, yc⟩, rfl, ⟨rfl, rfl, rfl, ?_, hy, ?_, ?_⟩, ?_⟩
    · show w.heap.size ≤ x
      omega
    · show OutInt x _ _ _ _
      refine OutInt.other (OutInt.other (OutInt.other (OutInt.other (OutInt.other (OutInt.other (OutInt.other (o1) ?_ _ _) ?_ _ _) ?_ _ _) ?_ _ _) ?_ _ _) ?_ _ _) ?_ _ _ <;> omega
    · show OutInt y _ _ _ _
      refine OutInt.other (OutInt.other (OutInt.other (OutInt.other (OutInt.other (OutInt.other (OutInt.other (o2) ?_ _ _) ?_ _ _) ?_ _ _) ?_ _ _) ?_ _ _) ?_ _ _) ?_ _ _ <;> omega
    · refine Below.setCell (Below.setCell (Below.setCell (Below.setCell (Below.setCell (Below.setCell (Below.setCell (dF) ?_ _) ?_ _) ?_ _) ?_ _) ?_ _) ?_ _) ?_ _ <;> (simp; try omega)
end Go.Proofs.Ytjjdfniemlcnnaa
