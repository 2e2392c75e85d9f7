/- What the specification's l1Has answers at numbers in memory. -/
import Derived.Test.YtflakkbodbnndaaS4
import Derived.Test.YtflakkbodbnndaaAll4
import Derived.Test.YtflakkbodbnndaaAll8
import Derived.Test.YtflakkbodbnndaaMemN
/- l4Own of the specification, both lists told. -/
namespace Go.Proofs.Ytflakkbodbnndaa
open Go.RowKit

theorem OutInt.base {c n k base : Nat} {f : Nat → Int} {w w' : World} (h : OutInt c n k f w) (hc : c < base) (hb : Below base w w') : OutInt c n k f w' := by
  refine ⟨Nat.lt_of_lt_of_le h.1 hb.size, fun i hi => ?_⟩
  obtain ⟨⟨x, h0, hk⟩, g0⟩ := h.2 i hi
  exact ⟨⟨x, (hb.cell (p := ⟨c, i, none⟩) hc).trans h0, hk⟩, (hb.frozen (p := ⟨c, i, none⟩) hc).trans g0⟩
theorem outN_as {c n : Nat} {P : List Int} {f : Nat → Int} {w : World} (h : OutInt c P.length P.length (fun i => P.getD i 0) w) (e : (List.range n).map f = P) : OutInt c n n f w := by
  subst e
  simp only [List.length_map, List.length_range] at h
  exact h.congr (fun i hi => by simp [List.getD_eq_getElem?_getD, hi])
set_option maxRecDepth 100000 in
set_option maxHeartbeats 1600000 in
theorem s_own8 (o nx md pf : Int) (a0 : Option Addr) (n0 c0 : Nat) (f : Nat → Int) (a1 : Option Addr) (n1 c1 : Nat) (g : Nat → Int) (w : World) (h0 : n0 ≤ 1048576) (h1 : n1 ≤ 1048576) (S0 : SrcN .i64 a0 ((List.range n0).map f) c0 w) (S1 : SrcN .i64 a1 ((List.range n1).map g) c1 w) :
    Calls Try.prog 49 #[.agg #[.int .i64 o, .slice a0 n0 c0, .int .i64 nx, .int .i64 md, .int .i64 pf, .slice a1 n1 c1]] w fun e w' => ∃ x pc y yc, e = .returned (.agg #[.int .i64 o, .slice (some ⟨x, 0, none⟩) n0 pc, .int .i64 nx, .int .i64 md, .int .i64 pf, .slice (some ⟨y, 0, none⟩) n1 yc]) ∧ OutInt x n0 n0 f w' ∧ OutInt y n1 n1 g w' ∧ w.heap.size ≤ x ∧ x < y ∧ Below w.heap.size w w' := by
  have M0 := ((Mut.new w #[.int .i64 o, .slice a0 n0 c0, .int .i64 nx, .int .i64 md, .int .i64 pf, .slice a1 n1 c1] 33).alloc (.cells #[.int .i64 0, .slice none 0 0, .int .i64 0, .int .i64 0, .int .i64 0, .slice none 0 0] 33)).alloc (.cells #[] 3)
  have M1 := (Mut.new (w.alloc (.cells #[.int .i64 o, .slice a0 n0 c0, .int .i64 nx, .int .i64 md, .int .i64 pf, .slice a1 n1 c1] 33)) #[.int .i64 0, .slice none 0 0, .int .i64 0, .int .i64 0, .int .i64 0, .slice none 0 0] 33).alloc (.cells #[] 3)
  have hm0 : OwnN 3 .i64 (w.heap.size + 1 + 1) (.slice (some ⟨w.heap.size + 1 + 1, 0, none⟩) 0 0) [] (((w.alloc (.cells #[.int .i64 o, .slice a0 n0 c0, .int .i64 nx, .int .i64 md, .int .i64 pf, .slice a1 n1 c1] 33)).alloc (.cells #[.int .i64 0, .slice none 0 0, .int .i64 0, .int .i64 0, .int .i64 0, .slice none 0 0] 33)).alloc (.cells #[] 3)) := by
    have := World.ownsRow_made (e := 3) (size := 1) (base := w.heap.size + 1 + 1) ((w.alloc (.cells #[.int .i64 o, .slice a0 n0 c0, .int .i64 nx, .int .i64 md, .int .i64 pf, .slice a1 n1 c1] 33)).alloc (.cells #[.int .i64 0, .slice none 0 0, .int .i64 0, .int .i64 0, .int .i64 0, .slice none 0 0] 33)) #[] 0 (by simp) (by decide) (by decide)
    unfold OwnN
    simpa [ncells] using this
  have d : Below w.heap.size w (((w.alloc (.cells #[.int .i64 o, .slice a0 n0 c0, .int .i64 nx, .int .i64 md, .int .i64 pf, .slice a1 n1 c1] 33)).alloc (.cells #[.int .i64 0, .slice none 0 0, .int .i64 0, .int .i64 0, .int .i64 0, .slice none 0 0] 33)).alloc (.cells #[] 3)) := below_box3 (Below.refl _ _)
  have hsz : w.heap.size + 1 + 1 ≤ (((w.alloc (.cells #[.int .i64 o, .slice a0 n0 c0, .int .i64 nx, .int .i64 md, .int .i64 pf, .slice a1 n1 c1] 33)).alloc (.cells #[.int .i64 0, .slice none 0 0, .int .i64 0, .int .i64 0, .int .i64 0, .slice none 0 0] 33)).alloc (.cells #[] 3)).heap.size := by simp
  simp only [World.size_alloc] at M1
  have S0 := S0.below d
  have hl0 := hide (show n0 = ((List.range n0).map f).length by simp)
  have hl1 := hide (show n1 = ((List.range n1).map g).length by simp)
  have hb0 : Hid (([] : List Int).length + ((List.range n0).map f).length ≤ 8589934593) := by show _ ≤ _; simp; omega
  have hb1 : Hid (([] : List Int).length + ((List.range n1).map g).length ≤ 8589934593) := by show _ ≤ _; simp; omega
  generalize hPP : (List.range n0).map f = P at *
  generalize hCC : (List.range n1).map g = C at *
  have hCh := hide hCC
  have hPh := hide hPP
  clear hPP hCC
  go_enter Try.func49, Try.ntmps49
  go_wp2_with (first | (at_builtin; refine wpList_appN numInt rfl _ _ rfl (w.heap.size + 1 + 1) _ [] rfl hm0 a0 P n0 c0 rfl hl0.out S0 hb0.out (by decide) hsz ?_))
  intro v1 w1 own1 b1 _ hbl1
  have M0 := M0.base (by omega) b1
  have M1 := M1.base (by omega) b1
  have d1 := d.trans (b1.mono (by omega))
  have hs1 := Nat.le_trans hsz b1.size
  clear hm0 d b1 hsz
  obtain ⟨pa, pc, rfl, _, hpc⟩ := ownN_row own1
  obtain ⟨x, rfl, hx1, hx2⟩ : ∃ x, pa = some ⟨x, 0, none⟩ ∧ w.heap.size + 1 + 1 ≤ x ∧ x < w1.heap.size := by
    rcases hpc with ⟨rfl, _, _⟩ | ⟨q, h1, h2, h3⟩
    · simp [Value.ownBlock] at hbl1
    · exact ⟨q, h1, h2, h3⟩
  try simp only [List.nil_append] at own1
  have OP := outN_as (ownN_out own1) hPh.out
  have RP1 := hide ((OP.other (show x ≠ w.heap.size by omega) 1 (.slice (some ⟨x, 0, none⟩) P.length pc)).below (below_box (o := .cells #[] 3) (Below.refl _ _)))
  clear OP hpc hbl1
  have y1 := M0.2.1 1 _ rfl
  have z1 := M0.2.2 1 (by simp)
  have y5 := M0.2.1 5 _ rfl
  have z5 := M0.2.2 5 (by simp)
  clear own1
  have hszS : (w1.setCell ⟨w.heap.size, 1, none⟩ (.slice (some ⟨x, 0, none⟩) P.length pc)).heap.size = w1.heap.size := by simp
  have MS0 := (M0.set 1 (.slice (some ⟨x, 0, none⟩) P.length pc)).alloc (.cells #[] 3)
  have MS1 := (M1.other (c := w.heap.size) (by omega) 1 (.slice (some ⟨x, 0, none⟩) P.length pc)).alloc (.cells #[] 3)
  have dS : Below w.heap.size w ((w1.setCell ⟨w.heap.size, 1, none⟩ (.slice (some ⟨x, 0, none⟩) P.length pc)).alloc (.cells #[] 3)) := (d1.setCell (p := ⟨w.heap.size, 1, none⟩) (Nat.le_refl _) _).trans ((below_box (Below.refl _ _)).mono (by rw [hszS]; omega))
  have x5 := MS0.2.1 5 _ rfl
  have hm1 : OwnN 3 .i64 w1.heap.size (.slice (some ⟨w1.heap.size, 0, none⟩) 0 0) [] ((w1.setCell ⟨w.heap.size, 1, none⟩ (.slice (some ⟨x, 0, none⟩) P.length pc)).alloc (.cells #[] 3)) := by
    have := World.ownsRow_made (e := 3) (size := 1) (base := w1.heap.size) (w1.setCell ⟨w.heap.size, 1, none⟩ (.slice (some ⟨x, 0, none⟩) P.length pc)) #[] 0 (by simp) (by decide) (by decide)
    unfold OwnN
    simpa [ncells] using this
  have hsz2 : w1.heap.size ≤ ((w1.setCell ⟨w.heap.size, 1, none⟩ (.slice (some ⟨x, 0, none⟩) P.length pc)).alloc (.cells #[] 3)).heap.size := by simp
  have S1 := S1.below dS
  go_wp2_with (first | (at_builtin; refine wpList_appN numInt rfl _ _ rfl w1.heap.size _ [] rfl hm1 a1 C n1 c1 rfl hl1.out S1 hb1.out (by decide) hsz2 ?_))
  intro v2 w2 own2 b2 _ hbl
  have MS0 := MS0.base (by omega) b2
  have MS1 := MS1.base (by omega) b2
  have d2 := dS.trans (b2.mono (by omega))
  obtain ⟨ya, yc, rfl, _, hcase⟩ := ownN_row own2
  have RP2 := hide (RP1.out.base hx2 b2)
  obtain ⟨y, rfl, hy1, hy2⟩ : ∃ y, ya = some ⟨y, 0, none⟩ ∧ w1.heap.size ≤ y ∧ y < w2.heap.size := by
    rcases hcase with ⟨rfl, _, _⟩ | ⟨q, h1, h2, h3⟩
    · simp [Value.ownBlock] at hbl
    · exact ⟨q, h1, h2, h3⟩
  try simp only [List.nil_append] at own2
  have RC := hide (outN_as (ownN_out own2) hCh.out)
  clear hbl hcase hm1 M0 M1 d1 dS b2 x5 y1 y5 z1 z5 hszS hsz2
  have u0 := MS0.2.1 0 _ rfl
  have u1 := MS0.2.1 1 _ rfl
  have u2 := MS0.2.1 2 _ rfl
  have u3 := MS0.2.1 3 _ rfl
  have u4 := MS0.2.1 4 _ rfl
  have u5 := MS0.2.1 5 _ rfl
  have f5 := MS0.2.2 5 (by simp)
  have t0 := MS1.2.1 0 _ rfl
  have t1 := MS1.2.1 1 _ rfl
  have t2 := MS1.2.1 2 _ rfl
  have t3 := MS1.2.1 3 _ rfl
  have t4 := MS1.2.1 4 _ rfl
  have t5 := MS1.2.1 5 _ rfl
  have r0 := MS1.2.2 0 (by simp)
  have r1 := MS1.2.2 1 (by simp)
  have r2 := MS1.2.2 2 (by simp)
  have r3 := MS1.2.2 3 (by simp)
  have r4 := MS1.2.2 4 (by simp)
  have r5 := MS1.2.2 5 (by simp)
  clear MS0 MS1
  go_wp2_with fail
  have hon1 : Only w.heap.size w2 (w2.setCell ⟨w.heap.size, 5, none⟩ (.slice (some ⟨y, 0, none⟩) C.length yc)) := (Only.refl _ _).setCell _ _
  have hon2 : Only (w.heap.size + 1) (w2.setCell ⟨w.heap.size, 5, none⟩ (.slice (some ⟨y, 0, none⟩) C.length yc)) (((((((w2.setCell ⟨w.heap.size, 5, none⟩ (.slice (some ⟨y, 0, none⟩) C.length yc)).setCell ⟨w.heap.size + 1, 0, none⟩ (.int .i64 o)).setCell ⟨w.heap.size + 1, 1, none⟩ (.slice (some ⟨x, 0, none⟩) P.length pc)).setCell ⟨w.heap.size + 1, 2, none⟩ (.int .i64 nx)).setCell ⟨w.heap.size + 1, 3, none⟩ (.int .i64 md)).setCell ⟨w.heap.size + 1, 4, none⟩ (.int .i64 pf)).setCell ⟨w.heap.size + 1, 5, none⟩ (.slice (some ⟨y, 0, none⟩) C.length yc)) :=
    ((((((Only.refl _ _).setCell _ _).setCell _ _).setCell _ _).setCell _ _).setCell _ _).setCell _ _
  have RP3 := hide ((RP2.out.only hon1 (by omega)).only hon2 (by omega))
  have RC3 := hide ((RC.out.only hon1 (by omega)).only hon2 (by omega))
  have hl1o := hl1.out
  have z2 := d2.size
  have dF : Below w.heap.size w _ := (d2.trans (hon1.below (by omega))).trans ((hon2.below (by have := hon1.2.2.2.1; omega)).mono (by omega))
  have hl0o := hl0.out
  clear RP1 RP2 RC
  exact bodyPost_ret (v := .agg #[.int .i64 o, .slice (some ⟨x, 0, none⟩) P.length pc, .int .i64 nx, .int .i64 md, .int .i64 pf, .slice (some ⟨y, 0, none⟩) C.length yc]) (by simp [results, Try.results49, go_sem, *]) rfl ⟨x, pc, y, yc, by rw [hl1o, hl0o], RP3.out, RC3.out, by omega, by omega, dF⟩
end Go.Proofs.Ytflakkbodbnndaa

/- l4Own with both lists and their room told. -/
namespace Go.Proofs.Ytflakkbodbnndaa
open Go.RowKit

theorem own_capC {e : TypeId} {k : IntKind} {w : World} {base : Nat} {a : Option Addr} {c : Nat} {L : List Int} (h : OwnN e k base (.slice a L.length c) L w) : L.length ≤ c := by
  rcases h.2 with ⟨h1, h2⟩ | ⟨g, cap, cur, h1, _, _, h2, _⟩
  · omega
  · simp only [Value.slice.injEq] at h1
    omega
set_option maxRecDepth 100000 in
set_option maxHeartbeats 1600000 in
theorem s_own8c (o nx md pf : Int) (a0 : Option Addr) (n0 c0 : Nat) (f : Nat → Int) (a1 : Option Addr) (n1 c1 : Nat) (g : Nat → Int) (w : World) (h0 : n0 ≤ 1048576) (h1 : n1 ≤ 1048576) (S0 : SrcN .i64 a0 ((List.range n0).map f) c0 w) (S1 : SrcN .i64 a1 ((List.range n1).map g) c1 w) :
    Calls Try.prog 49 #[.agg #[.int .i64 o, .slice a0 n0 c0, .int .i64 nx, .int .i64 md, .int .i64 pf, .slice a1 n1 c1]] w fun e w' => ∃ x pc y yc, e = .returned (.agg #[.int .i64 o, .slice (some ⟨x, 0, none⟩) n0 pc, .int .i64 nx, .int .i64 md, .int .i64 pf, .slice (some ⟨y, 0, none⟩) n1 yc]) ∧ OutInt x n0 n0 f w' ∧ OutInt y n1 n1 g w' ∧ w.heap.size ≤ x ∧ x < y ∧ Below w.heap.size w w' ∧ n0 ≤ pc ∧ n1 ≤ yc := by
  have M0 := ((Mut.new w #[.int .i64 o, .slice a0 n0 c0, .int .i64 nx, .int .i64 md, .int .i64 pf, .slice a1 n1 c1] 33).alloc (.cells #[.int .i64 0, .slice none 0 0, .int .i64 0, .int .i64 0, .int .i64 0, .slice none 0 0] 33)).alloc (.cells #[] 3)
  have M1 := (Mut.new (w.alloc (.cells #[.int .i64 o, .slice a0 n0 c0, .int .i64 nx, .int .i64 md, .int .i64 pf, .slice a1 n1 c1] 33)) #[.int .i64 0, .slice none 0 0, .int .i64 0, .int .i64 0, .int .i64 0, .slice none 0 0] 33).alloc (.cells #[] 3)
  have hm0 : OwnN 3 .i64 (w.heap.size + 1 + 1) (.slice (some ⟨w.heap.size + 1 + 1, 0, none⟩) 0 0) [] (((w.alloc (.cells #[.int .i64 o, .slice a0 n0 c0, .int .i64 nx, .int .i64 md, .int .i64 pf, .slice a1 n1 c1] 33)).alloc (.cells #[.int .i64 0, .slice none 0 0, .int .i64 0, .int .i64 0, .int .i64 0, .slice none 0 0] 33)).alloc (.cells #[] 3)) := by
    have := World.ownsRow_made (e := 3) (size := 1) (base := w.heap.size + 1 + 1) ((w.alloc (.cells #[.int .i64 o, .slice a0 n0 c0, .int .i64 nx, .int .i64 md, .int .i64 pf, .slice a1 n1 c1] 33)).alloc (.cells #[.int .i64 0, .slice none 0 0, .int .i64 0, .int .i64 0, .int .i64 0, .slice none 0 0] 33)) #[] 0 (by simp) (by decide) (by decide)
    unfold OwnN
    simpa [ncells] using this
  have d : Below w.heap.size w (((w.alloc (.cells #[.int .i64 o, .slice a0 n0 c0, .int .i64 nx, .int .i64 md, .int .i64 pf, .slice a1 n1 c1] 33)).alloc (.cells #[.int .i64 0, .slice none 0 0, .int .i64 0, .int .i64 0, .int .i64 0, .slice none 0 0] 33)).alloc (.cells #[] 3)) := below_box3 (Below.refl _ _)
  have hsz : w.heap.size + 1 + 1 ≤ (((w.alloc (.cells #[.int .i64 o, .slice a0 n0 c0, .int .i64 nx, .int .i64 md, .int .i64 pf, .slice a1 n1 c1] 33)).alloc (.cells #[.int .i64 0, .slice none 0 0, .int .i64 0, .int .i64 0, .int .i64 0, .slice none 0 0] 33)).alloc (.cells #[] 3)).heap.size := by simp
  simp only [World.size_alloc] at M1
  have S0 := S0.below d
  have hl0 := hide (show n0 = ((List.range n0).map f).length by simp)
  have hl1 := hide (show n1 = ((List.range n1).map g).length by simp)
  have hb0 : Hid (([] : List Int).length + ((List.range n0).map f).length ≤ 8589934593) := by show _ ≤ _; simp; omega
  have hb1 : Hid (([] : List Int).length + ((List.range n1).map g).length ≤ 8589934593) := by show _ ≤ _; simp; omega
  generalize hPP : (List.range n0).map f = P at *
  generalize hCC : (List.range n1).map g = C at *
  have hCh := hide hCC
  have hPh := hide hPP
  clear hPP hCC
  go_enter Try.func49, Try.ntmps49
  go_wp2_with (first | (at_builtin; refine wpList_appN numInt rfl _ _ rfl (w.heap.size + 1 + 1) _ [] rfl hm0 a0 P n0 c0 rfl hl0.out S0 hb0.out (by decide) hsz ?_))
  intro v1 w1 own1 b1 _ hbl1
  have M0 := M0.base (by omega) b1
  have M1 := M1.base (by omega) b1
  have d1 := d.trans (b1.mono (by omega))
  have hs1 := Nat.le_trans hsz b1.size
  clear hm0 d b1 hsz
  obtain ⟨pa, pc, rfl, _, hpc⟩ := ownN_row own1
  obtain ⟨x, rfl, hx1, hx2⟩ : ∃ x, pa = some ⟨x, 0, none⟩ ∧ w.heap.size + 1 + 1 ≤ x ∧ x < w1.heap.size := by
    rcases hpc with ⟨rfl, _, _⟩ | ⟨q, h1, h2, h3⟩
    · simp [Value.ownBlock] at hbl1
    · exact ⟨q, h1, h2, h3⟩
  try simp only [List.nil_append] at own1
  have kp1 := hide (own_capC own1)
  have OP := outN_as (ownN_out own1) hPh.out
  have RP1 := hide ((OP.other (show x ≠ w.heap.size by omega) 1 (.slice (some ⟨x, 0, none⟩) P.length pc)).below (below_box (o := .cells #[] 3) (Below.refl _ _)))
  clear OP hpc hbl1
  have y1 := M0.2.1 1 _ rfl
  have z1 := M0.2.2 1 (by simp)
  have y5 := M0.2.1 5 _ rfl
  have z5 := M0.2.2 5 (by simp)
  clear own1
  have hszS : (w1.setCell ⟨w.heap.size, 1, none⟩ (.slice (some ⟨x, 0, none⟩) P.length pc)).heap.size = w1.heap.size := by simp
  have MS0 := (M0.set 1 (.slice (some ⟨x, 0, none⟩) P.length pc)).alloc (.cells #[] 3)
  have MS1 := (M1.other (c := w.heap.size) (by omega) 1 (.slice (some ⟨x, 0, none⟩) P.length pc)).alloc (.cells #[] 3)
  have dS : Below w.heap.size w ((w1.setCell ⟨w.heap.size, 1, none⟩ (.slice (some ⟨x, 0, none⟩) P.length pc)).alloc (.cells #[] 3)) := (d1.setCell (p := ⟨w.heap.size, 1, none⟩) (Nat.le_refl _) _).trans ((below_box (Below.refl _ _)).mono (by rw [hszS]; omega))
  have x5 := MS0.2.1 5 _ rfl
  have hm1 : OwnN 3 .i64 w1.heap.size (.slice (some ⟨w1.heap.size, 0, none⟩) 0 0) [] ((w1.setCell ⟨w.heap.size, 1, none⟩ (.slice (some ⟨x, 0, none⟩) P.length pc)).alloc (.cells #[] 3)) := by
    have := World.ownsRow_made (e := 3) (size := 1) (base := w1.heap.size) (w1.setCell ⟨w.heap.size, 1, none⟩ (.slice (some ⟨x, 0, none⟩) P.length pc)) #[] 0 (by simp) (by decide) (by decide)
    unfold OwnN
    simpa [ncells] using this
  have hsz2 : w1.heap.size ≤ ((w1.setCell ⟨w.heap.size, 1, none⟩ (.slice (some ⟨x, 0, none⟩) P.length pc)).alloc (.cells #[] 3)).heap.size := by simp
  have S1 := S1.below dS
  go_wp2_with (first | (at_builtin; refine wpList_appN numInt rfl _ _ rfl w1.heap.size _ [] rfl hm1 a1 C n1 c1 rfl hl1.out S1 hb1.out (by decide) hsz2 ?_))
  intro v2 w2 own2 b2 _ hbl
  have MS0 := MS0.base (by omega) b2
  have MS1 := MS1.base (by omega) b2
  have d2 := dS.trans (b2.mono (by omega))
  obtain ⟨ya, yc, rfl, _, hcase⟩ := ownN_row own2
  have RP2 := hide (RP1.out.base hx2 b2)
  obtain ⟨y, rfl, hy1, hy2⟩ : ∃ y, ya = some ⟨y, 0, none⟩ ∧ w1.heap.size ≤ y ∧ y < w2.heap.size := by
    rcases hcase with ⟨rfl, _, _⟩ | ⟨q, h1, h2, h3⟩
    · simp [Value.ownBlock] at hbl
    · exact ⟨q, h1, h2, h3⟩
  try simp only [List.nil_append] at own2
  have kp2 := hide (own_capC own2)
  have RC := hide (outN_as (ownN_out own2) hCh.out)
  clear hbl hcase hm1 M0 M1 d1 dS b2 x5 y1 y5 z1 z5 hszS hsz2
  have u0 := MS0.2.1 0 _ rfl
  have u1 := MS0.2.1 1 _ rfl
  have u2 := MS0.2.1 2 _ rfl
  have u3 := MS0.2.1 3 _ rfl
  have u4 := MS0.2.1 4 _ rfl
  have u5 := MS0.2.1 5 _ rfl
  have f5 := MS0.2.2 5 (by simp)
  have t0 := MS1.2.1 0 _ rfl
  have t1 := MS1.2.1 1 _ rfl
  have t2 := MS1.2.1 2 _ rfl
  have t3 := MS1.2.1 3 _ rfl
  have t4 := MS1.2.1 4 _ rfl
  have t5 := MS1.2.1 5 _ rfl
  have r0 := MS1.2.2 0 (by simp)
  have r1 := MS1.2.2 1 (by simp)
  have r2 := MS1.2.2 2 (by simp)
  have r3 := MS1.2.2 3 (by simp)
  have r4 := MS1.2.2 4 (by simp)
  have r5 := MS1.2.2 5 (by simp)
  clear MS0 MS1
  go_wp2_with fail
  have hon1 : Only w.heap.size w2 (w2.setCell ⟨w.heap.size, 5, none⟩ (.slice (some ⟨y, 0, none⟩) C.length yc)) := (Only.refl _ _).setCell _ _
  have hon2 : Only (w.heap.size + 1) (w2.setCell ⟨w.heap.size, 5, none⟩ (.slice (some ⟨y, 0, none⟩) C.length yc)) (((((((w2.setCell ⟨w.heap.size, 5, none⟩ (.slice (some ⟨y, 0, none⟩) C.length yc)).setCell ⟨w.heap.size + 1, 0, none⟩ (.int .i64 o)).setCell ⟨w.heap.size + 1, 1, none⟩ (.slice (some ⟨x, 0, none⟩) P.length pc)).setCell ⟨w.heap.size + 1, 2, none⟩ (.int .i64 nx)).setCell ⟨w.heap.size + 1, 3, none⟩ (.int .i64 md)).setCell ⟨w.heap.size + 1, 4, none⟩ (.int .i64 pf)).setCell ⟨w.heap.size + 1, 5, none⟩ (.slice (some ⟨y, 0, none⟩) C.length yc)) :=
    ((((((Only.refl _ _).setCell _ _).setCell _ _).setCell _ _).setCell _ _).setCell _ _).setCell _ _
  have RP3 := hide ((RP2.out.only hon1 (by omega)).only hon2 (by omega))
  have RC3 := hide ((RC.out.only hon1 (by omega)).only hon2 (by omega))
  have hl1o := hl1.out
  have z2 := d2.size
  have dF : Below w.heap.size w _ := (d2.trans (hon1.below (by omega))).trans ((hon2.below (by have := hon1.2.2.2.1; omega)).mono (by omega))
  have hl0o := hl0.out
  clear RP1 RP2 RC
  exact bodyPost_ret (v := .agg #[.int .i64 o, .slice (some ⟨x, 0, none⟩) P.length pc, .int .i64 nx, .int .i64 md, .int .i64 pf, .slice (some ⟨y, 0, none⟩) C.length yc]) (by simp [results, Try.results49, go_sem, *]) rfl ⟨x, pc, y, yc, by rw [hl1o, hl0o], RP3.out, RC3.out, by omega, by omega, dF, by have := kp1.out; omega, by have := kp2.out; omega⟩
end Go.Proofs.Ytflakkbodbnndaa

namespace Go.Proofs.Ytflakkbodbnndaa
open Go.RowKit

end Go.Proofs.Ytflakkbodbnndaa
