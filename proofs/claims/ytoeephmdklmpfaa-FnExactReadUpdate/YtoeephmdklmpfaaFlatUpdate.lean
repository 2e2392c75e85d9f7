/- Updates in memory, and what the laws do with them: handed over, compared. -/
import Derived.Test.YtoeephmdklmpfaaFlatAttrs
import Derived.Test.YtoeephmdklmpfaaFlatPrefix
import Derived.Test.YtoeephmdklmpfaaSz3
namespace Go.Proofs.Ytoeephmdklmpfaa
open Go.RowKit

theorem OutPrefix.onlyU {c n k d : Nat} {f0 f1 : Nat → Int} {w w' : World} (h : OutPrefix c n k f0 f1 w) (hb : Only d w w') (hn : c ≠ d) : OutPrefix c n k f0 f1 w' := by
  refine ⟨Nat.lt_of_lt_of_le h.1 hb.2.2.2.1, fun i hi => ?_⟩
  obtain ⟨⟨x0, x1, h0, h1, hk⟩, g0, g1⟩ := h.2 i hi
  exact ⟨⟨x0, x1, (hb.cell h.1 hn).trans h0, (hb.cell h.1 hn).trans h1, hk⟩, (hb.frozen h.1 hn).trans g0, (hb.frozen h.1 hn).trans g1⟩
/-- A few cells of one block are written: nothing else turns. -/
theorem only_sets {c : Nat} {w w' : World} (h : Only c w w') (L : List (Nat × Value)) : Only c w (L.foldl (fun u x => u.setCell ⟨c, x.1, none⟩ x.2) w') := by
  induction L generalizing w' with
  | nil => exact h
  | cons x L ih => exact ih (h.setCell x.1 x.2)
theorem below_only {c base : Nat} {w w' : World} (h : Only c w w') (hc : base ≤ c) (hb : base ≤ w.heap.size) : Below base w w' := ⟨h.1, h.2.1, h.2.2.1, h.2.2.2.1, fun k hk => h.2.2.2.2 k (by omega) (by omega)⟩

set_option maxRecDepth 100000 in
set_option maxHeartbeats 3200000 in
theorem w_eqUpdate (ga gb : Option Addr) (gn gc gd : Nat) (f0 f1 : Nat → Int) (o nx md pf : Int) (a0 b0 : Option Addr) (n0 c0 d0 : Nat) (f : Nat → Int) (a1 b1 : Option Addr) (n1 c1 d1 : Nat) (g : Nat → Int) (ca cb : Option Addr) (cn cc cd : Nat) (h0 h1 : Nat → Int) (w : World)
    (lg : gn ≤ 4294967296) (l0 : n0 ≤ 4294967296) (l1 : n1 ≤ 4294967296) (lc : cn ≤ 4294967296) (RG : RowPrefix ga gn f0 f1 w) (R0 : RowInt a0 n0 f w) (R1 : RowInt a1 n1 g w) (RC : RowPrefix ca cn h0 h1 w) (QG : RowPrefix gb gn f0 f1 w) (Q0 : RowInt b0 n0 f w) (Q1 : RowInt b1 n1 g w) (QC : RowPrefix cb cn h0 h1 w) :
    Calls Try.prog 17 #[.agg #[.slice ga gn gc, .int .i64 o, .slice a0 n0 c0, .int .i64 nx, .int .i64 md, .int .i64 pf, .slice a1 n1 c1, .slice ca cn cc], .agg #[.slice gb gn gd, .int .i64 o, .slice b0 n0 d0, .int .i64 nx, .int .i64 md, .int .i64 pf, .slice b1 n1 d1, .slice cb cn cd]] w fun e w' => e = .returned (.bool true) ∧ Below w.heap.size w w' := by
  have s0 := hide (fun w R Q => w_eqPrefixS ga gb gn gc gd f0 f1 w lg R Q)
  have s1 := hide (fun w R R' Q Q' => w_eqAttrs o nx md pf a0 b0 n0 c0 d0 f a1 b1 n1 c1 d1 g w l0 l1 R R' Q Q')
  have s2 := hide (fun w R Q => w_eqPrefixS ca cb cn cc cd h0 h1 w lc R Q)
  clear lg l0 l1 lc
  have M0 := (Mut.new w #[.slice ga gn gc, .int .i64 o, .slice a0 n0 c0, .int .i64 nx, .int .i64 md, .int .i64 pf, .slice a1 n1 c1, .slice ca cn cc] 27).alloc (.cells #[.slice gb gn gd, .int .i64 o, .slice b0 n0 d0, .int .i64 nx, .int .i64 md, .int .i64 pf, .slice b1 n1 d1, .slice cb cn cd] 27)
  have M1 := Mut.new (w.alloc (.cells #[.slice ga gn gc, .int .i64 o, .slice a0 n0 c0, .int .i64 nx, .int .i64 md, .int .i64 pf, .slice a1 n1 c1, .slice ca cn cc] 27)) #[.slice gb gn gd, .int .i64 o, .slice b0 n0 d0, .int .i64 nx, .int .i64 md, .int .i64 pf, .slice b1 n1 d1, .slice cb cn cd] 27
  have e0 : Below w.heap.size w ((w.alloc (.cells #[.slice ga gn gc, .int .i64 o, .slice a0 n0 c0, .int .i64 nx, .int .i64 md, .int .i64 pf, .slice a1 n1 c1, .slice ca cn cc] 27)).alloc (.cells #[.slice gb gn gd, .int .i64 o, .slice b0 n0 d0, .int .i64 nx, .int .i64 md, .int .i64 pf, .slice b1 n1 d1, .slice cb cn cd] 27)) := below_box2 (Below.refl _ _)
  simp only [World.size_alloc] at M1
  go_enter Try.func17, Try.ntmps17
  go_wp2_with fail
  generalize (w.alloc (.cells #[.slice ga gn gc, .int .i64 o, .slice a0 n0 c0, .int .i64 nx, .int .i64 md, .int .i64 pf, .slice a1 n1 c1, .slice ca cn cc] 27)).alloc (.cells #[.slice gb gn gd, .int .i64 o, .slice b0 n0 d0, .int .i64 nx, .int .i64 md, .int .i64 pf, .slice b1 n1 d1, .slice cb cn cd] 27) = w1 at *
  refine (s0.out _ (RG.below e0) (QG.below e0)).mono ?_
  rintro e w2 ⟨rfl, hb2⟩
  have M0 := M0.below hb2
  have M1 := M1.below hb2
  have e2 := e0.trans (hb2.mono e0.size)
  clear hb2 e0
  have u1 := M0.2.1 1 _ rfl
  have v1 := M1.2.1 1 _ rfl
  have u2 := M0.2.1 2 _ rfl
  have v2 := M1.2.1 2 _ rfl
  have u3 := M0.2.1 3 _ rfl
  have v3 := M1.2.1 3 _ rfl
  have u4 := M0.2.1 4 _ rfl
  have v4 := M1.2.1 4 _ rfl
  have u5 := M0.2.1 5 _ rfl
  have v5 := M1.2.1 5 _ rfl
  have u6 := M0.2.1 6 _ rfl
  have v6 := M1.2.1 6 _ rfl
  go_wp2_with fail
  refine (s1.out _ (R0.below e2) (R1.below e2) (Q0.below e2) (Q1.below e2)).mono ?_
  rintro e w3 ⟨rfl, hb3⟩
  have M0 := M0.below hb3
  have M1 := M1.below hb3
  have e3 := e2.trans (hb3.mono e2.size)
  clear hb3 e2
  have u7 := M0.2.1 7 _ rfl
  have v7 := M1.2.1 7 _ rfl
  go_wp2_with fail
  refine (s2.out _ (RC.below e3) (QC.below e3)).mono ?_
  rintro e w4 ⟨rfl, hb4⟩
  have e4 := e3.trans (hb4.mono e3.size)
  go_wp2_with fail
  go_ret
  exact ⟨rfl, e4⟩
end Go.Proofs.Ytoeephmdklmpfaa
