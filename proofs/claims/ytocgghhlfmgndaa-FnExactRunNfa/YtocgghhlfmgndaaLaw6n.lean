/- What the laws do with machines: measured, handed over, compared. -/
import Derived.Test.YtocgghhlfmgndaaNfa6
namespace Go.Proofs.Ytocgghhlfmgndaa
open Go.RowKit

theorem OutNfaEdge.only {c d n k : Nat} {f0 f1 : Nat → Int} {f2 f3 : Nat → Bool} {f4 : Nat → Int} {w w' : World} (h : OutNfaEdge c n k f0 f1 f2 f3 f4 w) (ho : Only d w w') (hn : c ≠ d) : OutNfaEdge c n k f0 f1 f2 f3 f4 w' := by
  have hc := fun o => ho.cell (o := o) h.1 hn
  have hf := fun o => ho.frozen (o := o) h.1 hn
  refine ⟨Nat.lt_of_lt_of_le h.1 ho.2.2.2.1, fun i hi => ?_⟩
  obtain ⟨⟨x0, x1, x2, x3, x4, h0, h1, h2, h3, h4, hk⟩, g0, g1, g2, g3, g4⟩ := h.2 i hi
  exact ⟨⟨x0, x1, x2, x3, x4, (hc _).trans h0, (hc _).trans h1, (hc _).trans h2, (hc _).trans h3, (hc _).trans h4, hk⟩, (hf _).trans g0, (hf _).trans g1, (hf _).trans g2, (hf _).trans g3, (hf _).trans g4⟩
theorem OutNfaEdge.other {c d n k : Nat} {f0 f1 : Nat → Int} {f2 f3 : Nat → Bool} {f4 : Nat → Int} {w : World} (h : OutNfaEdge c n k f0 f1 f2 f3 f4 w) (hn : c ≠ d) (o : Nat) (v : Value) : OutNfaEdge c n k f0 f1 f2 f3 f4 (w.setCell ⟨d, o, none⟩ v) :=
  h.only ((Only.refl d w).setCell o v) hn
set_option maxRecDepth 100000 in
set_option maxHeartbeats 800000 in
theorem w_szNfa (s st en : Int) (a : Option Addr) (len cap : Nat) (w : World) (hl : len ≤ maxLen) :
    Calls Try.prog 36 #[.agg #[.int .i64 s, .int .i64 st, .int .i64 en, .slice a len cap], .int .i64 1048576] w fun e w' => e = .returned (.int .i64 (if len ≤ 1048576 then 1048576 - (len : Int) else -1)) ∧ Below w.heap.size w w' := by
  have Z := hide (fun w => w_szNfaEdgeS a len cap w hl)
  by_cases h : len ≤ 1048576
  · rw [if_pos h] at Z
    rw [if_pos h]
    have h1 : ¬ (1048576 - (len : Int) < 0) := by omega
    go_enter Try.func36, Try.ntmps36
    go_wp2_with fail
    refine (Z.out _).mono ?_
    rintro e w1 ⟨rfl, rfl⟩
    go_wp2_with fail
    go_ret
    exact ⟨rfl, below_box (Below.refl _ _)⟩
  · rw [if_neg h] at Z
    rw [if_neg h]
    go_enter Try.func36, Try.ntmps36
    go_wp2_with fail
    refine (Z.out _).mono ?_
    rintro e w1 ⟨rfl, rfl⟩
    go_wp2_with fail
    go_ret
    exact ⟨rfl, below_box (Below.refl _ _)⟩
set_option maxRecDepth 100000 in
set_option maxHeartbeats 3200000 in
theorem w_toNfa (s st en : Int) (a : Option Addr) (len cap : Nat) (f0 f1 : Nat → Int) (f2 f3 : Nat → Bool) (f4 : Nat → Int) (w : World) (hl : len ≤ 1048576) (hR : RowNfaEdge a len f0 f1 f2 f3 f4 w) :
    Calls Try.prog 38 #[.agg #[.int .i64 s, .int .i64 st, .int .i64 en, .slice a len cap]] w fun e w' => ∃ c, e = .returned (.agg #[.int .i64 s, .int .i64 st, .int .i64 en, .slice (some ⟨c, 0, none⟩) len len]) ∧ w.heap.size ≤ c ∧ OutNfaEdge c len len f0 f1 f2 f3 f4 w' ∧ Below w.heap.size w w' := by
  have T := hide (fun w hR => w_toNfaEdgeS a len cap f0 f1 f2 f3 f4 w hl hR)
  have M1 := (Mut.new (w.alloc (.cells #[.int .i64 s, .int .i64 st, .int .i64 en, .slice a len cap] 73)) #[.int .i64 0, .int .i64 0, .int .i64 0, .slice none 0 0] 79).alloc (.cells #[.int .i64 s, .int .i64 st, .int .i64 en, .slice none 0 0] 79)
  have M2 := Mut.new ((w.alloc (.cells #[.int .i64 s, .int .i64 st, .int .i64 en, .slice a len cap] 73)).alloc (.cells #[.int .i64 0, .int .i64 0, .int .i64 0, .slice none 0 0] 79)) #[.int .i64 s, .int .i64 st, .int .i64 en, .slice none 0 0] 79
  clear hl
  go_enter Try.func38, Try.ntmps38
  go_wp2_with fail
  refine (T.out _ (hR.below (below_box3 (Below.refl _ _)))).mono ?_
  rintro e w1 ⟨rfl, hb1, o1⟩
  replace M1 := M1.below hb1
  replace M2 := M2.below hb1
  have d1 := below_box3 hb1
  clear hb1
  simp only [World.size_alloc] at o1 M1 M2 ⊢
  have v0 := M2.2.1 0 _ rfl
  have v1 := M2.2.1 1 _ rfl
  have v2 := M2.2.1 2 _ rfl
  have v3 := M2.2.1 3 _ rfl
  have x3 := M2.2.2 3 (by simp)
  have t0 := M1.2.1 0 _ rfl
  have r0 := M1.2.2 0 (by simp)
  have t1 := M1.2.1 1 _ rfl
  have r1 := M1.2.2 1 (by simp)
  have t2 := M1.2.1 2 _ rfl
  have r2 := M1.2.2 2 (by simp)
  have t3 := M1.2.1 3 _ rfl
  have r3 := M1.2.2 3 (by simp)
  clear M1 M2
  go_wp2_with fail
  have O2 := ((((o1.other (d := w.heap.size + 1 + 1) (by omega) 3 (.slice (some ⟨w.heap.size + 1 + 1 + 1, 0, none⟩) len len)).other (d := w.heap.size + 1) (by omega) 0 (.int .i64 s)).other (d := w.heap.size + 1) (by omega) 1 (.int .i64 st)).other (d := w.heap.size + 1) (by omega) 2 (.int .i64 en)).other (d := w.heap.size + 1) (by omega) 3 (.slice (some ⟨w.heap.size + 1 + 1 + 1, 0, none⟩) len len)
  have D2 := ((((d1.setCell (p := ⟨w.heap.size + 1 + 1, 3, none⟩) (by simp; omega) (.slice (some ⟨w.heap.size + 1 + 1 + 1, 0, none⟩) len len)).setCell (p := ⟨w.heap.size + 1, 0, none⟩) (by simp) (.int .i64 s)).setCell (p := ⟨w.heap.size + 1, 1, none⟩) (by simp) (.int .i64 st)).setCell (p := ⟨w.heap.size + 1, 2, none⟩) (by simp) (.int .i64 en)).setCell (p := ⟨w.heap.size + 1, 3, none⟩) (by simp) (.slice (some ⟨w.heap.size + 1 + 1 + 1, 0, none⟩) len len)
  exact bodyPost_ret (v := .agg #[.int .i64 s, .int .i64 st, .int .i64 en, (.slice (some ⟨w.heap.size + 1 + 1 + 1, 0, none⟩) len len)]) (by simp [results, Try.results38, go_sem, *]) rfl ⟨w.heap.size + 1 + 1 + 1, rfl, by omega, O2, D2⟩
set_option maxRecDepth 100000 in
set_option maxHeartbeats 1600000 in
theorem w_eqNfa (s st en : Int) (a a' : Option Addr) (len cap cap' : Nat) (f0 f1 : Nat → Int) (f2 f3 : Nat → Bool) (f4 : Nat → Int) (w : World) (hl : len ≤ 1048576) (hR : RowNfaEdge a len f0 f1 f2 f3 f4 w) (hR' : RowNfaEdge a' len f0 f1 f2 f3 f4 w) :
    Calls Try.prog 40 #[.agg #[.int .i64 s, .int .i64 st, .int .i64 en, .slice a len cap], .agg #[.int .i64 s, .int .i64 st, .int .i64 en, .slice a' len cap']] w fun e w' => e = .returned (.bool true) ∧ Below w.heap.size w w' := by
  have E := hide (fun w hR hR' => w_eqNfaEdgeS a a' len cap cap' f0 f1 f2 f3 f4 w hl hR hR')
  have k0 : (s != s) = false := by simp
  have k1 : (st != st) = false := by simp
  have k2 : (en != en) = false := by simp
  clear hl
  go_enter Try.func40, Try.ntmps40
  go_wp2_with fail
  refine (E.out _ (hR.below (below_box2 (Below.refl _ _))) (hR'.below (below_box2 (Below.refl _ _)))).mono ?_
  rintro e w1 ⟨rfl, b1⟩
  go_wp2_with fail
  go_ret
  exact ⟨rfl, below_box2 b1⟩
end Go.Proofs.Ytocgghhlfmgndaa
