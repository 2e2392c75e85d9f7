/- Lists of terms and policies as the laws hand them over: a copy, a comparison. -/
import Derived.Test.YtocgghhlfmgndaaLawT
import Derived.Lib.QuietBelow
namespace Go.Proofs.Ytocgghhlfmgndaa
open Go.RowKit

/-- A block of n cells that may be written. -/
def FreeC (c n : Nat) (w : World) : Prop := c < w.heap.size ∧ ∀ q, q < n → (∃ v, w.cell? ⟨c, q, none⟩ = some v) ∧ w.frozen? ⟨c, q, none⟩ = false
theorem FreeC.below {c n : Nat} {w w' : World} (h : FreeC c n w) (k : Below w.heap.size w w') : FreeC c n w' := by
  obtain ⟨hc, hf⟩ := bcell k
  refine ⟨Nat.lt_of_lt_of_le h.1 k.size, fun q hq => ?_⟩
  obtain ⟨⟨v, hv⟩, hz⟩ := h.2 q hq
  exact ⟨⟨v, (hc _ _ h.1).trans hv⟩, (hf _ _ h.1).trans hz⟩
theorem FreeC.set {c n : Nat} {w : World} (h : FreeC c n w) (j : Nat) (x : Value) : FreeC c n (w.setCell ⟨c, j, none⟩ x) := by
  refine ⟨by simpa using h.1, fun q hq => ?_⟩
  obtain ⟨⟨v, hv⟩, hz⟩ := h.2 q hq
  refine ⟨?_, by simpa [go_sem] using hz⟩
  by_cases e : j = q
  · subst e
    exact ⟨x, by simp [go_sem, hv]⟩
  · exact ⟨v, by rw [World.cell?_setCell_other _ _ _ _ (by simp <;> omega)]; exact hv⟩
theorem FreeC.new (w : World) (cs : Array Value) (t : TypeId) : FreeC w.heap.size cs.size (w.alloc (.cells cs t)) :=
  ⟨by simp, fun q hq => ⟨⟨cs[q], by simp [go_sem, hq]⟩, by simp [go_sem]⟩⟩
/-- The first k terms of a copy in block c; their lists lie behind it, each in a block of its own. -/
def RowTO (c k : Nat) (T : Nat → Tc) (w : World) : Prop := ∀ i, i < k → ∃ x y z : Nat, c < x ∧ x < y ∧ y < z ∧ c < w.heap.size ∧
  w.cell? ⟨c, i * 5, none⟩ = some (.slice (some ⟨x, 0, none⟩) (T i).nr (T i).nr) ∧ w.cell? ⟨c, i * 5 + 1, none⟩ = some (.slice (some ⟨y, 0, none⟩) (T i).np (T i).np) ∧ w.cell? ⟨c, i * 5 + 2, none⟩ = some (.int .i64 (T i).cm) ∧
  w.cell? ⟨c, i * 5 + 3, none⟩ = some (.slice (some ⟨z, 0, none⟩) (T i).na (T i).na) ∧ w.cell? ⟨c, i * 5 + 4, none⟩ = some (.int .i64 (T i).vd) ∧
  OutRange x (T i).nr (T i).nr (T i).f0 (T i).f1 (T i).f2 (T i).f3 w ∧ OutReCell y (T i).np (T i).np (T i).q0 (T i).q1 w ∧ OutAct z (T i).na (T i).na (T i).g0 (T i).g1 w
theorem RowTO.below {c k : Nat} {T : Nat → Tc} {w w' : World} (h : RowTO c k T w) (b : Below w.heap.size w w') : RowTO c k T w' := by
  intro i hi
  obtain ⟨hc, _⟩ := bcell b
  obtain ⟨x, y, z, h1, h2, h3, h4, c0, c1, c2, c3, c4, o1, o2, o3⟩ := h i hi
  exact ⟨x, y, z, h1, h2, h3, Nat.lt_of_lt_of_le h4 b.size, (hc _ _ h4).trans c0, (hc _ _ h4).trans c1, (hc _ _ h4).trans c2, (hc _ _ h4).trans c3, (hc _ _ h4).trans c4, o1.below b, o2.below b, o3.below b⟩
theorem RowTO.row {c n : Nat} {T : Nat → Tc} {w : World} (h : RowTO c n T w) : RowT (some ⟨c, 0, none⟩) n T w := by
  intro i hi
  obtain ⟨x, y, z, h1, h2, h3, h4, c0, c1, c2, c3, c4, o1, o2, o3⟩ := h i hi
  exact ⟨c, 0, _, _, _, _, _, _, rfl, h4, by rw [Nat.zero_add]; exact c0, by rw [Nat.zero_add]; exact c1, by rw [Nat.zero_add]; exact c2, by rw [Nat.zero_add]; exact c3, by rw [Nat.zero_add]; exact c4, Nat.le_refl _, o1.row, o2.row, o3.row⟩
theorem RowTO.set {c k : Nat} {T : Nat → Tc} {w : World} (h : RowTO c k T w) {q : Nat} (hq : k * 5 ≤ q) (v : Value) : RowTO c k T (w.setCell ⟨c, q, none⟩ v) := by
  intro i hi
  obtain ⟨x, y, z, h1, h2, h3, h4, c0, c1, c2, c3, c4, o1, o2, o3⟩ := h i hi
  refine ⟨x, y, z, h1, h2, h3, by simpa using h4, ?_, ?_, ?_, ?_, ?_, o1.other (by omega) _ _, o2.other (by omega) _ _, o3.other (by omega) _ _⟩
  · rw [World.cell?_setCell_other _ _ _ _ (by simp <;> omega)]; exact c0
  · rw [World.cell?_setCell_other _ _ _ _ (by simp <;> omega)]; exact c1
  · rw [World.cell?_setCell_other _ _ _ _ (by simp <;> omega)]; exact c2
  · rw [World.cell?_setCell_other _ _ _ _ (by simp <;> omega)]; exact c3
  · rw [World.cell?_setCell_other _ _ _ _ (by simp <;> omega)]; exact c4
theorem RowTO.next {c n k : Nat} {T : Nat → Tc} {w : World} (h : RowTO c k T w) (F : FreeC c (n * 5) w) (hk : k < n) {x y z : Nat} (h1 : c < x) (h2 : x < y) (h3 : y < z)
    (o1 : OutRange x (T k).nr (T k).nr (T k).f0 (T k).f1 (T k).f2 (T k).f3 w) (o2 : OutReCell y (T k).np (T k).np (T k).q0 (T k).q1 w) (o3 : OutAct z (T k).na (T k).na (T k).g0 (T k).g1 w) :
    RowTO c (k + 1) T (((((w.setCell ⟨c, k * 5, none⟩ (.slice (some ⟨x, 0, none⟩) (T k).nr (T k).nr)).setCell ⟨c, k * 5 + 1, none⟩ (.slice (some ⟨y, 0, none⟩) (T k).np (T k).np)).setCell ⟨c, k * 5 + 2, none⟩ (.int .i64 (T k).cm)).setCell ⟨c, k * 5 + 3, none⟩ (.slice (some ⟨z, 0, none⟩) (T k).na (T k).na)).setCell ⟨c, k * 5 + 4, none⟩ (.int .i64 (T k).vd)) := by
  intro i hi
  by_cases e : i = k
  · subst e
    obtain ⟨⟨v0, e0⟩, _⟩ := F.2 (i * 5) (by omega)
    obtain ⟨⟨v1, e1⟩, _⟩ := F.2 (i * 5 + 1) (by omega)
    obtain ⟨⟨v2, e2⟩, _⟩ := F.2 (i * 5 + 2) (by omega)
    obtain ⟨⟨v3, e3⟩, _⟩ := F.2 (i * 5 + 3) (by omega)
    obtain ⟨⟨v4, e4⟩, _⟩ := F.2 (i * 5 + 4) (by omega)
    refine ⟨x, y, z, h1, h2, h3, by simpa using F.1, ?_, ?_, ?_, ?_, ?_, ?_, ?_, ?_⟩
    · simp [go_sem, e0]
    · simp [go_sem, e1]
    · simp [go_sem, e2]
    · simp [go_sem, e3]
    · simp [go_sem, e4]
    · refine OutRange.other (OutRange.other (OutRange.other (OutRange.other (OutRange.other o1 ?_ _ _) ?_ _ _) ?_ _ _) ?_ _ _) ?_ _ _ <;> omega
    · refine OutReCell.other (OutReCell.other (OutReCell.other (OutReCell.other (OutReCell.other o2 ?_ _ _) ?_ _ _) ?_ _ _) ?_ _ _) ?_ _ _ <;> omega
    · refine OutAct.other (OutAct.other (OutAct.other (OutAct.other (OutAct.other o3 ?_ _ _) ?_ _ _) ?_ _ _) ?_ _ _) ?_ _ _ <;> omega
  · exact (((((h.set (Nat.le_refl _) _).set (by omega) _).set (by omega) _).set (by omega) _).set (by omega) _) i (by omega)
set_option maxRecDepth 100000 in
set_option maxHeartbeats 3200000 in
theorem w_eqTermS (a a' : Option Addr) (n c c' : Nat) (T : Nat → Tc) (w : World) (hn : n ≤ 1048576) (hl : LowT n T) (hR : RowT a n T w) (hQ : RowT a' n T w) :
    Calls Try.prog 64 #[.slice a n c, .slice a' n c'] w fun e w' => e = .returned (.bool true) ∧ Below w.heap.size w w' := by
  have hne : ((n : Int) != (n : Int)) = false := by simp
  go_enter Try.func64, Try.ntmps64
  go_wp2_with fail
  go_loopw [5] (fun i wr => ∃ k : Nat, k ≤ n ∧ i = .int .i64 k ∧ Below w.heap.size w wr) (fun i _ => n - (intOf i).toNat)
  case atStart => exact ⟨0, Nat.zero_le _, rfl, Below.refl _ _⟩
  case round =>
    obtain ⟨k, hk, rfl, hb⟩ := hrel
    by_cases hlt : k < n
    · obtain ⟨b, off, ra, rc, pa, pc, aa, ac, rfl, hbw, u0, u1, u2, u3, u4, ht⟩ := hR k hlt
      obtain ⟨b', off', sa, sc, qa, qc, ba, bc, rfl, hbw', v0, v1, v2, v3, v4, hu⟩ := hQ k hlt
      replace u0 := cell_regrown ((hb.cell (p := ⟨b, off + k * 5, none⟩) hbw).trans u0)
      replace u1 := cell_regrown ((hb.cell (p := ⟨b, off + k * 5 + 1, none⟩) hbw).trans u1)
      replace u2 := cell_regrown ((hb.cell (p := ⟨b, off + k * 5 + 2, none⟩) hbw).trans u2)
      replace u3 := cell_regrown ((hb.cell (p := ⟨b, off + k * 5 + 3, none⟩) hbw).trans u3)
      replace u4 := cell_regrown ((hb.cell (p := ⟨b, off + k * 5 + 4, none⟩) hbw).trans u4)
      replace v0 := cell_regrown ((hb.cell (p := ⟨b', off' + k * 5, none⟩) hbw').trans v0)
      replace v1 := cell_regrown ((hb.cell (p := ⟨b', off' + k * 5 + 1, none⟩) hbw').trans v1)
      replace v2 := cell_regrown ((hb.cell (p := ⟨b', off' + k * 5 + 2, none⟩) hbw').trans v2)
      replace v3 := cell_regrown ((hb.cell (p := ⟨b', off' + k * 5 + 3, none⟩) hbw').trans v3)
      replace v4 := cell_regrown ((hb.cell (p := ⟨b', off' + k * 5 + 4, none⟩) hbw').trans v4)
      have hlt' : (k : Int) < (n : Int) := by omega
      obtain ⟨l1, l2, l3⟩ := hl k hlt
      have E := hide (fun w hT hU => w_eqTerm ra rc pa pc aa ac sa sc qa qc ba bc (T k) w l1 l2 l3 hT hU)
      have hT := hide (ht.below hb)
      have hU := hide (hu.below hb)
      clear hR hQ l1 l2 l3 ht hu
      generalize T k = t at *
      go_wp2_with fail
      refine wp_region_quiet_below (by kernel_rfl) (by kernel_rfl) ?_
      repeat (first | go_big_quiet_step (((go_at_call 123; exact Calls.regrown_of (E.out _ (hT.out.below (below_regrown _ _ _)) (hU.out.below (below_regrown _ _ _)))))) | quiet_step (((go_at_call 123; exact Calls.regrown_of (E.out _ (hT.out.below (below_regrown _ _ _)) (hU.out.below (below_regrown _ _ _)))))))
      refine wpQuiet_nil ?_
      intro _ hw'
      obtain ⟨⟨dq, osq⟩, hw''⟩ := hw'
      subst hw''
      have hq := below_regrown wr dq osq
      generalize Go.Sort.grow (redrawn wr dq) osq = wq at hq ⊢
      have hbq := hb.trans (hq.mono hb.size)
      clear hq u0 u1 u2 u3 u4 v0 v1 v2 v3 v4
      go_wp2_with fail
      exact ⟨⟨k + 1, by omega, by go_num, hbq⟩, by simp [intOf]; omega⟩
    · have hlt' : ¬ (k : Int) < (n : Int) := by omega
      go_wp2_with fail
      go_ret
      exact ⟨rfl, hb⟩
set_option maxRecDepth 100000 in
set_option maxHeartbeats 3200000 in
theorem w_toTermS (a : Option Addr) (n c : Nat) (T : Nat → Tc) (w : World) (hn : n ≤ 1048576) (hl : LowT n T) (hR : RowT a n T w) :
    Calls Try.prog 62 #[.slice a n c] w fun e w' => e = .returned (.slice (some ⟨w.heap.size, 0, none⟩) n n) ∧ RowTO w.heap.size n T w' ∧ FreeC w.heap.size (n * 5) w' ∧ Below w.heap.size w w' := by
  have hinfo : (Try.prog.info? 107).map (fun i => (i.zero, i.size, i.bytes)) = some (some (.agg #[.slice none 0 0, .slice none 0 0, .int .i64 0, .slice none 0 0, .int .i64 0]), 5, 88) := by kernel_rfl
  obtain ⟨i, hi, hzz⟩ := Option.map_eq_some_iff.1 hinfo
  simp only [Prod.mk.injEq] at hzz
  obtain ⟨hz, hsz, hby⟩ := hzz
  have hmk := fun w : World => run_make (P := Try.prog) w 43 107 i _ Try.underlying43 hi hz .i64 .i64 (n : Int) (n : Int) (by omega) (by omega) (by rw [hby]; omega) (by omega)
  rw [hsz] at hmk
  clear hi hz hsz hby hinfo
  go_enter Try.func62, Try.ntmps62
  go_wp2_with fail
  clear hmk
  go_loopw [4] (fun y wr => ∃ k : Nat, y = .int .i64 k ∧ k ≤ n ∧ RowTO w.heap.size k T wr ∧ FreeC w.heap.size (n * 5) wr ∧ Below w.heap.size w wr) (fun y _ => n - (intOf y).toNat)
  case atStart => exact ⟨0, rfl, Nat.zero_le _, fun i hi => absurd hi (by omega), by
    have h := FreeC.new w (madeCells #[.slice none 0 0, .slice none 0 0, .int .i64 0, .slice none 0 0, .int .i64 0] (n * 5)) 107
    simpa [madeCells] using h, below_box (Below.refl _ _)⟩
  case round =>
    obtain ⟨k, rfl, hk, RT, FC, hb⟩ := hrel
    by_cases hlt : k < n
    · obtain ⟨b, off, ra, rc, pa, pc, aa, ac, rfl, hbw, u0, u1, u2, u3, u4, ht⟩ := hR k hlt
      replace u0 := (hb.cell (p := ⟨b, off + k * 5, none⟩) hbw).trans u0
      replace u1 := (hb.cell (p := ⟨b, off + k * 5 + 1, none⟩) hbw).trans u1
      replace u2 := (hb.cell (p := ⟨b, off + k * 5 + 2, none⟩) hbw).trans u2
      replace u3 := (hb.cell (p := ⟨b, off + k * 5 + 3, none⟩) hbw).trans u3
      replace u4 := (hb.cell (p := ⟨b, off + k * 5 + 4, none⟩) hbw).trans u4
      have hlt' : (k : Int) < (n : Int) := by omega
      obtain ⟨l1, l2, l3⟩ := hl k hlt
      have TT := hide (fun w hT => w_toTerm ra rc pa pc aa ac (T k) w l1 l2 l3 hT)
      have hT := hide (ht.below hb)
      have hRT := hide RT
      have hFC := hide FC
      clear l1 l2 l3 ht hR RT FC
      go_wp2_with fail
      refine (TT.out _ hT.out).mono ?_
      rintro e w3 ⟨x, y, z, rfl, hx, hy, hz, o1, o2, o3, b3⟩
      have lt0 := hFC.out.1
      have FC := hFC.out.below b3
      have RT := hide (hRT.out.below b3)
      have d3 := hb.trans (b3.mono hb.size)
      obtain ⟨⟨p0, e0⟩, g0⟩ := FC.2 (k * 5) (by omega)
      obtain ⟨⟨p1, e1⟩, g1⟩ := FC.2 (k * 5 + 1) (by omega)
      obtain ⟨⟨p2, e2⟩, g2⟩ := FC.2 (k * 5 + 2) (by omega)
      obtain ⟨⟨p3, e3⟩, g3⟩ := FC.2 (k * 5 + 3) (by omega)
      obtain ⟨⟨p4, e4⟩, g4⟩ := FC.2 (k * 5 + 4) (by omega)
      have hN := hide (RT.out.next FC hlt (by omega) hy hz o1 o2 o3)
      have hF := hide (((((FC.set (k * 5) (.slice (some ⟨x, 0, none⟩) (T k).nr (T k).nr)).set (k * 5 + 1) (.slice (some ⟨y, 0, none⟩) (T k).np (T k).np)).set (k * 5 + 2) (.int .i64 (T k).cm)).set (k * 5 + 3) (.slice (some ⟨z, 0, none⟩) (T k).na (T k).na)).set (k * 5 + 4) (.int .i64 (T k).vd))
      clear b3 hRT hFC RT FC hb
      go_wp2_with fail
      exact ⟨⟨k + 1, by go_num, by omega, hN.out, hF.out, ((((d3.setCell (Nat.le_refl _) _).setCell (Nat.le_refl _) _).setCell (Nat.le_refl _) _).setCell (Nat.le_refl _) _).setCell (Nat.le_refl _) _⟩, by simp [intOf]; omega⟩
    · have hlt' : ¬ (k : Int) < (n : Int) := by omega
      obtain rfl : k = n := by omega
      go_wp2_with fail
      go_ret
      exact ⟨rfl, RT, FC, hb⟩
end Go.Proofs.Ytocgghhlfmgndaa
