/- What the specification's l6Same answers: whether two trees have the same cells. -/
import Derived.Test.YtdbaonpkdcmglaaS6e
namespace Go.Proofs.Ytdbaonpkdcmglaa
open Go.RowKit

def sameB (a b : Re) : Bool := decide (a.cells = b.cells)
theorem sameB_iff {a b : Re} : sameB a b = true ↔ a = b := by
  unfold sameB
  rw [decide_eq_true_eq]
  exact ⟨cells_inj, fun h => by rw [h]⟩
theorem sameB_kind {a b : Re} (h : ¬ a.kind = b.kind) : sameB a b = false := by
  rw [Bool.eq_false_iff]
  intro e
  exact h (by rw [sameB_iff.1 e])
theorem sameB_self (a : Re) : sameB a a = true := sameB_iff.2 rfl
theorem sameB_thn (a b c d : Re) : sameB (.thn a b) (.thn c d) = (sameB a c && sameB b d) := by
  rw [Bool.eq_iff_iff, Bool.and_eq_true, sameB_iff, sameB_iff, sameB_iff]
  simp
theorem sameB_alt (a b c d : Re) : sameB (.alt a b) (.alt c d) = (sameB a c && sameB b d) := by
  rw [Bool.eq_iff_iff, Bool.and_eq_true, sameB_iff, sameB_iff, sameB_iff]
  simp
theorem sameB_str (a c : Re) : sameB (.str a) (.str c) = sameB a c := by
  rw [Bool.eq_iff_iff, sameB_iff, sameB_iff]
  simp
set_option maxRecDepth 100000 in
set_option maxHeartbeats 1600000 in
theorem s_same_kind (a b : Re) (ka kb : Option Addr × Nat × Nat) (w : World) (h : ¬ a.kind = b.kind) : Calls Try.prog 109 #[tv a ka, tv b kb] w fun e w' => e = .returned (.bool (sameB a b)) ∧ Below w.heap.size w w' := by
  rw [sameB_kind h]
  obtain ⟨a1, a2, a3⟩ := ka
  obtain ⟨b1, b2, b3⟩ := kb
  simp only [tv]
  have e : (a.kind != b.kind) = true := by simpa using h
  generalize a.kind = x at *
  generalize b.kind = y at *
  clear h
  go_enter Try.func109, Try.ntmps109
  go_wp2_with fail
  go_ret
  exact ⟨rfl, below_box2 (Below.refl _ _)⟩
set_option maxRecDepth 100000 in
set_option maxHeartbeats 6400000 in
theorem s_same (a : Re) : ∀ (b : Re) (S S' : Nat → Prop) (ka kb : Option Addr × Nat × Nat) (w : World), Kids S w a ka → Kids S' w b kb → Calls Try.prog 109 #[tv a ka, tv b kb] w fun e w' => e = .returned (.bool (sameB a b)) ∧ Below w.heap.size w w' := by
  induction a with
  | non =>
    intro t S S' ka kb w hA hB
    by_cases hk : ¬ Re.kind (.non) = t.kind
    · exact s_same_kind _ _ _ _ _ hk
    replace hk := Decidable.not_not.1 hk
    cases t <;> simp only [Re.kind] at hk <;> try omega
    skip
    obtain rfl : ka = (none, 0, 0) := hA
    obtain rfl : kb = (none, 0, 0) := hB
    simp only [tv, Re.kind, Re.num]
    rw [sameB_self]
    go_enter Try.func109, Try.ntmps109
    go_wp2_with fail
    go_loopw [21] (fun y wr => y = .int .i64 0 ∧ Below w.heap.size w wr) (fun _ _ => 0)
    case atStart => exact ⟨rfl, below_box2 (Below.refl _ _)⟩
    case round =>
      obtain ⟨rfl, hbw⟩ := hrel
      go_wp2_with fail
      go_ret
      exact ⟨rfl, hbw⟩
  | emp =>
    intro t S S' ka kb w hA hB
    by_cases hk : ¬ Re.kind (.emp) = t.kind
    · exact s_same_kind _ _ _ _ _ hk
    replace hk := Decidable.not_not.1 hk
    cases t <;> simp only [Re.kind] at hk <;> try omega
    skip
    obtain rfl : ka = (none, 0, 0) := hA
    obtain rfl : kb = (none, 0, 0) := hB
    simp only [tv, Re.kind, Re.num]
    rw [sameB_self]
    go_enter Try.func109, Try.ntmps109
    go_wp2_with fail
    go_loopw [21] (fun y wr => y = .int .i64 0 ∧ Below w.heap.size w wr) (fun _ _ => 0)
    case atStart => exact ⟨rfl, below_box2 (Below.refl _ _)⟩
    case round =>
      obtain ⟨rfl, hbw⟩ := hrel
      go_wp2_with fail
      go_ret
      exact ⟨rfl, hbw⟩
  | one n =>
    intro t S S' ka kb w hA hB
    by_cases hk : ¬ Re.kind (.one n) = t.kind
    · exact s_same_kind _ _ _ _ _ hk
    replace hk := Decidable.not_not.1 hk
    cases t <;> simp only [Re.kind] at hk <;> try omega
    rename_i m
    obtain rfl : ka = (none, 0, 0) := hA
    obtain rfl : kb = (none, 0, 0) := hB
    simp only [tv, Re.kind, Re.num]
    by_cases hnm : n = m
    · subst hnm
      rw [sameB_self]
      have e1 : (n != n) = false := by simp
      go_enter Try.func109, Try.ntmps109
      go_wp2_with fail
      go_loopw [21] (fun y wr => y = .int .i64 0 ∧ Below w.heap.size w wr) (fun _ _ => 0)
      case atStart => exact ⟨rfl, below_box2 (Below.refl _ _)⟩
      case round =>
        obtain ⟨rfl, hbw⟩ := hrel
        go_wp2_with fail
        go_ret
        exact ⟨rfl, hbw⟩
    · have e1 : (n != m) = true := by simpa using hnm
      have e2 : sameB (.one n) (.one m) = false := by rw [Bool.eq_false_iff]; intro e; exact hnm (by have := sameB_iff.1 e; simpa using this)
      rw [e2]
      clear hnm e2
      go_enter Try.func109, Try.ntmps109
      go_wp2_with fail
      go_ret
      exact ⟨rfl, below_box2 (Below.refl _ _)⟩
  | any =>
    intro t S S' ka kb w hA hB
    by_cases hk : ¬ Re.kind (.any) = t.kind
    · exact s_same_kind _ _ _ _ _ hk
    replace hk := Decidable.not_not.1 hk
    cases t <;> simp only [Re.kind] at hk <;> try omega
    skip
    obtain rfl : ka = (none, 0, 0) := hA
    obtain rfl : kb = (none, 0, 0) := hB
    simp only [tv, Re.kind, Re.num]
    rw [sameB_self]
    go_enter Try.func109, Try.ntmps109
    go_wp2_with fail
    go_loopw [21] (fun y wr => y = .int .i64 0 ∧ Below w.heap.size w wr) (fun _ _ => 0)
    case atStart => exact ⟨rfl, below_box2 (Below.refl _ _)⟩
    case round =>
      obtain ⟨rfl, hbw⟩ := hrel
      go_wp2_with fail
      go_ret
      exact ⟨rfl, hbw⟩
  | thn a b ha hb =>
    intro t S S' ka kb w hA hB
    by_cases hk : ¬ Re.kind (.thn a b) = t.kind
    · exact s_same_kind _ _ _ _ _ hk
    replace hk := Decidable.not_not.1 hk
    cases t <;> simp only [Re.kind] at hk <;> try omega
    rename_i c d
    obtain ⟨g, p, ⟨a1, a2, a3⟩, ⟨b1, b2, b3⟩, rfl, _, hRa, hKa, hKb⟩ := hA
    obtain ⟨g', p', ⟨c1, c2, c3⟩, ⟨d1, d2, d3⟩, rfl, _, hRb, hKc, hKd⟩ := hB
    simp only [tv, Re.kind, Re.num]
    rw [sameB_thn]
    have IA := hide (fun w h h' => ha c S S' (a1, a2, a3) (c1, c2, c3) w h h')
    have IB := hide (fun w h h' => hb d S S' (b1, b2, b3) (d1, d2, d3) w h h')
    clear ha hb
    have hW : Below w.heap.size w ((w.alloc (.cells #[.int .i64 5, .int .i64 0, .slice (some ⟨g, 0, none⟩) 2 p] 66)).alloc (.cells #[.int .i64 5, .int .i64 0, .slice (some ⟨g', 0, none⟩) 2 p'] 66)) := below_box2 (Below.refl _ _)
    have M0 := (Mut.new w #[.int .i64 5, .int .i64 0, .slice (some ⟨g, 0, none⟩) 2 p] 66).alloc (.cells #[.int .i64 5, .int .i64 0, .slice (some ⟨g', 0, none⟩) 2 p'] 66)
    have M1 := Mut.new (w.alloc (.cells #[.int .i64 5, .int .i64 0, .slice (some ⟨g, 0, none⟩) 2 p] 66)) #[.int .i64 5, .int .i64 0, .slice (some ⟨g', 0, none⟩) 2 p'] 66
    rw [show (w.alloc (.cells #[.int .i64 5, .int .i64 0, .slice (some ⟨g, 0, none⟩) 2 p] 66)).heap.size = w.heap.size + 1 by simp] at M1
    replace M0 := hide M0
    replace M1 := hide M1
    replace hW := hide hW
    go_enter Try.func109, Try.ntmps109
    go_wp2_with fail
    go_loopw [21] (fun y wr => (y = .int .i64 0 ∨ y = .int .i64 1 ∧ sameB a c = true ∨ y = .int .i64 2 ∧ sameB a c = true ∧ sameB b d = true) ∧ Below w.heap.size w wr ∧ Below ((w.alloc (.cells #[.int .i64 5, .int .i64 0, .slice (some ⟨g, 0, none⟩) 2 p] 66)).alloc (.cells #[.int .i64 5, .int .i64 0, .slice (some ⟨g', 0, none⟩) 2 p'] 66)).heap.size ((w.alloc (.cells #[.int .i64 5, .int .i64 0, .slice (some ⟨g, 0, none⟩) 2 p] 66)).alloc (.cells #[.int .i64 5, .int .i64 0, .slice (some ⟨g', 0, none⟩) 2 p'] 66)) wr) (fun y _ => 2 - (intOf y).toNat)
    case atStart => exact ⟨.inl rfl, hW.out, Below.refl _ _⟩
    case round =>
      obtain ⟨rfl | ⟨rfl, h1⟩ | ⟨rfl, h1, h2⟩, hbw, hbx⟩ := hrel
      · cases hs : sameB a c with
        | false =>
          rw [hs] at IA
          replace hs := hide hs
          have hmv := hbw
          obtain ⟨_, u0, u1, u2⟩ := (hRa.below hbw).one0
          obtain ⟨_, v0, v1, v2⟩ := (hRb.below hbw).one0
          have x2 := (M0.out.below hbx).2.1 2 _ rfl
          have y2 := (M1.out.below hbx).2.1 2 _ rfl
          replace u0 := cell_regrown u0
          replace u1 := cell_regrown u1
          replace u2 := cell_regrown u2
          replace v0 := cell_regrown v0
          replace v1 := cell_regrown v1
          replace v2 := cell_regrown v2
          replace x2 := cell_regrown x2
          replace y2 := cell_regrown y2
          replace hbx := hide hbx
          clear hmv
          go_wp2_with fail
          refine wp_region_quiet_below (by kernel_rfl) (by kernel_rfl) ?_
          repeat (first | go_big_quiet_step (((go_at_call 109; exact Calls.regrown_of (IA.out _ ((hKa.below hbw).below (below_regrown _ _ _)) ((hKc.below hbw).below (below_regrown _ _ _)))))) | quiet_step (((go_at_call 109; exact Calls.regrown_of (IA.out _ ((hKa.below hbw).below (below_regrown _ _ _)) ((hKc.below hbw).below (below_regrown _ _ _)))))))
          refine wpQuiet_nil ?_
          intro _ hw'
          obtain ⟨⟨dq, osq⟩, hw''⟩ := hw'
          subst hw''
          have hq := below_regrown wr dq osq
          generalize Go.Sort.grow (redrawn wr dq) osq = wq at hq ⊢
          have hbq := hbw.trans (hq.mono hbw.size)
          have hbxq := hbx.out.trans (hq.mono hbx.out.size)
          replace hbxq := hide hbxq
          clear hq u0 u1 u2 v0 v1 v2 x2 y2
          go_wp2_with fail
          go_ret
          exact ⟨by rw [hs.out]; simp, hbq⟩
        | true =>
          rw [hs] at IA
          replace hs := hide hs
          have hmv := hbw
          obtain ⟨_, u0, u1, u2⟩ := (hRa.below hbw).one0
          obtain ⟨_, v0, v1, v2⟩ := (hRb.below hbw).one0
          have x2 := (M0.out.below hbx).2.1 2 _ rfl
          have y2 := (M1.out.below hbx).2.1 2 _ rfl
          replace u0 := cell_regrown u0
          replace u1 := cell_regrown u1
          replace u2 := cell_regrown u2
          replace v0 := cell_regrown v0
          replace v1 := cell_regrown v1
          replace v2 := cell_regrown v2
          replace x2 := cell_regrown x2
          replace y2 := cell_regrown y2
          replace hbx := hide hbx
          clear hmv
          go_wp2_with fail
          refine wp_region_quiet_below (by kernel_rfl) (by kernel_rfl) ?_
          repeat (first | go_big_quiet_step (((go_at_call 109; exact Calls.regrown_of (IA.out _ ((hKa.below hbw).below (below_regrown _ _ _)) ((hKc.below hbw).below (below_regrown _ _ _)))))) | quiet_step (((go_at_call 109; exact Calls.regrown_of (IA.out _ ((hKa.below hbw).below (below_regrown _ _ _)) ((hKc.below hbw).below (below_regrown _ _ _)))))))
          refine wpQuiet_nil ?_
          intro _ hw'
          obtain ⟨⟨dq, osq⟩, hw''⟩ := hw'
          subst hw''
          have hq := below_regrown wr dq osq
          generalize Go.Sort.grow (redrawn wr dq) osq = wq at hq ⊢
          have hbq := hbw.trans (hq.mono hbw.size)
          have hbxq := hbx.out.trans (hq.mono hbx.out.size)
          replace hbxq := hide hbxq
          clear hq u0 u1 u2 v0 v1 v2 x2 y2
          go_wp2_with fail
          exact ⟨⟨.inr (.inl ⟨rfl, (by first | exact hs.out | trivial)⟩), hbq, hbxq.out⟩, by simp [intOf]⟩
      · replace h1 := hide h1
        cases hs : sameB b d with
        | false =>
          rw [hs] at IB
          replace hs := hide hs
          have hmv := hbw
          obtain ⟨u0, u1, u2⟩ := (hRa.below hbw).two0
          obtain ⟨v0, v1, v2⟩ := (hRb.below hbw).two0
          have x2 := (M0.out.below hbx).2.1 2 _ rfl
          have y2 := (M1.out.below hbx).2.1 2 _ rfl
          replace u0 := cell_regrown u0
          replace u1 := cell_regrown u1
          replace u2 := cell_regrown u2
          replace v0 := cell_regrown v0
          replace v1 := cell_regrown v1
          replace v2 := cell_regrown v2
          replace x2 := cell_regrown x2
          replace y2 := cell_regrown y2
          replace hbx := hide hbx
          clear hmv
          go_wp2_with fail
          refine wp_region_quiet_below (by kernel_rfl) (by kernel_rfl) ?_
          repeat (first | go_big_quiet_step (((go_at_call 109; exact Calls.regrown_of (IB.out _ ((hKb.below hbw).below (below_regrown _ _ _)) ((hKd.below hbw).below (below_regrown _ _ _)))))) | quiet_step (((go_at_call 109; exact Calls.regrown_of (IB.out _ ((hKb.below hbw).below (below_regrown _ _ _)) ((hKd.below hbw).below (below_regrown _ _ _)))))))
          refine wpQuiet_nil ?_
          intro _ hw'
          obtain ⟨⟨dq, osq⟩, hw''⟩ := hw'
          subst hw''
          have hq := below_regrown wr dq osq
          generalize Go.Sort.grow (redrawn wr dq) osq = wq at hq ⊢
          have hbq := hbw.trans (hq.mono hbw.size)
          have hbxq := hbx.out.trans (hq.mono hbx.out.size)
          replace hbxq := hide hbxq
          clear hq u0 u1 u2 v0 v1 v2 x2 y2
          go_wp2_with fail
          go_ret
          exact ⟨by rw [h1.out, hs.out]; simp, hbq⟩
        | true =>
          rw [hs] at IB
          replace hs := hide hs
          have hmv := hbw
          obtain ⟨u0, u1, u2⟩ := (hRa.below hbw).two0
          obtain ⟨v0, v1, v2⟩ := (hRb.below hbw).two0
          have x2 := (M0.out.below hbx).2.1 2 _ rfl
          have y2 := (M1.out.below hbx).2.1 2 _ rfl
          replace u0 := cell_regrown u0
          replace u1 := cell_regrown u1
          replace u2 := cell_regrown u2
          replace v0 := cell_regrown v0
          replace v1 := cell_regrown v1
          replace v2 := cell_regrown v2
          replace x2 := cell_regrown x2
          replace y2 := cell_regrown y2
          replace hbx := hide hbx
          clear hmv
          go_wp2_with fail
          refine wp_region_quiet_below (by kernel_rfl) (by kernel_rfl) ?_
          repeat (first | go_big_quiet_step (((go_at_call 109; exact Calls.regrown_of (IB.out _ ((hKb.below hbw).below (below_regrown _ _ _)) ((hKd.below hbw).below (below_regrown _ _ _)))))) | quiet_step (((go_at_call 109; exact Calls.regrown_of (IB.out _ ((hKb.below hbw).below (below_regrown _ _ _)) ((hKd.below hbw).below (below_regrown _ _ _)))))))
          refine wpQuiet_nil ?_
          intro _ hw'
          obtain ⟨⟨dq, osq⟩, hw''⟩ := hw'
          subst hw''
          have hq := below_regrown wr dq osq
          generalize Go.Sort.grow (redrawn wr dq) osq = wq at hq ⊢
          have hbq := hbw.trans (hq.mono hbw.size)
          have hbxq := hbx.out.trans (hq.mono hbx.out.size)
          replace hbxq := hide hbxq
          clear hq u0 u1 u2 v0 v1 v2 x2 y2
          go_wp2_with fail
          exact ⟨⟨.inr (.inr ⟨rfl, h1.out, (by first | exact hs.out | trivial)⟩), hbq, hbxq.out⟩, by simp [intOf]⟩
      · replace h1 := hide h1
        replace h2 := hide h2
        go_wp2_with fail
        go_ret
        exact ⟨by rw [h1.out, h2.out]; simp, hbw⟩
  | alt a b ha hb =>
    intro t S S' ka kb w hA hB
    by_cases hk : ¬ Re.kind (.alt a b) = t.kind
    · exact s_same_kind _ _ _ _ _ hk
    replace hk := Decidable.not_not.1 hk
    cases t <;> simp only [Re.kind] at hk <;> try omega
    rename_i c d
    obtain ⟨g, p, ⟨a1, a2, a3⟩, ⟨b1, b2, b3⟩, rfl, _, hRa, hKa, hKb⟩ := hA
    obtain ⟨g', p', ⟨c1, c2, c3⟩, ⟨d1, d2, d3⟩, rfl, _, hRb, hKc, hKd⟩ := hB
    simp only [tv, Re.kind, Re.num]
    rw [sameB_alt]
    have IA := hide (fun w h h' => ha c S S' (a1, a2, a3) (c1, c2, c3) w h h')
    have IB := hide (fun w h h' => hb d S S' (b1, b2, b3) (d1, d2, d3) w h h')
    clear ha hb
    have hW : Below w.heap.size w ((w.alloc (.cells #[.int .i64 6, .int .i64 0, .slice (some ⟨g, 0, none⟩) 2 p] 66)).alloc (.cells #[.int .i64 6, .int .i64 0, .slice (some ⟨g', 0, none⟩) 2 p'] 66)) := below_box2 (Below.refl _ _)
    have M0 := (Mut.new w #[.int .i64 6, .int .i64 0, .slice (some ⟨g, 0, none⟩) 2 p] 66).alloc (.cells #[.int .i64 6, .int .i64 0, .slice (some ⟨g', 0, none⟩) 2 p'] 66)
    have M1 := Mut.new (w.alloc (.cells #[.int .i64 6, .int .i64 0, .slice (some ⟨g, 0, none⟩) 2 p] 66)) #[.int .i64 6, .int .i64 0, .slice (some ⟨g', 0, none⟩) 2 p'] 66
    rw [show (w.alloc (.cells #[.int .i64 6, .int .i64 0, .slice (some ⟨g, 0, none⟩) 2 p] 66)).heap.size = w.heap.size + 1 by simp] at M1
    replace M0 := hide M0
    replace M1 := hide M1
    replace hW := hide hW
    go_enter Try.func109, Try.ntmps109
    go_wp2_with fail
    go_loopw [21] (fun y wr => (y = .int .i64 0 ∨ y = .int .i64 1 ∧ sameB a c = true ∨ y = .int .i64 2 ∧ sameB a c = true ∧ sameB b d = true) ∧ Below w.heap.size w wr ∧ Below ((w.alloc (.cells #[.int .i64 6, .int .i64 0, .slice (some ⟨g, 0, none⟩) 2 p] 66)).alloc (.cells #[.int .i64 6, .int .i64 0, .slice (some ⟨g', 0, none⟩) 2 p'] 66)).heap.size ((w.alloc (.cells #[.int .i64 6, .int .i64 0, .slice (some ⟨g, 0, none⟩) 2 p] 66)).alloc (.cells #[.int .i64 6, .int .i64 0, .slice (some ⟨g', 0, none⟩) 2 p'] 66)) wr) (fun y _ => 2 - (intOf y).toNat)
    case atStart => exact ⟨.inl rfl, hW.out, Below.refl _ _⟩
    case round =>
      obtain ⟨rfl | ⟨rfl, h1⟩ | ⟨rfl, h1, h2⟩, hbw, hbx⟩ := hrel
      · cases hs : sameB a c with
        | false =>
          rw [hs] at IA
          replace hs := hide hs
          have hmv := hbw
          obtain ⟨_, u0, u1, u2⟩ := (hRa.below hbw).one0
          obtain ⟨_, v0, v1, v2⟩ := (hRb.below hbw).one0
          have x2 := (M0.out.below hbx).2.1 2 _ rfl
          have y2 := (M1.out.below hbx).2.1 2 _ rfl
          replace u0 := cell_regrown u0
          replace u1 := cell_regrown u1
          replace u2 := cell_regrown u2
          replace v0 := cell_regrown v0
          replace v1 := cell_regrown v1
          replace v2 := cell_regrown v2
          replace x2 := cell_regrown x2
          replace y2 := cell_regrown y2
          replace hbx := hide hbx
          clear hmv
          go_wp2_with fail
          refine wp_region_quiet_below (by kernel_rfl) (by kernel_rfl) ?_
          repeat (first | go_big_quiet_step (((go_at_call 109; exact Calls.regrown_of (IA.out _ ((hKa.below hbw).below (below_regrown _ _ _)) ((hKc.below hbw).below (below_regrown _ _ _)))))) | quiet_step (((go_at_call 109; exact Calls.regrown_of (IA.out _ ((hKa.below hbw).below (below_regrown _ _ _)) ((hKc.below hbw).below (below_regrown _ _ _)))))))
          refine wpQuiet_nil ?_
          intro _ hw'
          obtain ⟨⟨dq, osq⟩, hw''⟩ := hw'
          subst hw''
          have hq := below_regrown wr dq osq
          generalize Go.Sort.grow (redrawn wr dq) osq = wq at hq ⊢
          have hbq := hbw.trans (hq.mono hbw.size)
          have hbxq := hbx.out.trans (hq.mono hbx.out.size)
          replace hbxq := hide hbxq
          clear hq u0 u1 u2 v0 v1 v2 x2 y2
          go_wp2_with fail
          go_ret
          exact ⟨by rw [hs.out]; simp, hbq⟩
        | true =>
          rw [hs] at IA
          replace hs := hide hs
          have hmv := hbw
          obtain ⟨_, u0, u1, u2⟩ := (hRa.below hbw).one0
          obtain ⟨_, v0, v1, v2⟩ := (hRb.below hbw).one0
          have x2 := (M0.out.below hbx).2.1 2 _ rfl
          have y2 := (M1.out.below hbx).2.1 2 _ rfl
          replace u0 := cell_regrown u0
          replace u1 := cell_regrown u1
          replace u2 := cell_regrown u2
          replace v0 := cell_regrown v0
          replace v1 := cell_regrown v1
          replace v2 := cell_regrown v2
          replace x2 := cell_regrown x2
          replace y2 := cell_regrown y2
          replace hbx := hide hbx
          clear hmv
          go_wp2_with fail
          refine wp_region_quiet_below (by kernel_rfl) (by kernel_rfl) ?_
          repeat (first | go_big_quiet_step (((go_at_call 109; exact Calls.regrown_of (IA.out _ ((hKa.below hbw).below (below_regrown _ _ _)) ((hKc.below hbw).below (below_regrown _ _ _)))))) | quiet_step (((go_at_call 109; exact Calls.regrown_of (IA.out _ ((hKa.below hbw).below (below_regrown _ _ _)) ((hKc.below hbw).below (below_regrown _ _ _)))))))
          refine wpQuiet_nil ?_
          intro _ hw'
          obtain ⟨⟨dq, osq⟩, hw''⟩ := hw'
          subst hw''
          have hq := below_regrown wr dq osq
          generalize Go.Sort.grow (redrawn wr dq) osq = wq at hq ⊢
          have hbq := hbw.trans (hq.mono hbw.size)
          have hbxq := hbx.out.trans (hq.mono hbx.out.size)
          replace hbxq := hide hbxq
          clear hq u0 u1 u2 v0 v1 v2 x2 y2
          go_wp2_with fail
          exact ⟨⟨.inr (.inl ⟨rfl, (by first | exact hs.out | trivial)⟩), hbq, hbxq.out⟩, by simp [intOf]⟩
      · replace h1 := hide h1
        cases hs : sameB b d with
        | false =>
          rw [hs] at IB
          replace hs := hide hs
          have hmv := hbw
          obtain ⟨u0, u1, u2⟩ := (hRa.below hbw).two0
          obtain ⟨v0, v1, v2⟩ := (hRb.below hbw).two0
          have x2 := (M0.out.below hbx).2.1 2 _ rfl
          have y2 := (M1.out.below hbx).2.1 2 _ rfl
          replace u0 := cell_regrown u0
          replace u1 := cell_regrown u1
          replace u2 := cell_regrown u2
          replace v0 := cell_regrown v0
          replace v1 := cell_regrown v1
          replace v2 := cell_regrown v2
          replace x2 := cell_regrown x2
          replace y2 := cell_regrown y2
          replace hbx := hide hbx
          clear hmv
          go_wp2_with fail
          refine wp_region_quiet_below (by kernel_rfl) (by kernel_rfl) ?_
          repeat (first | go_big_quiet_step (((go_at_call 109; exact Calls.regrown_of (IB.out _ ((hKb.below hbw).below (below_regrown _ _ _)) ((hKd.below hbw).below (below_regrown _ _ _)))))) | quiet_step (((go_at_call 109; exact Calls.regrown_of (IB.out _ ((hKb.below hbw).below (below_regrown _ _ _)) ((hKd.below hbw).below (below_regrown _ _ _)))))))
          refine wpQuiet_nil ?_
          intro _ hw'
          obtain ⟨⟨dq, osq⟩, hw''⟩ := hw'
          subst hw''
          have hq := below_regrown wr dq osq
          generalize Go.Sort.grow (redrawn wr dq) osq = wq at hq ⊢
          have hbq := hbw.trans (hq.mono hbw.size)
          have hbxq := hbx.out.trans (hq.mono hbx.out.size)
          replace hbxq := hide hbxq
          clear hq u0 u1 u2 v0 v1 v2 x2 y2
          go_wp2_with fail
          go_ret
          exact ⟨by rw [h1.out, hs.out]; simp, hbq⟩
        | true =>
          rw [hs] at IB
          replace hs := hide hs
          have hmv := hbw
          obtain ⟨u0, u1, u2⟩ := (hRa.below hbw).two0
          obtain ⟨v0, v1, v2⟩ := (hRb.below hbw).two0
          have x2 := (M0.out.below hbx).2.1 2 _ rfl
          have y2 := (M1.out.below hbx).2.1 2 _ rfl
          replace u0 := cell_regrown u0
          replace u1 := cell_regrown u1
          replace u2 := cell_regrown u2
          replace v0 := cell_regrown v0
          replace v1 := cell_regrown v1
          replace v2 := cell_regrown v2
          replace x2 := cell_regrown x2
          replace y2 := cell_regrown y2
          replace hbx := hide hbx
          clear hmv
          go_wp2_with fail
          refine wp_region_quiet_below (by kernel_rfl) (by kernel_rfl) ?_
          repeat (first | go_big_quiet_step (((go_at_call 109; exact Calls.regrown_of (IB.out _ ((hKb.below hbw).below (below_regrown _ _ _)) ((hKd.below hbw).below (below_regrown _ _ _)))))) | quiet_step (((go_at_call 109; exact Calls.regrown_of (IB.out _ ((hKb.below hbw).below (below_regrown _ _ _)) ((hKd.below hbw).below (below_regrown _ _ _)))))))
          refine wpQuiet_nil ?_
          intro _ hw'
          obtain ⟨⟨dq, osq⟩, hw''⟩ := hw'
          subst hw''
          have hq := below_regrown wr dq osq
          generalize Go.Sort.grow (redrawn wr dq) osq = wq at hq ⊢
          have hbq := hbw.trans (hq.mono hbw.size)
          have hbxq := hbx.out.trans (hq.mono hbx.out.size)
          replace hbxq := hide hbxq
          clear hq u0 u1 u2 v0 v1 v2 x2 y2
          go_wp2_with fail
          exact ⟨⟨.inr (.inr ⟨rfl, h1.out, (by first | exact hs.out | trivial)⟩), hbq, hbxq.out⟩, by simp [intOf]⟩
      · replace h1 := hide h1
        replace h2 := hide h2
        go_wp2_with fail
        go_ret
        exact ⟨by rw [h1.out, h2.out]; simp, hbw⟩
  | str a ha =>
    intro t S S' ka kb w hA hB
    by_cases hk : ¬ Re.kind (.str a) = t.kind
    · exact s_same_kind _ _ _ _ _ hk
    replace hk := Decidable.not_not.1 hk
    cases t <;> simp only [Re.kind] at hk <;> try omega
    rename_i c
    obtain ⟨g, p, ⟨a1, a2, a3⟩, rfl, _, hRa, hKa⟩ := hA
    obtain ⟨g', p', ⟨c1, c2, c3⟩, rfl, _, hRb, hKc⟩ := hB
    simp only [tv, Re.kind, Re.num]
    rw [sameB_str]
    have IA := hide (fun w h h' => ha c S S' (a1, a2, a3) (c1, c2, c3) w h h')
    clear ha
    have hW : Below w.heap.size w ((w.alloc (.cells #[.int .i64 7, .int .i64 0, .slice (some ⟨g, 0, none⟩) 1 p] 66)).alloc (.cells #[.int .i64 7, .int .i64 0, .slice (some ⟨g', 0, none⟩) 1 p'] 66)) := below_box2 (Below.refl _ _)
    have M0 := (Mut.new w #[.int .i64 7, .int .i64 0, .slice (some ⟨g, 0, none⟩) 1 p] 66).alloc (.cells #[.int .i64 7, .int .i64 0, .slice (some ⟨g', 0, none⟩) 1 p'] 66)
    have M1 := Mut.new (w.alloc (.cells #[.int .i64 7, .int .i64 0, .slice (some ⟨g, 0, none⟩) 1 p] 66)) #[.int .i64 7, .int .i64 0, .slice (some ⟨g', 0, none⟩) 1 p'] 66
    rw [show (w.alloc (.cells #[.int .i64 7, .int .i64 0, .slice (some ⟨g, 0, none⟩) 1 p] 66)).heap.size = w.heap.size + 1 by simp] at M1
    replace M0 := hide M0
    replace M1 := hide M1
    replace hW := hide hW
    go_enter Try.func109, Try.ntmps109
    go_wp2_with fail
    go_loopw [21] (fun y wr => (y = .int .i64 0 ∨ y = .int .i64 1 ∧ sameB a c = true) ∧ Below w.heap.size w wr ∧ Below ((w.alloc (.cells #[.int .i64 7, .int .i64 0, .slice (some ⟨g, 0, none⟩) 1 p] 66)).alloc (.cells #[.int .i64 7, .int .i64 0, .slice (some ⟨g', 0, none⟩) 1 p'] 66)).heap.size ((w.alloc (.cells #[.int .i64 7, .int .i64 0, .slice (some ⟨g, 0, none⟩) 1 p] 66)).alloc (.cells #[.int .i64 7, .int .i64 0, .slice (some ⟨g', 0, none⟩) 1 p'] 66)) wr) (fun y _ => 1 - (intOf y).toNat)
    case atStart => exact ⟨.inl rfl, hW.out, Below.refl _ _⟩
    case round =>
      obtain ⟨rfl | ⟨rfl, h1⟩, hbw, hbx⟩ := hrel
      · cases hs : sameB a c with
        | false =>
          rw [hs] at IA
          replace hs := hide hs
          have hmv := hbw
          obtain ⟨_, u0, u1, u2⟩ := (hRa.below hbw).one0
          obtain ⟨_, v0, v1, v2⟩ := (hRb.below hbw).one0
          have x2 := (M0.out.below hbx).2.1 2 _ rfl
          have y2 := (M1.out.below hbx).2.1 2 _ rfl
          replace u0 := cell_regrown u0
          replace u1 := cell_regrown u1
          replace u2 := cell_regrown u2
          replace v0 := cell_regrown v0
          replace v1 := cell_regrown v1
          replace v2 := cell_regrown v2
          replace x2 := cell_regrown x2
          replace y2 := cell_regrown y2
          replace hbx := hide hbx
          clear hmv
          go_wp2_with fail
          refine wp_region_quiet_below (by kernel_rfl) (by kernel_rfl) ?_
          repeat (first | go_big_quiet_step (((go_at_call 109; exact Calls.regrown_of (IA.out _ ((hKa.below hbw).below (below_regrown _ _ _)) ((hKc.below hbw).below (below_regrown _ _ _)))))) | quiet_step (((go_at_call 109; exact Calls.regrown_of (IA.out _ ((hKa.below hbw).below (below_regrown _ _ _)) ((hKc.below hbw).below (below_regrown _ _ _)))))))
          refine wpQuiet_nil ?_
          intro _ hw'
          obtain ⟨⟨dq, osq⟩, hw''⟩ := hw'
          subst hw''
          have hq := below_regrown wr dq osq
          generalize Go.Sort.grow (redrawn wr dq) osq = wq at hq ⊢
          have hbq := hbw.trans (hq.mono hbw.size)
          have hbxq := hbx.out.trans (hq.mono hbx.out.size)
          replace hbxq := hide hbxq
          clear hq u0 u1 u2 v0 v1 v2 x2 y2
          go_wp2_with fail
          go_ret
          exact ⟨by rw [hs.out]; rfl, hbq⟩
        | true =>
          rw [hs] at IA
          replace hs := hide hs
          have hmv := hbw
          obtain ⟨_, u0, u1, u2⟩ := (hRa.below hbw).one0
          obtain ⟨_, v0, v1, v2⟩ := (hRb.below hbw).one0
          have x2 := (M0.out.below hbx).2.1 2 _ rfl
          have y2 := (M1.out.below hbx).2.1 2 _ rfl
          replace u0 := cell_regrown u0
          replace u1 := cell_regrown u1
          replace u2 := cell_regrown u2
          replace v0 := cell_regrown v0
          replace v1 := cell_regrown v1
          replace v2 := cell_regrown v2
          replace x2 := cell_regrown x2
          replace y2 := cell_regrown y2
          replace hbx := hide hbx
          clear hmv
          go_wp2_with fail
          refine wp_region_quiet_below (by kernel_rfl) (by kernel_rfl) ?_
          repeat (first | go_big_quiet_step (((go_at_call 109; exact Calls.regrown_of (IA.out _ ((hKa.below hbw).below (below_regrown _ _ _)) ((hKc.below hbw).below (below_regrown _ _ _)))))) | quiet_step (((go_at_call 109; exact Calls.regrown_of (IA.out _ ((hKa.below hbw).below (below_regrown _ _ _)) ((hKc.below hbw).below (below_regrown _ _ _)))))))
          refine wpQuiet_nil ?_
          intro _ hw'
          obtain ⟨⟨dq, osq⟩, hw''⟩ := hw'
          subst hw''
          have hq := below_regrown wr dq osq
          generalize Go.Sort.grow (redrawn wr dq) osq = wq at hq ⊢
          have hbq := hbw.trans (hq.mono hbw.size)
          have hbxq := hbx.out.trans (hq.mono hbx.out.size)
          replace hbxq := hide hbxq
          clear hq u0 u1 u2 v0 v1 v2 x2 y2
          go_wp2_with fail
          exact ⟨⟨.inr ⟨rfl, (by first | exact hs.out | trivial)⟩, hbq, hbxq.out⟩, by simp [intOf]⟩
      · replace h1 := hide h1
        go_wp2_with fail
        go_ret
        exact ⟨by rw [h1.out]; rfl, hbw⟩
end Go.Proofs.Ytdbaonpkdcmglaa
