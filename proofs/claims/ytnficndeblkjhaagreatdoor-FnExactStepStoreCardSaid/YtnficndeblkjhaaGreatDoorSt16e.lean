/- Stores in memory: a comparison. -/
import Derived.Test.YtnficndeblkjhaaGreatDoorGrp4
namespace Go.Proofs.YtnficndeblkjhaaGreatDoor
open Go.RowKit

set_option maxRecDepth 100000 in
set_option maxHeartbeats 3200000 in
theorem w_eqLeafSS (a a' : Option Addr) (h c c' : Nat) (H : Nat → Cf) (w : World) (hn : h ≤ 1048576) (hl : ∀ i, i < h → (H i).n ≤ 1048576 ∧ LowF (H i).n (H i).T) (hR : RowX false a h H w) (hQ : RowX false a' h H w) :
    Calls Tryz.prog 39 #[.slice a h c, .slice a' h c'] w fun e w' => e = .returned (.bool true) ∧ Below w.heap.size w w' := by
  have hne : ((h : Int) != (h : Int)) = false := by simp
  go_enter Tryz.func39, Tryz.ntmps39
  go_wp2_with fail
  go_loopw [5] (fun i wr => ∃ k : Nat, k ≤ h ∧ i = .int .i64 k ∧ Below w.heap.size w wr) (fun i _ => h - (intOf i).toNat)
  case atStart => exact ⟨0, Nat.zero_le _, rfl, Below.refl _ _⟩
  case round =>
    obtain ⟨k, hk, rfl, hb⟩ := hrel
    by_cases hlt : k < h
    · obtain ⟨b, off, a0, c0, rfl, hbw, u0, ht⟩ := hR k hlt
      obtain ⟨b', off', d0, e0, rfl, hbw', v0, hu⟩ := hQ k hlt
      replace u0 := cell_regrown ((hb.cell (p := ⟨b, off + k, none⟩) hbw).trans u0)
      replace v0 := cell_regrown ((hb.cell (p := ⟨b', off' + k, none⟩) hbw').trans v0)
      have hlt' : (k : Int) < (h : Int) := by omega
      have l1 := hl k hlt
      have E := hide (fun w hT hU => w_eqLeafS a0 d0 (H k).n c0 e0 (H k).T w l1.1 l1.2 hT hU)
      have hT := hide (ht.below hb)
      have hU := hide (hu.below hb)
      clear hR hQ l1 ht hu hl
      generalize H k = t at *
      go_wp2_with fail
      refine wp_region_quiet_below (by kernel_rfl) (by kernel_rfl) ?_
      repeat (first | go_big_quiet_step (((go_at_call 38; exact Calls.regrown_of (E.out _ (hT.out.below (below_regrown _ _ _)) (hU.out.below (below_regrown _ _ _)))))) | quiet_step (((go_at_call 38; exact Calls.regrown_of (E.out _ (hT.out.below (below_regrown _ _ _)) (hU.out.below (below_regrown _ _ _)))))))
      refine wpQuiet_nil ?_
      intro _ hw'
      obtain ⟨⟨dq, osq⟩, hw''⟩ := hw'
      subst hw''
      have hq := below_regrown wr dq osq
      generalize Go.Sort.grow (redrawn wr dq) osq = wq at hq ⊢
      have hbq := hb.trans (hq.mono hb.size)
      clear hq u0 v0
      go_wp2_with fail
      exact ⟨⟨k + 1, by omega, by go_num, hbq⟩, by simp [intOf]; omega⟩
    · have hlt' : ¬ (k : Int) < (h : Int) := by omega
      go_wp2_with fail
      go_ret
      exact ⟨rfl, hb⟩
set_option maxRecDepth 100000 in
set_option maxHeartbeats 1600000 in
theorem w_eqStore (v v' : Value) (s : Sto) (w : World) (hl : s.C.n ≤ 1048576 ∧ LowF s.C.n s.C.T ∧ s.R.n ≤ 1048576 ∧ LowF s.R.n s.R.T ∧ s.h ≤ 1048576 ∧ ∀ i, i < s.h → (s.H i).n ≤ 1048576 ∧ LowF (s.H i).n (s.H i).T) (hR : RowSt false v s w) (hQ : RowSt false v' s w) :
    Calls Tryz.prog 11 #[v, v'] w fun e w' => e = .returned (.bool true) ∧ Below w.heap.size w w' := by
  obtain ⟨ca, kc, ra, kr, ha, kh, rfl, R1, R2, R3, _⟩ := hR
  obtain ⟨cb, jc, rb, jr, hb, jh, rfl, Q1, Q2, Q3, _⟩ := hQ
  obtain ⟨n1, l1, n2, l2, n3, l3⟩ := hl
  have s0 := hide (fun w R Q => w_eqLeafS ca cb s.C.n kc jc s.C.T w n1 l1 R Q)
  have s1 := hide (fun w R Q => w_eqLeafS ra rb s.R.n kr jr s.R.T w n2 l2 R Q)
  have s2 := hide (fun w R Q => w_eqLeafSS ha hb s.h kh jh s.H w n3 l3 R Q)
  clear n1 l1 n2 l2 n3 l3
  unfold stV
  have hz : (s.l != s.l) = false := by simp
  have M0 := (Mut.new w #[.slice ca s.C.n kc, .slice ra s.R.n kr, .slice ha s.h kh, .int .i64 s.l] 34).alloc (.cells #[.slice cb s.C.n jc, .slice rb s.R.n jr, .slice hb s.h jh, .int .i64 s.l] 34)
  have M1 := Mut.new (w.alloc (.cells #[.slice ca s.C.n kc, .slice ra s.R.n kr, .slice ha s.h kh, .int .i64 s.l] 34)) #[.slice cb s.C.n jc, .slice rb s.R.n jr, .slice hb s.h jh, .int .i64 s.l] 34
  have d0 : Below w.heap.size w ((w.alloc (.cells #[.slice ca s.C.n kc, .slice ra s.R.n kr, .slice ha s.h kh, .int .i64 s.l] 34)).alloc (.cells #[.slice cb s.C.n jc, .slice rb s.R.n jr, .slice hb s.h jh, .int .i64 s.l] 34)) := below_box2 (Below.refl _ _)
  simp only [World.size_alloc] at M1
  go_enter Tryz.func11, Tryz.ntmps11
  go_wp2_with fail
  generalize (w.alloc (.cells #[.slice ca s.C.n kc, .slice ra s.R.n kr, .slice ha s.h kh, .int .i64 s.l] 34)).alloc (.cells #[.slice cb s.C.n jc, .slice rb s.R.n jr, .slice hb s.h jh, .int .i64 s.l] 34) = w0 at *
  refine (s0.out _ (R1.below d0) (Q1.below d0)).mono ?_
  rintro e w1 ⟨rfl, bb⟩
  replace M0 := M0.below bb
  replace M1 := M1.below bb
  have d1 := d0.trans (bb.mono d0.size)
  clear bb d0 s0
  have u1 := M0.2.1 1 _ rfl
  have v1 := M1.2.1 1 _ rfl
  go_wp2_with fail
  refine (s1.out _ (R2.below d1) (Q2.below d1)).mono ?_
  rintro e w2 ⟨rfl, bb⟩
  replace M0 := M0.below bb
  replace M1 := M1.below bb
  have d2 := d1.trans (bb.mono d1.size)
  clear bb d1 s1 u1 v1
  have u2 := M0.2.1 2 _ rfl
  have v2 := M1.2.1 2 _ rfl
  go_wp2_with fail
  refine (s2.out _ (R3.below d2) (Q3.below d2)).mono ?_
  rintro e w3 ⟨rfl, bb⟩
  replace M0 := M0.below bb
  replace M1 := M1.below bb
  have d3 := d2.trans (bb.mono d2.size)
  clear bb d2 s2 u2 v2
  have u3 := M0.2.1 3 _ rfl
  have v3 := M1.2.1 3 _ rfl
  go_wp2_with fail
  go_ret
  exact ⟨rfl, d3⟩
end Go.Proofs.YtnficndeblkjhaaGreatDoor
