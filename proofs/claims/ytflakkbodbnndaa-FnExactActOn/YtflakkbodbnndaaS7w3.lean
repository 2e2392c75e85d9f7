/- l7Do of the specification, kind 3. -/
import Derived.Test.YtflakkbodbnndaaAll8
import Derived.Test.YtflakkbodbnndaaAll11
import Derived.Test.YtflakkbodbnndaaS6rx
import Derived.Test.YtflakkbodbnndaaAll12
import Derived.Deep.RegionHeld3
import Derived.Deep.DeepCutAuto
import Derived.Deep.CutRange
namespace Go.Proofs.Ytflakkbodbnndaa
open Go.RowKit

set_option maxRecDepth 100000 in
set_option maxHeartbeats 3200000 in
theorem s_do3 (n : Int) (t : Ro) (a0 : Option Addr) (c0 : Nat) (a1 : Option Addr) (c1 : Nat) (w : World) (h0 : t.n0 ≤ 1048576) (h1 : t.n1 ≤ 1048576) (S0 : SrcN .i64 a0 t.K c0 w) (S1 : SrcN .i64 a1 t.L c1 w) :
    Calls Try.prog 23 #[.agg #[.int .i64 3, .int .i64 n], .agg #[.int .i64 t.pa, .int .i64 t.pl, .int .i64 t.o, .slice a0 t.n0 c0, .int .i64 t.nx, .int .i64 t.md, .int .i64 t.pf, .slice a1 t.n1 c1]] w fun e w' => ∃ b0 d0 b1 d1, e = .returned (.agg #[.int .i64 (doR 3 n t).pa, .int .i64 (doR 3 n t).pl, .int .i64 (doR 3 n t).o, .slice b0 (doR 3 n t).n0 d0, .int .i64 (doR 3 n t).nx, .int .i64 (doR 3 n t).md, .int .i64 (doR 3 n t).pf, .slice b1 (doR 3 n t).n1 d1]) ∧ SrcN .i64 b0 (doR 3 n t).K d0 w' ∧ SrcN .i64 b1 (doR 3 n t).L d1 w' ∧ Below w.heap.size w w' ∧ NewB w.heap.size b0 ∧ NewB w.heap.size b1 := by
  have A := hide (fun w S0 S1 => s_own8c t.o t.nx t.md t.pf a0 t.n0 c0 t.f a1 t.n1 c1 t.g w h0 h1 S0 S1)
  have PUT : Hid (∀ (y yc : Nat) (w : World), t.n1 ≤ yc → SrcN .i64 (some ⟨y, 0, none⟩) t.L yc w → Calls Try.prog 50 #[.slice (some ⟨y, 0, none⟩) t.n1 yc, .int .i64 n] w fun e w' => ∃ a' c', e = .returned (.slice a' (putN t.L n).length c') ∧ (putN t.L n).length ≤ c' ∧ SrcN .i64 a' (putN t.L n) c' w' ∧ Below w.heap.size w w' ∧ NewOr (some ⟨y, 0, none⟩) a' w.heap.size) := fun y yc w hc S => by
    have := s_l1PutX (some ⟨y, 0, none⟩) t.L yc n w (by rw [Ro.L_len]; exact h1) (by rw [Ro.L_len]; exact hc) S
    rw [Ro.L_len] at this
    exact this
  have d1 : Below w.heap.size w (((w.alloc (.cells #[.int .i64 3, .int .i64 n] 38)).alloc (.cells #[.int .i64 t.pa, .int .i64 t.pl, .int .i64 t.o, .slice a0 t.n0 c0, .int .i64 t.nx, .int .i64 t.md, .int .i64 t.pf, .slice a1 t.n1 c1] 35)).alloc (.cells #[.int .i64 0, .int .i64 0, .int .i64 0, .slice none 0 0, .int .i64 0, .int .i64 0, .int .i64 0, .slice none 0 0] 35)) := below_box3 (Below.refl _ _)
  have M1 := ((Mut.new w #[.int .i64 3, .int .i64 n] 38).alloc (.cells #[.int .i64 t.pa, .int .i64 t.pl, .int .i64 t.o, .slice a0 t.n0 c0, .int .i64 t.nx, .int .i64 t.md, .int .i64 t.pf, .slice a1 t.n1 c1] 35)).alloc (.cells #[.int .i64 0, .int .i64 0, .int .i64 0, .slice none 0 0, .int .i64 0, .int .i64 0, .int .i64 0, .slice none 0 0] 35)
  have M2 := (Mut.new (w.alloc (.cells #[.int .i64 3, .int .i64 n] 38)) #[.int .i64 t.pa, .int .i64 t.pl, .int .i64 t.o, .slice a0 t.n0 c0, .int .i64 t.nx, .int .i64 t.md, .int .i64 t.pf, .slice a1 t.n1 c1] 35).alloc (.cells #[.int .i64 0, .int .i64 0, .int .i64 0, .slice none 0 0, .int .i64 0, .int .i64 0, .int .i64 0, .slice none 0 0] 35)
  have M3 := Mut.new ((w.alloc (.cells #[.int .i64 3, .int .i64 n] 38)).alloc (.cells #[.int .i64 t.pa, .int .i64 t.pl, .int .i64 t.o, .slice a0 t.n0 c0, .int .i64 t.nx, .int .i64 t.md, .int .i64 t.pf, .slice a1 t.n1 c1] 35)) #[.int .i64 0, .int .i64 0, .int .i64 0, .slice none 0 0, .int .i64 0, .int .i64 0, .int .i64 0, .slice none 0 0] 35
  simp only [World.size_alloc] at M2 M3
  go_enter Try.func23, Try.ntmps23
  go_wp2_with fail
  generalize (((w.alloc (.cells #[.int .i64 3, .int .i64 n] 38)).alloc (.cells #[.int .i64 t.pa, .int .i64 t.pl, .int .i64 t.o, .slice a0 t.n0 c0, .int .i64 t.nx, .int .i64 t.md, .int .i64 t.pf, .slice a1 t.n1 c1] 35)).alloc (.cells #[.int .i64 0, .int .i64 0, .int .i64 0, .slice none 0 0, .int .i64 0, .int .i64 0, .int .i64 0, .slice none 0 0] 35)) = w1 at *
  have u0 := M2.2.1 0 _ rfl
  have u1 := M2.2.1 1 _ rfl
  have u2 := M2.2.1 2 _ rfl
  have u3 := M2.2.1 3 _ rfl
  have u4 := M2.2.1 4 _ rfl
  have u5 := M2.2.1 5 _ rfl
  have u6 := M2.2.1 6 _ rfl
  have u7 := M2.2.1 7 _ rfl
  have lt3 := M3.1
  have bZD : Below w1.heap.size w1 (w1.drew.alloc (.cells #[.int .i64 0, .int .i64 0, .int .i64 0, .slice none 0 0, .int .i64 0, .int .i64 0, .int .i64 0, .slice none 0 0] 35)) := (Below.refl _ _).drew.alloc (Nat.le_refl _) _
  have M4 := Mut.new w1.drew #[.int .i64 0, .int .i64 0, .int .i64 0, .slice none 0 0, .int .i64 0, .int .i64 0, .int .i64 0, .slice none 0 0] 35
  have dZ := d1.trans (bZD.mono d1.size)
  have hS : ∀ w' : World, Below w1.heap.size w1 w' → w'.cell? ⟨w.heap.size + 1, 0, none⟩ = some (.int .i64 t.pa) ∧ w'.cell? ⟨w.heap.size + 1, 1, none⟩ = some (.int .i64 t.pl) ∧ w'.cell? ⟨w.heap.size + 1, 2, none⟩ = some (.int .i64 t.o) ∧ w'.cell? ⟨w.heap.size + 1, 3, none⟩ = some (.slice a0 t.n0 c0) ∧ w'.cell? ⟨w.heap.size + 1, 4, none⟩ = some (.int .i64 t.nx) ∧ w'.cell? ⟨w.heap.size + 1, 5, none⟩ = some (.int .i64 t.md) ∧ w'.cell? ⟨w.heap.size + 1, 6, none⟩ = some (.int .i64 t.pf) ∧ w'.cell? ⟨w.heap.size + 1, 7, none⟩ = some (.slice a1 t.n1 c1) := fun w' b => ⟨(M2.below b).2.1 0 _ rfl, (M2.below b).2.1 1 _ rfl, (M2.below b).2.1 2 _ rfl, (M2.below b).2.1 3 _ rfl, (M2.below b).2.1 4 _ rfl, (M2.below b).2.1 5 _ rfl, (M2.below b).2.1 6 _ rfl, (M2.below b).2.1 7 _ rfl⟩
  refine wp_region_held_drew (S := fun w' => w'.cell? ⟨w.heap.size + 1, 0, none⟩ = some (.int .i64 t.pa) ∧ w'.cell? ⟨w.heap.size + 1, 1, none⟩ = some (.int .i64 t.pl) ∧ w'.cell? ⟨w.heap.size + 1, 2, none⟩ = some (.int .i64 t.o) ∧ w'.cell? ⟨w.heap.size + 1, 3, none⟩ = some (.slice a0 t.n0 c0) ∧ w'.cell? ⟨w.heap.size + 1, 4, none⟩ = some (.int .i64 t.nx) ∧ w'.cell? ⟨w.heap.size + 1, 5, none⟩ = some (.int .i64 t.md) ∧ w'.cell? ⟨w.heap.size + 1, 6, none⟩ = some (.int .i64 t.pf) ∧ w'.cell? ⟨w.heap.size + 1, 7, none⟩ = some (.slice a1 t.n1 c1)) (by kernel_rfl) (hS _ (Below.refl _ _).drew) (fun hHeld => ?_)
  refine wpAnyH_take (i := 0) (v := .pointer (some ⟨w.heap.size + 1, 0, none⟩)) rfl (by kernel_rfl) (by kernel_rfl) (by kernel_rfl) (fun _ _ _ h => h) (Or.inl ⟨by rfl, fun w' hSw => by go_simp⟩) hHeld ?_
  simp only [List.getElem_toArray, List.getElem_cons_zero, Act.put, List.setIfInBounds_toArray, List.set_cons_zero, List.set_cons_succ]
  refine wpAnyH_take (i := 1) (v := .agg #[.int .i64 t.pa, .int .i64 t.pl]) rfl (by kernel_rfl) (by kernel_rfl) (by kernel_rfl) (fun _ _ _ h => h) (Or.inl ⟨by rfl, fun w' hSw => by go_simp⟩) hHeld ?_
  simp only [List.getElem_toArray, List.getElem_cons_succ, List.getElem_cons_zero, Act.put, List.setIfInBounds_toArray, List.set_cons_zero, List.set_cons_succ]
  refine wpAnyH_take (i := 2) (v := .pointer (some ⟨w.heap.size + 1, 2, none⟩)) rfl (by kernel_rfl) (by kernel_rfl) (by kernel_rfl) (fun _ _ _ h => h) (Or.inl ⟨by rfl, fun w' hSw => by go_simp⟩) hHeld ?_
  simp only [List.getElem_toArray, List.getElem_cons_succ, List.getElem_cons_zero, Act.put, List.setIfInBounds_toArray, List.set_cons_zero, List.set_cons_succ]
  refine wpAnyH_take (i := 3) (v := .agg #[.int .i64 t.o, .slice a0 t.n0 c0, .int .i64 t.nx, .int .i64 t.md, .int .i64 t.pf, .slice a1 t.n1 c1]) rfl (by kernel_rfl) (by kernel_rfl) (by kernel_rfl) (fun _ _ _ h => h) (Or.inl ⟨by rfl, fun w' hSw => by go_simp⟩) hHeld ?_
  simp only [List.getElem_toArray, List.getElem_cons_succ, List.getElem_cons_zero, Act.put, List.setIfInBounds_toArray, List.set_cons_zero, List.set_cons_succ]
  refine wpAnyH_ready (rs := [4, 6]) (by kernel_rfl) (by simp) (AllReadyH.cons rfl (fun K hK => ?_) (AllReadyH.cons rfl (fun K hK => ?_) AllReadyH.nil))
  · go_simp
    refine (A.out _ (S0.below d1.drew) (S1.below d1.drew)).mono ?_
    rintro r w3 ⟨x, pc, y, yc, rfl, o1, o2, hx, hy, b3, hpc, hyc⟩
    have dA : Below w1.heap.size w1 w3 := below_step (Below.refl _ _).drew b3
    refine hK.out _ _ (hS _ dA) (fun hHeld => ?_)
    clear hK K
    refine wpAnyH_take (i := 5) (v := .agg #[.int .i64 t.pa, .int .i64 t.pl, .int .i64 t.o, .slice (some ⟨x, 0, none⟩) t.n0 pc, .int .i64 t.nx, .int .i64 t.md, .int .i64 t.pf, .slice (some ⟨y, 0, none⟩) t.n1 yc]) rfl (by kernel_rfl) (by kernel_rfl) (by kernel_rfl) (fun _ _ _ h => h) (Or.inl ⟨by rfl, fun w' hSw => by go_simp⟩) hHeld ?_
    simp only [List.getElem_toArray, List.getElem_cons_succ, List.getElem_cons_zero, Act.put, List.setIfInBounds_toArray, List.set_cons_zero, List.set_cons_succ]
    refine wpAnyH_ready (rs := [6]) (by kernel_rfl) (by simp) (AllReadyH.cons rfl (fun K hK => ?_) AllReadyH.nil)
    go_simp
    have bA : Below w3.heap.size w3 (w3.alloc (.cells #[.int .i64 0, .int .i64 0, .int .i64 0, .slice none 0 0, .int .i64 0, .int .i64 0, .int .i64 0, .slice none 0 0] 35)) := below_box (Below.refl _ _)
    refine hK.out _ _ (hS _ (below_step dA bA)) (fun hHeld => ?_)
    clear hK K
    refine wpAnyH_ready (rs := [7]) (by kernel_rfl) (by simp) (AllReadyH.cons rfl (fun K hK => ?_) AllReadyH.nil)
    have N := Mut.new w3 #[.int .i64 0, .int .i64 0, .int .i64 0, .slice none 0 0, .int .i64 0, .int .i64 0, .int .i64 0, .slice none 0 0] 35
    rw [if_pos (by rfl)]
    refine wp_storeM (us := [.int .i64 t.pa, .int .i64 t.pl, .int .i64 t.o, .slice (some ⟨x, 0, none⟩) t.n0 pc, .int .i64 t.nx, .int .i64 t.md, .int .i64 t.pf, .slice (some ⟨y, 0, none⟩) t.n1 yc]) rfl rfl rfl N rfl (by intro v hv; simp only [List.mem_cons, List.not_mem_nil, or_false] at hv; rcases hv with rfl | rfl | rfl | rfl | rfl | rfl | rfl | rfl <;> rfl) sizeRt7 ?_
    intro w5 MO oO
    have d5 : Below w1.heap.size w1 w5 := (dA.trans (bA.mono dA.size)).trans (oO.below_of dA.size (by have := dA.size; simp; omega))
    refine hK.out _ _ (hS _ d5) (fun hHeld => ?_)
    clear hK K hHeld
    refine wpAnyH_done (by kernel_rfl) ?_ _
    simp only [List.getElem_toArray, List.getElem_cons_succ, List.getElem_cons_zero, Act.put]
    have M1 := M1.below d5
    have M3 := M3.below d5
    have D5 := d1.trans (d5.mono d1.size)
    have O1 := (o1.below bA).only oO (by have := o1.1; omega)
    have O2 := (o2.below bA).only oO (by have := o2.1; omega)
    have h3 : w1.heap.size ≤ w3.heap.size := dA.size
    have h4 : w1.heap.size ≤ x := by simpa using hx
    have h5 := o1.1
    have h6 := o2.1
    clear bA N o1 o2
    generalize w3.heap.size = bo at *
    have hbo : w.heap.size + 2 < bo ∧ x ≠ bo ∧ y ≠ bo ∧ w.heap.size + 2 < x ∧ x < y := ⟨by omega, by omega, by omega, by omega, hy⟩
    obtain ⟨hb1, hb2, hb3, hb4, hb5⟩ := hbo
    clear hx h3 h4 h5 h6 lt3
    clear M2 hS dA d5 oO b3 A u0 u1 u2 u3 u4 u5 u6 u7
    have m0 := M1.2.1 0 _ rfl
    have m1 := M1.2.1 1 _ rfl
    have q0 := MO.2.1 0 _ rfl
    have q1 := MO.2.1 1 _ rfl
    have q2 := MO.2.1 2 _ rfl
    have q3 := MO.2.1 3 _ rfl
    have q4 := MO.2.1 4 _ rfl
    have q5 := MO.2.1 5 _ rfl
    have q6 := MO.2.1 6 _ rfl
    have q7 := MO.2.1 7 _ rfl
    have g7 := MO.2.2 7 (by simp)
    have hsz5 := hide MO.1
    go_wp2_with fail
    refine (PUT.out y yc w5 hyc ⟨O2.row.rowN, .inr ⟨_, _, rfl⟩⟩).mono ?_
    rintro e w8 ⟨a', c', rfl, hc', S', b8, hw8⟩
    have MO := MO.below b8
    have M3 := M3.below b8
    have O1 := O1.below b8
    have D5 := D5.trans (b8.mono D5.size)
    have hS' : ∀ b off, a' = some ⟨b, off, none⟩ → b ≠ bo ∧ b ≠ w.heap.size + 1 + 1 ∧ w.heap.size ≤ b := fun b off h => by
      have hD5 := D5.size
      have hsz5 := hsz5.out
      rcases hw8 b off h with h | h
      · simp only [Option.some.injEq, Addr.mk.injEq, and_true] at h; omega
      · omega
    clear hw8 b8 PUT O2 q0 q1 q2 q3 q4 q5 q6 q7 m0 m1 M1 g7
    have q7 := MO.2.1 7 _ rfl
    have g7 := MO.2.2 7 (by simp)
    go_upto_region 20 with fail
    have MO := MO.set 7 (.slice a' (putN t.L n).length c')
    have M3 := M3.other (c := bo) (by omega) 7 (.slice a' (putN t.L n).length c')
    have O1 := O1.other (show x ≠ bo by omega) 7 (.slice a' (putN t.L n).length c')
    have S' := S'.farB (c := bo) (fun b off h => (hS' b off h).1) 7 (.slice a' (putN t.L n).length c')
    have D5 := D5.setCell (p := ⟨bo, 7, none⟩) (by show w.heap.size ≤ bo; omega) (.slice a' (putN t.L n).length c')
    clear q7 g7
    generalize w8.setCell ⟨bo, 7, none⟩ (.slice a' (putN t.L n).length c') = w6 at *
    have q0 : w6.cell? ⟨bo, 0, none⟩ = some (.int .i64 t.pa) := MO.2.1 0 _ rfl
    have q1 : w6.cell? ⟨bo, 1, none⟩ = some (.int .i64 t.pl) := MO.2.1 1 _ rfl
    have q2 : w6.cell? ⟨bo, 2, none⟩ = some (.int .i64 t.o) := MO.2.1 2 _ rfl
    have q3 : w6.cell? ⟨bo, 3, none⟩ = some (.slice (some ⟨x, 0, none⟩) t.n0 pc) := MO.2.1 3 _ rfl
    have q4 : w6.cell? ⟨bo, 4, none⟩ = some (.int .i64 t.nx) := MO.2.1 4 _ rfl
    have q5 : w6.cell? ⟨bo, 5, none⟩ = some (.int .i64 t.md) := MO.2.1 5 _ rfl
    have q6 : w6.cell? ⟨bo, 6, none⟩ = some (.int .i64 t.pf) := MO.2.1 6 _ rfl
    have q7 : w6.cell? ⟨bo, 7, none⟩ = some (.slice a' (putN t.L n).length c') := MO.2.1 7 _ rfl
    go_wp2_with (refine wpList_storeM (us := [.int .i64 t.pa, .int .i64 t.pl, .int .i64 t.o, .slice (some ⟨x, 0, none⟩) t.n0 pc, .int .i64 t.nx, .int .i64 t.md, .int .i64 t.pf, .slice a' (putN t.L n).length c']) rfl rfl rfl rfl M3 rfl (by intro v hv; simp only [List.mem_cons, List.not_mem_nil, or_false] at hv; rcases hv with rfl | rfl | rfl | rfl | rfl | rfl | rfl | rfl <;> rfl) sizeRt7 ?_; intro w7 M7 o7)
    have r0 := M7.2.1 0 _ rfl
    have r1 := M7.2.1 1 _ rfl
    have r2 := M7.2.1 2 _ rfl
    have r3 := M7.2.1 3 _ rfl
    have r4 := M7.2.1 4 _ rfl
    have r5 := M7.2.1 5 _ rfl
    have r6 := M7.2.1 6 _ rfl
    have r7 := M7.2.1 7 _ rfl
    have O1 := O1.only o7 (by omega)
    have S' := S'.onlyB o7 (fun b off h => (hS' b off h).2.1)
    have D7 := D5.trans (o7.below_of (by omega) D5.size)
    clear q0 q1 q2 q3 q4 q5 q6 q7 MO M3
    refine bodyPost_ret (v := .agg #[.int .i64 t.pa, .int .i64 t.pl, .int .i64 t.o, .slice (some ⟨x, 0, none⟩) t.n0 pc, .int .i64 t.nx, .int .i64 t.md, .int .i64 t.pf, .slice a' (putN t.L n).length c']) (by simp [results, Try.results23, go_sem, r0, r1, r2, r3, r4, r5, r6, r7]) rfl ?_
    exact ⟨_, _, _, _, rfl, ⟨O1.row.rowN, .inr ⟨_, _, rfl⟩⟩, by rw [do3, withL_L]; exact S', D7, newB_at (by omega), fun b off h => (hS' b off h).2.2⟩
  · go_simp
    refine hK.out _ _ (hS _ bZD) (fun hHeld => ?_)
    clear hK K
    refine wpAnyH_ready (rs := [4]) (by kernel_rfl) (by simp) (AllReadyH.cons rfl (fun K hK => ?_) AllReadyH.nil)
    go_simp
    refine (A.out _ (S0.below dZ) (S1.below dZ)).mono ?_
    rintro r w3 ⟨x, pc, y, yc, rfl, o1, o2, hx, hy, b3, hpc, hyc⟩
    have dA : Below w1.heap.size w1 w3 := below_step bZD b3
    refine hK.out _ _ (hS _ dA) (fun hHeld => ?_)
    clear hK K
    refine wpAnyH_take (i := 5) (v := .agg #[.int .i64 t.pa, .int .i64 t.pl, .int .i64 t.o, .slice (some ⟨x, 0, none⟩) t.n0 pc, .int .i64 t.nx, .int .i64 t.md, .int .i64 t.pf, .slice (some ⟨y, 0, none⟩) t.n1 yc]) rfl (by kernel_rfl) (by kernel_rfl) (by kernel_rfl) (fun _ _ _ h => h) (Or.inl ⟨by rfl, fun w' hSw => by go_simp⟩) hHeld ?_
    simp only [List.getElem_toArray, List.getElem_cons_succ, List.getElem_cons_zero, Act.put, List.setIfInBounds_toArray, List.set_cons_zero, List.set_cons_succ]
    refine wpAnyH_ready (rs := [7]) (by kernel_rfl) (by simp) (AllReadyH.cons rfl (fun K hK => ?_) AllReadyH.nil)
    have N := M4.below b3
    rw [if_pos (by rfl)]
    refine wp_storeM (us := [.int .i64 t.pa, .int .i64 t.pl, .int .i64 t.o, .slice (some ⟨x, 0, none⟩) t.n0 pc, .int .i64 t.nx, .int .i64 t.md, .int .i64 t.pf, .slice (some ⟨y, 0, none⟩) t.n1 yc]) rfl rfl rfl N rfl (by intro v hv; simp only [List.mem_cons, List.not_mem_nil, or_false] at hv; rcases hv with rfl | rfl | rfl | rfl | rfl | rfl | rfl | rfl <;> rfl) sizeRt7 ?_
    intro w5 MO oO
    have d5 : Below w1.heap.size w1 w5 := dA.trans (oO.below_of (Nat.le_of_eq rfl) dA.size)
    refine hK.out _ _ (hS _ d5) (fun hHeld => ?_)
    clear hK K hHeld
    refine wpAnyH_done (by kernel_rfl) ?_ _
    simp only [List.getElem_toArray, List.getElem_cons_succ, List.getElem_cons_zero, Act.put]
    have M1 := M1.below d5
    have M3 := M3.below d5
    have D5 := d1.trans (d5.mono d1.size)
    have h4 : w1.heap.size + 1 ≤ x := by simpa using hx
    have O1 := o1.only oO (by simp; omega)
    have O2 := o2.only oO (by simp; omega)
    clear N o1 o2 M4
    replace MO : Mut w5 w1.heap.size [.int .i64 t.pa, .int .i64 t.pl, .int .i64 t.o, .slice (some ⟨x, 0, none⟩) t.n0 pc, .int .i64 t.nx, .int .i64 t.md, .int .i64 t.pf, .slice (some ⟨y, 0, none⟩) t.n1 yc] := MO
    generalize w1.heap.size = bo at *
    have hbo : w.heap.size + 2 < bo ∧ x ≠ bo ∧ y ≠ bo ∧ w.heap.size + 2 < x ∧ x < y := ⟨by omega, by omega, by omega, by omega, hy⟩
    obtain ⟨hb1, hb2, hb3, hb4, hb5⟩ := hbo
    clear hx h4 lt3
    clear M2 hS dA d5 oO b3 A u0 u1 u2 u3 u4 u5 u6 u7
    have m0 := M1.2.1 0 _ rfl
    have m1 := M1.2.1 1 _ rfl
    have q0 := MO.2.1 0 _ rfl
    have q1 := MO.2.1 1 _ rfl
    have q2 := MO.2.1 2 _ rfl
    have q3 := MO.2.1 3 _ rfl
    have q4 := MO.2.1 4 _ rfl
    have q5 := MO.2.1 5 _ rfl
    have q6 := MO.2.1 6 _ rfl
    have q7 := MO.2.1 7 _ rfl
    have g7 := MO.2.2 7 (by simp)
    have hsz5 := hide MO.1
    go_wp2_with fail
    refine (PUT.out y yc w5 hyc ⟨O2.row.rowN, .inr ⟨_, _, rfl⟩⟩).mono ?_
    rintro e w8 ⟨a', c', rfl, hc', S', b8, hw8⟩
    have MO := MO.below b8
    have M3 := M3.below b8
    have O1 := O1.below b8
    have D5 := D5.trans (b8.mono D5.size)
    have hS' : ∀ b off, a' = some ⟨b, off, none⟩ → b ≠ bo ∧ b ≠ w.heap.size + 1 + 1 ∧ w.heap.size ≤ b := fun b off h => by
      have hD5 := D5.size
      have hsz5 := hsz5.out
      rcases hw8 b off h with h | h
      · simp only [Option.some.injEq, Addr.mk.injEq, and_true] at h; omega
      · omega
    clear hw8 b8 PUT O2 q0 q1 q2 q3 q4 q5 q6 q7 m0 m1 M1 g7
    have q7 := MO.2.1 7 _ rfl
    have g7 := MO.2.2 7 (by simp)
    go_upto_region 20 with fail
    have MO := MO.set 7 (.slice a' (putN t.L n).length c')
    have M3 := M3.other (c := bo) (by omega) 7 (.slice a' (putN t.L n).length c')
    have O1 := O1.other (show x ≠ bo by omega) 7 (.slice a' (putN t.L n).length c')
    have S' := S'.farB (c := bo) (fun b off h => (hS' b off h).1) 7 (.slice a' (putN t.L n).length c')
    have D5 := D5.setCell (p := ⟨bo, 7, none⟩) (by show w.heap.size ≤ bo; omega) (.slice a' (putN t.L n).length c')
    clear q7 g7
    generalize w8.setCell ⟨bo, 7, none⟩ (.slice a' (putN t.L n).length c') = w6 at *
    have q0 : w6.cell? ⟨bo, 0, none⟩ = some (.int .i64 t.pa) := MO.2.1 0 _ rfl
    have q1 : w6.cell? ⟨bo, 1, none⟩ = some (.int .i64 t.pl) := MO.2.1 1 _ rfl
    have q2 : w6.cell? ⟨bo, 2, none⟩ = some (.int .i64 t.o) := MO.2.1 2 _ rfl
    have q3 : w6.cell? ⟨bo, 3, none⟩ = some (.slice (some ⟨x, 0, none⟩) t.n0 pc) := MO.2.1 3 _ rfl
    have q4 : w6.cell? ⟨bo, 4, none⟩ = some (.int .i64 t.nx) := MO.2.1 4 _ rfl
    have q5 : w6.cell? ⟨bo, 5, none⟩ = some (.int .i64 t.md) := MO.2.1 5 _ rfl
    have q6 : w6.cell? ⟨bo, 6, none⟩ = some (.int .i64 t.pf) := MO.2.1 6 _ rfl
    have q7 : w6.cell? ⟨bo, 7, none⟩ = some (.slice a' (putN t.L n).length c') := MO.2.1 7 _ rfl
    go_wp2_with (refine wpList_storeM (us := [.int .i64 t.pa, .int .i64 t.pl, .int .i64 t.o, .slice (some ⟨x, 0, none⟩) t.n0 pc, .int .i64 t.nx, .int .i64 t.md, .int .i64 t.pf, .slice a' (putN t.L n).length c']) rfl rfl rfl rfl M3 rfl (by intro v hv; simp only [List.mem_cons, List.not_mem_nil, or_false] at hv; rcases hv with rfl | rfl | rfl | rfl | rfl | rfl | rfl | rfl <;> rfl) sizeRt7 ?_; intro w7 M7 o7)
    have r0 := M7.2.1 0 _ rfl
    have r1 := M7.2.1 1 _ rfl
    have r2 := M7.2.1 2 _ rfl
    have r3 := M7.2.1 3 _ rfl
    have r4 := M7.2.1 4 _ rfl
    have r5 := M7.2.1 5 _ rfl
    have r6 := M7.2.1 6 _ rfl
    have r7 := M7.2.1 7 _ rfl
    have O1 := O1.only o7 (by omega)
    have S' := S'.onlyB o7 (fun b off h => (hS' b off h).2.1)
    have D7 := D5.trans (o7.below_of (by omega) D5.size)
    clear q0 q1 q2 q3 q4 q5 q6 q7 MO M3
    refine bodyPost_ret (v := .agg #[.int .i64 t.pa, .int .i64 t.pl, .int .i64 t.o, .slice (some ⟨x, 0, none⟩) t.n0 pc, .int .i64 t.nx, .int .i64 t.md, .int .i64 t.pf, .slice a' (putN t.L n).length c']) (by simp [results, Try.results23, go_sem, r0, r1, r2, r3, r4, r5, r6, r7]) rfl ?_
    exact ⟨_, _, _, _, rfl, ⟨O1.row.rowN, .inr ⟨_, _, rfl⟩⟩, by rw [do3, withL_L]; exact S', D7, newB_at (by omega), fun b off h => (hS' b off h).2.2⟩
end Go.Proofs.Ytflakkbodbnndaa
