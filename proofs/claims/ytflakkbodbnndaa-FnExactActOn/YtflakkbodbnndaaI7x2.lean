/- ActOn of the program, kind 2. -/
import Derived.Test.YtflakkbodbnndaaAll16
namespace Go.Proofs.Ytflakkbodbnndaa
open Go.RowKit

set_option maxRecDepth 100000 in
set_option maxHeartbeats 6400000 in
theorem i_actOn2 (n : Int) (t : Ro) (x0 f0 c0 x1 f1 c1 : Nat) (w : World) (h0 : t.n0 ≤ 1048576) (h1 : t.n1 ≤ 1048576) (R0 : RowInt (some ⟨x0, f0, none⟩) t.n0 t.f w) (R1 : RowInt (some ⟨x1, f1, none⟩) t.n1 t.g w) :
    Calls Try.prog 9 #[.agg #[.int .i64 2, .int .i64 n], .agg #[.int .i64 t.pa, .int .i64 t.pl, .int .i64 t.o, .slice (some ⟨x0, f0, none⟩) t.n0 c0, .int .i64 t.nx, .int .i64 t.md, .int .i64 t.pf, .slice (some ⟨x1, f1, none⟩) t.n1 c1]] w (AiP 2 n t w) := by
  have DE := hide (fun w => i_deed2 w)
  have TK := hide (fun w => i_isValue7 n w)
  rw [show inB n 0 1000000 = acOk 2 n from by simp [acOk, inB]] at TK
  have GR := hide (fun w R0 R1 => i_goodRoute t.pa t.pl t.o t.nx t.md t.pf (some ⟨x0, f0, none⟩) t.n0 c0 t.f (some ⟨x1, f1, none⟩) t.n1 c1 t.g w h0 h1 R0 R1)
  rw [show routeB t.pa t.pl t.o t.nx t.md t.pf t.n0 t.f t.n1 t.g = rtOk t from rfl] at GR
  have d1 : Below w.heap.size w (((w.alloc (.cells #[.int .i64 2, .int .i64 n] 38)).alloc (.cells #[.int .i64 t.pa, .int .i64 t.pl, .int .i64 t.o, .slice (some ⟨x0, f0, none⟩) t.n0 c0, .int .i64 t.nx, .int .i64 t.md, .int .i64 t.pf, .slice (some ⟨x1, f1, none⟩) t.n1 c1] 35)).alloc (.cells #[.int .i64 0, .int .i64 0, .int .i64 0, .slice none 0 0, .int .i64 0, .int .i64 0, .int .i64 0, .slice none 0 0] 35)) := below_box3 (Below.refl _ _)
  have M1 := ((Mut.new w #[.int .i64 2, .int .i64 n] 38).alloc (.cells #[.int .i64 t.pa, .int .i64 t.pl, .int .i64 t.o, .slice (some ⟨x0, f0, none⟩) t.n0 c0, .int .i64 t.nx, .int .i64 t.md, .int .i64 t.pf, .slice (some ⟨x1, f1, none⟩) t.n1 c1] 35)).alloc (.cells #[.int .i64 0, .int .i64 0, .int .i64 0, .slice none 0 0, .int .i64 0, .int .i64 0, .int .i64 0, .slice none 0 0] 35)
  have M2 := (Mut.new (w.alloc (.cells #[.int .i64 2, .int .i64 n] 38)) #[.int .i64 t.pa, .int .i64 t.pl, .int .i64 t.o, .slice (some ⟨x0, f0, none⟩) t.n0 c0, .int .i64 t.nx, .int .i64 t.md, .int .i64 t.pf, .slice (some ⟨x1, f1, none⟩) t.n1 c1] 35).alloc (.cells #[.int .i64 0, .int .i64 0, .int .i64 0, .slice none 0 0, .int .i64 0, .int .i64 0, .int .i64 0, .slice none 0 0] 35)
  have M3 := Mut.new ((w.alloc (.cells #[.int .i64 2, .int .i64 n] 38)).alloc (.cells #[.int .i64 t.pa, .int .i64 t.pl, .int .i64 t.o, .slice (some ⟨x0, f0, none⟩) t.n0 c0, .int .i64 t.nx, .int .i64 t.md, .int .i64 t.pf, .slice (some ⟨x1, f1, none⟩) t.n1 c1] 35)) #[.int .i64 0, .int .i64 0, .int .i64 0, .slice none 0 0, .int .i64 0, .int .i64 0, .int .i64 0, .slice none 0 0] 35
  simp only [World.size_alloc] at M2 M3
  have hao : aoB 2 n t = (acOk 2 n && (rtOk t && rtOk (doR 2 n t))) := rfl
  cases hac : acOk 2 n with
  | false =>
    have hN : aoB 2 n t = false := by rw [hao, hac]; rfl
    rw [hac] at TK
    clear hao hac GR
    go_enter Try.func9, Try.ntmps9
    go_wp2_with fail
    generalize (((w.alloc (.cells #[.int .i64 2, .int .i64 n] 38)).alloc (.cells #[.int .i64 t.pa, .int .i64 t.pl, .int .i64 t.o, .slice (some ⟨x0, f0, none⟩) t.n0 c0, .int .i64 t.nx, .int .i64 t.md, .int .i64 t.pf, .slice (some ⟨x1, f1, none⟩) t.n1 c1] 35)).alloc (.cells #[.int .i64 0, .int .i64 0, .int .i64 0, .slice none 0 0, .int .i64 0, .int .i64 0, .int .i64 0, .slice none 0 0] 35)) = w1 at *
    refine (DE.out _).mono ?_
    rintro e w2 ⟨rfl, b2⟩
    have d2 := d1.trans (b2.mono d1.size)
    have M1 := M1.below b2
    have M2 := M2.below b2
    have M3 := M3.below b2
    have lt3 := M3.1
    clear b2
    go_wp2_with (first | (refine wpList_storeM rfl rfl rfl rfl (Mut.new _ _ _) rfl (by intro v hv; simp only [List.mem_cons, List.not_mem_nil, or_false] at hv; rcases hv with rfl | rfl <;> rfl) sizeDeed ?_; intro w3 MD oD; have z1 := MD.2.1 0 _ rfl; have M1 := (M1.alloc _).only oD (by omega); have M2 := (M2.alloc _).only oD (by omega); have M3 := (M3.alloc _).only oD (by omega); have m0 := M1.2.1 0 _ rfl; have m1 := M1.2.1 1 _ rfl; have d3 : Below w.heap.size w w3 := (d2.alloc d2.size _).trans ((oD.below (by simp)).mono d2.size); have hbd : w.heap.size + 1 + 1 < w2.heap.size := lt3))
    refine (TK.out _).mono ?_
    rintro e w4 ⟨rfl, b4⟩
    have d4 := d3.trans (b4.mono d3.size)
    have M1 := M1.below b4
    have M2 := M2.below b4
    have M3 := M3.below b4
    have MD := MD.below b4
    clear b4 oD z1 m0 m1
    go_wp2_with (refine wpList_storeM (us := [.int .i64 0, .int .i64 0, .int .i64 0, .slice none 0 0, .int .i64 0, .int .i64 0, .int .i64 0, .slice none 0 0]) rfl rfl rfl rfl M3 rfl (by intro v hv; simp only [List.mem_cons, List.not_mem_nil, or_false] at hv; rcases hv with rfl | rfl | rfl | rfl | rfl | rfl | rfl | rfl <;> rfl) sizeRt7 ?_; intro wF MF oF)
    have r_0 := MF.2.1 0 _ rfl
    have r_1 := MF.2.1 1 _ rfl
    have r_2 := MF.2.1 2 _ rfl
    have r_3 := MF.2.1 3 _ rfl
    have r_4 := MF.2.1 4 _ rfl
    have r_5 := MF.2.1 5 _ rfl
    have r_6 := MF.2.1 6 _ rfl
    have r_7 := MF.2.1 7 _ rfl
    have DF := d4.trans (oF.below_of (by omega) d4.size)
    refine bodyPost_ret (v := .tuple #[.agg #[.int .i64 0, .int .i64 0, .int .i64 0, .slice none 0 0, .int .i64 0, .int .i64 0, .int .i64 0, .slice none 0 0], .bool false]) (by simp [results, Try.results9, go_sem, r_0, r_1, r_2, r_3, r_4, r_5, r_6, r_7]) rfl (⟨DF, .inr ⟨hN, rfl⟩⟩)
  | true =>
    rw [hac] at TK
    cases hrt : rtOk t with
    | false =>
      have hN : aoB 2 n t = false := by rw [hao, hac, hrt]; rfl
      rw [hrt] at GR
      clear hao hac hrt
      go_enter Try.func9, Try.ntmps9
      go_wp2_with fail
      generalize (((w.alloc (.cells #[.int .i64 2, .int .i64 n] 38)).alloc (.cells #[.int .i64 t.pa, .int .i64 t.pl, .int .i64 t.o, .slice (some ⟨x0, f0, none⟩) t.n0 c0, .int .i64 t.nx, .int .i64 t.md, .int .i64 t.pf, .slice (some ⟨x1, f1, none⟩) t.n1 c1] 35)).alloc (.cells #[.int .i64 0, .int .i64 0, .int .i64 0, .slice none 0 0, .int .i64 0, .int .i64 0, .int .i64 0, .slice none 0 0] 35)) = w1 at *
      refine (DE.out _).mono ?_
      rintro e w2 ⟨rfl, b2⟩
      have d2 := d1.trans (b2.mono d1.size)
      have M1 := M1.below b2
      have M2 := M2.below b2
      have M3 := M3.below b2
      have lt3 := M3.1
      clear b2
      go_wp2_with (first | (refine wpList_storeM rfl rfl rfl rfl (Mut.new _ _ _) rfl (by intro v hv; simp only [List.mem_cons, List.not_mem_nil, or_false] at hv; rcases hv with rfl | rfl <;> rfl) sizeDeed ?_; intro w3 MD oD; have z1 := MD.2.1 0 _ rfl; have M1 := (M1.alloc _).only oD (by omega); have M2 := (M2.alloc _).only oD (by omega); have M3 := (M3.alloc _).only oD (by omega); have m0 := M1.2.1 0 _ rfl; have m1 := M1.2.1 1 _ rfl; have d3 : Below w.heap.size w w3 := (d2.alloc d2.size _).trans ((oD.below (by simp)).mono d2.size); have hbd : w.heap.size + 1 + 1 < w2.heap.size := lt3))
      refine (TK.out _).mono ?_
      rintro e w4 ⟨rfl, b4⟩
      have d4 := d3.trans (b4.mono d3.size)
      have M1 := M1.below b4
      have M2 := M2.below b4
      have M3 := M3.below b4
      have MD := MD.below b4
      clear b4 oD z1 m0 m1
      have u0 := M2.2.1 0 _ rfl
      have u1 := M2.2.1 1 _ rfl
      have u2 := M2.2.1 2 _ rfl
      have u3 := M2.2.1 3 _ rfl
      have u4 := M2.2.1 4 _ rfl
      have u5 := M2.2.1 5 _ rfl
      have u6 := M2.2.1 6 _ rfl
      have u7 := M2.2.1 7 _ rfl
      go_wp2_with fail
      refine (GR.out _ (R0.below d4) (R1.below d4)).mono ?_
      rintro e w5 ⟨rfl, b5⟩
      have d5 := d4.trans (b5.mono d4.size)
      have M1 := M1.below b5
      have M2 := M2.below b5
      have M3 := M3.below b5
      have MD := MD.below b5
      clear b5 u0 u1 u2 u3 u4 u5 u6 u7
      go_wp2_with (refine wpList_storeM (us := [.int .i64 0, .int .i64 0, .int .i64 0, .slice none 0 0, .int .i64 0, .int .i64 0, .int .i64 0, .slice none 0 0]) rfl rfl rfl rfl M3 rfl (by intro v hv; simp only [List.mem_cons, List.not_mem_nil, or_false] at hv; rcases hv with rfl | rfl | rfl | rfl | rfl | rfl | rfl | rfl <;> rfl) sizeRt7 ?_; intro wF MF oF)
      have r_0 := MF.2.1 0 _ rfl
      have r_1 := MF.2.1 1 _ rfl
      have r_2 := MF.2.1 2 _ rfl
      have r_3 := MF.2.1 3 _ rfl
      have r_4 := MF.2.1 4 _ rfl
      have r_5 := MF.2.1 5 _ rfl
      have r_6 := MF.2.1 6 _ rfl
      have r_7 := MF.2.1 7 _ rfl
      have DF := d5.trans (oF.below_of (by omega) d5.size)
      refine bodyPost_ret (v := .tuple #[.agg #[.int .i64 0, .int .i64 0, .int .i64 0, .slice none 0 0, .int .i64 0, .int .i64 0, .int .i64 0, .slice none 0 0], .bool false]) (by simp [results, Try.results9, go_sem, r_0, r_1, r_2, r_3, r_4, r_5, r_6, r_7]) rfl (⟨DF, .inr ⟨hN, rfl⟩⟩)
    | true =>
      rw [hrt] at GR
      have hsm := rt_small hrt
      have hup := rt_up hrt
      obtain ⟨hr0, hr1⟩ := do_small (k := 2) (n := n) hsm.1 hsm.2
      have OW := hide (fun w (R0 : RowInt (some ⟨x0, f0, none⟩) t.n0 t.f w) (R1 : RowInt (some ⟨x1, f1, none⟩) t.n1 t.g w) => i_ownAttrs t.o t.nx t.md t.pf x0 f0 c0 x1 f1 c1 t.K t.L w (by rw [Ro.K_len]; omega) (by rw [Ro.L_len]; omega) R0.rowN R1.rowN)
      rw [Ro.K_len, Ro.L_len] at OW
      have DO := hide (fun base g kc h lc w H => i_do2 n t base g kc h lc w H)
      have GQ := hide (fun p pc q qc w (P : OutInt p (doR 2 n t).n0 (doR 2 n t).n0 (doR 2 n t).f w) (Q : OutInt q (doR 2 n t).n1 (doR 2 n t).n1 (doR 2 n t).g w) => i_goodRoute t.pa t.pl (doR 2 n t).o (doR 2 n t).nx (doR 2 n t).md (doR 2 n t).pf (some ⟨p, 0, none⟩) (doR 2 n t).n0 pc (doR 2 n t).f (some ⟨q, 0, none⟩) (doR 2 n t).n1 qc (doR 2 n t).g w hr0 hr1 P.row Q.row)
      have hrr : routeB t.pa t.pl (doR 2 n t).o (doR 2 n t).nx (doR 2 n t).md (doR 2 n t).pf (doR 2 n t).n0 (doR 2 n t).f (doR 2 n t).n1 (doR 2 n t).g = rtOk (doR 2 n t) := by unfold rtOk; rw [do_pa, do_pl]
      rw [hrr] at GQ
      rw [hac, hrt] at hao
      simp only [Bool.true_and] at hao
      have hA := hide hao
      clear hao hrr hac hrt hr0 hr1
      have hYes : Hid (rtOk (doR 2 n t) = true → ∀ w7 p pc q qc, Below w.heap.size w w7 → w.heap.size ≤ p → w.heap.size ≤ q → p ≠ q → OutInt p (doR 2 n t).n0 (doR 2 n t).n0 (doR 2 n t).f w7 → OutInt q (doR 2 n t).n1 (doR 2 n t).n1 (doR 2 n t).g w7 → AiP 2 n t w (.returned (.tuple #[.agg #[.int .i64 t.pa, .int .i64 t.pl, .int .i64 (doR 2 n t).o, .slice (some ⟨p, 0, none⟩) (doR 2 n t).n0 pc, .int .i64 (doR 2 n t).nx, .int .i64 (doR 2 n t).md, .int .i64 (doR 2 n t).pf, .slice (some ⟨q, 0, none⟩) (doR 2 n t).n1 qc], .bool true])) w7) := fun h w7 p pc q qc D h1 h2 h3 P Q => ⟨D, .inl ⟨hA.out.trans h, p, pc, q, qc, by rw [do_pa, do_pl], h1, h2, h3, P, Q⟩⟩
      have hNo : Hid (rtOk (doR 2 n t) = false → ∀ w7, Below w.heap.size w w7 → AiP 2 n t w (.returned (.tuple #[.agg #[.int .i64 0, .int .i64 0, .int .i64 0, .slice none 0 0, .int .i64 0, .int .i64 0, .int .i64 0, .slice none 0 0], .bool false])) w7) := fun h w7 D => ⟨D, .inr ⟨hA.out.trans h, rfl⟩⟩
      clear hA
      generalize AiP 2 n t w = AQ at *
      generalize doR 2 n t = r at *
      cases hq : rtOk r with
      | false =>
        rw [hq] at GQ
        have hF := hide (hNo.out hq)
        clear hYes hNo hq
        go_enter Try.func9, Try.ntmps9
        go_wp2_with fail
        generalize (((w.alloc (.cells #[.int .i64 2, .int .i64 n] 38)).alloc (.cells #[.int .i64 t.pa, .int .i64 t.pl, .int .i64 t.o, .slice (some ⟨x0, f0, none⟩) t.n0 c0, .int .i64 t.nx, .int .i64 t.md, .int .i64 t.pf, .slice (some ⟨x1, f1, none⟩) t.n1 c1] 35)).alloc (.cells #[.int .i64 0, .int .i64 0, .int .i64 0, .slice none 0 0, .int .i64 0, .int .i64 0, .int .i64 0, .slice none 0 0] 35)) = w1 at *
        refine (DE.out _).mono ?_
        rintro e w2 ⟨rfl, b2⟩
        have d2 := d1.trans (b2.mono d1.size)
        have M1 := M1.below b2
        have M2 := M2.below b2
        have M3 := M3.below b2
        have lt3 := M3.1
        clear b2
        go_wp2_with (first | (refine wpList_storeM rfl rfl rfl rfl (Mut.new _ _ _) rfl (by intro v hv; simp only [List.mem_cons, List.not_mem_nil, or_false] at hv; rcases hv with rfl | rfl <;> rfl) sizeDeed ?_; intro w3 MD oD; have z1 := MD.2.1 0 _ rfl; have M1 := (M1.alloc _).only oD (by omega); have M2 := (M2.alloc _).only oD (by omega); have M3 := (M3.alloc _).only oD (by omega); have m0 := M1.2.1 0 _ rfl; have m1 := M1.2.1 1 _ rfl; have d3 : Below w.heap.size w w3 := (d2.alloc d2.size _).trans ((oD.below (by simp)).mono d2.size); have hbd : w.heap.size + 1 + 1 < w2.heap.size := lt3))
        refine (TK.out _).mono ?_
        rintro e w4 ⟨rfl, b4⟩
        have d4 := d3.trans (b4.mono d3.size)
        have M1 := M1.below b4
        have M2 := M2.below b4
        have M3 := M3.below b4
        have MD := MD.below b4
        clear b4 oD z1 m0 m1
        have u0 := M2.2.1 0 _ rfl
        have u1 := M2.2.1 1 _ rfl
        have u2 := M2.2.1 2 _ rfl
        have u3 := M2.2.1 3 _ rfl
        have u4 := M2.2.1 4 _ rfl
        have u5 := M2.2.1 5 _ rfl
        have u6 := M2.2.1 6 _ rfl
        have u7 := M2.2.1 7 _ rfl
        go_wp2_with fail
        refine (GR.out _ (R0.below d4) (R1.below d4)).mono ?_
        rintro e w5 ⟨rfl, b5⟩
        have d5 := d4.trans (b5.mono d4.size)
        have M1 := M1.below b5
        have M2 := M2.below b5
        have M3 := M3.below b5
        have MD := MD.below b5
        clear b5 u0 u1 u2 u3 u4 u5 u6 u7
        have hS : ∀ w' : World, Below w5.heap.size w5 w' → w'.cell? ⟨w.heap.size + 1, 0, none⟩ = some (.int .i64 t.pa) ∧ w'.cell? ⟨w.heap.size + 1, 1, none⟩ = some (.int .i64 t.pl) ∧ w'.cell? ⟨w.heap.size + 1, 2, none⟩ = some (.int .i64 t.o) ∧ w'.cell? ⟨w.heap.size + 1, 3, none⟩ = some (.slice (some ⟨x0, f0, none⟩) t.n0 c0) ∧ w'.cell? ⟨w.heap.size + 1, 4, none⟩ = some (.int .i64 t.nx) ∧ w'.cell? ⟨w.heap.size + 1, 5, none⟩ = some (.int .i64 t.md) ∧ w'.cell? ⟨w.heap.size + 1, 6, none⟩ = some (.int .i64 t.pf) ∧ w'.cell? ⟨w.heap.size + 1, 7, none⟩ = some (.slice (some ⟨x1, f1, none⟩) t.n1 c1) ∧ w'.cell? ⟨w2.heap.size, 1, none⟩ = some (.func (.func 54) #[] #[]) ∧ w'.cell? ⟨w.heap.size, 1, none⟩ = some (.int .i64 n) := fun w' b => ⟨(M2.below b).2.1 0 _ rfl, (M2.below b).2.1 1 _ rfl, (M2.below b).2.1 2 _ rfl, (M2.below b).2.1 3 _ rfl, (M2.below b).2.1 4 _ rfl, (M2.below b).2.1 5 _ rfl, (M2.below b).2.1 6 _ rfl, (M2.below b).2.1 7 _ rfl, (MD.below b).2.1 1 _ rfl, (M1.below b).2.1 1 _ rfl⟩
        have lt3 := M3.1
        go_wp2_with fail
        refine wp_region_held_drew (S := fun w' => w'.cell? ⟨w.heap.size + 1, 0, none⟩ = some (.int .i64 t.pa) ∧ w'.cell? ⟨w.heap.size + 1, 1, none⟩ = some (.int .i64 t.pl) ∧ w'.cell? ⟨w.heap.size + 1, 2, none⟩ = some (.int .i64 t.o) ∧ w'.cell? ⟨w.heap.size + 1, 3, none⟩ = some (.slice (some ⟨x0, f0, none⟩) t.n0 c0) ∧ w'.cell? ⟨w.heap.size + 1, 4, none⟩ = some (.int .i64 t.nx) ∧ w'.cell? ⟨w.heap.size + 1, 5, none⟩ = some (.int .i64 t.md) ∧ w'.cell? ⟨w.heap.size + 1, 6, none⟩ = some (.int .i64 t.pf) ∧ w'.cell? ⟨w.heap.size + 1, 7, none⟩ = some (.slice (some ⟨x1, f1, none⟩) t.n1 c1) ∧ w'.cell? ⟨w2.heap.size, 1, none⟩ = some (.func (.func 54) #[] #[]) ∧ w'.cell? ⟨w.heap.size, 1, none⟩ = some (.int .i64 n)) (by kernel_rfl) (hS _ (Below.refl _ _).drew) (fun hHeld => ?_)
        refine wpAnyH_take (i := 0) (v := .pointer (some ⟨w.heap.size + 1, 0, none⟩)) rfl (by kernel_rfl) (by kernel_rfl) (by kernel_rfl) (fun _ _ _ h => h) (Or.inl ⟨by rfl, fun w' hSw => by go_simp⟩) hHeld ?_
        simp only [List.getElem_toArray, List.getElem_cons_zero, Act.put, List.setIfInBounds_toArray, List.set_cons_zero, List.set_cons_succ]
        refine wpAnyH_take (i := 1) (v := .agg #[.int .i64 t.pa, .int .i64 t.pl]) rfl (by kernel_rfl) (by kernel_rfl) (by kernel_rfl) (fun _ _ _ h => h) (Or.inl ⟨by rfl, fun w' hSw => by go_simp⟩) hHeld ?_
        simp only [List.getElem_toArray, List.getElem_cons_succ, List.getElem_cons_zero, Act.put, List.setIfInBounds_toArray, List.set_cons_zero, List.set_cons_succ]
        refine wpAnyH_take (i := 2) (v := .pointer (some ⟨w2.heap.size, 1, none⟩)) rfl (by kernel_rfl) (by kernel_rfl) (by kernel_rfl) (fun _ _ _ h => h) (Or.inl ⟨by rfl, fun w' hSw => by go_simp⟩) hHeld ?_
        simp only [List.getElem_toArray, List.getElem_cons_succ, List.getElem_cons_zero, Act.put, List.setIfInBounds_toArray, List.set_cons_zero, List.set_cons_succ]
        refine wpAnyH_take (i := 3) (v := .func (.func 54) #[] #[]) rfl (by kernel_rfl) (by kernel_rfl) (by kernel_rfl) (fun _ _ _ h => h) (Or.inl ⟨by rfl, fun w' hSw => by go_simp⟩) hHeld ?_
        simp only [List.getElem_toArray, List.getElem_cons_succ, List.getElem_cons_zero, Act.put, List.setIfInBounds_toArray, List.set_cons_zero, List.set_cons_succ]
        refine wpAnyH_take (i := 4) (v := .pointer (some ⟨w.heap.size + 1, 2, none⟩)) rfl (by kernel_rfl) (by kernel_rfl) (by kernel_rfl) (fun _ _ _ h => h) (Or.inl ⟨by rfl, fun w' hSw => by go_simp⟩) hHeld ?_
        simp only [List.getElem_toArray, List.getElem_cons_succ, List.getElem_cons_zero, Act.put, List.setIfInBounds_toArray, List.set_cons_zero, List.set_cons_succ]
        refine wpAnyH_take (i := 5) (v := .agg #[.int .i64 t.o, .slice (some ⟨x0, f0, none⟩) t.n0 c0, .int .i64 t.nx, .int .i64 t.md, .int .i64 t.pf, .slice (some ⟨x1, f1, none⟩) t.n1 c1]) rfl (by kernel_rfl) (by kernel_rfl) (by kernel_rfl) (fun _ _ _ h => h) (Or.inl ⟨by rfl, fun w' hSw => by go_simp⟩) hHeld ?_
        simp only [List.getElem_toArray, List.getElem_cons_succ, List.getElem_cons_zero, Act.put, List.setIfInBounds_toArray, List.set_cons_zero, List.set_cons_succ]
        refine wpAnyH_take (i := 7) (v := .pointer (some ⟨w.heap.size, 1, none⟩)) rfl (by kernel_rfl) (by kernel_rfl) (by kernel_rfl) (fun _ _ _ h => h) (Or.inl ⟨by rfl, fun w' hSw => by go_simp⟩) hHeld ?_
        simp only [List.getElem_toArray, List.getElem_cons_succ, List.getElem_cons_zero, Act.put, List.setIfInBounds_toArray, List.set_cons_zero, List.set_cons_succ]
        refine wpAnyH_take (i := 8) (v := .int .i64 n) rfl (by kernel_rfl) (by kernel_rfl) (by kernel_rfl) (fun _ _ _ h => h) (Or.inl ⟨by rfl, fun w' hSw => by go_simp⟩) hHeld ?_
        simp only [List.getElem_toArray, List.getElem_cons_succ, List.getElem_cons_zero, Act.put, List.setIfInBounds_toArray, List.set_cons_zero, List.set_cons_succ]
        refine wpAnyH_ready (rs := [6, 11]) (by kernel_rfl) (by simp) (AllReadyH.cons rfl (fun K hK => ?_) (AllReadyH.cons rfl (fun K hK => ?_) AllReadyH.nil))
        · go_simp
          refine (OW.out _ (R0.below d5.drew) (R1.below d5.drew)).mono ?_
          rintro e w6 ⟨g, kc, h, lc, rfl, O0, O1, hgh, b6⟩
          have e6 : Below w5.heap.size w5 w6 := below_step (Below.refl _ _).drew b6
          refine hK.out _ _ (hS _ e6) (fun hHeld => ?_)
          clear hK K
          have hg5 := (own_parts (L := t.K) (by rw [Ro.K_len]; exact O0)).1
          have hg6 := (own_parts (L := t.K) (by rw [Ro.K_len]; exact O0)).2.1
          have hh6 := (own_parts (L := t.L) (by rw [Ro.L_len]; exact O1)).2.1
          have h56 : w5.heap.size ≤ w6.heap.size := e6.size
          have hgw : w5.heap.size ≤ g := hg5
          clear hg5
          refine wpAnyH_ready (rs := [9, 11]) (by kernel_rfl) (by simp) (AllReadyH.cons rfl (fun K hK => ?_) (AllReadyH.cons rfl (fun K hK => ?_) AllReadyH.nil))
          · go_simp
            refine (DO.out _ g kc h lc _ ⟨hsm, hup, ⟨h56, by omega, by first | exact hg6 | (simp; omega), by first | exact hh6 | (simp; omega)⟩, O0, O1⟩).mono ?_
            rintro e w7 ⟨p, pc, q, qc, rfl, hp, hq, hpq, P, Q, b7, z, hz, on⟩
            have e7 : Below w5.heap.size w5 w7 := e6.trans (b7.mono (Nat.le_of_eq rfl))
            refine hK.out _ _ (hS _ e7) (fun hHeld => ?_)
            clear hK K
            refine wpAnyH_take (i := 10) (v := .agg #[.int .i64 t.pa, .int .i64 t.pl, .int .i64 r.o, .slice (some ⟨p, 0, none⟩) r.n0 pc, .int .i64 r.nx, .int .i64 r.md, .int .i64 r.pf, .slice (some ⟨q, 0, none⟩) r.n1 qc]) rfl (by kernel_rfl) (by kernel_rfl) (by kernel_rfl) (fun _ _ _ h => h) (Or.inl ⟨by rfl, fun w' hSw => by go_simp⟩) hHeld ?_
            simp only [List.getElem_toArray, List.getElem_cons_succ, List.getElem_cons_zero, Act.put, List.setIfInBounds_toArray, List.set_cons_zero, List.set_cons_succ]
            refine wpAnyH_ready (rs := [11]) (by kernel_rfl) (by simp) (AllReadyH.cons rfl (fun K hK => ?_) AllReadyH.nil)
            go_simp
            have bA : Below w7.heap.size w7 (w7.alloc (.cells #[.int .i64 0, .int .i64 0, .int .i64 0, .slice none 0 0, .int .i64 0, .int .i64 0, .int .i64 0, .slice none 0 0] 35)) := below_box (Below.refl _ _)
            refine hK.out _ _ (hS _ (below_step e7 bA)) (fun hHeld => ?_)
            clear hK K
            refine wpAnyH_ready (rs := [12]) (by kernel_rfl) (by simp) (AllReadyH.cons rfl (fun K hK => ?_) AllReadyH.nil)
            have N := Mut.new w7 #[.int .i64 0, .int .i64 0, .int .i64 0, .slice none 0 0, .int .i64 0, .int .i64 0, .int .i64 0, .slice none 0 0] 35
            have h67 := on.2.2.2.1
            have hp7 := P.1
            have hq7 := Q.1
            have P := P.below bA
            have Q := Q.below bA
            rw [if_pos (by rfl)]
            refine wp_storeM (us := [.int .i64 t.pa, .int .i64 t.pl, .int .i64 r.o, .slice (some ⟨p, 0, none⟩) r.n0 pc, .int .i64 r.nx, .int .i64 r.md, .int .i64 r.pf, .slice (some ⟨q, 0, none⟩) r.n1 qc]) rfl rfl rfl N rfl (by intro v hv; simp only [List.mem_cons, List.not_mem_nil, or_false] at hv; rcases hv with rfl | rfl | rfl | rfl | rfl | rfl | rfl | rfl <;> rfl) sizeRt7 ?_
            intro w8 MO oO
            have e8 : Below w5.heap.size w5 w8 := (e7.trans (bA.mono e7.size)).trans (oO.below_of e7.size (by have := e7.size; simp; omega))
            refine hK.out _ _ (hS _ e8) (fun hHeld => ?_)
            clear hK K hHeld
            refine wpAnyH_done (by kernel_rfl) ?_ _
            simp only [List.getElem_toArray, List.getElem_cons_succ, List.getElem_cons_zero, Act.put]
            have M3 := M3.below e8
            have D8 := d5.trans (e8.mono d5.size)
            have P := P.only oO (by omega)
            have Q := Q.only oO (by omega)
            clear bA e7
            generalize w7.heap.size = bo at *
            have hpb : w.heap.size + 1 + 1 < p ∧ w.heap.size + 1 + 1 < q := ⟨by omega, by omega⟩
            obtain ⟨hp3, hq3⟩ := hpb
            clear hS M1 M2 MD oO e8 e6 O0 O1 b6 b7 on N hp hq hz OW DO TK DE GR
            have q0 := MO.2.1 0 _ rfl
            have q1 := MO.2.1 1 _ rfl
            have q2 := MO.2.1 2 _ rfl
            have q3 := MO.2.1 3 _ rfl
            have q4 := MO.2.1 4 _ rfl
            have q5 := MO.2.1 5 _ rfl
            have q6 := MO.2.1 6 _ rfl
            have q7 := MO.2.1 7 _ rfl
            go_wp2_with fail
            refine (GQ.out p pc q qc _ P Q).mono ?_
            rintro e w9 ⟨rfl, b9⟩
            have D9 := D8.trans (b9.mono D8.size)
            have P := P.below b9
            have Q := Q.below b9
            have M3 := M3.below b9
            have MO := MO.below b9
            clear b9 q0 q1 q2 q3 q4 q5 q6 q7
            go_wp2_with (refine wpList_storeM (us := [.int .i64 0, .int .i64 0, .int .i64 0, .slice none 0 0, .int .i64 0, .int .i64 0, .int .i64 0, .slice none 0 0]) rfl rfl rfl rfl M3 rfl (by intro v hv; simp only [List.mem_cons, List.not_mem_nil, or_false] at hv; rcases hv with rfl | rfl | rfl | rfl | rfl | rfl | rfl | rfl <;> rfl) sizeRt7 ?_; intro wF MF oF)
            have r_0 := MF.2.1 0 _ rfl
            have r_1 := MF.2.1 1 _ rfl
            have r_2 := MF.2.1 2 _ rfl
            have r_3 := MF.2.1 3 _ rfl
            have r_4 := MF.2.1 4 _ rfl
            have r_5 := MF.2.1 5 _ rfl
            have r_6 := MF.2.1 6 _ rfl
            have r_7 := MF.2.1 7 _ rfl
            have DF := D9.trans (oF.below_of (by omega) D9.size)
            refine bodyPost_ret (v := .tuple #[.agg #[.int .i64 0, .int .i64 0, .int .i64 0, .slice none 0 0, .int .i64 0, .int .i64 0, .int .i64 0, .slice none 0 0], .bool false]) (by simp [results, Try.results9, go_sem, r_0, r_1, r_2, r_3, r_4, r_5, r_6, r_7]) rfl (hF.out _ DF)
          · go_simp
            have bA : Below w6.heap.size w6 (w6.alloc (.cells #[.int .i64 0, .int .i64 0, .int .i64 0, .slice none 0 0, .int .i64 0, .int .i64 0, .int .i64 0, .slice none 0 0] 35)) := below_box (Below.refl _ _)
            have eA := below_step e6 bA
            refine hK.out _ _ (hS _ eA) (fun hHeld => ?_)
            clear hK K
            refine wpAnyH_ready (rs := [9]) (by kernel_rfl) (by simp) (AllReadyH.cons rfl (fun K hK => ?_) AllReadyH.nil)
            go_simp
            refine (DO.out _ g kc h lc _ ⟨hsm, hup, ⟨Nat.le_trans h56 bA.size, by omega, by first | exact hg6 | (simp; omega), by first | exact hh6 | (simp; omega)⟩, ownN_below O0 bA, ownN_below O1 bA⟩).mono ?_
            rintro e w7 ⟨p, pc, q, qc, rfl, hp, hq, hpq, P, Q, b7, z, hz, on⟩
            have e7 : Below w5.heap.size w5 w7 := eA.trans (b7.mono (Nat.le_of_eq rfl))
            refine hK.out _ _ (hS _ e7) (fun hHeld => ?_)
            clear hK K
            refine wpAnyH_take (i := 10) (v := .agg #[.int .i64 t.pa, .int .i64 t.pl, .int .i64 r.o, .slice (some ⟨p, 0, none⟩) r.n0 pc, .int .i64 r.nx, .int .i64 r.md, .int .i64 r.pf, .slice (some ⟨q, 0, none⟩) r.n1 qc]) rfl (by kernel_rfl) (by kernel_rfl) (by kernel_rfl) (fun _ _ _ h => h) (Or.inl ⟨by rfl, fun w' hSw => by go_simp⟩) hHeld ?_
            simp only [List.getElem_toArray, List.getElem_cons_succ, List.getElem_cons_zero, Act.put, List.setIfInBounds_toArray, List.set_cons_zero, List.set_cons_succ]
            refine wpAnyH_ready (rs := [12]) (by kernel_rfl) (by simp) (AllReadyH.cons rfl (fun K hK => ?_) AllReadyH.nil)
            have N := (Mut.new w6 #[.int .i64 0, .int .i64 0, .int .i64 0, .slice none 0 0, .int .i64 0, .int .i64 0, .int .i64 0, .slice none 0 0] 35).only on (by rcases hz with rfl | rfl <;> omega)
            have hpz : p ≠ w6.heap.size ∧ q ≠ w6.heap.size := by simp at hp hq; omega
            obtain ⟨hp6, hq6⟩ := hpz
            have hps : w5.heap.size ≤ p ∧ w5.heap.size ≤ q := by simp at hp hq; omega
            obtain ⟨hp5, hq5⟩ := hps
            rw [if_pos (by rfl)]
            refine wp_storeM (us := [.int .i64 t.pa, .int .i64 t.pl, .int .i64 r.o, .slice (some ⟨p, 0, none⟩) r.n0 pc, .int .i64 r.nx, .int .i64 r.md, .int .i64 r.pf, .slice (some ⟨q, 0, none⟩) r.n1 qc]) rfl rfl rfl N rfl (by intro v hv; simp only [List.mem_cons, List.not_mem_nil, or_false] at hv; rcases hv with rfl | rfl | rfl | rfl | rfl | rfl | rfl | rfl <;> rfl) sizeRt7 ?_
            intro w8 MO oO
            have e8 : Below w5.heap.size w5 w8 := e7.trans (oO.below_of h56 e7.size)
            refine hK.out _ _ (hS _ e8) (fun hHeld => ?_)
            clear hK K hHeld
            refine wpAnyH_done (by kernel_rfl) ?_ _
            simp only [List.getElem_toArray, List.getElem_cons_succ, List.getElem_cons_zero, Act.put]
            have M3 := M3.below e8
            have D8 := d5.trans (e8.mono d5.size)
            have P := P.only oO (by omega)
            have Q := Q.only oO (by omega)
            clear bA eA e7
            generalize w6.heap.size = bo at *
            have hpb : w.heap.size + 1 + 1 < p ∧ w.heap.size + 1 + 1 < q := ⟨by omega, by omega⟩
            obtain ⟨hp3, hq3⟩ := hpb
            clear hS M1 M2 MD oO e8 e6 O0 O1 b6 b7 on N hp hq hz OW DO TK DE GR
            have q0 := MO.2.1 0 _ rfl
            have q1 := MO.2.1 1 _ rfl
            have q2 := MO.2.1 2 _ rfl
            have q3 := MO.2.1 3 _ rfl
            have q4 := MO.2.1 4 _ rfl
            have q5 := MO.2.1 5 _ rfl
            have q6 := MO.2.1 6 _ rfl
            have q7 := MO.2.1 7 _ rfl
            go_wp2_with fail
            refine (GQ.out p pc q qc _ P Q).mono ?_
            rintro e w9 ⟨rfl, b9⟩
            have D9 := D8.trans (b9.mono D8.size)
            have P := P.below b9
            have Q := Q.below b9
            have M3 := M3.below b9
            have MO := MO.below b9
            clear b9 q0 q1 q2 q3 q4 q5 q6 q7
            go_wp2_with (refine wpList_storeM (us := [.int .i64 0, .int .i64 0, .int .i64 0, .slice none 0 0, .int .i64 0, .int .i64 0, .int .i64 0, .slice none 0 0]) rfl rfl rfl rfl M3 rfl (by intro v hv; simp only [List.mem_cons, List.not_mem_nil, or_false] at hv; rcases hv with rfl | rfl | rfl | rfl | rfl | rfl | rfl | rfl <;> rfl) sizeRt7 ?_; intro wF MF oF)
            have r_0 := MF.2.1 0 _ rfl
            have r_1 := MF.2.1 1 _ rfl
            have r_2 := MF.2.1 2 _ rfl
            have r_3 := MF.2.1 3 _ rfl
            have r_4 := MF.2.1 4 _ rfl
            have r_5 := MF.2.1 5 _ rfl
            have r_6 := MF.2.1 6 _ rfl
            have r_7 := MF.2.1 7 _ rfl
            have DF := D9.trans (oF.below_of (by omega) D9.size)
            refine bodyPost_ret (v := .tuple #[.agg #[.int .i64 0, .int .i64 0, .int .i64 0, .slice none 0 0, .int .i64 0, .int .i64 0, .int .i64 0, .slice none 0 0], .bool false]) (by simp [results, Try.results9, go_sem, r_0, r_1, r_2, r_3, r_4, r_5, r_6, r_7]) rfl (hF.out _ DF)
        · go_simp
          have bA : Below w5.heap.size w5 (w5.drew.alloc (.cells #[.int .i64 0, .int .i64 0, .int .i64 0, .slice none 0 0, .int .i64 0, .int .i64 0, .int .i64 0, .slice none 0 0] 35)) := (Below.refl _ _).drew.alloc (Nat.le_refl _) _
          refine hK.out _ _ (hS _ bA) (fun hHeld => ?_)
          clear hK K
          refine wpAnyH_ready (rs := [6]) (by kernel_rfl) (by simp) (AllReadyH.cons rfl (fun K hK => ?_) AllReadyH.nil)
          go_simp
          refine (OW.out _ (R0.below (d5.trans (bA.mono d5.size))) (R1.below (d5.trans (bA.mono d5.size)))).mono ?_
          rintro e w6 ⟨g, kc, h, lc, rfl, O0, O1, hgh, b6⟩
          have e6 : Below w5.heap.size w5 w6 := below_step bA b6
          refine hK.out _ _ (hS _ e6) (fun hHeld => ?_)
          clear hK K
          have hg5 := (own_parts (L := t.K) (by rw [Ro.K_len]; exact O0)).1
          have hg6 := (own_parts (L := t.K) (by rw [Ro.K_len]; exact O0)).2.1
          have hh6 := (own_parts (L := t.L) (by rw [Ro.L_len]; exact O1)).2.1
          have h56 : w5.heap.size + 1 ≤ w6.heap.size := by have := b6.size; simpa using this
          have hgw : w5.heap.size + 1 ≤ g := by simpa using hg5
          clear hg5
          have N := (Mut.new w5.drew #[.int .i64 0, .int .i64 0, .int .i64 0, .slice none 0 0, .int .i64 0, .int .i64 0, .int .i64 0, .slice none 0 0] 35).below b6
          refine wpAnyH_ready (rs := [9]) (by kernel_rfl) (by simp) (AllReadyH.cons rfl (fun K hK => ?_) AllReadyH.nil)
          go_simp
          refine (DO.out _ g kc h lc _ ⟨hsm, hup, ⟨b6.size, by omega, by first | exact hg6 | (simp; omega), by first | exact hh6 | (simp; omega)⟩, O0, O1⟩).mono ?_
          rintro e w7 ⟨p, pc, q, qc, rfl, hp, hq, hpq, P, Q, b7, z, hz, on⟩
          have e7 : Below w5.heap.size w5 w7 := e6.trans (b7.mono (by simp))
          refine hK.out _ _ (hS _ e7) (fun hHeld => ?_)
          clear hK K
          refine wpAnyH_take (i := 10) (v := .agg #[.int .i64 t.pa, .int .i64 t.pl, .int .i64 r.o, .slice (some ⟨p, 0, none⟩) r.n0 pc, .int .i64 r.nx, .int .i64 r.md, .int .i64 r.pf, .slice (some ⟨q, 0, none⟩) r.n1 qc]) rfl (by kernel_rfl) (by kernel_rfl) (by kernel_rfl) (fun _ _ _ h => h) (Or.inl ⟨by rfl, fun w' hSw => by go_simp⟩) hHeld ?_
          simp only [List.getElem_toArray, List.getElem_cons_succ, List.getElem_cons_zero, Act.put, List.setIfInBounds_toArray, List.set_cons_zero, List.set_cons_succ]
          refine wpAnyH_ready (rs := [12]) (by kernel_rfl) (by simp) (AllReadyH.cons rfl (fun K hK => ?_) AllReadyH.nil)
          have N : Mut w7 w5.heap.size _ := N.only on (by show w5.heap.size ≠ z; rcases hz with rfl | rfl <;> omega)
          have hpz : w5.heap.size < p ∧ w5.heap.size < q := by omega
          obtain ⟨hp5, hq5⟩ := hpz
          rw [if_pos (by rfl)]
          refine wp_storeM (us := [.int .i64 t.pa, .int .i64 t.pl, .int .i64 r.o, .slice (some ⟨p, 0, none⟩) r.n0 pc, .int .i64 r.nx, .int .i64 r.md, .int .i64 r.pf, .slice (some ⟨q, 0, none⟩) r.n1 qc]) rfl rfl rfl N rfl (by intro v hv; simp only [List.mem_cons, List.not_mem_nil, or_false] at hv; rcases hv with rfl | rfl | rfl | rfl | rfl | rfl | rfl | rfl <;> rfl) sizeRt7 ?_
          intro w8 MO oO
          have e8 : Below w5.heap.size w5 w8 := e7.trans (oO.below_of (Nat.le_refl _) e7.size)
          refine hK.out _ _ (hS _ e8) (fun hHeld => ?_)
          clear hK K hHeld
          refine wpAnyH_done (by kernel_rfl) ?_ _
          simp only [List.getElem_toArray, List.getElem_cons_succ, List.getElem_cons_zero, Act.put]
          have M3 := M3.below e8
          have D8 := d5.trans (e8.mono d5.size)
          have P := P.only oO (by omega)
          have Q := Q.only oO (by omega)
          clear bA e7
          generalize w5.heap.size = bo at *
          have hpb : w.heap.size + 1 + 1 < p ∧ w.heap.size + 1 + 1 < q := ⟨by omega, by omega⟩
          obtain ⟨hp3, hq3⟩ := hpb
          clear hS M1 M2 MD oO e8 e6 O0 O1 b6 b7 on N hp hq hz OW DO TK DE GR
          have q0 := MO.2.1 0 _ rfl
          have q1 := MO.2.1 1 _ rfl
          have q2 := MO.2.1 2 _ rfl
          have q3 := MO.2.1 3 _ rfl
          have q4 := MO.2.1 4 _ rfl
          have q5 := MO.2.1 5 _ rfl
          have q6 := MO.2.1 6 _ rfl
          have q7 := MO.2.1 7 _ rfl
          go_wp2_with fail
          refine (GQ.out p pc q qc _ P Q).mono ?_
          rintro e w9 ⟨rfl, b9⟩
          have D9 := D8.trans (b9.mono D8.size)
          have P := P.below b9
          have Q := Q.below b9
          have M3 := M3.below b9
          have MO := MO.below b9
          clear b9 q0 q1 q2 q3 q4 q5 q6 q7
          go_wp2_with (refine wpList_storeM (us := [.int .i64 0, .int .i64 0, .int .i64 0, .slice none 0 0, .int .i64 0, .int .i64 0, .int .i64 0, .slice none 0 0]) rfl rfl rfl rfl M3 rfl (by intro v hv; simp only [List.mem_cons, List.not_mem_nil, or_false] at hv; rcases hv with rfl | rfl | rfl | rfl | rfl | rfl | rfl | rfl <;> rfl) sizeRt7 ?_; intro wF MF oF)
          have r_0 := MF.2.1 0 _ rfl
          have r_1 := MF.2.1 1 _ rfl
          have r_2 := MF.2.1 2 _ rfl
          have r_3 := MF.2.1 3 _ rfl
          have r_4 := MF.2.1 4 _ rfl
          have r_5 := MF.2.1 5 _ rfl
          have r_6 := MF.2.1 6 _ rfl
          have r_7 := MF.2.1 7 _ rfl
          have DF := D9.trans (oF.below_of (by omega) D9.size)
          refine bodyPost_ret (v := .tuple #[.agg #[.int .i64 0, .int .i64 0, .int .i64 0, .slice none 0 0, .int .i64 0, .int .i64 0, .int .i64 0, .slice none 0 0], .bool false]) (by simp [results, Try.results9, go_sem, r_0, r_1, r_2, r_3, r_4, r_5, r_6, r_7]) rfl (hF.out _ DF)
      | true =>
        rw [hq] at GQ
        have hF := hide (hYes.out hq)
        clear hYes hNo hq
        go_enter Try.func9, Try.ntmps9
        go_wp2_with fail
        generalize (((w.alloc (.cells #[.int .i64 2, .int .i64 n] 38)).alloc (.cells #[.int .i64 t.pa, .int .i64 t.pl, .int .i64 t.o, .slice (some ⟨x0, f0, none⟩) t.n0 c0, .int .i64 t.nx, .int .i64 t.md, .int .i64 t.pf, .slice (some ⟨x1, f1, none⟩) t.n1 c1] 35)).alloc (.cells #[.int .i64 0, .int .i64 0, .int .i64 0, .slice none 0 0, .int .i64 0, .int .i64 0, .int .i64 0, .slice none 0 0] 35)) = w1 at *
        refine (DE.out _).mono ?_
        rintro e w2 ⟨rfl, b2⟩
        have d2 := d1.trans (b2.mono d1.size)
        have M1 := M1.below b2
        have M2 := M2.below b2
        have M3 := M3.below b2
        have lt3 := M3.1
        clear b2
        go_wp2_with (first | (refine wpList_storeM rfl rfl rfl rfl (Mut.new _ _ _) rfl (by intro v hv; simp only [List.mem_cons, List.not_mem_nil, or_false] at hv; rcases hv with rfl | rfl <;> rfl) sizeDeed ?_; intro w3 MD oD; have z1 := MD.2.1 0 _ rfl; have M1 := (M1.alloc _).only oD (by omega); have M2 := (M2.alloc _).only oD (by omega); have M3 := (M3.alloc _).only oD (by omega); have m0 := M1.2.1 0 _ rfl; have m1 := M1.2.1 1 _ rfl; have d3 : Below w.heap.size w w3 := (d2.alloc d2.size _).trans ((oD.below (by simp)).mono d2.size); have hbd : w.heap.size + 1 + 1 < w2.heap.size := lt3))
        refine (TK.out _).mono ?_
        rintro e w4 ⟨rfl, b4⟩
        have d4 := d3.trans (b4.mono d3.size)
        have M1 := M1.below b4
        have M2 := M2.below b4
        have M3 := M3.below b4
        have MD := MD.below b4
        clear b4 oD z1 m0 m1
        have u0 := M2.2.1 0 _ rfl
        have u1 := M2.2.1 1 _ rfl
        have u2 := M2.2.1 2 _ rfl
        have u3 := M2.2.1 3 _ rfl
        have u4 := M2.2.1 4 _ rfl
        have u5 := M2.2.1 5 _ rfl
        have u6 := M2.2.1 6 _ rfl
        have u7 := M2.2.1 7 _ rfl
        go_wp2_with fail
        refine (GR.out _ (R0.below d4) (R1.below d4)).mono ?_
        rintro e w5 ⟨rfl, b5⟩
        have d5 := d4.trans (b5.mono d4.size)
        have M1 := M1.below b5
        have M2 := M2.below b5
        have M3 := M3.below b5
        have MD := MD.below b5
        clear b5 u0 u1 u2 u3 u4 u5 u6 u7
        have hS : ∀ w' : World, Below w5.heap.size w5 w' → w'.cell? ⟨w.heap.size + 1, 0, none⟩ = some (.int .i64 t.pa) ∧ w'.cell? ⟨w.heap.size + 1, 1, none⟩ = some (.int .i64 t.pl) ∧ w'.cell? ⟨w.heap.size + 1, 2, none⟩ = some (.int .i64 t.o) ∧ w'.cell? ⟨w.heap.size + 1, 3, none⟩ = some (.slice (some ⟨x0, f0, none⟩) t.n0 c0) ∧ w'.cell? ⟨w.heap.size + 1, 4, none⟩ = some (.int .i64 t.nx) ∧ w'.cell? ⟨w.heap.size + 1, 5, none⟩ = some (.int .i64 t.md) ∧ w'.cell? ⟨w.heap.size + 1, 6, none⟩ = some (.int .i64 t.pf) ∧ w'.cell? ⟨w.heap.size + 1, 7, none⟩ = some (.slice (some ⟨x1, f1, none⟩) t.n1 c1) ∧ w'.cell? ⟨w2.heap.size, 1, none⟩ = some (.func (.func 54) #[] #[]) ∧ w'.cell? ⟨w.heap.size, 1, none⟩ = some (.int .i64 n) := fun w' b => ⟨(M2.below b).2.1 0 _ rfl, (M2.below b).2.1 1 _ rfl, (M2.below b).2.1 2 _ rfl, (M2.below b).2.1 3 _ rfl, (M2.below b).2.1 4 _ rfl, (M2.below b).2.1 5 _ rfl, (M2.below b).2.1 6 _ rfl, (M2.below b).2.1 7 _ rfl, (MD.below b).2.1 1 _ rfl, (M1.below b).2.1 1 _ rfl⟩
        have lt3 := M3.1
        go_wp2_with fail
        refine wp_region_held_drew (S := fun w' => w'.cell? ⟨w.heap.size + 1, 0, none⟩ = some (.int .i64 t.pa) ∧ w'.cell? ⟨w.heap.size + 1, 1, none⟩ = some (.int .i64 t.pl) ∧ w'.cell? ⟨w.heap.size + 1, 2, none⟩ = some (.int .i64 t.o) ∧ w'.cell? ⟨w.heap.size + 1, 3, none⟩ = some (.slice (some ⟨x0, f0, none⟩) t.n0 c0) ∧ w'.cell? ⟨w.heap.size + 1, 4, none⟩ = some (.int .i64 t.nx) ∧ w'.cell? ⟨w.heap.size + 1, 5, none⟩ = some (.int .i64 t.md) ∧ w'.cell? ⟨w.heap.size + 1, 6, none⟩ = some (.int .i64 t.pf) ∧ w'.cell? ⟨w.heap.size + 1, 7, none⟩ = some (.slice (some ⟨x1, f1, none⟩) t.n1 c1) ∧ w'.cell? ⟨w2.heap.size, 1, none⟩ = some (.func (.func 54) #[] #[]) ∧ w'.cell? ⟨w.heap.size, 1, none⟩ = some (.int .i64 n)) (by kernel_rfl) (hS _ (Below.refl _ _).drew) (fun hHeld => ?_)
        refine wpAnyH_take (i := 0) (v := .pointer (some ⟨w.heap.size + 1, 0, none⟩)) rfl (by kernel_rfl) (by kernel_rfl) (by kernel_rfl) (fun _ _ _ h => h) (Or.inl ⟨by rfl, fun w' hSw => by go_simp⟩) hHeld ?_
        simp only [List.getElem_toArray, List.getElem_cons_zero, Act.put, List.setIfInBounds_toArray, List.set_cons_zero, List.set_cons_succ]
        refine wpAnyH_take (i := 1) (v := .agg #[.int .i64 t.pa, .int .i64 t.pl]) rfl (by kernel_rfl) (by kernel_rfl) (by kernel_rfl) (fun _ _ _ h => h) (Or.inl ⟨by rfl, fun w' hSw => by go_simp⟩) hHeld ?_
        simp only [List.getElem_toArray, List.getElem_cons_succ, List.getElem_cons_zero, Act.put, List.setIfInBounds_toArray, List.set_cons_zero, List.set_cons_succ]
        refine wpAnyH_take (i := 2) (v := .pointer (some ⟨w2.heap.size, 1, none⟩)) rfl (by kernel_rfl) (by kernel_rfl) (by kernel_rfl) (fun _ _ _ h => h) (Or.inl ⟨by rfl, fun w' hSw => by go_simp⟩) hHeld ?_
        simp only [List.getElem_toArray, List.getElem_cons_succ, List.getElem_cons_zero, Act.put, List.setIfInBounds_toArray, List.set_cons_zero, List.set_cons_succ]
        refine wpAnyH_take (i := 3) (v := .func (.func 54) #[] #[]) rfl (by kernel_rfl) (by kernel_rfl) (by kernel_rfl) (fun _ _ _ h => h) (Or.inl ⟨by rfl, fun w' hSw => by go_simp⟩) hHeld ?_
        simp only [List.getElem_toArray, List.getElem_cons_succ, List.getElem_cons_zero, Act.put, List.setIfInBounds_toArray, List.set_cons_zero, List.set_cons_succ]
        refine wpAnyH_take (i := 4) (v := .pointer (some ⟨w.heap.size + 1, 2, none⟩)) rfl (by kernel_rfl) (by kernel_rfl) (by kernel_rfl) (fun _ _ _ h => h) (Or.inl ⟨by rfl, fun w' hSw => by go_simp⟩) hHeld ?_
        simp only [List.getElem_toArray, List.getElem_cons_succ, List.getElem_cons_zero, Act.put, List.setIfInBounds_toArray, List.set_cons_zero, List.set_cons_succ]
        refine wpAnyH_take (i := 5) (v := .agg #[.int .i64 t.o, .slice (some ⟨x0, f0, none⟩) t.n0 c0, .int .i64 t.nx, .int .i64 t.md, .int .i64 t.pf, .slice (some ⟨x1, f1, none⟩) t.n1 c1]) rfl (by kernel_rfl) (by kernel_rfl) (by kernel_rfl) (fun _ _ _ h => h) (Or.inl ⟨by rfl, fun w' hSw => by go_simp⟩) hHeld ?_
        simp only [List.getElem_toArray, List.getElem_cons_succ, List.getElem_cons_zero, Act.put, List.setIfInBounds_toArray, List.set_cons_zero, List.set_cons_succ]
        refine wpAnyH_take (i := 7) (v := .pointer (some ⟨w.heap.size, 1, none⟩)) rfl (by kernel_rfl) (by kernel_rfl) (by kernel_rfl) (fun _ _ _ h => h) (Or.inl ⟨by rfl, fun w' hSw => by go_simp⟩) hHeld ?_
        simp only [List.getElem_toArray, List.getElem_cons_succ, List.getElem_cons_zero, Act.put, List.setIfInBounds_toArray, List.set_cons_zero, List.set_cons_succ]
        refine wpAnyH_take (i := 8) (v := .int .i64 n) rfl (by kernel_rfl) (by kernel_rfl) (by kernel_rfl) (fun _ _ _ h => h) (Or.inl ⟨by rfl, fun w' hSw => by go_simp⟩) hHeld ?_
        simp only [List.getElem_toArray, List.getElem_cons_succ, List.getElem_cons_zero, Act.put, List.setIfInBounds_toArray, List.set_cons_zero, List.set_cons_succ]
        refine wpAnyH_ready (rs := [6, 11]) (by kernel_rfl) (by simp) (AllReadyH.cons rfl (fun K hK => ?_) (AllReadyH.cons rfl (fun K hK => ?_) AllReadyH.nil))
        · go_simp
          refine (OW.out _ (R0.below d5.drew) (R1.below d5.drew)).mono ?_
          rintro e w6 ⟨g, kc, h, lc, rfl, O0, O1, hgh, b6⟩
          have e6 : Below w5.heap.size w5 w6 := below_step (Below.refl _ _).drew b6
          refine hK.out _ _ (hS _ e6) (fun hHeld => ?_)
          clear hK K
          have hg5 := (own_parts (L := t.K) (by rw [Ro.K_len]; exact O0)).1
          have hg6 := (own_parts (L := t.K) (by rw [Ro.K_len]; exact O0)).2.1
          have hh6 := (own_parts (L := t.L) (by rw [Ro.L_len]; exact O1)).2.1
          have h56 : w5.heap.size ≤ w6.heap.size := e6.size
          have hgw : w5.heap.size ≤ g := hg5
          clear hg5
          refine wpAnyH_ready (rs := [9, 11]) (by kernel_rfl) (by simp) (AllReadyH.cons rfl (fun K hK => ?_) (AllReadyH.cons rfl (fun K hK => ?_) AllReadyH.nil))
          · go_simp
            refine (DO.out _ g kc h lc _ ⟨hsm, hup, ⟨h56, by omega, by first | exact hg6 | (simp; omega), by first | exact hh6 | (simp; omega)⟩, O0, O1⟩).mono ?_
            rintro e w7 ⟨p, pc, q, qc, rfl, hp, hq, hpq, P, Q, b7, z, hz, on⟩
            have e7 : Below w5.heap.size w5 w7 := e6.trans (b7.mono (Nat.le_of_eq rfl))
            refine hK.out _ _ (hS _ e7) (fun hHeld => ?_)
            clear hK K
            refine wpAnyH_take (i := 10) (v := .agg #[.int .i64 t.pa, .int .i64 t.pl, .int .i64 r.o, .slice (some ⟨p, 0, none⟩) r.n0 pc, .int .i64 r.nx, .int .i64 r.md, .int .i64 r.pf, .slice (some ⟨q, 0, none⟩) r.n1 qc]) rfl (by kernel_rfl) (by kernel_rfl) (by kernel_rfl) (fun _ _ _ h => h) (Or.inl ⟨by rfl, fun w' hSw => by go_simp⟩) hHeld ?_
            simp only [List.getElem_toArray, List.getElem_cons_succ, List.getElem_cons_zero, Act.put, List.setIfInBounds_toArray, List.set_cons_zero, List.set_cons_succ]
            refine wpAnyH_ready (rs := [11]) (by kernel_rfl) (by simp) (AllReadyH.cons rfl (fun K hK => ?_) AllReadyH.nil)
            go_simp
            have bA : Below w7.heap.size w7 (w7.alloc (.cells #[.int .i64 0, .int .i64 0, .int .i64 0, .slice none 0 0, .int .i64 0, .int .i64 0, .int .i64 0, .slice none 0 0] 35)) := below_box (Below.refl _ _)
            refine hK.out _ _ (hS _ (below_step e7 bA)) (fun hHeld => ?_)
            clear hK K
            refine wpAnyH_ready (rs := [12]) (by kernel_rfl) (by simp) (AllReadyH.cons rfl (fun K hK => ?_) AllReadyH.nil)
            have N := Mut.new w7 #[.int .i64 0, .int .i64 0, .int .i64 0, .slice none 0 0, .int .i64 0, .int .i64 0, .int .i64 0, .slice none 0 0] 35
            have h67 := on.2.2.2.1
            have hp7 := P.1
            have hq7 := Q.1
            have P := P.below bA
            have Q := Q.below bA
            rw [if_pos (by rfl)]
            refine wp_storeM (us := [.int .i64 t.pa, .int .i64 t.pl, .int .i64 r.o, .slice (some ⟨p, 0, none⟩) r.n0 pc, .int .i64 r.nx, .int .i64 r.md, .int .i64 r.pf, .slice (some ⟨q, 0, none⟩) r.n1 qc]) rfl rfl rfl N rfl (by intro v hv; simp only [List.mem_cons, List.not_mem_nil, or_false] at hv; rcases hv with rfl | rfl | rfl | rfl | rfl | rfl | rfl | rfl <;> rfl) sizeRt7 ?_
            intro w8 MO oO
            have e8 : Below w5.heap.size w5 w8 := (e7.trans (bA.mono e7.size)).trans (oO.below_of e7.size (by have := e7.size; simp; omega))
            refine hK.out _ _ (hS _ e8) (fun hHeld => ?_)
            clear hK K hHeld
            refine wpAnyH_done (by kernel_rfl) ?_ _
            simp only [List.getElem_toArray, List.getElem_cons_succ, List.getElem_cons_zero, Act.put]
            have M3 := M3.below e8
            have D8 := d5.trans (e8.mono d5.size)
            have P := P.only oO (by omega)
            have Q := Q.only oO (by omega)
            clear bA e7
            generalize w7.heap.size = bo at *
            have hpb : w.heap.size + 1 + 1 < p ∧ w.heap.size + 1 + 1 < q := ⟨by omega, by omega⟩
            obtain ⟨hp3, hq3⟩ := hpb
            clear hS M1 M2 MD oO e8 e6 O0 O1 b6 b7 on N hp hq hz OW DO TK DE GR
            have q0 := MO.2.1 0 _ rfl
            have q1 := MO.2.1 1 _ rfl
            have q2 := MO.2.1 2 _ rfl
            have q3 := MO.2.1 3 _ rfl
            have q4 := MO.2.1 4 _ rfl
            have q5 := MO.2.1 5 _ rfl
            have q6 := MO.2.1 6 _ rfl
            have q7 := MO.2.1 7 _ rfl
            go_wp2_with fail
            refine (GQ.out p pc q qc _ P Q).mono ?_
            rintro e w9 ⟨rfl, b9⟩
            have D9 := D8.trans (b9.mono D8.size)
            have P := P.below b9
            have Q := Q.below b9
            have M3 := M3.below b9
            have MO := MO.below b9
            clear b9 q0 q1 q2 q3 q4 q5 q6 q7
            have q0 := MO.2.1 0 _ rfl
            have q1 := MO.2.1 1 _ rfl
            have q2 := MO.2.1 2 _ rfl
            have q3 := MO.2.1 3 _ rfl
            have q4 := MO.2.1 4 _ rfl
            have q5 := MO.2.1 5 _ rfl
            have q6 := MO.2.1 6 _ rfl
            have q7 := MO.2.1 7 _ rfl
            go_wp2_with (refine wpList_storeM (us := [.int .i64 t.pa, .int .i64 t.pl, .int .i64 r.o, .slice (some ⟨p, 0, none⟩) r.n0 pc, .int .i64 r.nx, .int .i64 r.md, .int .i64 r.pf, .slice (some ⟨q, 0, none⟩) r.n1 qc]) rfl rfl rfl rfl M3 rfl (by intro v hv; simp only [List.mem_cons, List.not_mem_nil, or_false] at hv; rcases hv with rfl | rfl | rfl | rfl | rfl | rfl | rfl | rfl <;> rfl) sizeRt7 ?_; intro wF MF oF)
            have r_0 := MF.2.1 0 _ rfl
            have r_1 := MF.2.1 1 _ rfl
            have r_2 := MF.2.1 2 _ rfl
            have r_3 := MF.2.1 3 _ rfl
            have r_4 := MF.2.1 4 _ rfl
            have r_5 := MF.2.1 5 _ rfl
            have r_6 := MF.2.1 6 _ rfl
            have r_7 := MF.2.1 7 _ rfl
            have DF := D9.trans (oF.below_of (by omega) D9.size)
            refine bodyPost_ret (v := .tuple #[.agg #[.int .i64 t.pa, .int .i64 t.pl, .int .i64 r.o, .slice (some ⟨p, 0, none⟩) r.n0 pc, .int .i64 r.nx, .int .i64 r.md, .int .i64 r.pf, .slice (some ⟨q, 0, none⟩) r.n1 qc], .bool true]) (by simp [results, Try.results9, go_sem, r_0, r_1, r_2, r_3, r_4, r_5, r_6, r_7]) rfl (hF.out _ p pc q qc DF (by omega) (by omega) hpq (P.only oF (by omega)) (Q.only oF (by omega)))
          · go_simp
            have bA : Below w6.heap.size w6 (w6.alloc (.cells #[.int .i64 0, .int .i64 0, .int .i64 0, .slice none 0 0, .int .i64 0, .int .i64 0, .int .i64 0, .slice none 0 0] 35)) := below_box (Below.refl _ _)
            have eA := below_step e6 bA
            refine hK.out _ _ (hS _ eA) (fun hHeld => ?_)
            clear hK K
            refine wpAnyH_ready (rs := [9]) (by kernel_rfl) (by simp) (AllReadyH.cons rfl (fun K hK => ?_) AllReadyH.nil)
            go_simp
            refine (DO.out _ g kc h lc _ ⟨hsm, hup, ⟨Nat.le_trans h56 bA.size, by omega, by first | exact hg6 | (simp; omega), by first | exact hh6 | (simp; omega)⟩, ownN_below O0 bA, ownN_below O1 bA⟩).mono ?_
            rintro e w7 ⟨p, pc, q, qc, rfl, hp, hq, hpq, P, Q, b7, z, hz, on⟩
            have e7 : Below w5.heap.size w5 w7 := eA.trans (b7.mono (Nat.le_of_eq rfl))
            refine hK.out _ _ (hS _ e7) (fun hHeld => ?_)
            clear hK K
            refine wpAnyH_take (i := 10) (v := .agg #[.int .i64 t.pa, .int .i64 t.pl, .int .i64 r.o, .slice (some ⟨p, 0, none⟩) r.n0 pc, .int .i64 r.nx, .int .i64 r.md, .int .i64 r.pf, .slice (some ⟨q, 0, none⟩) r.n1 qc]) rfl (by kernel_rfl) (by kernel_rfl) (by kernel_rfl) (fun _ _ _ h => h) (Or.inl ⟨by rfl, fun w' hSw => by go_simp⟩) hHeld ?_
            simp only [List.getElem_toArray, List.getElem_cons_succ, List.getElem_cons_zero, Act.put, List.setIfInBounds_toArray, List.set_cons_zero, List.set_cons_succ]
            refine wpAnyH_ready (rs := [12]) (by kernel_rfl) (by simp) (AllReadyH.cons rfl (fun K hK => ?_) AllReadyH.nil)
            have N := (Mut.new w6 #[.int .i64 0, .int .i64 0, .int .i64 0, .slice none 0 0, .int .i64 0, .int .i64 0, .int .i64 0, .slice none 0 0] 35).only on (by rcases hz with rfl | rfl <;> omega)
            have hpz : p ≠ w6.heap.size ∧ q ≠ w6.heap.size := by simp at hp hq; omega
            obtain ⟨hp6, hq6⟩ := hpz
            have hps : w5.heap.size ≤ p ∧ w5.heap.size ≤ q := by simp at hp hq; omega
            obtain ⟨hp5, hq5⟩ := hps
            rw [if_pos (by rfl)]
            refine wp_storeM (us := [.int .i64 t.pa, .int .i64 t.pl, .int .i64 r.o, .slice (some ⟨p, 0, none⟩) r.n0 pc, .int .i64 r.nx, .int .i64 r.md, .int .i64 r.pf, .slice (some ⟨q, 0, none⟩) r.n1 qc]) rfl rfl rfl N rfl (by intro v hv; simp only [List.mem_cons, List.not_mem_nil, or_false] at hv; rcases hv with rfl | rfl | rfl | rfl | rfl | rfl | rfl | rfl <;> rfl) sizeRt7 ?_
            intro w8 MO oO
            have e8 : Below w5.heap.size w5 w8 := e7.trans (oO.below_of h56 e7.size)
            refine hK.out _ _ (hS _ e8) (fun hHeld => ?_)
            clear hK K hHeld
            refine wpAnyH_done (by kernel_rfl) ?_ _
            simp only [List.getElem_toArray, List.getElem_cons_succ, List.getElem_cons_zero, Act.put]
            have M3 := M3.below e8
            have D8 := d5.trans (e8.mono d5.size)
            have P := P.only oO (by omega)
            have Q := Q.only oO (by omega)
            clear bA eA e7
            generalize w6.heap.size = bo at *
            have hpb : w.heap.size + 1 + 1 < p ∧ w.heap.size + 1 + 1 < q := ⟨by omega, by omega⟩
            obtain ⟨hp3, hq3⟩ := hpb
            clear hS M1 M2 MD oO e8 e6 O0 O1 b6 b7 on N hp hq hz OW DO TK DE GR
            have q0 := MO.2.1 0 _ rfl
            have q1 := MO.2.1 1 _ rfl
            have q2 := MO.2.1 2 _ rfl
            have q3 := MO.2.1 3 _ rfl
            have q4 := MO.2.1 4 _ rfl
            have q5 := MO.2.1 5 _ rfl
            have q6 := MO.2.1 6 _ rfl
            have q7 := MO.2.1 7 _ rfl
            go_wp2_with fail
            refine (GQ.out p pc q qc _ P Q).mono ?_
            rintro e w9 ⟨rfl, b9⟩
            have D9 := D8.trans (b9.mono D8.size)
            have P := P.below b9
            have Q := Q.below b9
            have M3 := M3.below b9
            have MO := MO.below b9
            clear b9 q0 q1 q2 q3 q4 q5 q6 q7
            have q0 := MO.2.1 0 _ rfl
            have q1 := MO.2.1 1 _ rfl
            have q2 := MO.2.1 2 _ rfl
            have q3 := MO.2.1 3 _ rfl
            have q4 := MO.2.1 4 _ rfl
            have q5 := MO.2.1 5 _ rfl
            have q6 := MO.2.1 6 _ rfl
            have q7 := MO.2.1 7 _ rfl
            go_wp2_with (refine wpList_storeM (us := [.int .i64 t.pa, .int .i64 t.pl, .int .i64 r.o, .slice (some ⟨p, 0, none⟩) r.n0 pc, .int .i64 r.nx, .int .i64 r.md, .int .i64 r.pf, .slice (some ⟨q, 0, none⟩) r.n1 qc]) rfl rfl rfl rfl M3 rfl (by intro v hv; simp only [List.mem_cons, List.not_mem_nil, or_false] at hv; rcases hv with rfl | rfl | rfl | rfl | rfl | rfl | rfl | rfl <;> rfl) sizeRt7 ?_; intro wF MF oF)
            have r_0 := MF.2.1 0 _ rfl
            have r_1 := MF.2.1 1 _ rfl
            have r_2 := MF.2.1 2 _ rfl
            have r_3 := MF.2.1 3 _ rfl
            have r_4 := MF.2.1 4 _ rfl
            have r_5 := MF.2.1 5 _ rfl
            have r_6 := MF.2.1 6 _ rfl
            have r_7 := MF.2.1 7 _ rfl
            have DF := D9.trans (oF.below_of (by omega) D9.size)
            refine bodyPost_ret (v := .tuple #[.agg #[.int .i64 t.pa, .int .i64 t.pl, .int .i64 r.o, .slice (some ⟨p, 0, none⟩) r.n0 pc, .int .i64 r.nx, .int .i64 r.md, .int .i64 r.pf, .slice (some ⟨q, 0, none⟩) r.n1 qc], .bool true]) (by simp [results, Try.results9, go_sem, r_0, r_1, r_2, r_3, r_4, r_5, r_6, r_7]) rfl (hF.out _ p pc q qc DF (by omega) (by omega) hpq (P.only oF (by omega)) (Q.only oF (by omega)))
        · go_simp
          have bA : Below w5.heap.size w5 (w5.drew.alloc (.cells #[.int .i64 0, .int .i64 0, .int .i64 0, .slice none 0 0, .int .i64 0, .int .i64 0, .int .i64 0, .slice none 0 0] 35)) := (Below.refl _ _).drew.alloc (Nat.le_refl _) _
          refine hK.out _ _ (hS _ bA) (fun hHeld => ?_)
          clear hK K
          refine wpAnyH_ready (rs := [6]) (by kernel_rfl) (by simp) (AllReadyH.cons rfl (fun K hK => ?_) AllReadyH.nil)
          go_simp
          refine (OW.out _ (R0.below (d5.trans (bA.mono d5.size))) (R1.below (d5.trans (bA.mono d5.size)))).mono ?_
          rintro e w6 ⟨g, kc, h, lc, rfl, O0, O1, hgh, b6⟩
          have e6 : Below w5.heap.size w5 w6 := below_step bA b6
          refine hK.out _ _ (hS _ e6) (fun hHeld => ?_)
          clear hK K
          have hg5 := (own_parts (L := t.K) (by rw [Ro.K_len]; exact O0)).1
          have hg6 := (own_parts (L := t.K) (by rw [Ro.K_len]; exact O0)).2.1
          have hh6 := (own_parts (L := t.L) (by rw [Ro.L_len]; exact O1)).2.1
          have h56 : w5.heap.size + 1 ≤ w6.heap.size := by have := b6.size; simpa using this
          have hgw : w5.heap.size + 1 ≤ g := by simpa using hg5
          clear hg5
          have N := (Mut.new w5.drew #[.int .i64 0, .int .i64 0, .int .i64 0, .slice none 0 0, .int .i64 0, .int .i64 0, .int .i64 0, .slice none 0 0] 35).below b6
          refine wpAnyH_ready (rs := [9]) (by kernel_rfl) (by simp) (AllReadyH.cons rfl (fun K hK => ?_) AllReadyH.nil)
          go_simp
          refine (DO.out _ g kc h lc _ ⟨hsm, hup, ⟨b6.size, by omega, by first | exact hg6 | (simp; omega), by first | exact hh6 | (simp; omega)⟩, O0, O1⟩).mono ?_
          rintro e w7 ⟨p, pc, q, qc, rfl, hp, hq, hpq, P, Q, b7, z, hz, on⟩
          have e7 : Below w5.heap.size w5 w7 := e6.trans (b7.mono (by simp))
          refine hK.out _ _ (hS _ e7) (fun hHeld => ?_)
          clear hK K
          refine wpAnyH_take (i := 10) (v := .agg #[.int .i64 t.pa, .int .i64 t.pl, .int .i64 r.o, .slice (some ⟨p, 0, none⟩) r.n0 pc, .int .i64 r.nx, .int .i64 r.md, .int .i64 r.pf, .slice (some ⟨q, 0, none⟩) r.n1 qc]) rfl (by kernel_rfl) (by kernel_rfl) (by kernel_rfl) (fun _ _ _ h => h) (Or.inl ⟨by rfl, fun w' hSw => by go_simp⟩) hHeld ?_
          simp only [List.getElem_toArray, List.getElem_cons_succ, List.getElem_cons_zero, Act.put, List.setIfInBounds_toArray, List.set_cons_zero, List.set_cons_succ]
          refine wpAnyH_ready (rs := [12]) (by kernel_rfl) (by simp) (AllReadyH.cons rfl (fun K hK => ?_) AllReadyH.nil)
          have N : Mut w7 w5.heap.size _ := N.only on (by show w5.heap.size ≠ z; rcases hz with rfl | rfl <;> omega)
          have hpz : w5.heap.size < p ∧ w5.heap.size < q := by omega
          obtain ⟨hp5, hq5⟩ := hpz
          rw [if_pos (by rfl)]
          refine wp_storeM (us := [.int .i64 t.pa, .int .i64 t.pl, .int .i64 r.o, .slice (some ⟨p, 0, none⟩) r.n0 pc, .int .i64 r.nx, .int .i64 r.md, .int .i64 r.pf, .slice (some ⟨q, 0, none⟩) r.n1 qc]) rfl rfl rfl N rfl (by intro v hv; simp only [List.mem_cons, List.not_mem_nil, or_false] at hv; rcases hv with rfl | rfl | rfl | rfl | rfl | rfl | rfl | rfl <;> rfl) sizeRt7 ?_
          intro w8 MO oO
          have e8 : Below w5.heap.size w5 w8 := e7.trans (oO.below_of (Nat.le_refl _) e7.size)
          refine hK.out _ _ (hS _ e8) (fun hHeld => ?_)
          clear hK K hHeld
          refine wpAnyH_done (by kernel_rfl) ?_ _
          simp only [List.getElem_toArray, List.getElem_cons_succ, List.getElem_cons_zero, Act.put]
          have M3 := M3.below e8
          have D8 := d5.trans (e8.mono d5.size)
          have P := P.only oO (by omega)
          have Q := Q.only oO (by omega)
          clear bA e7
          generalize w5.heap.size = bo at *
          have hpb : w.heap.size + 1 + 1 < p ∧ w.heap.size + 1 + 1 < q := ⟨by omega, by omega⟩
          obtain ⟨hp3, hq3⟩ := hpb
          clear hS M1 M2 MD oO e8 e6 O0 O1 b6 b7 on N hp hq hz OW DO TK DE GR
          have q0 := MO.2.1 0 _ rfl
          have q1 := MO.2.1 1 _ rfl
          have q2 := MO.2.1 2 _ rfl
          have q3 := MO.2.1 3 _ rfl
          have q4 := MO.2.1 4 _ rfl
          have q5 := MO.2.1 5 _ rfl
          have q6 := MO.2.1 6 _ rfl
          have q7 := MO.2.1 7 _ rfl
          go_wp2_with fail
          refine (GQ.out p pc q qc _ P Q).mono ?_
          rintro e w9 ⟨rfl, b9⟩
          have D9 := D8.trans (b9.mono D8.size)
          have P := P.below b9
          have Q := Q.below b9
          have M3 := M3.below b9
          have MO := MO.below b9
          clear b9 q0 q1 q2 q3 q4 q5 q6 q7
          have q0 := MO.2.1 0 _ rfl
          have q1 := MO.2.1 1 _ rfl
          have q2 := MO.2.1 2 _ rfl
          have q3 := MO.2.1 3 _ rfl
          have q4 := MO.2.1 4 _ rfl
          have q5 := MO.2.1 5 _ rfl
          have q6 := MO.2.1 6 _ rfl
          have q7 := MO.2.1 7 _ rfl
          go_wp2_with (refine wpList_storeM (us := [.int .i64 t.pa, .int .i64 t.pl, .int .i64 r.o, .slice (some ⟨p, 0, none⟩) r.n0 pc, .int .i64 r.nx, .int .i64 r.md, .int .i64 r.pf, .slice (some ⟨q, 0, none⟩) r.n1 qc]) rfl rfl rfl rfl M3 rfl (by intro v hv; simp only [List.mem_cons, List.not_mem_nil, or_false] at hv; rcases hv with rfl | rfl | rfl | rfl | rfl | rfl | rfl | rfl <;> rfl) sizeRt7 ?_; intro wF MF oF)
          have r_0 := MF.2.1 0 _ rfl
          have r_1 := MF.2.1 1 _ rfl
          have r_2 := MF.2.1 2 _ rfl
          have r_3 := MF.2.1 3 _ rfl
          have r_4 := MF.2.1 4 _ rfl
          have r_5 := MF.2.1 5 _ rfl
          have r_6 := MF.2.1 6 _ rfl
          have r_7 := MF.2.1 7 _ rfl
          have DF := D9.trans (oF.below_of (by omega) D9.size)
          refine bodyPost_ret (v := .tuple #[.agg #[.int .i64 t.pa, .int .i64 t.pl, .int .i64 r.o, .slice (some ⟨p, 0, none⟩) r.n0 pc, .int .i64 r.nx, .int .i64 r.md, .int .i64 r.pf, .slice (some ⟨q, 0, none⟩) r.n1 qc], .bool true]) (by simp [results, Try.results9, go_sem, r_0, r_1, r_2, r_3, r_4, r_5, r_6, r_7]) rfl (hF.out _ p pc q qc DF (by omega) (by omega) hpq (P.only oF (by omega)) (Q.only oF (by omega)))
end Go.Proofs.Ytflakkbodbnndaa
