/- The law on pairs, walked out of what the functions answer. -/
import Derived.Test.YtjfalfjadleegaaS12t
import Derived.Test.YtjfalfjadleegaaI12u
import Derived.Test.YtjfalfjadleegaaDraw12p
import Derived.Test.YtjfalfjadleegaaPlain12r
namespace Go.Proofs.Ytjfalfjadleegaa
open Go.RowKit

theorem row4 (w : World) (t : TypeId) : RowInt (some ⟨w.heap.size, 0, none⟩) 4 (fun i => if i = 0 then 1 else if i = 1 then 2 else if i = 2 then 1 else 2) (w.alloc (.cells #[.int .i64 1, .int .i64 2, .int .i64 1, .int .i64 2] t)) := by
  intro i hi
  obtain rfl | rfl | rfl | rfl : i = 0 ∨ i = 1 ∨ i = 2 ∨ i = 3 := by omega
  all_goals exact ⟨w.heap.size, 0, rfl, by simp, by simp [go_sem]⟩
set_option maxRecDepth 100000 in
theorem neqSes2_run (a b c d e : Int) (w : World) :
    (binOp .neq 27 (.agg #[.int .i64 a, .int .i64 b, .int .i64 c, .int .i64 d, .int .i64 e]) (.agg #[.int .i64 a, .int .i64 b, .int .i64 c, .int .i64 d, .int .i64 e])).run Try.prog w = .ok (.bool false) w := by
  rw [run_neq_struct, run_equalIn_struct (P := Try.prog) w 9999 27 _ _ (by kernel_rfl) (by kernel_rfl)]
  simp only [Program.fieldsOf, Try.underlying27]
  have e3 : ∀ (x y : Int) (w : World), (Op.equalIn 9999 3 (.int .i64 x) (.int .i64 y)).run Try.prog w = .ok (x == y) w := fun x y w => run_equalIn_int w 9998 3 .i64 .i64 x y Try.underlying3
  generalize 9999 = d at e3 ⊢
  simp [Op.eqFields, go_sem, part, e3]
theorem guardSes2 : Try.prog.eqGuardType Try.prog.depth 27 = false := by kernel_rfl
theorem eqSes2_guard (op : BinOp) (x y : Operand) (xs ys : Array Value) (w : World) : (eqGuard op 27 x y (.agg xs) (.agg ys)).run Try.prog w = .ok () w := run_eqGuard_agg w op 27 x y xs ys guardSes2
set_option maxRecDepth 100000 in
set_option maxHeartbeats 25600000 in
theorem w_fnPair (v1 : Value) (len1 : Nat) (w : World) (hby1 : BytesAt w.heap.size w v1 len1) :
    Calls Try.prog 3 #[v1] w fun e w' => e = .returned (.bool true) ∧ Below w.heap.size w w' := by
  have hA := bytes_to12 hby1 (Below.refl _ _) (Nat.le_refl _)
  obtain ⟨p1, cap1, rfl, hl1, _⟩ := hby1
  unfold maxLen at hl1
  have sV := hide (fun w h => d_playPair (.slice p1 len1 cap1) len1 w h)
  have hguard := eqSes2_guard
  have NE := neqSes2_run
  have d0 : Below w.heap.size w w := Below.refl _ _
  go_enter Try.func3, Try.ntmps3
  go_wp2_with fail
  · go_ret
    exact ⟨rfl, d0⟩
  clear hl1
  refine (sV.out _ hA).mono ?_
  rintro e w1 ⟨A, B, a, ln, cap, f, rfl, hln, hR, d1⟩
  have IG := hide (fun w R => i_playPair A B a ln cap f w (by omega) R)
  have SG := hide (fun w R => s_playPair A B a ln cap f w (by omega) R)
  clear sV hA d0
  by_cases hOk : PqOk A B ln f
  · rw [(pq_t hOk).1, (pq_t hOk).2.1, (pq_t hOk).2.2] at IG SG
    obtain ⟨gx, gy, _, _, _, _⟩ := ppRun_ok hOk.1 hOk.2.1 f ln
    obtain ⟨mx, my⟩ := ppRun_hm hOk.1 hOk.2.1 f ln
    have I4 := hide (fun ra rc w R => i_playPair A B ra 4 rc (fun i => if i = 0 then 1 else if i = 1 then 2 else if i = 2 then 1 else 2) w (by omega) R)
    have hO4 : PqOk A B 4 (fun i => if i = 0 then 1 else if i = 1 then 2 else if i = 2 then 1 else 2) := ⟨hOk.1, hOk.2.1, by omega, fun i hi => by
      obtain rfl | rfl | rfl | rfl : i = 0 ∨ i = 1 ∨ i = 2 ∨ i = 3 := by omega
      all_goals simp⟩
    rw [(pq_t hO4).1, (pq_t hO4).2.1, (pq_t hO4).2.2] at I4
    have h4 := ppRun_four hOk.1 hOk.2.1 (f := fun i => if i = 0 then 1 else if i = 1 then 2 else if i = 2 then 1 else 2) rfl rfl rfl rfl
    generalize (ppRun A B (fun i => if i = 0 then 1 else if i = 1 then 2 else if i = 2 then 1 else 2) 4).x = PX at *
    generalize (ppRun A B (fun i => if i = 0 then 1 else if i = 1 then 2 else if i = 2 then 1 else 2) 4).y = PY at *
    generalize (ppRun A B f ln).x = XX at *
    generalize (ppRun A B f ln).y = YY at *
    obtain ⟨x0, x1, x2, x3, x4⟩ := XX
    obtain ⟨y0, y1, y2, y3, y4⟩ := YY
    obtain ⟨p0, pa1, pa2, pa3, p4⟩ := PX
    obtain ⟨s0, sb1, sb2, sb3, s4⟩ := PY
    obtain ⟨e1, e2, e3, e4⟩ := h4
    dsimp only at e1 e2 e3 e4
    subst e1 e2 e3 e4
    have sGx := hide (fun w => i_goodS x0 x1 x2 x3 x4 w)
    have sGy := hide (fun w => i_goodS y0 y1 y2 y3 y4 w)
    rw [gsB_t gx] at sGx
    rw [gsB_t gy] at sGy
    have mx' : x0 = 4 → x1 = min A B := fun h => mx.2 (by show 3 ≤ x0; omega)
    have my' : y0 = 4 → y1 = min B A := fun h => my.2 (by show 3 ≤ y0; omega)
    clear hOk hO4 gx gy mx my
    by_cases hlt : B < A
    · skip
      by_cases u : x0 = 4
      · skip
        have u' : (x0 == 4) = true := by simp [u]
        have ux : (x1 != B) = false := by have := mx' u; simp; omega
        by_cases v : y0 = 4
        · skip
          have v' : (y0 == 4) = true := by simp [v]
          have vy : (y1 != B) = false := by have := my' v; simp; omega
          clear u v mx' my'
          go_wp2_with fail
          refine (IG.out _ hR).mono ?_
          rintro e w2 ⟨rfl, b2⟩
          have M6 := (Mut.new w2 #[.int .i64 x0, .int .i64 x1, .int .i64 x2, .int .i64 x3, .int .i64 x4] 27).alloc (.cells #[.int .i64 y0, .int .i64 y1, .int .i64 y2, .int .i64 y3, .int .i64 y4] 27)
          have M7 : Mut ((w2.alloc (.cells #[.int .i64 x0, .int .i64 x1, .int .i64 x2, .int .i64 x3, .int .i64 x4] 27)).alloc (.cells #[.int .i64 y0, .int .i64 y1, .int .i64 y2, .int .i64 y3, .int .i64 y4] 27)) (w2.heap.size + 1) [.int .i64 y0, .int .i64 y1, .int .i64 y2, .int .i64 y3, .int .i64 y4] := by
            simpa using Mut.new (w2.alloc (.cells #[.int .i64 x0, .int .i64 x1, .int .i64 x2, .int .i64 x3, .int .i64 x4] 27)) #[.int .i64 y0, .int .i64 y1, .int .i64 y2, .int .i64 y3, .int .i64 y4] 27
          have bW : Below w2.heap.size w2 ((w2.alloc (.cells #[.int .i64 x0, .int .i64 x1, .int .i64 x2, .int .i64 x3, .int .i64 x4] 27)).alloc (.cells #[.int .i64 y0, .int .i64 y1, .int .i64 y2, .int .i64 y3, .int .i64 y4] 27)) := below_box2 (Below.refl _ _)
          replace hR := (hR.below b2).below bW
          replace d1 := (d1.trans (b2.mono d1.size)).trans (bW.mono (Nat.le_trans d1.size b2.size))
          clear b2 bW
          go_upto_region 5 with fail
          generalize (w2.alloc (.cells #[.int .i64 x0, .int .i64 x1, .int .i64 x2, .int .i64 x3, .int .i64 x4] 27)).alloc (.cells #[.int .i64 y0, .int .i64 y1, .int .i64 y2, .int .i64 y3, .int .i64 y4] 27) = wA at *
          generalize w2.heap.size = q6 at *
          go_wp2_with fail
          refine (SG.out _ hR).mono ?_
          rintro e w3 ⟨rfl, b3⟩
          have M9 := (Mut.new w3 #[.int .i64 x0, .int .i64 x1, .int .i64 x2, .int .i64 x3, .int .i64 x4] 27).alloc (.cells #[.int .i64 y0, .int .i64 y1, .int .i64 y2, .int .i64 y3, .int .i64 y4] 27)
          have M10 : Mut ((w3.alloc (.cells #[.int .i64 x0, .int .i64 x1, .int .i64 x2, .int .i64 x3, .int .i64 x4] 27)).alloc (.cells #[.int .i64 y0, .int .i64 y1, .int .i64 y2, .int .i64 y3, .int .i64 y4] 27)) (w3.heap.size + 1) [.int .i64 y0, .int .i64 y1, .int .i64 y2, .int .i64 y3, .int .i64 y4] := by
            simpa using Mut.new (w3.alloc (.cells #[.int .i64 x0, .int .i64 x1, .int .i64 x2, .int .i64 x3, .int .i64 x4] 27)) #[.int .i64 y0, .int .i64 y1, .int .i64 y2, .int .i64 y3, .int .i64 y4] 27
          have bV : Below w3.heap.size w3 ((w3.alloc (.cells #[.int .i64 x0, .int .i64 x1, .int .i64 x2, .int .i64 x3, .int .i64 x4] 27)).alloc (.cells #[.int .i64 y0, .int .i64 y1, .int .i64 y2, .int .i64 y3, .int .i64 y4] 27)) := below_box2 (Below.refl _ _)
          replace M6 := (M6.below b3).below bV
          replace M7 := (M7.below b3).below bV
          replace d1 := (d1.trans (b3.mono d1.size)).trans (bV.mono (Nat.le_trans d1.size b3.size))
          clear b3 bV hR IG SG
          go_upto_region 6 with fail
          generalize (w3.alloc (.cells #[.int .i64 x0, .int .i64 x1, .int .i64 x2, .int .i64 x3, .int .i64 x4] 27)).alloc (.cells #[.int .i64 y0, .int .i64 y1, .int .i64 y2, .int .i64 y3, .int .i64 y4] 27) = wB at *
          generalize w3.heap.size = q9 at *
          have ca0 := M6.2.1 0 _ rfl
          have ca1 := M6.2.1 1 _ rfl
          have ca2 := M6.2.1 2 _ rfl
          have ca3 := M6.2.1 3 _ rfl
          have ca4 := M6.2.1 4 _ rfl
          have cb0 := M7.2.1 0 _ rfl
          have cb1 := M7.2.1 1 _ rfl
          have cb2 := M7.2.1 2 _ rfl
          have cb3 := M7.2.1 3 _ rfl
          have cb4 := M7.2.1 4 _ rfl
          have cc0 := M9.2.1 0 _ rfl
          have cc1 := M9.2.1 1 _ rfl
          have cc2 := M9.2.1 2 _ rfl
          have cc3 := M9.2.1 3 _ rfl
          have cc4 := M9.2.1 4 _ rfl
          have cd0 := M10.2.1 0 _ rfl
          have cd1 := M10.2.1 1 _ rfl
          have cd2 := M10.2.1 2 _ rfl
          have cd3 := M10.2.1 3 _ rfl
          have cd4 := M10.2.1 4 _ rfl
          go_wp2_with fail
          refine (sGx.out _).mono ?_
          rintro e w4 ⟨rfl, b4⟩
          replace M6 := M6.below b4
          replace M7 := M7.below b4
          replace d1 := d1.trans (b4.mono d1.size)
          clear b4 ca0 ca1 ca2 ca3 ca4 cb0 cb1 cb2 cb3 cb4 cc0 cc1 cc2 cc3 cc4 cd0 cd1 cd2 cd3 cd4
          have cb0 := M7.2.1 0 _ rfl
          have cb1 := M7.2.1 1 _ rfl
          have cb2 := M7.2.1 2 _ rfl
          have cb3 := M7.2.1 3 _ rfl
          have cb4 := M7.2.1 4 _ rfl
          go_wp2_with fail
          refine (sGy.out _).mono ?_
          rintro e w5 ⟨rfl, b5⟩
          replace M6 := M6.below b5
          replace M7 := M7.below b5
          replace d1 := d1.trans (b5.mono d1.size)
          clear b5 cb0 cb1 cb2 cb3 cb4
          have ca0 := M6.2.1 0 _ rfl
          have ca1 := M6.2.1 1 _ rfl
          have ca2 := M6.2.1 2 _ rfl
          have ca3 := M6.2.1 3 _ rfl
          have ca4 := M6.2.1 4 _ rfl
          have cb0 := M7.2.1 0 _ rfl
          have cb1 := M7.2.1 1 _ rfl
          have cb2 := M7.2.1 2 _ rfl
          have cb3 := M7.2.1 3 _ rfl
          have cb4 := M7.2.1 4 _ rfl
          have R4 := row4 w5 3
          have bL : Below w5.heap.size w5 (w5.alloc (.cells #[.int .i64 1, .int .i64 2, .int .i64 1, .int .i64 2] 3)) := below_box (Below.refl _ _)
          have d6 := d1.trans (bL.mono d1.size)
          go_wp2_with fail
          refine (I4.out _ _ _ R4).mono ?_
          rintro e w7 ⟨rfl, b7⟩
          have d7 := d6.trans (b7.mono d6.size)
          have NC := (Mut.new w7 #[.int .i64 4, .int .i64 pa1, .int .i64 pa2, .int .i64 pa3, .int .i64 1] 27).alloc (.cells #[.int .i64 4, .int .i64 sb1, .int .i64 sb2, .int .i64 sb3, .int .i64 1] 27)
          have ND : Mut ((w7.alloc (.cells #[.int .i64 4, .int .i64 pa1, .int .i64 pa2, .int .i64 pa3, .int .i64 1] 27)).alloc (.cells #[.int .i64 4, .int .i64 sb1, .int .i64 sb2, .int .i64 sb3, .int .i64 1] 27)) (w7.heap.size + 1) [.int .i64 4, .int .i64 sb1, .int .i64 sb2, .int .i64 sb3, .int .i64 1] := by
            simpa using Mut.new (w7.alloc (.cells #[.int .i64 4, .int .i64 pa1, .int .i64 pa2, .int .i64 pa3, .int .i64 1] 27)) #[.int .i64 4, .int .i64 sb1, .int .i64 sb2, .int .i64 sb3, .int .i64 1] 27
          have bZ : Below w7.heap.size w7 ((w7.alloc (.cells #[.int .i64 4, .int .i64 pa1, .int .i64 pa2, .int .i64 pa3, .int .i64 1] 27)).alloc (.cells #[.int .i64 4, .int .i64 sb1, .int .i64 sb2, .int .i64 sb3, .int .i64 1] 27)) := below_box2 (Below.refl _ _)
          have d8 := d7.trans (bZ.mono d7.size)
          go_upto_region 16 with fail
          generalize (w7.alloc (.cells #[.int .i64 4, .int .i64 pa1, .int .i64 pa2, .int .i64 pa3, .int .i64 1] 27)).alloc (.cells #[.int .i64 4, .int .i64 sb1, .int .i64 sb2, .int .i64 sb3, .int .i64 1] 27) = wZ at *
          generalize w7.heap.size = qz at *
          have k0 := NC.2.1 0 _ rfl
          have k4 := NC.2.1 4 _ rfl
          have l0 := ND.2.1 0 _ rfl
          have l4 := ND.2.1 4 _ rfl
          go_wp2_with fail
          go_ret
          exact ⟨rfl, d8⟩
        · skip
          have v' : (y0 == 4) = false := by simp [v]
          clear u v mx' my'
          go_wp2_with fail
          refine (IG.out _ hR).mono ?_
          rintro e w2 ⟨rfl, b2⟩
          have M6 := (Mut.new w2 #[.int .i64 x0, .int .i64 x1, .int .i64 x2, .int .i64 x3, .int .i64 x4] 27).alloc (.cells #[.int .i64 y0, .int .i64 y1, .int .i64 y2, .int .i64 y3, .int .i64 y4] 27)
          have M7 : Mut ((w2.alloc (.cells #[.int .i64 x0, .int .i64 x1, .int .i64 x2, .int .i64 x3, .int .i64 x4] 27)).alloc (.cells #[.int .i64 y0, .int .i64 y1, .int .i64 y2, .int .i64 y3, .int .i64 y4] 27)) (w2.heap.size + 1) [.int .i64 y0, .int .i64 y1, .int .i64 y2, .int .i64 y3, .int .i64 y4] := by
            simpa using Mut.new (w2.alloc (.cells #[.int .i64 x0, .int .i64 x1, .int .i64 x2, .int .i64 x3, .int .i64 x4] 27)) #[.int .i64 y0, .int .i64 y1, .int .i64 y2, .int .i64 y3, .int .i64 y4] 27
          have bW : Below w2.heap.size w2 ((w2.alloc (.cells #[.int .i64 x0, .int .i64 x1, .int .i64 x2, .int .i64 x3, .int .i64 x4] 27)).alloc (.cells #[.int .i64 y0, .int .i64 y1, .int .i64 y2, .int .i64 y3, .int .i64 y4] 27)) := below_box2 (Below.refl _ _)
          replace hR := (hR.below b2).below bW
          replace d1 := (d1.trans (b2.mono d1.size)).trans (bW.mono (Nat.le_trans d1.size b2.size))
          clear b2 bW
          go_upto_region 5 with fail
          generalize (w2.alloc (.cells #[.int .i64 x0, .int .i64 x1, .int .i64 x2, .int .i64 x3, .int .i64 x4] 27)).alloc (.cells #[.int .i64 y0, .int .i64 y1, .int .i64 y2, .int .i64 y3, .int .i64 y4] 27) = wA at *
          generalize w2.heap.size = q6 at *
          go_wp2_with fail
          refine (SG.out _ hR).mono ?_
          rintro e w3 ⟨rfl, b3⟩
          have M9 := (Mut.new w3 #[.int .i64 x0, .int .i64 x1, .int .i64 x2, .int .i64 x3, .int .i64 x4] 27).alloc (.cells #[.int .i64 y0, .int .i64 y1, .int .i64 y2, .int .i64 y3, .int .i64 y4] 27)
          have M10 : Mut ((w3.alloc (.cells #[.int .i64 x0, .int .i64 x1, .int .i64 x2, .int .i64 x3, .int .i64 x4] 27)).alloc (.cells #[.int .i64 y0, .int .i64 y1, .int .i64 y2, .int .i64 y3, .int .i64 y4] 27)) (w3.heap.size + 1) [.int .i64 y0, .int .i64 y1, .int .i64 y2, .int .i64 y3, .int .i64 y4] := by
            simpa using Mut.new (w3.alloc (.cells #[.int .i64 x0, .int .i64 x1, .int .i64 x2, .int .i64 x3, .int .i64 x4] 27)) #[.int .i64 y0, .int .i64 y1, .int .i64 y2, .int .i64 y3, .int .i64 y4] 27
          have bV : Below w3.heap.size w3 ((w3.alloc (.cells #[.int .i64 x0, .int .i64 x1, .int .i64 x2, .int .i64 x3, .int .i64 x4] 27)).alloc (.cells #[.int .i64 y0, .int .i64 y1, .int .i64 y2, .int .i64 y3, .int .i64 y4] 27)) := below_box2 (Below.refl _ _)
          replace M6 := (M6.below b3).below bV
          replace M7 := (M7.below b3).below bV
          replace d1 := (d1.trans (b3.mono d1.size)).trans (bV.mono (Nat.le_trans d1.size b3.size))
          clear b3 bV hR IG SG
          go_upto_region 6 with fail
          generalize (w3.alloc (.cells #[.int .i64 x0, .int .i64 x1, .int .i64 x2, .int .i64 x3, .int .i64 x4] 27)).alloc (.cells #[.int .i64 y0, .int .i64 y1, .int .i64 y2, .int .i64 y3, .int .i64 y4] 27) = wB at *
          generalize w3.heap.size = q9 at *
          have ca0 := M6.2.1 0 _ rfl
          have ca1 := M6.2.1 1 _ rfl
          have ca2 := M6.2.1 2 _ rfl
          have ca3 := M6.2.1 3 _ rfl
          have ca4 := M6.2.1 4 _ rfl
          have cb0 := M7.2.1 0 _ rfl
          have cb1 := M7.2.1 1 _ rfl
          have cb2 := M7.2.1 2 _ rfl
          have cb3 := M7.2.1 3 _ rfl
          have cb4 := M7.2.1 4 _ rfl
          have cc0 := M9.2.1 0 _ rfl
          have cc1 := M9.2.1 1 _ rfl
          have cc2 := M9.2.1 2 _ rfl
          have cc3 := M9.2.1 3 _ rfl
          have cc4 := M9.2.1 4 _ rfl
          have cd0 := M10.2.1 0 _ rfl
          have cd1 := M10.2.1 1 _ rfl
          have cd2 := M10.2.1 2 _ rfl
          have cd3 := M10.2.1 3 _ rfl
          have cd4 := M10.2.1 4 _ rfl
          go_wp2_with fail
          refine (sGx.out _).mono ?_
          rintro e w4 ⟨rfl, b4⟩
          replace M6 := M6.below b4
          replace M7 := M7.below b4
          replace d1 := d1.trans (b4.mono d1.size)
          clear b4 ca0 ca1 ca2 ca3 ca4 cb0 cb1 cb2 cb3 cb4 cc0 cc1 cc2 cc3 cc4 cd0 cd1 cd2 cd3 cd4
          have cb0 := M7.2.1 0 _ rfl
          have cb1 := M7.2.1 1 _ rfl
          have cb2 := M7.2.1 2 _ rfl
          have cb3 := M7.2.1 3 _ rfl
          have cb4 := M7.2.1 4 _ rfl
          go_wp2_with fail
          refine (sGy.out _).mono ?_
          rintro e w5 ⟨rfl, b5⟩
          replace M6 := M6.below b5
          replace M7 := M7.below b5
          replace d1 := d1.trans (b5.mono d1.size)
          clear b5 cb0 cb1 cb2 cb3 cb4
          have ca0 := M6.2.1 0 _ rfl
          have ca1 := M6.2.1 1 _ rfl
          have ca2 := M6.2.1 2 _ rfl
          have ca3 := M6.2.1 3 _ rfl
          have ca4 := M6.2.1 4 _ rfl
          have cb0 := M7.2.1 0 _ rfl
          have cb1 := M7.2.1 1 _ rfl
          have cb2 := M7.2.1 2 _ rfl
          have cb3 := M7.2.1 3 _ rfl
          have cb4 := M7.2.1 4 _ rfl
          have R4 := row4 w5 3
          have bL : Below w5.heap.size w5 (w5.alloc (.cells #[.int .i64 1, .int .i64 2, .int .i64 1, .int .i64 2] 3)) := below_box (Below.refl _ _)
          have d6 := d1.trans (bL.mono d1.size)
          go_wp2_with fail
          refine (I4.out _ _ _ R4).mono ?_
          rintro e w7 ⟨rfl, b7⟩
          have d7 := d6.trans (b7.mono d6.size)
          have NC := (Mut.new w7 #[.int .i64 4, .int .i64 pa1, .int .i64 pa2, .int .i64 pa3, .int .i64 1] 27).alloc (.cells #[.int .i64 4, .int .i64 sb1, .int .i64 sb2, .int .i64 sb3, .int .i64 1] 27)
          have ND : Mut ((w7.alloc (.cells #[.int .i64 4, .int .i64 pa1, .int .i64 pa2, .int .i64 pa3, .int .i64 1] 27)).alloc (.cells #[.int .i64 4, .int .i64 sb1, .int .i64 sb2, .int .i64 sb3, .int .i64 1] 27)) (w7.heap.size + 1) [.int .i64 4, .int .i64 sb1, .int .i64 sb2, .int .i64 sb3, .int .i64 1] := by
            simpa using Mut.new (w7.alloc (.cells #[.int .i64 4, .int .i64 pa1, .int .i64 pa2, .int .i64 pa3, .int .i64 1] 27)) #[.int .i64 4, .int .i64 sb1, .int .i64 sb2, .int .i64 sb3, .int .i64 1] 27
          have bZ : Below w7.heap.size w7 ((w7.alloc (.cells #[.int .i64 4, .int .i64 pa1, .int .i64 pa2, .int .i64 pa3, .int .i64 1] 27)).alloc (.cells #[.int .i64 4, .int .i64 sb1, .int .i64 sb2, .int .i64 sb3, .int .i64 1] 27)) := below_box2 (Below.refl _ _)
          have d8 := d7.trans (bZ.mono d7.size)
          go_upto_region 16 with fail
          generalize (w7.alloc (.cells #[.int .i64 4, .int .i64 pa1, .int .i64 pa2, .int .i64 pa3, .int .i64 1] 27)).alloc (.cells #[.int .i64 4, .int .i64 sb1, .int .i64 sb2, .int .i64 sb3, .int .i64 1] 27) = wZ at *
          generalize w7.heap.size = qz at *
          have k0 := NC.2.1 0 _ rfl
          have k4 := NC.2.1 4 _ rfl
          have l0 := ND.2.1 0 _ rfl
          have l4 := ND.2.1 4 _ rfl
          go_wp2_with fail
          go_ret
          exact ⟨rfl, d8⟩
      · skip
        have u' : (x0 == 4) = false := by simp [u]
        by_cases v : y0 = 4
        · skip
          have v' : (y0 == 4) = true := by simp [v]
          have vy : (y1 != B) = false := by have := my' v; simp; omega
          clear u v mx' my'
          go_wp2_with fail
          refine (IG.out _ hR).mono ?_
          rintro e w2 ⟨rfl, b2⟩
          have M6 := (Mut.new w2 #[.int .i64 x0, .int .i64 x1, .int .i64 x2, .int .i64 x3, .int .i64 x4] 27).alloc (.cells #[.int .i64 y0, .int .i64 y1, .int .i64 y2, .int .i64 y3, .int .i64 y4] 27)
          have M7 : Mut ((w2.alloc (.cells #[.int .i64 x0, .int .i64 x1, .int .i64 x2, .int .i64 x3, .int .i64 x4] 27)).alloc (.cells #[.int .i64 y0, .int .i64 y1, .int .i64 y2, .int .i64 y3, .int .i64 y4] 27)) (w2.heap.size + 1) [.int .i64 y0, .int .i64 y1, .int .i64 y2, .int .i64 y3, .int .i64 y4] := by
            simpa using Mut.new (w2.alloc (.cells #[.int .i64 x0, .int .i64 x1, .int .i64 x2, .int .i64 x3, .int .i64 x4] 27)) #[.int .i64 y0, .int .i64 y1, .int .i64 y2, .int .i64 y3, .int .i64 y4] 27
          have bW : Below w2.heap.size w2 ((w2.alloc (.cells #[.int .i64 x0, .int .i64 x1, .int .i64 x2, .int .i64 x3, .int .i64 x4] 27)).alloc (.cells #[.int .i64 y0, .int .i64 y1, .int .i64 y2, .int .i64 y3, .int .i64 y4] 27)) := below_box2 (Below.refl _ _)
          replace hR := (hR.below b2).below bW
          replace d1 := (d1.trans (b2.mono d1.size)).trans (bW.mono (Nat.le_trans d1.size b2.size))
          clear b2 bW
          go_upto_region 5 with fail
          generalize (w2.alloc (.cells #[.int .i64 x0, .int .i64 x1, .int .i64 x2, .int .i64 x3, .int .i64 x4] 27)).alloc (.cells #[.int .i64 y0, .int .i64 y1, .int .i64 y2, .int .i64 y3, .int .i64 y4] 27) = wA at *
          generalize w2.heap.size = q6 at *
          go_wp2_with fail
          refine (SG.out _ hR).mono ?_
          rintro e w3 ⟨rfl, b3⟩
          have M9 := (Mut.new w3 #[.int .i64 x0, .int .i64 x1, .int .i64 x2, .int .i64 x3, .int .i64 x4] 27).alloc (.cells #[.int .i64 y0, .int .i64 y1, .int .i64 y2, .int .i64 y3, .int .i64 y4] 27)
          have M10 : Mut ((w3.alloc (.cells #[.int .i64 x0, .int .i64 x1, .int .i64 x2, .int .i64 x3, .int .i64 x4] 27)).alloc (.cells #[.int .i64 y0, .int .i64 y1, .int .i64 y2, .int .i64 y3, .int .i64 y4] 27)) (w3.heap.size + 1) [.int .i64 y0, .int .i64 y1, .int .i64 y2, .int .i64 y3, .int .i64 y4] := by
            simpa using Mut.new (w3.alloc (.cells #[.int .i64 x0, .int .i64 x1, .int .i64 x2, .int .i64 x3, .int .i64 x4] 27)) #[.int .i64 y0, .int .i64 y1, .int .i64 y2, .int .i64 y3, .int .i64 y4] 27
          have bV : Below w3.heap.size w3 ((w3.alloc (.cells #[.int .i64 x0, .int .i64 x1, .int .i64 x2, .int .i64 x3, .int .i64 x4] 27)).alloc (.cells #[.int .i64 y0, .int .i64 y1, .int .i64 y2, .int .i64 y3, .int .i64 y4] 27)) := below_box2 (Below.refl _ _)
          replace M6 := (M6.below b3).below bV
          replace M7 := (M7.below b3).below bV
          replace d1 := (d1.trans (b3.mono d1.size)).trans (bV.mono (Nat.le_trans d1.size b3.size))
          clear b3 bV hR IG SG
          go_upto_region 6 with fail
          generalize (w3.alloc (.cells #[.int .i64 x0, .int .i64 x1, .int .i64 x2, .int .i64 x3, .int .i64 x4] 27)).alloc (.cells #[.int .i64 y0, .int .i64 y1, .int .i64 y2, .int .i64 y3, .int .i64 y4] 27) = wB at *
          generalize w3.heap.size = q9 at *
          have ca0 := M6.2.1 0 _ rfl
          have ca1 := M6.2.1 1 _ rfl
          have ca2 := M6.2.1 2 _ rfl
          have ca3 := M6.2.1 3 _ rfl
          have ca4 := M6.2.1 4 _ rfl
          have cb0 := M7.2.1 0 _ rfl
          have cb1 := M7.2.1 1 _ rfl
          have cb2 := M7.2.1 2 _ rfl
          have cb3 := M7.2.1 3 _ rfl
          have cb4 := M7.2.1 4 _ rfl
          have cc0 := M9.2.1 0 _ rfl
          have cc1 := M9.2.1 1 _ rfl
          have cc2 := M9.2.1 2 _ rfl
          have cc3 := M9.2.1 3 _ rfl
          have cc4 := M9.2.1 4 _ rfl
          have cd0 := M10.2.1 0 _ rfl
          have cd1 := M10.2.1 1 _ rfl
          have cd2 := M10.2.1 2 _ rfl
          have cd3 := M10.2.1 3 _ rfl
          have cd4 := M10.2.1 4 _ rfl
          go_wp2_with fail
          refine (sGx.out _).mono ?_
          rintro e w4 ⟨rfl, b4⟩
          replace M6 := M6.below b4
          replace M7 := M7.below b4
          replace d1 := d1.trans (b4.mono d1.size)
          clear b4 ca0 ca1 ca2 ca3 ca4 cb0 cb1 cb2 cb3 cb4 cc0 cc1 cc2 cc3 cc4 cd0 cd1 cd2 cd3 cd4
          have cb0 := M7.2.1 0 _ rfl
          have cb1 := M7.2.1 1 _ rfl
          have cb2 := M7.2.1 2 _ rfl
          have cb3 := M7.2.1 3 _ rfl
          have cb4 := M7.2.1 4 _ rfl
          go_wp2_with fail
          refine (sGy.out _).mono ?_
          rintro e w5 ⟨rfl, b5⟩
          replace M6 := M6.below b5
          replace M7 := M7.below b5
          replace d1 := d1.trans (b5.mono d1.size)
          clear b5 cb0 cb1 cb2 cb3 cb4
          have ca0 := M6.2.1 0 _ rfl
          have ca1 := M6.2.1 1 _ rfl
          have ca2 := M6.2.1 2 _ rfl
          have ca3 := M6.2.1 3 _ rfl
          have ca4 := M6.2.1 4 _ rfl
          have cb0 := M7.2.1 0 _ rfl
          have cb1 := M7.2.1 1 _ rfl
          have cb2 := M7.2.1 2 _ rfl
          have cb3 := M7.2.1 3 _ rfl
          have cb4 := M7.2.1 4 _ rfl
          have R4 := row4 w5 3
          have bL : Below w5.heap.size w5 (w5.alloc (.cells #[.int .i64 1, .int .i64 2, .int .i64 1, .int .i64 2] 3)) := below_box (Below.refl _ _)
          have d6 := d1.trans (bL.mono d1.size)
          go_wp2_with fail
          refine (I4.out _ _ _ R4).mono ?_
          rintro e w7 ⟨rfl, b7⟩
          have d7 := d6.trans (b7.mono d6.size)
          have NC := (Mut.new w7 #[.int .i64 4, .int .i64 pa1, .int .i64 pa2, .int .i64 pa3, .int .i64 1] 27).alloc (.cells #[.int .i64 4, .int .i64 sb1, .int .i64 sb2, .int .i64 sb3, .int .i64 1] 27)
          have ND : Mut ((w7.alloc (.cells #[.int .i64 4, .int .i64 pa1, .int .i64 pa2, .int .i64 pa3, .int .i64 1] 27)).alloc (.cells #[.int .i64 4, .int .i64 sb1, .int .i64 sb2, .int .i64 sb3, .int .i64 1] 27)) (w7.heap.size + 1) [.int .i64 4, .int .i64 sb1, .int .i64 sb2, .int .i64 sb3, .int .i64 1] := by
            simpa using Mut.new (w7.alloc (.cells #[.int .i64 4, .int .i64 pa1, .int .i64 pa2, .int .i64 pa3, .int .i64 1] 27)) #[.int .i64 4, .int .i64 sb1, .int .i64 sb2, .int .i64 sb3, .int .i64 1] 27
          have bZ : Below w7.heap.size w7 ((w7.alloc (.cells #[.int .i64 4, .int .i64 pa1, .int .i64 pa2, .int .i64 pa3, .int .i64 1] 27)).alloc (.cells #[.int .i64 4, .int .i64 sb1, .int .i64 sb2, .int .i64 sb3, .int .i64 1] 27)) := below_box2 (Below.refl _ _)
          have d8 := d7.trans (bZ.mono d7.size)
          go_upto_region 16 with fail
          generalize (w7.alloc (.cells #[.int .i64 4, .int .i64 pa1, .int .i64 pa2, .int .i64 pa3, .int .i64 1] 27)).alloc (.cells #[.int .i64 4, .int .i64 sb1, .int .i64 sb2, .int .i64 sb3, .int .i64 1] 27) = wZ at *
          generalize w7.heap.size = qz at *
          have k0 := NC.2.1 0 _ rfl
          have k4 := NC.2.1 4 _ rfl
          have l0 := ND.2.1 0 _ rfl
          have l4 := ND.2.1 4 _ rfl
          go_wp2_with fail
          go_ret
          exact ⟨rfl, d8⟩
        · skip
          have v' : (y0 == 4) = false := by simp [v]
          clear u v mx' my'
          go_wp2_with fail
          refine (IG.out _ hR).mono ?_
          rintro e w2 ⟨rfl, b2⟩
          have M6 := (Mut.new w2 #[.int .i64 x0, .int .i64 x1, .int .i64 x2, .int .i64 x3, .int .i64 x4] 27).alloc (.cells #[.int .i64 y0, .int .i64 y1, .int .i64 y2, .int .i64 y3, .int .i64 y4] 27)
          have M7 : Mut ((w2.alloc (.cells #[.int .i64 x0, .int .i64 x1, .int .i64 x2, .int .i64 x3, .int .i64 x4] 27)).alloc (.cells #[.int .i64 y0, .int .i64 y1, .int .i64 y2, .int .i64 y3, .int .i64 y4] 27)) (w2.heap.size + 1) [.int .i64 y0, .int .i64 y1, .int .i64 y2, .int .i64 y3, .int .i64 y4] := by
            simpa using Mut.new (w2.alloc (.cells #[.int .i64 x0, .int .i64 x1, .int .i64 x2, .int .i64 x3, .int .i64 x4] 27)) #[.int .i64 y0, .int .i64 y1, .int .i64 y2, .int .i64 y3, .int .i64 y4] 27
          have bW : Below w2.heap.size w2 ((w2.alloc (.cells #[.int .i64 x0, .int .i64 x1, .int .i64 x2, .int .i64 x3, .int .i64 x4] 27)).alloc (.cells #[.int .i64 y0, .int .i64 y1, .int .i64 y2, .int .i64 y3, .int .i64 y4] 27)) := below_box2 (Below.refl _ _)
          replace hR := (hR.below b2).below bW
          replace d1 := (d1.trans (b2.mono d1.size)).trans (bW.mono (Nat.le_trans d1.size b2.size))
          clear b2 bW
          go_upto_region 5 with fail
          generalize (w2.alloc (.cells #[.int .i64 x0, .int .i64 x1, .int .i64 x2, .int .i64 x3, .int .i64 x4] 27)).alloc (.cells #[.int .i64 y0, .int .i64 y1, .int .i64 y2, .int .i64 y3, .int .i64 y4] 27) = wA at *
          generalize w2.heap.size = q6 at *
          go_wp2_with fail
          refine (SG.out _ hR).mono ?_
          rintro e w3 ⟨rfl, b3⟩
          have M9 := (Mut.new w3 #[.int .i64 x0, .int .i64 x1, .int .i64 x2, .int .i64 x3, .int .i64 x4] 27).alloc (.cells #[.int .i64 y0, .int .i64 y1, .int .i64 y2, .int .i64 y3, .int .i64 y4] 27)
          have M10 : Mut ((w3.alloc (.cells #[.int .i64 x0, .int .i64 x1, .int .i64 x2, .int .i64 x3, .int .i64 x4] 27)).alloc (.cells #[.int .i64 y0, .int .i64 y1, .int .i64 y2, .int .i64 y3, .int .i64 y4] 27)) (w3.heap.size + 1) [.int .i64 y0, .int .i64 y1, .int .i64 y2, .int .i64 y3, .int .i64 y4] := by
            simpa using Mut.new (w3.alloc (.cells #[.int .i64 x0, .int .i64 x1, .int .i64 x2, .int .i64 x3, .int .i64 x4] 27)) #[.int .i64 y0, .int .i64 y1, .int .i64 y2, .int .i64 y3, .int .i64 y4] 27
          have bV : Below w3.heap.size w3 ((w3.alloc (.cells #[.int .i64 x0, .int .i64 x1, .int .i64 x2, .int .i64 x3, .int .i64 x4] 27)).alloc (.cells #[.int .i64 y0, .int .i64 y1, .int .i64 y2, .int .i64 y3, .int .i64 y4] 27)) := below_box2 (Below.refl _ _)
          replace M6 := (M6.below b3).below bV
          replace M7 := (M7.below b3).below bV
          replace d1 := (d1.trans (b3.mono d1.size)).trans (bV.mono (Nat.le_trans d1.size b3.size))
          clear b3 bV hR IG SG
          go_upto_region 6 with fail
          generalize (w3.alloc (.cells #[.int .i64 x0, .int .i64 x1, .int .i64 x2, .int .i64 x3, .int .i64 x4] 27)).alloc (.cells #[.int .i64 y0, .int .i64 y1, .int .i64 y2, .int .i64 y3, .int .i64 y4] 27) = wB at *
          generalize w3.heap.size = q9 at *
          have ca0 := M6.2.1 0 _ rfl
          have ca1 := M6.2.1 1 _ rfl
          have ca2 := M6.2.1 2 _ rfl
          have ca3 := M6.2.1 3 _ rfl
          have ca4 := M6.2.1 4 _ rfl
          have cb0 := M7.2.1 0 _ rfl
          have cb1 := M7.2.1 1 _ rfl
          have cb2 := M7.2.1 2 _ rfl
          have cb3 := M7.2.1 3 _ rfl
          have cb4 := M7.2.1 4 _ rfl
          have cc0 := M9.2.1 0 _ rfl
          have cc1 := M9.2.1 1 _ rfl
          have cc2 := M9.2.1 2 _ rfl
          have cc3 := M9.2.1 3 _ rfl
          have cc4 := M9.2.1 4 _ rfl
          have cd0 := M10.2.1 0 _ rfl
          have cd1 := M10.2.1 1 _ rfl
          have cd2 := M10.2.1 2 _ rfl
          have cd3 := M10.2.1 3 _ rfl
          have cd4 := M10.2.1 4 _ rfl
          go_wp2_with fail
          refine (sGx.out _).mono ?_
          rintro e w4 ⟨rfl, b4⟩
          replace M6 := M6.below b4
          replace M7 := M7.below b4
          replace d1 := d1.trans (b4.mono d1.size)
          clear b4 ca0 ca1 ca2 ca3 ca4 cb0 cb1 cb2 cb3 cb4 cc0 cc1 cc2 cc3 cc4 cd0 cd1 cd2 cd3 cd4
          have cb0 := M7.2.1 0 _ rfl
          have cb1 := M7.2.1 1 _ rfl
          have cb2 := M7.2.1 2 _ rfl
          have cb3 := M7.2.1 3 _ rfl
          have cb4 := M7.2.1 4 _ rfl
          go_wp2_with fail
          refine (sGy.out _).mono ?_
          rintro e w5 ⟨rfl, b5⟩
          replace M6 := M6.below b5
          replace M7 := M7.below b5
          replace d1 := d1.trans (b5.mono d1.size)
          clear b5 cb0 cb1 cb2 cb3 cb4
          have ca0 := M6.2.1 0 _ rfl
          have ca1 := M6.2.1 1 _ rfl
          have ca2 := M6.2.1 2 _ rfl
          have ca3 := M6.2.1 3 _ rfl
          have ca4 := M6.2.1 4 _ rfl
          have cb0 := M7.2.1 0 _ rfl
          have cb1 := M7.2.1 1 _ rfl
          have cb2 := M7.2.1 2 _ rfl
          have cb3 := M7.2.1 3 _ rfl
          have cb4 := M7.2.1 4 _ rfl
          have R4 := row4 w5 3
          have bL : Below w5.heap.size w5 (w5.alloc (.cells #[.int .i64 1, .int .i64 2, .int .i64 1, .int .i64 2] 3)) := below_box (Below.refl _ _)
          have d6 := d1.trans (bL.mono d1.size)
          go_wp2_with fail
          refine (I4.out _ _ _ R4).mono ?_
          rintro e w7 ⟨rfl, b7⟩
          have d7 := d6.trans (b7.mono d6.size)
          have NC := (Mut.new w7 #[.int .i64 4, .int .i64 pa1, .int .i64 pa2, .int .i64 pa3, .int .i64 1] 27).alloc (.cells #[.int .i64 4, .int .i64 sb1, .int .i64 sb2, .int .i64 sb3, .int .i64 1] 27)
          have ND : Mut ((w7.alloc (.cells #[.int .i64 4, .int .i64 pa1, .int .i64 pa2, .int .i64 pa3, .int .i64 1] 27)).alloc (.cells #[.int .i64 4, .int .i64 sb1, .int .i64 sb2, .int .i64 sb3, .int .i64 1] 27)) (w7.heap.size + 1) [.int .i64 4, .int .i64 sb1, .int .i64 sb2, .int .i64 sb3, .int .i64 1] := by
            simpa using Mut.new (w7.alloc (.cells #[.int .i64 4, .int .i64 pa1, .int .i64 pa2, .int .i64 pa3, .int .i64 1] 27)) #[.int .i64 4, .int .i64 sb1, .int .i64 sb2, .int .i64 sb3, .int .i64 1] 27
          have bZ : Below w7.heap.size w7 ((w7.alloc (.cells #[.int .i64 4, .int .i64 pa1, .int .i64 pa2, .int .i64 pa3, .int .i64 1] 27)).alloc (.cells #[.int .i64 4, .int .i64 sb1, .int .i64 sb2, .int .i64 sb3, .int .i64 1] 27)) := below_box2 (Below.refl _ _)
          have d8 := d7.trans (bZ.mono d7.size)
          go_upto_region 16 with fail
          generalize (w7.alloc (.cells #[.int .i64 4, .int .i64 pa1, .int .i64 pa2, .int .i64 pa3, .int .i64 1] 27)).alloc (.cells #[.int .i64 4, .int .i64 sb1, .int .i64 sb2, .int .i64 sb3, .int .i64 1] 27) = wZ at *
          generalize w7.heap.size = qz at *
          have k0 := NC.2.1 0 _ rfl
          have k4 := NC.2.1 4 _ rfl
          have l0 := ND.2.1 0 _ rfl
          have l4 := ND.2.1 4 _ rfl
          go_wp2_with fail
          go_ret
          exact ⟨rfl, d8⟩
    · skip
      by_cases u : x0 = 4
      · skip
        have u' : (x0 == 4) = true := by simp [u]
        have ux : (x1 != A) = false := by have := mx' u; simp; omega
        by_cases v : y0 = 4
        · skip
          have v' : (y0 == 4) = true := by simp [v]
          have vy : (y1 != A) = false := by have := my' v; simp; omega
          clear u v mx' my'
          go_wp2_with fail
          refine (IG.out _ hR).mono ?_
          rintro e w2 ⟨rfl, b2⟩
          have M6 := (Mut.new w2 #[.int .i64 x0, .int .i64 x1, .int .i64 x2, .int .i64 x3, .int .i64 x4] 27).alloc (.cells #[.int .i64 y0, .int .i64 y1, .int .i64 y2, .int .i64 y3, .int .i64 y4] 27)
          have M7 : Mut ((w2.alloc (.cells #[.int .i64 x0, .int .i64 x1, .int .i64 x2, .int .i64 x3, .int .i64 x4] 27)).alloc (.cells #[.int .i64 y0, .int .i64 y1, .int .i64 y2, .int .i64 y3, .int .i64 y4] 27)) (w2.heap.size + 1) [.int .i64 y0, .int .i64 y1, .int .i64 y2, .int .i64 y3, .int .i64 y4] := by
            simpa using Mut.new (w2.alloc (.cells #[.int .i64 x0, .int .i64 x1, .int .i64 x2, .int .i64 x3, .int .i64 x4] 27)) #[.int .i64 y0, .int .i64 y1, .int .i64 y2, .int .i64 y3, .int .i64 y4] 27
          have bW : Below w2.heap.size w2 ((w2.alloc (.cells #[.int .i64 x0, .int .i64 x1, .int .i64 x2, .int .i64 x3, .int .i64 x4] 27)).alloc (.cells #[.int .i64 y0, .int .i64 y1, .int .i64 y2, .int .i64 y3, .int .i64 y4] 27)) := below_box2 (Below.refl _ _)
          replace hR := (hR.below b2).below bW
          replace d1 := (d1.trans (b2.mono d1.size)).trans (bW.mono (Nat.le_trans d1.size b2.size))
          clear b2 bW
          go_upto_region 5 with fail
          generalize (w2.alloc (.cells #[.int .i64 x0, .int .i64 x1, .int .i64 x2, .int .i64 x3, .int .i64 x4] 27)).alloc (.cells #[.int .i64 y0, .int .i64 y1, .int .i64 y2, .int .i64 y3, .int .i64 y4] 27) = wA at *
          generalize w2.heap.size = q6 at *
          go_wp2_with fail
          refine (SG.out _ hR).mono ?_
          rintro e w3 ⟨rfl, b3⟩
          have M9 := (Mut.new w3 #[.int .i64 x0, .int .i64 x1, .int .i64 x2, .int .i64 x3, .int .i64 x4] 27).alloc (.cells #[.int .i64 y0, .int .i64 y1, .int .i64 y2, .int .i64 y3, .int .i64 y4] 27)
          have M10 : Mut ((w3.alloc (.cells #[.int .i64 x0, .int .i64 x1, .int .i64 x2, .int .i64 x3, .int .i64 x4] 27)).alloc (.cells #[.int .i64 y0, .int .i64 y1, .int .i64 y2, .int .i64 y3, .int .i64 y4] 27)) (w3.heap.size + 1) [.int .i64 y0, .int .i64 y1, .int .i64 y2, .int .i64 y3, .int .i64 y4] := by
            simpa using Mut.new (w3.alloc (.cells #[.int .i64 x0, .int .i64 x1, .int .i64 x2, .int .i64 x3, .int .i64 x4] 27)) #[.int .i64 y0, .int .i64 y1, .int .i64 y2, .int .i64 y3, .int .i64 y4] 27
          have bV : Below w3.heap.size w3 ((w3.alloc (.cells #[.int .i64 x0, .int .i64 x1, .int .i64 x2, .int .i64 x3, .int .i64 x4] 27)).alloc (.cells #[.int .i64 y0, .int .i64 y1, .int .i64 y2, .int .i64 y3, .int .i64 y4] 27)) := below_box2 (Below.refl _ _)
          replace M6 := (M6.below b3).below bV
          replace M7 := (M7.below b3).below bV
          replace d1 := (d1.trans (b3.mono d1.size)).trans (bV.mono (Nat.le_trans d1.size b3.size))
          clear b3 bV hR IG SG
          go_upto_region 6 with fail
          generalize (w3.alloc (.cells #[.int .i64 x0, .int .i64 x1, .int .i64 x2, .int .i64 x3, .int .i64 x4] 27)).alloc (.cells #[.int .i64 y0, .int .i64 y1, .int .i64 y2, .int .i64 y3, .int .i64 y4] 27) = wB at *
          generalize w3.heap.size = q9 at *
          have ca0 := M6.2.1 0 _ rfl
          have ca1 := M6.2.1 1 _ rfl
          have ca2 := M6.2.1 2 _ rfl
          have ca3 := M6.2.1 3 _ rfl
          have ca4 := M6.2.1 4 _ rfl
          have cb0 := M7.2.1 0 _ rfl
          have cb1 := M7.2.1 1 _ rfl
          have cb2 := M7.2.1 2 _ rfl
          have cb3 := M7.2.1 3 _ rfl
          have cb4 := M7.2.1 4 _ rfl
          have cc0 := M9.2.1 0 _ rfl
          have cc1 := M9.2.1 1 _ rfl
          have cc2 := M9.2.1 2 _ rfl
          have cc3 := M9.2.1 3 _ rfl
          have cc4 := M9.2.1 4 _ rfl
          have cd0 := M10.2.1 0 _ rfl
          have cd1 := M10.2.1 1 _ rfl
          have cd2 := M10.2.1 2 _ rfl
          have cd3 := M10.2.1 3 _ rfl
          have cd4 := M10.2.1 4 _ rfl
          go_wp2_with fail
          refine (sGx.out _).mono ?_
          rintro e w4 ⟨rfl, b4⟩
          replace M6 := M6.below b4
          replace M7 := M7.below b4
          replace d1 := d1.trans (b4.mono d1.size)
          clear b4 ca0 ca1 ca2 ca3 ca4 cb0 cb1 cb2 cb3 cb4 cc0 cc1 cc2 cc3 cc4 cd0 cd1 cd2 cd3 cd4
          have cb0 := M7.2.1 0 _ rfl
          have cb1 := M7.2.1 1 _ rfl
          have cb2 := M7.2.1 2 _ rfl
          have cb3 := M7.2.1 3 _ rfl
          have cb4 := M7.2.1 4 _ rfl
          go_wp2_with fail
          refine (sGy.out _).mono ?_
          rintro e w5 ⟨rfl, b5⟩
          replace M6 := M6.below b5
          replace M7 := M7.below b5
          replace d1 := d1.trans (b5.mono d1.size)
          clear b5 cb0 cb1 cb2 cb3 cb4
          have ca0 := M6.2.1 0 _ rfl
          have ca1 := M6.2.1 1 _ rfl
          have ca2 := M6.2.1 2 _ rfl
          have ca3 := M6.2.1 3 _ rfl
          have ca4 := M6.2.1 4 _ rfl
          have cb0 := M7.2.1 0 _ rfl
          have cb1 := M7.2.1 1 _ rfl
          have cb2 := M7.2.1 2 _ rfl
          have cb3 := M7.2.1 3 _ rfl
          have cb4 := M7.2.1 4 _ rfl
          have R4 := row4 w5 3
          have bL : Below w5.heap.size w5 (w5.alloc (.cells #[.int .i64 1, .int .i64 2, .int .i64 1, .int .i64 2] 3)) := below_box (Below.refl _ _)
          have d6 := d1.trans (bL.mono d1.size)
          go_wp2_with fail
          refine (I4.out _ _ _ R4).mono ?_
          rintro e w7 ⟨rfl, b7⟩
          have d7 := d6.trans (b7.mono d6.size)
          have NC := (Mut.new w7 #[.int .i64 4, .int .i64 pa1, .int .i64 pa2, .int .i64 pa3, .int .i64 1] 27).alloc (.cells #[.int .i64 4, .int .i64 sb1, .int .i64 sb2, .int .i64 sb3, .int .i64 1] 27)
          have ND : Mut ((w7.alloc (.cells #[.int .i64 4, .int .i64 pa1, .int .i64 pa2, .int .i64 pa3, .int .i64 1] 27)).alloc (.cells #[.int .i64 4, .int .i64 sb1, .int .i64 sb2, .int .i64 sb3, .int .i64 1] 27)) (w7.heap.size + 1) [.int .i64 4, .int .i64 sb1, .int .i64 sb2, .int .i64 sb3, .int .i64 1] := by
            simpa using Mut.new (w7.alloc (.cells #[.int .i64 4, .int .i64 pa1, .int .i64 pa2, .int .i64 pa3, .int .i64 1] 27)) #[.int .i64 4, .int .i64 sb1, .int .i64 sb2, .int .i64 sb3, .int .i64 1] 27
          have bZ : Below w7.heap.size w7 ((w7.alloc (.cells #[.int .i64 4, .int .i64 pa1, .int .i64 pa2, .int .i64 pa3, .int .i64 1] 27)).alloc (.cells #[.int .i64 4, .int .i64 sb1, .int .i64 sb2, .int .i64 sb3, .int .i64 1] 27)) := below_box2 (Below.refl _ _)
          have d8 := d7.trans (bZ.mono d7.size)
          go_upto_region 16 with fail
          generalize (w7.alloc (.cells #[.int .i64 4, .int .i64 pa1, .int .i64 pa2, .int .i64 pa3, .int .i64 1] 27)).alloc (.cells #[.int .i64 4, .int .i64 sb1, .int .i64 sb2, .int .i64 sb3, .int .i64 1] 27) = wZ at *
          generalize w7.heap.size = qz at *
          have k0 := NC.2.1 0 _ rfl
          have k4 := NC.2.1 4 _ rfl
          have l0 := ND.2.1 0 _ rfl
          have l4 := ND.2.1 4 _ rfl
          go_wp2_with fail
          go_ret
          exact ⟨rfl, d8⟩
        · skip
          have v' : (y0 == 4) = false := by simp [v]
          clear u v mx' my'
          go_wp2_with fail
          refine (IG.out _ hR).mono ?_
          rintro e w2 ⟨rfl, b2⟩
          have M6 := (Mut.new w2 #[.int .i64 x0, .int .i64 x1, .int .i64 x2, .int .i64 x3, .int .i64 x4] 27).alloc (.cells #[.int .i64 y0, .int .i64 y1, .int .i64 y2, .int .i64 y3, .int .i64 y4] 27)
          have M7 : Mut ((w2.alloc (.cells #[.int .i64 x0, .int .i64 x1, .int .i64 x2, .int .i64 x3, .int .i64 x4] 27)).alloc (.cells #[.int .i64 y0, .int .i64 y1, .int .i64 y2, .int .i64 y3, .int .i64 y4] 27)) (w2.heap.size + 1) [.int .i64 y0, .int .i64 y1, .int .i64 y2, .int .i64 y3, .int .i64 y4] := by
            simpa using Mut.new (w2.alloc (.cells #[.int .i64 x0, .int .i64 x1, .int .i64 x2, .int .i64 x3, .int .i64 x4] 27)) #[.int .i64 y0, .int .i64 y1, .int .i64 y2, .int .i64 y3, .int .i64 y4] 27
          have bW : Below w2.heap.size w2 ((w2.alloc (.cells #[.int .i64 x0, .int .i64 x1, .int .i64 x2, .int .i64 x3, .int .i64 x4] 27)).alloc (.cells #[.int .i64 y0, .int .i64 y1, .int .i64 y2, .int .i64 y3, .int .i64 y4] 27)) := below_box2 (Below.refl _ _)
          replace hR := (hR.below b2).below bW
          replace d1 := (d1.trans (b2.mono d1.size)).trans (bW.mono (Nat.le_trans d1.size b2.size))
          clear b2 bW
          go_upto_region 5 with fail
          generalize (w2.alloc (.cells #[.int .i64 x0, .int .i64 x1, .int .i64 x2, .int .i64 x3, .int .i64 x4] 27)).alloc (.cells #[.int .i64 y0, .int .i64 y1, .int .i64 y2, .int .i64 y3, .int .i64 y4] 27) = wA at *
          generalize w2.heap.size = q6 at *
          go_wp2_with fail
          refine (SG.out _ hR).mono ?_
          rintro e w3 ⟨rfl, b3⟩
          have M9 := (Mut.new w3 #[.int .i64 x0, .int .i64 x1, .int .i64 x2, .int .i64 x3, .int .i64 x4] 27).alloc (.cells #[.int .i64 y0, .int .i64 y1, .int .i64 y2, .int .i64 y3, .int .i64 y4] 27)
          have M10 : Mut ((w3.alloc (.cells #[.int .i64 x0, .int .i64 x1, .int .i64 x2, .int .i64 x3, .int .i64 x4] 27)).alloc (.cells #[.int .i64 y0, .int .i64 y1, .int .i64 y2, .int .i64 y3, .int .i64 y4] 27)) (w3.heap.size + 1) [.int .i64 y0, .int .i64 y1, .int .i64 y2, .int .i64 y3, .int .i64 y4] := by
            simpa using Mut.new (w3.alloc (.cells #[.int .i64 x0, .int .i64 x1, .int .i64 x2, .int .i64 x3, .int .i64 x4] 27)) #[.int .i64 y0, .int .i64 y1, .int .i64 y2, .int .i64 y3, .int .i64 y4] 27
          have bV : Below w3.heap.size w3 ((w3.alloc (.cells #[.int .i64 x0, .int .i64 x1, .int .i64 x2, .int .i64 x3, .int .i64 x4] 27)).alloc (.cells #[.int .i64 y0, .int .i64 y1, .int .i64 y2, .int .i64 y3, .int .i64 y4] 27)) := below_box2 (Below.refl _ _)
          replace M6 := (M6.below b3).below bV
          replace M7 := (M7.below b3).below bV
          replace d1 := (d1.trans (b3.mono d1.size)).trans (bV.mono (Nat.le_trans d1.size b3.size))
          clear b3 bV hR IG SG
          go_upto_region 6 with fail
          generalize (w3.alloc (.cells #[.int .i64 x0, .int .i64 x1, .int .i64 x2, .int .i64 x3, .int .i64 x4] 27)).alloc (.cells #[.int .i64 y0, .int .i64 y1, .int .i64 y2, .int .i64 y3, .int .i64 y4] 27) = wB at *
          generalize w3.heap.size = q9 at *
          have ca0 := M6.2.1 0 _ rfl
          have ca1 := M6.2.1 1 _ rfl
          have ca2 := M6.2.1 2 _ rfl
          have ca3 := M6.2.1 3 _ rfl
          have ca4 := M6.2.1 4 _ rfl
          have cb0 := M7.2.1 0 _ rfl
          have cb1 := M7.2.1 1 _ rfl
          have cb2 := M7.2.1 2 _ rfl
          have cb3 := M7.2.1 3 _ rfl
          have cb4 := M7.2.1 4 _ rfl
          have cc0 := M9.2.1 0 _ rfl
          have cc1 := M9.2.1 1 _ rfl
          have cc2 := M9.2.1 2 _ rfl
          have cc3 := M9.2.1 3 _ rfl
          have cc4 := M9.2.1 4 _ rfl
          have cd0 := M10.2.1 0 _ rfl
          have cd1 := M10.2.1 1 _ rfl
          have cd2 := M10.2.1 2 _ rfl
          have cd3 := M10.2.1 3 _ rfl
          have cd4 := M10.2.1 4 _ rfl
          go_wp2_with fail
          refine (sGx.out _).mono ?_
          rintro e w4 ⟨rfl, b4⟩
          replace M6 := M6.below b4
          replace M7 := M7.below b4
          replace d1 := d1.trans (b4.mono d1.size)
          clear b4 ca0 ca1 ca2 ca3 ca4 cb0 cb1 cb2 cb3 cb4 cc0 cc1 cc2 cc3 cc4 cd0 cd1 cd2 cd3 cd4
          have cb0 := M7.2.1 0 _ rfl
          have cb1 := M7.2.1 1 _ rfl
          have cb2 := M7.2.1 2 _ rfl
          have cb3 := M7.2.1 3 _ rfl
          have cb4 := M7.2.1 4 _ rfl
          go_wp2_with fail
          refine (sGy.out _).mono ?_
          rintro e w5 ⟨rfl, b5⟩
          replace M6 := M6.below b5
          replace M7 := M7.below b5
          replace d1 := d1.trans (b5.mono d1.size)
          clear b5 cb0 cb1 cb2 cb3 cb4
          have ca0 := M6.2.1 0 _ rfl
          have ca1 := M6.2.1 1 _ rfl
          have ca2 := M6.2.1 2 _ rfl
          have ca3 := M6.2.1 3 _ rfl
          have ca4 := M6.2.1 4 _ rfl
          have cb0 := M7.2.1 0 _ rfl
          have cb1 := M7.2.1 1 _ rfl
          have cb2 := M7.2.1 2 _ rfl
          have cb3 := M7.2.1 3 _ rfl
          have cb4 := M7.2.1 4 _ rfl
          have R4 := row4 w5 3
          have bL : Below w5.heap.size w5 (w5.alloc (.cells #[.int .i64 1, .int .i64 2, .int .i64 1, .int .i64 2] 3)) := below_box (Below.refl _ _)
          have d6 := d1.trans (bL.mono d1.size)
          go_wp2_with fail
          refine (I4.out _ _ _ R4).mono ?_
          rintro e w7 ⟨rfl, b7⟩
          have d7 := d6.trans (b7.mono d6.size)
          have NC := (Mut.new w7 #[.int .i64 4, .int .i64 pa1, .int .i64 pa2, .int .i64 pa3, .int .i64 1] 27).alloc (.cells #[.int .i64 4, .int .i64 sb1, .int .i64 sb2, .int .i64 sb3, .int .i64 1] 27)
          have ND : Mut ((w7.alloc (.cells #[.int .i64 4, .int .i64 pa1, .int .i64 pa2, .int .i64 pa3, .int .i64 1] 27)).alloc (.cells #[.int .i64 4, .int .i64 sb1, .int .i64 sb2, .int .i64 sb3, .int .i64 1] 27)) (w7.heap.size + 1) [.int .i64 4, .int .i64 sb1, .int .i64 sb2, .int .i64 sb3, .int .i64 1] := by
            simpa using Mut.new (w7.alloc (.cells #[.int .i64 4, .int .i64 pa1, .int .i64 pa2, .int .i64 pa3, .int .i64 1] 27)) #[.int .i64 4, .int .i64 sb1, .int .i64 sb2, .int .i64 sb3, .int .i64 1] 27
          have bZ : Below w7.heap.size w7 ((w7.alloc (.cells #[.int .i64 4, .int .i64 pa1, .int .i64 pa2, .int .i64 pa3, .int .i64 1] 27)).alloc (.cells #[.int .i64 4, .int .i64 sb1, .int .i64 sb2, .int .i64 sb3, .int .i64 1] 27)) := below_box2 (Below.refl _ _)
          have d8 := d7.trans (bZ.mono d7.size)
          go_upto_region 16 with fail
          generalize (w7.alloc (.cells #[.int .i64 4, .int .i64 pa1, .int .i64 pa2, .int .i64 pa3, .int .i64 1] 27)).alloc (.cells #[.int .i64 4, .int .i64 sb1, .int .i64 sb2, .int .i64 sb3, .int .i64 1] 27) = wZ at *
          generalize w7.heap.size = qz at *
          have k0 := NC.2.1 0 _ rfl
          have k4 := NC.2.1 4 _ rfl
          have l0 := ND.2.1 0 _ rfl
          have l4 := ND.2.1 4 _ rfl
          go_wp2_with fail
          go_ret
          exact ⟨rfl, d8⟩
      · skip
        have u' : (x0 == 4) = false := by simp [u]
        by_cases v : y0 = 4
        · skip
          have v' : (y0 == 4) = true := by simp [v]
          have vy : (y1 != A) = false := by have := my' v; simp; omega
          clear u v mx' my'
          go_wp2_with fail
          refine (IG.out _ hR).mono ?_
          rintro e w2 ⟨rfl, b2⟩
          have M6 := (Mut.new w2 #[.int .i64 x0, .int .i64 x1, .int .i64 x2, .int .i64 x3, .int .i64 x4] 27).alloc (.cells #[.int .i64 y0, .int .i64 y1, .int .i64 y2, .int .i64 y3, .int .i64 y4] 27)
          have M7 : Mut ((w2.alloc (.cells #[.int .i64 x0, .int .i64 x1, .int .i64 x2, .int .i64 x3, .int .i64 x4] 27)).alloc (.cells #[.int .i64 y0, .int .i64 y1, .int .i64 y2, .int .i64 y3, .int .i64 y4] 27)) (w2.heap.size + 1) [.int .i64 y0, .int .i64 y1, .int .i64 y2, .int .i64 y3, .int .i64 y4] := by
            simpa using Mut.new (w2.alloc (.cells #[.int .i64 x0, .int .i64 x1, .int .i64 x2, .int .i64 x3, .int .i64 x4] 27)) #[.int .i64 y0, .int .i64 y1, .int .i64 y2, .int .i64 y3, .int .i64 y4] 27
          have bW : Below w2.heap.size w2 ((w2.alloc (.cells #[.int .i64 x0, .int .i64 x1, .int .i64 x2, .int .i64 x3, .int .i64 x4] 27)).alloc (.cells #[.int .i64 y0, .int .i64 y1, .int .i64 y2, .int .i64 y3, .int .i64 y4] 27)) := below_box2 (Below.refl _ _)
          replace hR := (hR.below b2).below bW
          replace d1 := (d1.trans (b2.mono d1.size)).trans (bW.mono (Nat.le_trans d1.size b2.size))
          clear b2 bW
          go_upto_region 5 with fail
          generalize (w2.alloc (.cells #[.int .i64 x0, .int .i64 x1, .int .i64 x2, .int .i64 x3, .int .i64 x4] 27)).alloc (.cells #[.int .i64 y0, .int .i64 y1, .int .i64 y2, .int .i64 y3, .int .i64 y4] 27) = wA at *
          generalize w2.heap.size = q6 at *
          go_wp2_with fail
          refine (SG.out _ hR).mono ?_
          rintro e w3 ⟨rfl, b3⟩
          have M9 := (Mut.new w3 #[.int .i64 x0, .int .i64 x1, .int .i64 x2, .int .i64 x3, .int .i64 x4] 27).alloc (.cells #[.int .i64 y0, .int .i64 y1, .int .i64 y2, .int .i64 y3, .int .i64 y4] 27)
          have M10 : Mut ((w3.alloc (.cells #[.int .i64 x0, .int .i64 x1, .int .i64 x2, .int .i64 x3, .int .i64 x4] 27)).alloc (.cells #[.int .i64 y0, .int .i64 y1, .int .i64 y2, .int .i64 y3, .int .i64 y4] 27)) (w3.heap.size + 1) [.int .i64 y0, .int .i64 y1, .int .i64 y2, .int .i64 y3, .int .i64 y4] := by
            simpa using Mut.new (w3.alloc (.cells #[.int .i64 x0, .int .i64 x1, .int .i64 x2, .int .i64 x3, .int .i64 x4] 27)) #[.int .i64 y0, .int .i64 y1, .int .i64 y2, .int .i64 y3, .int .i64 y4] 27
          have bV : Below w3.heap.size w3 ((w3.alloc (.cells #[.int .i64 x0, .int .i64 x1, .int .i64 x2, .int .i64 x3, .int .i64 x4] 27)).alloc (.cells #[.int .i64 y0, .int .i64 y1, .int .i64 y2, .int .i64 y3, .int .i64 y4] 27)) := below_box2 (Below.refl _ _)
          replace M6 := (M6.below b3).below bV
          replace M7 := (M7.below b3).below bV
          replace d1 := (d1.trans (b3.mono d1.size)).trans (bV.mono (Nat.le_trans d1.size b3.size))
          clear b3 bV hR IG SG
          go_upto_region 6 with fail
          generalize (w3.alloc (.cells #[.int .i64 x0, .int .i64 x1, .int .i64 x2, .int .i64 x3, .int .i64 x4] 27)).alloc (.cells #[.int .i64 y0, .int .i64 y1, .int .i64 y2, .int .i64 y3, .int .i64 y4] 27) = wB at *
          generalize w3.heap.size = q9 at *
          have ca0 := M6.2.1 0 _ rfl
          have ca1 := M6.2.1 1 _ rfl
          have ca2 := M6.2.1 2 _ rfl
          have ca3 := M6.2.1 3 _ rfl
          have ca4 := M6.2.1 4 _ rfl
          have cb0 := M7.2.1 0 _ rfl
          have cb1 := M7.2.1 1 _ rfl
          have cb2 := M7.2.1 2 _ rfl
          have cb3 := M7.2.1 3 _ rfl
          have cb4 := M7.2.1 4 _ rfl
          have cc0 := M9.2.1 0 _ rfl
          have cc1 := M9.2.1 1 _ rfl
          have cc2 := M9.2.1 2 _ rfl
          have cc3 := M9.2.1 3 _ rfl
          have cc4 := M9.2.1 4 _ rfl
          have cd0 := M10.2.1 0 _ rfl
          have cd1 := M10.2.1 1 _ rfl
          have cd2 := M10.2.1 2 _ rfl
          have cd3 := M10.2.1 3 _ rfl
          have cd4 := M10.2.1 4 _ rfl
          go_wp2_with fail
          refine (sGx.out _).mono ?_
          rintro e w4 ⟨rfl, b4⟩
          replace M6 := M6.below b4
          replace M7 := M7.below b4
          replace d1 := d1.trans (b4.mono d1.size)
          clear b4 ca0 ca1 ca2 ca3 ca4 cb0 cb1 cb2 cb3 cb4 cc0 cc1 cc2 cc3 cc4 cd0 cd1 cd2 cd3 cd4
          have cb0 := M7.2.1 0 _ rfl
          have cb1 := M7.2.1 1 _ rfl
          have cb2 := M7.2.1 2 _ rfl
          have cb3 := M7.2.1 3 _ rfl
          have cb4 := M7.2.1 4 _ rfl
          go_wp2_with fail
          refine (sGy.out _).mono ?_
          rintro e w5 ⟨rfl, b5⟩
          replace M6 := M6.below b5
          replace M7 := M7.below b5
          replace d1 := d1.trans (b5.mono d1.size)
          clear b5 cb0 cb1 cb2 cb3 cb4
          have ca0 := M6.2.1 0 _ rfl
          have ca1 := M6.2.1 1 _ rfl
          have ca2 := M6.2.1 2 _ rfl
          have ca3 := M6.2.1 3 _ rfl
          have ca4 := M6.2.1 4 _ rfl
          have cb0 := M7.2.1 0 _ rfl
          have cb1 := M7.2.1 1 _ rfl
          have cb2 := M7.2.1 2 _ rfl
          have cb3 := M7.2.1 3 _ rfl
          have cb4 := M7.2.1 4 _ rfl
          have R4 := row4 w5 3
          have bL : Below w5.heap.size w5 (w5.alloc (.cells #[.int .i64 1, .int .i64 2, .int .i64 1, .int .i64 2] 3)) := below_box (Below.refl _ _)
          have d6 := d1.trans (bL.mono d1.size)
          go_wp2_with fail
          refine (I4.out _ _ _ R4).mono ?_
          rintro e w7 ⟨rfl, b7⟩
          have d7 := d6.trans (b7.mono d6.size)
          have NC := (Mut.new w7 #[.int .i64 4, .int .i64 pa1, .int .i64 pa2, .int .i64 pa3, .int .i64 1] 27).alloc (.cells #[.int .i64 4, .int .i64 sb1, .int .i64 sb2, .int .i64 sb3, .int .i64 1] 27)
          have ND : Mut ((w7.alloc (.cells #[.int .i64 4, .int .i64 pa1, .int .i64 pa2, .int .i64 pa3, .int .i64 1] 27)).alloc (.cells #[.int .i64 4, .int .i64 sb1, .int .i64 sb2, .int .i64 sb3, .int .i64 1] 27)) (w7.heap.size + 1) [.int .i64 4, .int .i64 sb1, .int .i64 sb2, .int .i64 sb3, .int .i64 1] := by
            simpa using Mut.new (w7.alloc (.cells #[.int .i64 4, .int .i64 pa1, .int .i64 pa2, .int .i64 pa3, .int .i64 1] 27)) #[.int .i64 4, .int .i64 sb1, .int .i64 sb2, .int .i64 sb3, .int .i64 1] 27
          have bZ : Below w7.heap.size w7 ((w7.alloc (.cells #[.int .i64 4, .int .i64 pa1, .int .i64 pa2, .int .i64 pa3, .int .i64 1] 27)).alloc (.cells #[.int .i64 4, .int .i64 sb1, .int .i64 sb2, .int .i64 sb3, .int .i64 1] 27)) := below_box2 (Below.refl _ _)
          have d8 := d7.trans (bZ.mono d7.size)
          go_upto_region 16 with fail
          generalize (w7.alloc (.cells #[.int .i64 4, .int .i64 pa1, .int .i64 pa2, .int .i64 pa3, .int .i64 1] 27)).alloc (.cells #[.int .i64 4, .int .i64 sb1, .int .i64 sb2, .int .i64 sb3, .int .i64 1] 27) = wZ at *
          generalize w7.heap.size = qz at *
          have k0 := NC.2.1 0 _ rfl
          have k4 := NC.2.1 4 _ rfl
          have l0 := ND.2.1 0 _ rfl
          have l4 := ND.2.1 4 _ rfl
          go_wp2_with fail
          go_ret
          exact ⟨rfl, d8⟩
        · skip
          have v' : (y0 == 4) = false := by simp [v]
          clear u v mx' my'
          go_wp2_with fail
          refine (IG.out _ hR).mono ?_
          rintro e w2 ⟨rfl, b2⟩
          have M6 := (Mut.new w2 #[.int .i64 x0, .int .i64 x1, .int .i64 x2, .int .i64 x3, .int .i64 x4] 27).alloc (.cells #[.int .i64 y0, .int .i64 y1, .int .i64 y2, .int .i64 y3, .int .i64 y4] 27)
          have M7 : Mut ((w2.alloc (.cells #[.int .i64 x0, .int .i64 x1, .int .i64 x2, .int .i64 x3, .int .i64 x4] 27)).alloc (.cells #[.int .i64 y0, .int .i64 y1, .int .i64 y2, .int .i64 y3, .int .i64 y4] 27)) (w2.heap.size + 1) [.int .i64 y0, .int .i64 y1, .int .i64 y2, .int .i64 y3, .int .i64 y4] := by
            simpa using Mut.new (w2.alloc (.cells #[.int .i64 x0, .int .i64 x1, .int .i64 x2, .int .i64 x3, .int .i64 x4] 27)) #[.int .i64 y0, .int .i64 y1, .int .i64 y2, .int .i64 y3, .int .i64 y4] 27
          have bW : Below w2.heap.size w2 ((w2.alloc (.cells #[.int .i64 x0, .int .i64 x1, .int .i64 x2, .int .i64 x3, .int .i64 x4] 27)).alloc (.cells #[.int .i64 y0, .int .i64 y1, .int .i64 y2, .int .i64 y3, .int .i64 y4] 27)) := below_box2 (Below.refl _ _)
          replace hR := (hR.below b2).below bW
          replace d1 := (d1.trans (b2.mono d1.size)).trans (bW.mono (Nat.le_trans d1.size b2.size))
          clear b2 bW
          go_upto_region 5 with fail
          generalize (w2.alloc (.cells #[.int .i64 x0, .int .i64 x1, .int .i64 x2, .int .i64 x3, .int .i64 x4] 27)).alloc (.cells #[.int .i64 y0, .int .i64 y1, .int .i64 y2, .int .i64 y3, .int .i64 y4] 27) = wA at *
          generalize w2.heap.size = q6 at *
          go_wp2_with fail
          refine (SG.out _ hR).mono ?_
          rintro e w3 ⟨rfl, b3⟩
          have M9 := (Mut.new w3 #[.int .i64 x0, .int .i64 x1, .int .i64 x2, .int .i64 x3, .int .i64 x4] 27).alloc (.cells #[.int .i64 y0, .int .i64 y1, .int .i64 y2, .int .i64 y3, .int .i64 y4] 27)
          have M10 : Mut ((w3.alloc (.cells #[.int .i64 x0, .int .i64 x1, .int .i64 x2, .int .i64 x3, .int .i64 x4] 27)).alloc (.cells #[.int .i64 y0, .int .i64 y1, .int .i64 y2, .int .i64 y3, .int .i64 y4] 27)) (w3.heap.size + 1) [.int .i64 y0, .int .i64 y1, .int .i64 y2, .int .i64 y3, .int .i64 y4] := by
            simpa using Mut.new (w3.alloc (.cells #[.int .i64 x0, .int .i64 x1, .int .i64 x2, .int .i64 x3, .int .i64 x4] 27)) #[.int .i64 y0, .int .i64 y1, .int .i64 y2, .int .i64 y3, .int .i64 y4] 27
          have bV : Below w3.heap.size w3 ((w3.alloc (.cells #[.int .i64 x0, .int .i64 x1, .int .i64 x2, .int .i64 x3, .int .i64 x4] 27)).alloc (.cells #[.int .i64 y0, .int .i64 y1, .int .i64 y2, .int .i64 y3, .int .i64 y4] 27)) := below_box2 (Below.refl _ _)
          replace M6 := (M6.below b3).below bV
          replace M7 := (M7.below b3).below bV
          replace d1 := (d1.trans (b3.mono d1.size)).trans (bV.mono (Nat.le_trans d1.size b3.size))
          clear b3 bV hR IG SG
          go_upto_region 6 with fail
          generalize (w3.alloc (.cells #[.int .i64 x0, .int .i64 x1, .int .i64 x2, .int .i64 x3, .int .i64 x4] 27)).alloc (.cells #[.int .i64 y0, .int .i64 y1, .int .i64 y2, .int .i64 y3, .int .i64 y4] 27) = wB at *
          generalize w3.heap.size = q9 at *
          have ca0 := M6.2.1 0 _ rfl
          have ca1 := M6.2.1 1 _ rfl
          have ca2 := M6.2.1 2 _ rfl
          have ca3 := M6.2.1 3 _ rfl
          have ca4 := M6.2.1 4 _ rfl
          have cb0 := M7.2.1 0 _ rfl
          have cb1 := M7.2.1 1 _ rfl
          have cb2 := M7.2.1 2 _ rfl
          have cb3 := M7.2.1 3 _ rfl
          have cb4 := M7.2.1 4 _ rfl
          have cc0 := M9.2.1 0 _ rfl
          have cc1 := M9.2.1 1 _ rfl
          have cc2 := M9.2.1 2 _ rfl
          have cc3 := M9.2.1 3 _ rfl
          have cc4 := M9.2.1 4 _ rfl
          have cd0 := M10.2.1 0 _ rfl
          have cd1 := M10.2.1 1 _ rfl
          have cd2 := M10.2.1 2 _ rfl
          have cd3 := M10.2.1 3 _ rfl
          have cd4 := M10.2.1 4 _ rfl
          go_wp2_with fail
          refine (sGx.out _).mono ?_
          rintro e w4 ⟨rfl, b4⟩
          replace M6 := M6.below b4
          replace M7 := M7.below b4
          replace d1 := d1.trans (b4.mono d1.size)
          clear b4 ca0 ca1 ca2 ca3 ca4 cb0 cb1 cb2 cb3 cb4 cc0 cc1 cc2 cc3 cc4 cd0 cd1 cd2 cd3 cd4
          have cb0 := M7.2.1 0 _ rfl
          have cb1 := M7.2.1 1 _ rfl
          have cb2 := M7.2.1 2 _ rfl
          have cb3 := M7.2.1 3 _ rfl
          have cb4 := M7.2.1 4 _ rfl
          go_wp2_with fail
          refine (sGy.out _).mono ?_
          rintro e w5 ⟨rfl, b5⟩
          replace M6 := M6.below b5
          replace M7 := M7.below b5
          replace d1 := d1.trans (b5.mono d1.size)
          clear b5 cb0 cb1 cb2 cb3 cb4
          have ca0 := M6.2.1 0 _ rfl
          have ca1 := M6.2.1 1 _ rfl
          have ca2 := M6.2.1 2 _ rfl
          have ca3 := M6.2.1 3 _ rfl
          have ca4 := M6.2.1 4 _ rfl
          have cb0 := M7.2.1 0 _ rfl
          have cb1 := M7.2.1 1 _ rfl
          have cb2 := M7.2.1 2 _ rfl
          have cb3 := M7.2.1 3 _ rfl
          have cb4 := M7.2.1 4 _ rfl
          have R4 := row4 w5 3
          have bL : Below w5.heap.size w5 (w5.alloc (.cells #[.int .i64 1, .int .i64 2, .int .i64 1, .int .i64 2] 3)) := below_box (Below.refl _ _)
          have d6 := d1.trans (bL.mono d1.size)
          go_wp2_with fail
          refine (I4.out _ _ _ R4).mono ?_
          rintro e w7 ⟨rfl, b7⟩
          have d7 := d6.trans (b7.mono d6.size)
          have NC := (Mut.new w7 #[.int .i64 4, .int .i64 pa1, .int .i64 pa2, .int .i64 pa3, .int .i64 1] 27).alloc (.cells #[.int .i64 4, .int .i64 sb1, .int .i64 sb2, .int .i64 sb3, .int .i64 1] 27)
          have ND : Mut ((w7.alloc (.cells #[.int .i64 4, .int .i64 pa1, .int .i64 pa2, .int .i64 pa3, .int .i64 1] 27)).alloc (.cells #[.int .i64 4, .int .i64 sb1, .int .i64 sb2, .int .i64 sb3, .int .i64 1] 27)) (w7.heap.size + 1) [.int .i64 4, .int .i64 sb1, .int .i64 sb2, .int .i64 sb3, .int .i64 1] := by
            simpa using Mut.new (w7.alloc (.cells #[.int .i64 4, .int .i64 pa1, .int .i64 pa2, .int .i64 pa3, .int .i64 1] 27)) #[.int .i64 4, .int .i64 sb1, .int .i64 sb2, .int .i64 sb3, .int .i64 1] 27
          have bZ : Below w7.heap.size w7 ((w7.alloc (.cells #[.int .i64 4, .int .i64 pa1, .int .i64 pa2, .int .i64 pa3, .int .i64 1] 27)).alloc (.cells #[.int .i64 4, .int .i64 sb1, .int .i64 sb2, .int .i64 sb3, .int .i64 1] 27)) := below_box2 (Below.refl _ _)
          have d8 := d7.trans (bZ.mono d7.size)
          go_upto_region 16 with fail
          generalize (w7.alloc (.cells #[.int .i64 4, .int .i64 pa1, .int .i64 pa2, .int .i64 pa3, .int .i64 1] 27)).alloc (.cells #[.int .i64 4, .int .i64 sb1, .int .i64 sb2, .int .i64 sb3, .int .i64 1] 27) = wZ at *
          generalize w7.heap.size = qz at *
          have k0 := NC.2.1 0 _ rfl
          have k4 := NC.2.1 4 _ rfl
          have l0 := ND.2.1 0 _ rfl
          have l4 := ND.2.1 4 _ rfl
          go_wp2_with fail
          go_ret
          exact ⟨rfl, d8⟩
  · rw [(pq_f hOk).1, (pq_f hOk).2.1, (pq_f hOk).2.2] at IG SG
    clear hOk
    go_wp2_with fail
    refine (IG.out _ hR).mono ?_
    rintro e w2 ⟨rfl, b2⟩
    have M6 := (Mut.new w2 #[.int .i64 0, .int .i64 0, .int .i64 0, .int .i64 0, .int .i64 0] 27).alloc (.cells #[.int .i64 0, .int .i64 0, .int .i64 0, .int .i64 0, .int .i64 0] 27)
    have M7 : Mut ((w2.alloc (.cells #[.int .i64 0, .int .i64 0, .int .i64 0, .int .i64 0, .int .i64 0] 27)).alloc (.cells #[.int .i64 0, .int .i64 0, .int .i64 0, .int .i64 0, .int .i64 0] 27)) (w2.heap.size + 1) [.int .i64 0, .int .i64 0, .int .i64 0, .int .i64 0, .int .i64 0] := by
      simpa using Mut.new (w2.alloc (.cells #[.int .i64 0, .int .i64 0, .int .i64 0, .int .i64 0, .int .i64 0] 27)) #[.int .i64 0, .int .i64 0, .int .i64 0, .int .i64 0, .int .i64 0] 27
    have bW : Below w2.heap.size w2 ((w2.alloc (.cells #[.int .i64 0, .int .i64 0, .int .i64 0, .int .i64 0, .int .i64 0] 27)).alloc (.cells #[.int .i64 0, .int .i64 0, .int .i64 0, .int .i64 0, .int .i64 0] 27)) := below_box2 (Below.refl _ _)
    replace hR := (hR.below b2).below bW
    replace d1 := (d1.trans (b2.mono d1.size)).trans (bW.mono (Nat.le_trans d1.size b2.size))
    clear b2 bW
    go_upto_region 5 with fail
    generalize (w2.alloc (.cells #[.int .i64 0, .int .i64 0, .int .i64 0, .int .i64 0, .int .i64 0] 27)).alloc (.cells #[.int .i64 0, .int .i64 0, .int .i64 0, .int .i64 0, .int .i64 0] 27) = wA at *
    generalize w2.heap.size = q6 at *
    go_wp2_with fail
    refine (SG.out _ hR).mono ?_
    rintro e w3 ⟨rfl, b3⟩
    have M9 := (Mut.new w3 #[.int .i64 0, .int .i64 0, .int .i64 0, .int .i64 0, .int .i64 0] 27).alloc (.cells #[.int .i64 0, .int .i64 0, .int .i64 0, .int .i64 0, .int .i64 0] 27)
    have M10 : Mut ((w3.alloc (.cells #[.int .i64 0, .int .i64 0, .int .i64 0, .int .i64 0, .int .i64 0] 27)).alloc (.cells #[.int .i64 0, .int .i64 0, .int .i64 0, .int .i64 0, .int .i64 0] 27)) (w3.heap.size + 1) [.int .i64 0, .int .i64 0, .int .i64 0, .int .i64 0, .int .i64 0] := by
      simpa using Mut.new (w3.alloc (.cells #[.int .i64 0, .int .i64 0, .int .i64 0, .int .i64 0, .int .i64 0] 27)) #[.int .i64 0, .int .i64 0, .int .i64 0, .int .i64 0, .int .i64 0] 27
    have bV : Below w3.heap.size w3 ((w3.alloc (.cells #[.int .i64 0, .int .i64 0, .int .i64 0, .int .i64 0, .int .i64 0] 27)).alloc (.cells #[.int .i64 0, .int .i64 0, .int .i64 0, .int .i64 0, .int .i64 0] 27)) := below_box2 (Below.refl _ _)
    replace M6 := (M6.below b3).below bV
    replace M7 := (M7.below b3).below bV
    replace d1 := (d1.trans (b3.mono d1.size)).trans (bV.mono (Nat.le_trans d1.size b3.size))
    clear b3 bV hR IG SG
    go_upto_region 6 with fail
    generalize (w3.alloc (.cells #[.int .i64 0, .int .i64 0, .int .i64 0, .int .i64 0, .int .i64 0] 27)).alloc (.cells #[.int .i64 0, .int .i64 0, .int .i64 0, .int .i64 0, .int .i64 0] 27) = wB at *
    generalize w3.heap.size = q9 at *
    have ca0 := M6.2.1 0 _ rfl
    have ca1 := M6.2.1 1 _ rfl
    have ca2 := M6.2.1 2 _ rfl
    have ca3 := M6.2.1 3 _ rfl
    have ca4 := M6.2.1 4 _ rfl
    have cb0 := M7.2.1 0 _ rfl
    have cb1 := M7.2.1 1 _ rfl
    have cb2 := M7.2.1 2 _ rfl
    have cb3 := M7.2.1 3 _ rfl
    have cb4 := M7.2.1 4 _ rfl
    have cc0 := M9.2.1 0 _ rfl
    have cc1 := M9.2.1 1 _ rfl
    have cc2 := M9.2.1 2 _ rfl
    have cc3 := M9.2.1 3 _ rfl
    have cc4 := M9.2.1 4 _ rfl
    have cd0 := M10.2.1 0 _ rfl
    have cd1 := M10.2.1 1 _ rfl
    have cd2 := M10.2.1 2 _ rfl
    have cd3 := M10.2.1 3 _ rfl
    have cd4 := M10.2.1 4 _ rfl
    go_wp2_with fail
    go_ret
    exact ⟨rfl, d1⟩
end Go.Proofs.Ytjfalfjadleegaa
