/- An update's bytes: what the specification's l4Update and UpdateBytes answer. -/
import Derived.Test.YtoeephmdklmpfaaS4w
import Derived.Deep.RegionHeld3
namespace Go.Proofs.Ytoeephmdklmpfaa
open Go.RowKit

theorem nlri_bd {n : Nat} {f0 f1 : Nat → Int} (h : nlriB n f0 f1 = true) : ∀ i, i < n → 0 ≤ f1 i ∧ f1 i ≤ 32 := by
  intro i hi
  unfold nlriB at h
  simp only [Bool.and_eq_true] at h
  have := nlri_good h.2 hi
  obtain ⟨⟨h1, h2⟩, _⟩ := goodB_iff.1 this
  exact ⟨h1, h2⟩
theorem upd_bd {gn : Nat} {f0 f1 : Nat → Int} {o nx md pf : Int} {n0 : Nat} {f : Nat → Int} {n1 : Nat} {g : Nat → Int} {cn : Nat} {h0 h1 : Nat → Int} (h : updB gn f0 f1 o nx md pf n0 f n1 g cn h0 h1 = true) :
    (∀ i, i < gn → 0 ≤ f1 i ∧ f1 i ≤ 32) ∧ (∀ i, i < cn → 0 ≤ h1 i ∧ h1 i ≤ 32) ∧ gn ≤ 10 ∧ cn ≤ 10 ∧ n0 ≤ 10 ∧ n1 ≤ 6 := by
  unfold updB at h
  simp only [Bool.and_eq_true] at h
  obtain ⟨⟨⟨⟨_, hg⟩, hc⟩, ha⟩, _⟩ := h
  refine ⟨nlri_bd hg, nlri_bd hc, ?_, ?_, ?_, ?_⟩
  · unfold nlriB at hg; simp only [Bool.and_eq_true, decide_eq_true_eq] at hg; exact hg.1
  · unfold nlriB at hc; simp only [Bool.and_eq_true, decide_eq_true_eq] at hc; exact hc.1
  · unfold attrB at ha; simp only [Bool.and_eq_true, decide_eq_true_eq] at ha; exact ha.1.1.1.2
  · unfold attrB at ha; simp only [Bool.and_eq_true, decide_eq_true_eq] at ha; exact ha.1.2
set_option maxRecDepth 100000 in
set_option maxHeartbeats 6400000 in
theorem s_updateB (ga : Option Addr) (gn gc : Nat) (f0 f1 : Nat → Int) (o nx md pf : Int) (a0 : Option Addr) (n0 c0 : Nat) (f : Nat → Int) (a1 : Option Addr) (n1 c1 : Nat) (g : Nat → Int) (ca : Option Addr) (cn cc : Nat) (h0 h1 : Nat → Int) (w : World) (lg : gn ≤ 1048576) (l0 : n0 ≤ 1048576) (l1 : n1 ≤ 1048576) (lc : cn ≤ 1048576) (RG : RowPrefix ga gn f0 f1 w) (R0 : RowInt a0 n0 f w) (R1 : RowInt a1 n1 g w) (RC : RowPrefix ca cn h0 h1 w) (bG : ∀ i, i < gn → 0 ≤ f1 i ∧ f1 i ≤ 32) (bC : ∀ i, i < cn → 0 ≤ h1 i ∧ h1 i ≤ 32) :
    Calls Try.prog 95 #[.agg #[.slice ga gn gc, .int .i64 o, .slice a0 n0 c0, .int .i64 nx, .int .i64 md, .int .i64 pf, .slice a1 n1 c1, .slice ca cn cc]] w fun e w' => e = .returned (.string (strOfNums (upb gn f0 f1 o nx md pf n0 f n1 g cn h0 h1))) ∧ Below w.heap.size w w' := by
  have M := Mut.new w #[.slice ga gn gc, .int .i64 o, .slice a0 n0 c0, .int .i64 nx, .int .i64 md, .int .i64 pf, .slice a1 n1 c1, .slice ca cn cc] 27
  have d : Below w.heap.size w (w.alloc (.cells #[.slice ga gn gc, .int .i64 o, .slice a0 n0 c0, .int .i64 nx, .int .i64 md, .int .i64 pf, .slice a1 n1 c1, .slice ca cn cc] 27)) := below_box (Below.refl _ _)
  have NG := hide (fun w R => s_nlri ga gn gc f0 f1 w lg bG R)
  have NC := hide (fun w R => s_nlri ca cn cc h0 h1 w lc bC R)
  have AT := hide (fun w R R' => s_attrsB o nx md pf a0 n0 c0 f a1 n1 c1 g w l0 l1 R R')
  have z1 : (strOfNums (nlb gn f0 f1)).size ≤ 5 * gn + 1 := by rw [strOfNums_size]; exact nlb_len bG
  have z2 : (strOfNums (atb o nx md pf n0 f n1 g)).size = 2 * n0 + 3 * n1 + 13 := by rw [strOfNums_size, atb_len]
  have z3 : (strOfNums (nlb cn h0 h1)).size ≤ 5 * cn + 1 := by rw [strOfNums_size]; exact nlb_len bC
  by_cases hz : cn = 0
  · have hS := hide (show strOfNums (upb gn f0 f1 o nx md pf n0 f n1 g cn h0 h1) = strOfNums (nlb gn f0 f1) by unfold upb; rw [if_pos hz])
    have hz' : ((cn : Int) == 0) = true := by simp; omega
    generalize strOfNums (upb gn f0 f1 o nx md pf n0 f n1 g cn h0 h1) = res at *
    generalize strOfNums (nlb gn f0 f1) = X1 at *
    clear NC AT z1 z2 z3 lg l0 l1 lc bG bC hz R0 R1 RC
    go_enter Try.func95, Try.ntmps95
    go_wp2_with fail
    generalize w.alloc (.cells #[.slice ga gn gc, .int .i64 o, .slice a0 n0 c0, .int .i64 nx, .int .i64 md, .int .i64 pf, .slice a1 n1 c1, .slice ca cn cc] 27) = w1 at *
    refine (NG.out _ (RG.below d)).mono ?_
    rintro e w2 ⟨rfl, b2⟩
    have M := M.below b2
    have d2 := d.trans (b2.mono d.size)
    have u7 := M.2.1 7 _ rfl
    go_wp2_with fail
    go_ret
    exact ⟨ret_str hS.out.symm, d2⟩
  · have hS := hide (show strOfNums (upb gn f0 f1 o nx md pf n0 f n1 g cn h0 h1) = strOfNums (nlb gn f0 f1) ++ strOfNums (atb o nx md pf n0 f n1 g) ++ strOfNums (nlb cn h0 h1) by unfold upb; rw [if_neg hz, str_app, str_app])
    have hz' : ((cn : Int) == 0) = false := by simp; omega
    generalize strOfNums (upb gn f0 f1 o nx md pf n0 f n1 g cn h0 h1) = res at *
    generalize strOfNums (nlb gn f0 f1) = X1 at *
    generalize strOfNums (atb o nx md pf n0 f n1 g) = X2 at *
    generalize strOfNums (nlb cn h0 h1) = X3 at *
    have y2 : (X1 ++ X2).size ≤ 5 * gn + 2 * n0 + 3 * n1 + 14 := by rw [ByteArray.size_append]; omega
    have k1 := fun w : World => run_string_add_sum (P := Try.prog) w X1 X2 (by omega)
    have k2 := fun w : World => run_string_add_sum (P := Try.prog) w (X1 ++ X2) X3 (by omega)
    clear y2 z1 z2 z3 lg l0 l1 lc bG bC hz
    go_enter Try.func95, Try.ntmps95
    go_wp2_with fail
    generalize w.alloc (.cells #[.slice ga gn gc, .int .i64 o, .slice a0 n0 c0, .int .i64 nx, .int .i64 md, .int .i64 pf, .slice a1 n1 c1, .slice ca cn cc] 27) = w1 at *
    refine (NG.out _ (RG.below d)).mono ?_
    rintro e w2 ⟨rfl, b2⟩
    have M := M.below b2
    have d2 := d.trans (b2.mono d.size)
    have R0 := R0.below d2
    have R1 := R1.below d2
    have RC := RC.below d2
    have hlt := M.1
    have u1 := M.2.1 1 _ rfl
    have u2 := M.2.1 2 _ rfl
    have u3 := M.2.1 3 _ rfl
    have u4 := M.2.1 4 _ rfl
    have u5 := M.2.1 5 _ rfl
    have u6 := M.2.1 6 _ rfl
    have u7 := M.2.1 7 _ rfl
    go_wp2_with fail
    have dA : Below w2.heap.size w2 w2 := Below.refl _ _
    go_region_held3 (fun w' => w'.cell? ⟨w.heap.size, 1, none⟩ = some (.int .i64 o) ∧ w'.cell? ⟨w.heap.size, 2, none⟩ = some (.slice a0 n0 c0) ∧ w'.cell? ⟨w.heap.size, 3, none⟩ = some (.int .i64 nx) ∧ w'.cell? ⟨w.heap.size, 4, none⟩ = some (.int .i64 md) ∧ w'.cell? ⟨w.heap.size, 5, none⟩ = some (.int .i64 pf) ∧ w'.cell? ⟨w.heap.size, 6, none⟩ = some (.slice a1 n1 c1) ∧ w'.cell? ⟨w.heap.size, 7, none⟩ = some (.slice ca cn cc)) (first | go_keep | exact ⟨(dA.cell (p := ⟨w.heap.size, 1, none⟩) hlt).trans u1, (dA.cell (p := ⟨w.heap.size, 2, none⟩) hlt).trans u2, (dA.cell (p := ⟨w.heap.size, 3, none⟩) hlt).trans u3, (dA.cell (p := ⟨w.heap.size, 4, none⟩) hlt).trans u4, (dA.cell (p := ⟨w.heap.size, 5, none⟩) hlt).trans u5, (dA.cell (p := ⟨w.heap.size, 6, none⟩) hlt).trans u6, (dA.cell (p := ⟨w.heap.size, 7, none⟩) hlt).trans u7⟩ | exact ⟨(dA.drew.cell (p := ⟨w.heap.size, 1, none⟩) hlt).trans u1, (dA.drew.cell (p := ⟨w.heap.size, 2, none⟩) hlt).trans u2, (dA.drew.cell (p := ⟨w.heap.size, 3, none⟩) hlt).trans u3, (dA.drew.cell (p := ⟨w.heap.size, 4, none⟩) hlt).trans u4, (dA.drew.cell (p := ⟨w.heap.size, 5, none⟩) hlt).trans u5, (dA.drew.cell (p := ⟨w.heap.size, 6, none⟩) hlt).trans u6, (dA.drew.cell (p := ⟨w.heap.size, 7, none⟩) hlt).trans u7⟩) ((first | (go_at_call 127; refine (AT.out _ (R0.below (by first | exact dA | exact dA.drew)) (R1.below (by first | exact dA | exact dA.drew))).mono ?_; rintro e wA ⟨rfl, bA⟩; have dA : Below w2.heap.size w2 wA := (by first | exact below_step dA bA | exact below_step dA.drew bA)) | (go_at_call 126; refine (NC.out _ (RC.below (by first | exact dA | exact dA.drew))).mono ?_; rintro e wA ⟨rfl, bA⟩; have dA : Below w2.heap.size w2 wA := (by first | exact below_step dA bA | exact below_step dA.drew bA))))
    all_goals
      have dF := d2.trans (dA.mono d2.size)
      go_wp2_with fail
      go_ret
      exact ⟨ret_str hS.out.symm, dF⟩
set_option maxRecDepth 100000 in
set_option maxHeartbeats 3200000 in
theorem s_updateBytes (ga : Option Addr) (gn gc : Nat) (f0 f1 : Nat → Int) (o nx md pf : Int) (a0 : Option Addr) (n0 c0 : Nat) (f : Nat → Int) (a1 : Option Addr) (n1 c1 : Nat) (g : Nat → Int) (ca : Option Addr) (cn cc : Nat) (h0 h1 : Nat → Int) (w : World) (lg : gn ≤ 1048576) (l0 : n0 ≤ 1048576) (l1 : n1 ≤ 1048576) (lc : cn ≤ 1048576) (RG : RowPrefix ga gn f0 f1 w) (R0 : RowInt a0 n0 f w) (R1 : RowInt a1 n1 g w) (RC : RowPrefix ca cn h0 h1 w) :
    Calls Try.prog 59 #[.agg #[.slice ga gn gc, .int .i64 o, .slice a0 n0 c0, .int .i64 nx, .int .i64 md, .int .i64 pf, .slice a1 n1 c1, .slice ca cn cc]] w fun e w' => e = .returned (.tuple #[.string (if updB gn f0 f1 o nx md pf n0 f n1 g cn h0 h1 then strOfNums (upb gn f0 f1 o nx md pf n0 f n1 g cn h0 h1) else ByteArray.empty), .bool (updB gn f0 f1 o nx md pf n0 f n1 g cn h0 h1)]) ∧ Below w.heap.size w w' := by
  have M := Mut.new w #[.slice ga gn gc, .int .i64 o, .slice a0 n0 c0, .int .i64 nx, .int .i64 md, .int .i64 pf, .slice a1 n1 c1, .slice ca cn cc] 27
  have d : Below w.heap.size w (w.alloc (.cells #[.slice ga gn gc, .int .i64 o, .slice a0 n0 c0, .int .i64 nx, .int .i64 md, .int .i64 pf, .slice a1 n1 c1, .slice ca cn cc] 27)) := below_box (Below.refl _ _)
  have s1 := hide (fun w RG R0 R1 RC => s_goodUpdate ga gn gc f0 f1 o nx md pf a0 n0 c0 f a1 n1 c1 g ca cn cc h0 h1 w lg l0 l1 lc RG R0 R1 RC)
  cases hg : updB gn f0 f1 o nx md pf n0 f n1 g cn h0 h1 with
  | true =>
    rw [hg] at s1
    rw [if_pos rfl]
    obtain ⟨bG, bC, _⟩ := upd_bd hg
    have s2 := hide (fun w RG R0 R1 RC => s_updateB ga gn gc f0 f1 o nx md pf a0 n0 c0 f a1 n1 c1 g ca cn cc h0 h1 w lg l0 l1 lc RG R0 R1 RC bG bC)
    clear hg bG bC lg l0 l1 lc
    generalize strOfNums (upb gn f0 f1 o nx md pf n0 f n1 g cn h0 h1) = X at *
    go_enter Try.func59, Try.ntmps59
    go_wp2_with fail
    generalize w.alloc (.cells #[.slice ga gn gc, .int .i64 o, .slice a0 n0 c0, .int .i64 nx, .int .i64 md, .int .i64 pf, .slice a1 n1 c1, .slice ca cn cc] 27) = w1 at *
    refine (s1.out _ (RG.below d) (R0.below d) (R1.below d) (RC.below d)).mono ?_
    rintro e w2 ⟨rfl, b2⟩
    have M := M.below b2
    have d2 := d.trans (b2.mono d.size)
    have u0 := M.2.1 0 _ rfl
    have u1 := M.2.1 1 _ rfl
    have u2 := M.2.1 2 _ rfl
    have u3 := M.2.1 3 _ rfl
    have u4 := M.2.1 4 _ rfl
    have u5 := M.2.1 5 _ rfl
    have u6 := M.2.1 6 _ rfl
    have u7 := M.2.1 7 _ rfl
    go_wp2_with fail
    refine (s2.out _ (RG.below d2) (R0.below d2) (R1.below d2) (RC.below d2)).mono ?_
    rintro e w3 ⟨rfl, b3⟩
    have d3 := d2.trans (b3.mono d2.size)
    go_wp2_with fail
    exact bodyPost_ret (v := .tuple #[.string X, .bool true]) (by simp [results, Try.results59, go_sem]) rfl ⟨rfl, d3⟩
  | false =>
    rw [hg] at s1
    rw [if_neg (by decide)]
    clear hg lg l0 l1 lc
    go_enter Try.func59, Try.ntmps59
    go_wp2_with fail
    refine (s1.out _ (RG.below d) (R0.below d) (R1.below d) (RC.below d)).mono ?_
    rintro e w2 ⟨rfl, b2⟩
    have d2 := d.trans (b2.mono d.size)
    go_wp2_with fail
    exact bodyPost_ret (v := .tuple #[.string ByteArray.empty, .bool false]) (by simp [results, Try.results59, go_sem] <;> rfl) rfl ⟨rfl, d2⟩
end Go.Proofs.Ytoeephmdklmpfaa
