/- An update's bytes: what the program's attrsBytes and UpdateBytes answer. -/
import Derived.Test.YtoeephmdklmpfaaI4w
import Derived.Test.YtoeephmdklmpfaaI4v
import Derived.Test.YtoeephmdklmpfaaMut4
import Derived.Deep.RegionHeld3
namespace Go.Proofs.Ytoeephmdklmpfaa
open Go.RowKit

def catL (X : List (Value × List Int)) : List Int := X.flatMap (·.2)
theorem cat_eq (X : List (Value × List Int)) (k : Nat) (h : k ≤ X.length) : catTo (fun i => (X.getD i (.slice none 0 0, [])).2) k = catL (X.take k) := by
  induction k with
  | zero => simp [catTo, catL]
  | succ k ih =>
    have hk : k < X.length := by omega
    show catTo _ k ++ _ = _
    rw [ih (by omega)]
    unfold catL
    rw [List.take_add_one, List.flatMap_append, List.getElem?_eq_getElem hk]
    simp [List.getD_eq_getElem?_getD, List.getElem?_eq_getElem hk]
theorem i_concatL (gb n c : Nat) (X : List (Value × List Int)) (w : World) (hX : X.length = n) (hn : n ≤ 6) (M : Mut w gb (X.map (·.1))) (hH : ∀ x ∈ X, HoldB x.1 x.2 w) (h0 : 0 < (catL X).length) (h1 : (catL X).length ≤ 1048576) :
    Calls Try.prog 93 #[.slice (some ⟨gb, 0, none⟩) n c] w fun e w' => ∃ v, e = .returned v ∧ OwnN 5 .u8 w.heap.size v (catL X) w' ∧ Below w.heap.size w w' := by
  have e := cat_eq X n (by omega)
  rw [List.take_of_length_le (by omega)] at e
  rw [← e] at h0 h1 ⊢
  refine i_concat gb n c (fun i => (X.getD i (.slice none 0 0, [])).1) _ w hn M.1 (fun i hi => ?_) (fun i hi => ?_) h0 h1
  · have hi' : i < X.length := by omega
    refine M.2.1 i _ ?_
    rw [List.getElem?_map, List.getElem?_eq_getElem hi']
    simp [List.getD_eq_getElem?_getD, List.getElem?_eq_getElem hi']
  · have hi' : i < X.length := by omega
    have := hH X[i] (List.getElem_mem hi')
    simpa [List.getD_eq_getElem?_getD, List.getElem?_eq_getElem hi'] using this
set_option maxRecDepth 100000 in
set_option maxHeartbeats 6400000 in
theorem i_attrsB (o nx md pf : Int) (a0 : Option Addr) (n0 c0 : Nat) (f : Nat → Int) (a1 : Option Addr) (n1 c1 : Nat) (g : Nat → Int) (w : World) (h0 : n0 ≤ 10) (h1 : n1 ≤ 10) (R0 : RowInt a0 n0 f w) (R1 : RowInt a1 n1 g w) :
    Calls Try.prog 94 #[.agg #[.int .i64 o, .slice a0 n0 c0, .int .i64 nx, .int .i64 md, .int .i64 pf, .slice a1 n1 c1]] w fun e w' => ∃ v, e = .returned v ∧ OwnN 5 .u8 w.heap.size v (atb o nx md pf n0 f n1 g) w' ∧ Below w.heap.size w w' := by
  have M := Mut.new w #[.int .i64 o, .slice a0 n0 c0, .int .i64 nx, .int .i64 md, .int .i64 pf, .slice a1 n1 c1] 25
  have d : Below w.heap.size w (w.alloc (.cells #[.int .i64 o, .slice a0 n0 c0, .int .i64 nx, .int .i64 md, .int .i64 pf, .slice a1 n1 c1] 25)) := below_box (Below.refl _ _)
  have T1 := hide (fun (x y : Value) (w : World) (hx : x = .int .i64 o) (hy : y = .int .i64 1) => (by subst hx hy; exact i_numberH o 1 w (by omega) (by omega) : Calls Try.prog 124 #[x, y] w fun e w' => ∃ v, e = .returned v ∧ HoldB v (be o 1) w' ∧ Below w.heap.size w w'))
  have T3 := hide (fun (x y : Value) (w : World) (hx : x = .int .i64 nx) (hy : y = .int .i64 4) => (by subst hx hy; exact i_numberH nx 4 w (by omega) (by omega) : Calls Try.prog 124 #[x, y] w fun e w' => ∃ v, e = .returned v ∧ HoldB v (be nx 4) w' ∧ Below w.heap.size w w'))
  have T4 := hide (fun (x y : Value) (w : World) (hx : x = .int .i64 md) (hy : y = .int .i64 3) => (by subst hx hy; exact i_numberH md 3 w (by omega) (by omega) : Calls Try.prog 124 #[x, y] w fun e w' => ∃ v, e = .returned v ∧ HoldB v (be md 3) w' ∧ Below w.heap.size w w'))
  have T5 := hide (fun (x y : Value) (w : World) (hx : x = .int .i64 pf) (hy : y = .int .i64 3) => (by subst hx hy; exact i_numberH pf 3 w (by omega) (by omega) : Calls Try.prog 124 #[x, y] w fun e w' => ∃ v, e = .returned v ∧ HoldB v (be pf 3) w' ∧ Below w.heap.size w w'))
  have T2 := hide (fun (x y : Value) (w : World) (hx : x = .slice a0 n0 c0) (hy : y = .int .i64 2) (R : RowInt a0 n0 f w) => (by
    subst hx hy
    refine (i_numbersB a0 n0 c0 f 2 w h0 (by omega) R).mono ?_
    rintro e w' ⟨v, rfl, hO, hb⟩
    exact ⟨v, rfl, HoldB.own hO, hb⟩ : Calls Try.prog 125 #[x, y] w fun e w' => ∃ v, e = .returned v ∧ HoldB v (nmb 2 n0 f) w' ∧ Below w.heap.size w w'))
  have T6 := hide (fun (x y : Value) (w : World) (hx : x = .slice a1 n1 c1) (hy : y = .int .i64 3) (R : RowInt a1 n1 g w) => (by
    subst hx hy
    refine (i_numbersB a1 n1 c1 g 3 w h1 (by omega) R).mono ?_
    rintro e w' ⟨v, rfl, hO, hb⟩
    exact ⟨v, rfl, HoldB.own hO, hb⟩ : Calls Try.prog 125 #[x, y] w fun e w' => ∃ v, e = .returned v ∧ HoldB v (nmb 3 n1 g) w' ∧ Below w.heap.size w w'))
  have hlen : Hid ((be o 1 ++ (nmb 2 n0 f ++ (be nx 4 ++ (be md 3 ++ (be pf 3 ++ nmb 3 n1 g))))).length = 2 * n0 + 3 * n1 + 13) := by
    show (be o 1 ++ (nmb 2 n0 f ++ (be nx 4 ++ (be md 3 ++ (be pf 3 ++ nmb 3 n1 g))))).length = 2 * n0 + 3 * n1 + 13
    simp only [List.length_append, be_len, nmb_len]
    omega
  have hat : Hid (atb o nx md pf n0 f n1 g = be o 1 ++ (nmb 2 n0 f ++ (be nx 4 ++ (be md 3 ++ (be pf 3 ++ nmb 3 n1 g))))) := by
    show atb o nx md pf n0 f n1 g = _
    unfold atb
    simp only [List.append_assoc]
  generalize hL1 : be o 1 = L1 at *
  clear hL1
  generalize hL2 : nmb 2 n0 f = L2 at *
  clear hL2
  generalize hL3 : be nx 4 = L3 at *
  clear hL3
  generalize hL4 : be md 3 = L4 at *
  clear hL4
  generalize hL5 : be pf 3 = L5 at *
  clear hL5
  generalize hL6 : nmb 3 n1 g = L6 at *
  clear hL6
  go_enter Try.func94, Try.ntmps94
  go_wp2_with fail
  generalize w.alloc (.cells #[.int .i64 o, .slice a0 n0 c0, .int .i64 nx, .int .i64 md, .int .i64 pf, .slice a1 n1 c1] 25) = w1 at *
  have R0 := R0.below d
  have R1 := R1.below d
  have hlt := M.1
  have u0 := M.2.1 0 _ rfl
  have u1 := M.2.1 1 _ rfl
  have u2 := M.2.1 2 _ rfl
  have u3 := M.2.1 3 _ rfl
  have u4 := M.2.1 4 _ rfl
  have u5 := M.2.1 5 _ rfl
  clear M
  have dA : Below w1.heap.size w1 w1 := Below.refl _ _
  go_region_held3 (fun w' => w'.cell? ⟨w.heap.size, 0, none⟩ = some (.int .i64 o) ∧ w'.cell? ⟨w.heap.size, 1, none⟩ = some (.slice a0 n0 c0) ∧ w'.cell? ⟨w.heap.size, 2, none⟩ = some (.int .i64 nx) ∧ w'.cell? ⟨w.heap.size, 3, none⟩ = some (.int .i64 md) ∧ w'.cell? ⟨w.heap.size, 4, none⟩ = some (.int .i64 pf) ∧ w'.cell? ⟨w.heap.size, 5, none⟩ = some (.slice a1 n1 c1)) (first | go_keep | exact ⟨(dC.cell (p := ⟨w.heap.size, 0, none⟩) hlt).trans u0, (dC.cell (p := ⟨w.heap.size, 1, none⟩) hlt).trans u1, (dC.cell (p := ⟨w.heap.size, 2, none⟩) hlt).trans u2, (dC.cell (p := ⟨w.heap.size, 3, none⟩) hlt).trans u3, (dC.cell (p := ⟨w.heap.size, 4, none⟩) hlt).trans u4, (dC.cell (p := ⟨w.heap.size, 5, none⟩) hlt).trans u5⟩ | exact ⟨(dA.cell (p := ⟨w.heap.size, 0, none⟩) hlt).trans u0, (dA.cell (p := ⟨w.heap.size, 1, none⟩) hlt).trans u1, (dA.cell (p := ⟨w.heap.size, 2, none⟩) hlt).trans u2, (dA.cell (p := ⟨w.heap.size, 3, none⟩) hlt).trans u3, (dA.cell (p := ⟨w.heap.size, 4, none⟩) hlt).trans u4, (dA.cell (p := ⟨w.heap.size, 5, none⟩) hlt).trans u5⟩ | exact ⟨(dA.drew.cell (p := ⟨w.heap.size, 0, none⟩) hlt).trans u0, (dA.drew.cell (p := ⟨w.heap.size, 1, none⟩) hlt).trans u1, (dA.drew.cell (p := ⟨w.heap.size, 2, none⟩) hlt).trans u2, (dA.drew.cell (p := ⟨w.heap.size, 3, none⟩) hlt).trans u3, (dA.drew.cell (p := ⟨w.heap.size, 4, none⟩) hlt).trans u4, (dA.drew.cell (p := ⟨w.heap.size, 5, none⟩) hlt).trans u5⟩) ((first | (go_at_call 124; refine (T1.out _ _ _ ?hx ?hy).mono ?_; (case hx => rfl); (case hy => rfl); rintro e wA1 ⟨_, rfl, ⟨b1, e1, rfl, H1⟩, bA⟩; have dA : Below w1.heap.size w1 wA1 := (by first | exact below_step dA bA | exact below_step dA.drew bA); clear bA) | (go_at_call 125; refine (T2.out _ _ _ ?hx ?hy ?hr).mono ?_; (case hx => rfl); (case hy => rfl); (case hr => exact (R0.below (by first | exact dA | exact dA.drew))); rintro e wA2 ⟨_, rfl, ⟨b2, e2, rfl, H2⟩, bA⟩; have H1 : SrcN .u8 b1 L1 e1 wA2 := (by first | exact H1.below bA | exact H1.below ((Below.refl _ _).drew.trans bA)); have dA : Below w1.heap.size w1 wA2 := (by first | exact below_step dA bA | exact below_step dA.drew bA); clear bA) | (go_at_call 124; refine (T3.out _ _ _ ?hx ?hy).mono ?_; (case hx => rfl); (case hy => rfl); rintro e wA3 ⟨_, rfl, ⟨b3, e3, rfl, H3⟩, bA⟩; have H1 : SrcN .u8 b1 L1 e1 wA3 := (by first | exact H1.below bA | exact H1.below ((Below.refl _ _).drew.trans bA)); have H2 : SrcN .u8 b2 L2 e2 wA3 := (by first | exact H2.below bA | exact H2.below ((Below.refl _ _).drew.trans bA)); have dA : Below w1.heap.size w1 wA3 := (by first | exact below_step dA bA | exact below_step dA.drew bA); clear bA) | (go_at_call 124; refine (T4.out _ _ _ ?hx ?hy).mono ?_; (case hx => rfl); (case hy => rfl); rintro e wA4 ⟨_, rfl, ⟨b4, e4, rfl, H4⟩, bA⟩; have H1 : SrcN .u8 b1 L1 e1 wA4 := (by first | exact H1.below bA | exact H1.below ((Below.refl _ _).drew.trans bA)); have H2 : SrcN .u8 b2 L2 e2 wA4 := (by first | exact H2.below bA | exact H2.below ((Below.refl _ _).drew.trans bA)); have H3 : SrcN .u8 b3 L3 e3 wA4 := (by first | exact H3.below bA | exact H3.below ((Below.refl _ _).drew.trans bA)); have dA : Below w1.heap.size w1 wA4 := (by first | exact below_step dA bA | exact below_step dA.drew bA); clear bA) | (go_at_call 124; refine (T5.out _ _ _ ?hx ?hy).mono ?_; (case hx => rfl); (case hy => rfl); rintro e wA5 ⟨_, rfl, ⟨b5, e5, rfl, H5⟩, bA⟩; have H1 : SrcN .u8 b1 L1 e1 wA5 := (by first | exact H1.below bA | exact H1.below ((Below.refl _ _).drew.trans bA)); have H2 : SrcN .u8 b2 L2 e2 wA5 := (by first | exact H2.below bA | exact H2.below ((Below.refl _ _).drew.trans bA)); have H3 : SrcN .u8 b3 L3 e3 wA5 := (by first | exact H3.below bA | exact H3.below ((Below.refl _ _).drew.trans bA)); have H4 : SrcN .u8 b4 L4 e4 wA5 := (by first | exact H4.below bA | exact H4.below ((Below.refl _ _).drew.trans bA)); have dA : Below w1.heap.size w1 wA5 := (by first | exact below_step dA bA | exact below_step dA.drew bA); clear bA) | (go_at_call 125; refine (T6.out _ _ _ ?hx ?hy ?hr).mono ?_; (case hx => rfl); (case hy => rfl); (case hr => exact (R1.below (by first | exact dA | exact dA.drew))); rintro e wA6 ⟨_, rfl, ⟨b6, e6, rfl, H6⟩, bA⟩; have H1 : SrcN .u8 b1 L1 e1 wA6 := (by first | exact H1.below bA | exact H1.below ((Below.refl _ _).drew.trans bA)); have H2 : SrcN .u8 b2 L2 e2 wA6 := (by first | exact H2.below bA | exact H2.below ((Below.refl _ _).drew.trans bA)); have H3 : SrcN .u8 b3 L3 e3 wA6 := (by first | exact H3.below bA | exact H3.below ((Below.refl _ _).drew.trans bA)); have H4 : SrcN .u8 b4 L4 e4 wA6 := (by first | exact H4.below bA | exact H4.below ((Below.refl _ _).drew.trans bA)); have H5 : SrcN .u8 b5 L5 e5 wA6 := (by first | exact H5.below bA | exact H5.below ((Below.refl _ _).drew.trans bA)); have dA : Below w1.heap.size w1 wA6 := (by first | exact below_step dA bA | exact below_step dA.drew bA); clear bA) | (go_at_call 93; refine (i_concatL _ 6 _ [(.slice b1 L1.length e1, L1), (.slice b2 L2.length e2, L2), (.slice b3 L3.length e3, L3), (.slice b4 L4.length e4, L4), (.slice b5 L5.length e5, L5), (.slice b6 L6.length e6, L6)] _ rfl (by decide) (by first | exact Mut.new _ _ _ | exact (Mut.new _ _ _).drew) (by intro x hx; simp only [List.mem_cons, List.not_mem_nil, or_false] at hx; rcases hx with rfl | rfl | rfl | rfl | rfl | rfl <;> first | exact ⟨_, _, rfl, H1.below (below_box (Below.refl _ _))⟩ | exact ⟨_, _, rfl, H1.below (below_box (Below.refl _ _)).drew⟩ | exact ⟨_, _, rfl, H1.below ((Below.refl _ _).drew.trans (below_box (Below.refl _ _)))⟩ | exact ⟨_, _, rfl, H2.below (below_box (Below.refl _ _))⟩ | exact ⟨_, _, rfl, H2.below (below_box (Below.refl _ _)).drew⟩ | exact ⟨_, _, rfl, H2.below ((Below.refl _ _).drew.trans (below_box (Below.refl _ _)))⟩ | exact ⟨_, _, rfl, H3.below (below_box (Below.refl _ _))⟩ | exact ⟨_, _, rfl, H3.below (below_box (Below.refl _ _)).drew⟩ | exact ⟨_, _, rfl, H3.below ((Below.refl _ _).drew.trans (below_box (Below.refl _ _)))⟩ | exact ⟨_, _, rfl, H4.below (below_box (Below.refl _ _))⟩ | exact ⟨_, _, rfl, H4.below (below_box (Below.refl _ _)).drew⟩ | exact ⟨_, _, rfl, H4.below ((Below.refl _ _).drew.trans (below_box (Below.refl _ _)))⟩ | exact ⟨_, _, rfl, H5.below (below_box (Below.refl _ _))⟩ | exact ⟨_, _, rfl, H5.below (below_box (Below.refl _ _)).drew⟩ | exact ⟨_, _, rfl, H5.below ((Below.refl _ _).drew.trans (below_box (Below.refl _ _)))⟩ | exact ⟨_, _, rfl, H6.below (below_box (Below.refl _ _))⟩ | exact ⟨_, _, rfl, H6.below (below_box (Below.refl _ _)).drew⟩ | exact ⟨_, _, rfl, H6.below ((Below.refl _ _).drew.trans (below_box (Below.refl _ _)))⟩) (by simp only [catL, List.flatMap_cons, List.flatMap_nil, List.append_nil]; rw [hlen.out]; omega) (by simp only [catL, List.flatMap_cons, List.flatMap_nil, List.append_nil]; rw [hlen.out]; omega)).mono ?_; rintro e wC ⟨vC, rfl, hC, bC⟩; have dC : Below w1.heap.size w1 wC := (by first | exact below_step dA (below_box bC) | exact below_step dA ((Below.refl _ _).drew.trans (below_box bC)) | exact below_step dA (below_box ((Below.refl _ _).drew.trans bC))))))
  all_goals
    have hC : OwnN 5 .u8 w.heap.size vC (atb o nx md pf n0 f n1 g) wC := by
      rw [hat.out]
      have hC := ownN_base hC (base' := w.heap.size) (by have := dA.size; simp; omega)
      simpa only [catL, List.flatMap_cons, List.flatMap_nil, List.append_nil] using hC
    have dF := d.trans (dC.mono d.size)
    go_wp2_with fail
    exact bodyPost_ret (v := vC) (by simp [results, Try.results94, go_sem]) rfl ⟨_, rfl, hC, dF⟩
theorem nlb_ne (n : Nat) (f0 f1 : Nat → Int) : nlb n f0 f1 ≠ [] := by
  intro e
  have := congrArg List.length e
  unfold nlb at this
  rw [List.length_append, be_len] at this
  simp at this
set_option maxRecDepth 100000 in
set_option maxHeartbeats 6400000 in
theorem i_updateBytes (ga : Option Addr) (gn gc : Nat) (f0 f1 : Nat → Int) (o nx md pf : Int) (a0 : Option Addr) (n0 c0 : Nat) (f : Nat → Int) (a1 : Option Addr) (n1 c1 : Nat) (g : Nat → Int) (ca : Option Addr) (cn cc : Nat) (h0 h1 : Nat → Int) (w : World) (lg : gn ≤ 1048576) (l0 : n0 ≤ 1048576) (l1 : n1 ≤ 1048576) (lc : cn ≤ 1048576) (RG : RowPrefix ga gn f0 f1 w) (R0 : RowInt a0 n0 f w) (R1 : RowInt a1 n1 g w) (RC : RowPrefix ca cn h0 h1 w) :
    Calls Try.prog 58 #[.agg #[.slice ga gn gc, .int .i64 o, .slice a0 n0 c0, .int .i64 nx, .int .i64 md, .int .i64 pf, .slice a1 n1 c1, .slice ca cn cc]] w fun e w' => e = .returned (.tuple #[.string (if updB gn f0 f1 o nx md pf n0 f n1 g cn h0 h1 then strOfNums (upb gn f0 f1 o nx md pf n0 f n1 g cn h0 h1) else ByteArray.empty), .bool (updB gn f0 f1 o nx md pf n0 f n1 g cn h0 h1)]) ∧ Below w.heap.size w w' := by
  have M := Mut.new w #[.slice ga gn gc, .int .i64 o, .slice a0 n0 c0, .int .i64 nx, .int .i64 md, .int .i64 pf, .slice a1 n1 c1, .slice ca cn cc] 27
  have d : Below w.heap.size w (w.alloc (.cells #[.slice ga gn gc, .int .i64 o, .slice a0 n0 c0, .int .i64 nx, .int .i64 md, .int .i64 pf, .slice a1 n1 c1, .slice ca cn cc] 27)) := below_box (Below.refl _ _)
  have s1 := hide (fun w RG R0 R1 RC => i_goodUpdate ga gn gc f0 f1 o nx md pf a0 n0 c0 f a1 n1 c1 g ca cn cc h0 h1 w lg l0 l1 lc RG R0 R1 RC)
  cases hg : updB gn f0 f1 o nx md pf n0 f n1 g cn h0 h1 with
  | true =>
    rw [hg] at s1
    rw [if_pos rfl]
    obtain ⟨bG, bC, q1, q2, q3, q4⟩ := upd_bd hg
    have NG := hide (fun w R => i_nlriB ga gn gc f0 f1 w q1 bG R)
    have NC := hide (fun w R => i_nlriB ca cn cc h0 h1 w q2 bC R)
    have AT := hide (fun w R R' => i_attrsB o nx md pf a0 n0 c0 f a1 n1 c1 g w q3 (by omega) R R')
    have neG := nlb_ne gn f0 f1
    have zG := nlb_len (f0 := f0) bG
    have zC := nlb_len (f0 := h0) bC
    have zA := atb_len o nx md pf n0 f n1 g
    have hdef : Hid (upb gn f0 f1 o nx md pf n0 f n1 g cn h0 h1 = if cn = 0 then nlb gn f0 f1 else nlb gn f0 f1 ++ atb o nx md pf n0 f n1 g ++ nlb cn h0 h1) := rfl
    clear hg bG bC lg l0 l1 lc
    generalize upb gn f0 f1 o nx md pf n0 f n1 g cn h0 h1 = U at *
    generalize hLG : nlb gn f0 f1 = LG at *
    generalize hLA : atb o nx md pf n0 f n1 g = LA at *
    generalize hLC : nlb cn h0 h1 = LC at *
    clear hLG hLA hLC
    have hlen : Hid (0 < (LG ++ (LA ++ LC)).length ∧ (LG ++ (LA ++ LC)).length ≤ 1048576) := by
      show _ ∧ _
      simp only [List.length_append]
      omega
    by_cases hz : cn = 0
    · have hU : U = LG := by rw [hdef.out, if_pos hz]
      subst hU
      have hz' : ¬ ((cn : Int) > 0) := by omega
      clear hdef hz NC AT zG zC zA hlen q1 q2 q3 q4
      go_enter Try.func58, Try.ntmps58
      go_wp2_with fail
      generalize w.alloc (.cells #[.slice ga gn gc, .int .i64 o, .slice a0 n0 c0, .int .i64 nx, .int .i64 md, .int .i64 pf, .slice a1 n1 c1, .slice ca cn cc] 27) = w1 at *
      refine (s1.out _ (RG.below d) (R0.below d) (R1.below d) (RC.below d)).mono ?_
      rintro e w2 ⟨rfl, b2⟩
      have M := M.below b2
      have d2 := d.trans (b2.mono d.size)
      have u0 := M.2.1 0 _ rfl
      go_wp2_with fail
      refine (NG.out _ (RG.below d2)).mono ?_
      rintro e w3 ⟨v, rfl, hown, b3⟩
      have M := M.below b3
      have d3 := d2.trans (b3.mono d2.size)
      obtain ⟨gg, gcap, rfl, _, _⟩ := ownN_shape hown neG
      have u7 := M.2.1 7 _ rfl
      have hcv := run_convert_bytes_arg (P := Try.prog) w3 72 5 Try.underlying72 Try.underlying5 gg 0 U.length gcap U rfl (fun i hi => by rw [Nat.zero_add]; exact ownN_at hown hi) 9 Try.underlying9
      go_wp2_with fail
      exact bodyPost_ret (v := .tuple #[.string (strOfNums U), .bool true]) (by simp [results, Try.results58, go_sem]) rfl ⟨rfl, d3⟩
    · have hU : U = LG ++ (LA ++ LC) := by rw [hdef.out, if_neg hz, List.append_assoc]
      have hUh := hide hU
      clear hU
      have hz' : ((cn : Int) > 0) := by omega
      have neU : Hid (LG ++ (LA ++ LC) ≠ []) := by
        show LG ++ (LA ++ LC) ≠ []
        intro e
        exact neG (List.append_eq_nil_iff.1 e).1
      clear hdef hz zG zC zA q1 q2 q3 q4
      go_enter Try.func58, Try.ntmps58
      go_wp2_with fail
      generalize w.alloc (.cells #[.slice ga gn gc, .int .i64 o, .slice a0 n0 c0, .int .i64 nx, .int .i64 md, .int .i64 pf, .slice a1 n1 c1, .slice ca cn cc] 27) = w1 at *
      refine (s1.out _ (RG.below d) (R0.below d) (R1.below d) (RC.below d)).mono ?_
      rintro e w2 ⟨rfl, b2⟩
      have M := M.below b2
      have d2 := d.trans (b2.mono d.size)
      have u0 := M.2.1 0 _ rfl
      go_wp2_with fail
      refine (NG.out _ (RG.below d2)).mono ?_
      rintro e w3 ⟨v, rfl, hown, b3⟩
      have M := M.below b3
      have d3 := d2.trans (b3.mono d2.size)
      obtain ⟨b1, e1, rfl, H1⟩ := SrcN.own hown
      have R0 := R0.below d3
      have R1 := R1.below d3
      have RC := RC.below d3
      have hlt := M.1
      clear hown b3 b2 d2 d u0
      have u1 := M.2.1 1 _ rfl
      have u2 := M.2.1 2 _ rfl
      have u3 := M.2.1 3 _ rfl
      have u4 := M.2.1 4 _ rfl
      have u5 := M.2.1 5 _ rfl
      have u6 := M.2.1 6 _ rfl
      have u7 := M.2.1 7 _ rfl
      go_wp2_with fail
      have dA : Below w3.heap.size w3 w3 := Below.refl _ _
      go_region_held3 (fun w' => w'.cell? ⟨w.heap.size, 1, none⟩ = some (.int .i64 o) ∧ w'.cell? ⟨w.heap.size, 2, none⟩ = some (.slice a0 n0 c0) ∧ w'.cell? ⟨w.heap.size, 3, none⟩ = some (.int .i64 nx) ∧ w'.cell? ⟨w.heap.size, 4, none⟩ = some (.int .i64 md) ∧ w'.cell? ⟨w.heap.size, 5, none⟩ = some (.int .i64 pf) ∧ w'.cell? ⟨w.heap.size, 6, none⟩ = some (.slice a1 n1 c1) ∧ w'.cell? ⟨w.heap.size, 7, none⟩ = some (.slice ca cn cc)) (first | go_keep | exact ⟨(dC.cell (p := ⟨w.heap.size, 1, none⟩) hlt).trans u1, (dC.cell (p := ⟨w.heap.size, 2, none⟩) hlt).trans u2, (dC.cell (p := ⟨w.heap.size, 3, none⟩) hlt).trans u3, (dC.cell (p := ⟨w.heap.size, 4, none⟩) hlt).trans u4, (dC.cell (p := ⟨w.heap.size, 5, none⟩) hlt).trans u5, (dC.cell (p := ⟨w.heap.size, 6, none⟩) hlt).trans u6, (dC.cell (p := ⟨w.heap.size, 7, none⟩) hlt).trans u7⟩ | exact ⟨(dA.cell (p := ⟨w.heap.size, 1, none⟩) hlt).trans u1, (dA.cell (p := ⟨w.heap.size, 2, none⟩) hlt).trans u2, (dA.cell (p := ⟨w.heap.size, 3, none⟩) hlt).trans u3, (dA.cell (p := ⟨w.heap.size, 4, none⟩) hlt).trans u4, (dA.cell (p := ⟨w.heap.size, 5, none⟩) hlt).trans u5, (dA.cell (p := ⟨w.heap.size, 6, none⟩) hlt).trans u6, (dA.cell (p := ⟨w.heap.size, 7, none⟩) hlt).trans u7⟩ | exact ⟨(dA.drew.cell (p := ⟨w.heap.size, 1, none⟩) hlt).trans u1, (dA.drew.cell (p := ⟨w.heap.size, 2, none⟩) hlt).trans u2, (dA.drew.cell (p := ⟨w.heap.size, 3, none⟩) hlt).trans u3, (dA.drew.cell (p := ⟨w.heap.size, 4, none⟩) hlt).trans u4, (dA.drew.cell (p := ⟨w.heap.size, 5, none⟩) hlt).trans u5, (dA.drew.cell (p := ⟨w.heap.size, 6, none⟩) hlt).trans u6, (dA.drew.cell (p := ⟨w.heap.size, 7, none⟩) hlt).trans u7⟩) ((first | (go_at_call 94; refine (AT.out _ (R0.below (by first | exact dA | exact dA.drew)) (R1.below (by first | exact dA | exact dA.drew))).mono ?_; rintro e wA2 ⟨vv, rfl, hO, bA⟩; obtain ⟨b2, e2, rfl, H2⟩ := SrcN.own hO; have H1 : SrcN .u8 b1 LG e1 wA2 := (by first | exact H1.below bA | exact H1.below ((Below.refl _ _).drew.trans bA)); have dA : Below w3.heap.size w3 wA2 := (by first | exact below_step dA bA | exact below_step dA.drew bA); clear bA hO) | (go_at_call 92; refine (NC.out _ (RC.below (by first | exact dA | exact dA.drew))).mono ?_; rintro e wA3 ⟨vv, rfl, hO, bA⟩; obtain ⟨b3, e3, rfl, H3⟩ := SrcN.own hO; have H1 : SrcN .u8 b1 LG e1 wA3 := (by first | exact H1.below bA | exact H1.below ((Below.refl _ _).drew.trans bA)); have H2 : SrcN .u8 b2 LA e2 wA3 := (by first | exact H2.below bA | exact H2.below ((Below.refl _ _).drew.trans bA)); have dA : Below w3.heap.size w3 wA3 := (by first | exact below_step dA bA | exact below_step dA.drew bA); clear bA hO) | (go_at_call 93; refine (i_concatL _ 3 _ [(.slice b1 LG.length e1, LG), (.slice b2 LA.length e2, LA), (.slice b3 LC.length e3, LC)] _ rfl (by decide) (by first | exact Mut.new _ _ _ | exact (Mut.new _ _ _).drew) (by intro x hx; simp only [List.mem_cons, List.not_mem_nil, or_false] at hx; rcases hx with rfl | rfl | rfl <;> first | exact ⟨_, _, rfl, H1.below (below_box (Below.refl _ _))⟩ | exact ⟨_, _, rfl, H1.below (below_box (Below.refl _ _)).drew⟩ | exact ⟨_, _, rfl, H1.below ((Below.refl _ _).drew.trans (below_box (Below.refl _ _)))⟩ | exact ⟨_, _, rfl, H2.below (below_box (Below.refl _ _))⟩ | exact ⟨_, _, rfl, H2.below (below_box (Below.refl _ _)).drew⟩ | exact ⟨_, _, rfl, H2.below ((Below.refl _ _).drew.trans (below_box (Below.refl _ _)))⟩ | exact ⟨_, _, rfl, H3.below (below_box (Below.refl _ _))⟩ | exact ⟨_, _, rfl, H3.below (below_box (Below.refl _ _)).drew⟩ | exact ⟨_, _, rfl, H3.below ((Below.refl _ _).drew.trans (below_box (Below.refl _ _)))⟩) (by simp only [catL, List.flatMap_cons, List.flatMap_nil, List.append_nil]; have := hlen.out; omega) (by simp only [catL, List.flatMap_cons, List.flatMap_nil, List.append_nil]; have := hlen.out; omega)).mono ?_; rintro e wC ⟨vC, rfl, hC, bC⟩; have dC : Below w3.heap.size w3 wC := (by first | exact below_step dA (below_box bC) | exact below_step dA ((Below.refl _ _).drew.trans (below_box bC)) | exact below_step dA (below_box ((Below.refl _ _).drew.trans bC))))))
      all_goals
        have hC : OwnN 5 .u8 w.heap.size vC (LG ++ (LA ++ LC)) wC := by
          have hC := ownN_base hC (base' := w.heap.size) (by have := dA.size; have := d3.size; simp; omega)
          simpa only [catL, List.flatMap_cons, List.flatMap_nil, List.append_nil] using hC
        have dF := d3.trans (dC.mono d3.size)
        obtain ⟨gg, gcap, rfl, _, _⟩ := ownN_shape hC neU.out
        generalize LG ++ (LA ++ LC) = U2 at *
        have hcv := run_convert_bytes_arg (P := Try.prog) wC 72 5 Try.underlying72 Try.underlying5 gg 0 U2.length gcap U2 rfl (fun i hi => by rw [Nat.zero_add]; exact ownN_at hC hi) 9 Try.underlying9
        go_wp2_with fail
        exact bodyPost_ret (v := .tuple #[.string (strOfNums U2), .bool true]) (by simp [results, Try.results58, go_sem]) rfl ⟨by rw [hUh.out], dF⟩
  | false =>
    rw [hg] at s1
    rw [if_neg (by decide)]
    clear hg lg l0 l1 lc
    go_enter Try.func58, Try.ntmps58
    go_wp2_with fail
    refine (s1.out _ (RG.below d) (R0.below d) (R1.below d) (RC.below d)).mono ?_
    rintro e w2 ⟨rfl, b2⟩
    have d2 := d.trans (b2.mono d.size)
    go_wp2_with fail
    exact bodyPost_ret (v := .tuple #[.string ByteArray.empty, .bool false]) (by simp [results, Try.results58, go_sem] <;> rfl) rfl ⟨rfl, d2⟩
end Go.Proofs.Ytoeephmdklmpfaa
