/- What the program's Index, Contains and GoodUpdate answer. -/
import Derived.Test.YtoeephmdklmpfaaI4u
namespace Go.Proofs.Ytoeephmdklmpfaa
open Go.RowKit

set_option maxRecDepth 100000 in
set_option maxHeartbeats 1600000 in
theorem i_index (a0 : Option Addr) (len cap : Nat) (f0 f1 : Nat → Int) (x y : Int) (w : World) (hl : len ≤ 1048576) (hE : RowPrefix a0 len f0 f1 w) :
    Calls Try.prog 134 #[.slice a0 len cap, .agg #[.int .i64 x, .int .i64 y]] w fun e w' => ∃ r : Int, e = .returned (.int .i64 r) ∧ decide (r ≥ 0) = inL len f0 f1 x y ∧ Below w.heap.size w w' := by
  have M := Mut.new w #[.int .i64 x, .int .i64 y] 122
  have d : Below w.heap.size w (w.alloc (.cells #[.int .i64 x, .int .i64 y] 122)) := below_box (Below.refl _ _)
  go_enter Try.func134, Try.ntmps134
  go_wp2_with fail
  generalize w.alloc (.cells #[.int .i64 x, .int .i64 y] 122) = w1 at *
  go_loopw [5, 8] (fun _ i wr => ∃ k : Nat, k ≤ len ∧ i = .int .i64 k ∧ Below w.heap.size w wr ∧ Mut wr w.heap.size [.int .i64 x, .int .i64 y] ∧ (List.range k).any (fun i => f0 i == x && f1 i == y) = false) (fun _ i _ => len - (intOf i).toNat)
  case atStart => exact ⟨0, Nat.zero_le _, rfl, d, M, rfl⟩
  case round =>
    clear M d
    obtain ⟨k, hk, rfl, hb, M, hall⟩ := hrel
    by_cases hlt : k < len
    · obtain ⟨b, off, rfl, hbw, h0, h1⟩ := hE k hlt
      have h0 := (hb.cell (p := ⟨b, off + k * 2, none⟩) hbw).trans h0
      have h1 := (hb.cell (p := ⟨b, off + k * 2 + 1, none⟩) hbw).trans h1
      have hlt' : (k : Int) < (len : Int) := by omega
      have hE1 := fun w : World => eqPrefix_run x y (f0 k) (f1 k) w
      have hG1 := fun (op : BinOp) (u v : Operand) (xs ys : Array Value) (w : World) => eqPrefix_guard op u v xs ys w
      have m0 := M.2.1 0 _ rfl
      have m1 := M.2.1 1 _ rfl
      have hsw : (x == f0 k && y == f1 k) = (f0 k == x && f1 k == y) := by rw [show (x == f0 k) = (f0 k == x) from Bool.beq_comm, show (y == f1 k) = (f1 k == y) from Bool.beq_comm]
      rw [hsw] at hE1
      by_cases he : (f0 k == x && f1 k == y) = true
      · have hN := hide (show inL len f0 f1 x y = true from any_some hlt he)
        rw [he] at hE1
        clear hall he hE M hsw
        generalize (f0 k) = a at *
        generalize (f1 k) = l at *
        go_wp2_with fail
        go_quiet (fail)
        go_wp2_with fail
        go_ret
        exact ⟨_, rfl, by rw [hN.out]; simp, below_drewN hb _⟩
      · have he : (f0 k == x && f1 k == y) = false := by simpa using he
        have hN := hide (any_none (p := fun i => f0 i == x && f1 i == y) hall he)
        have MD := fun n : Nat => M.below (below_drewN (Below.refl wr.heap.size wr) n)
        rw [he] at hE1
        clear hall he hE M hsw
        generalize (f0 k) = a at hE1 h0
        generalize (f1 k) = l at hE1 h1
        go_wp2_with fail
        go_quiet (fail)
        go_wp2_with fail
        exact ⟨⟨k + 1, by omega, by go_num, below_drewN hb _, MD _, hN.out⟩, by simp [intOf]; omega⟩
    · have hk' : k = len := by omega
      subst hk'
      have hN := hide (show inL k f0 f1 x y = false from hall)
      clear hall hlt hk hE
      go_wp2_with fail
      go_ret
      exact ⟨-1, rfl, by rw [hN.out]; rfl, hb⟩
set_option maxRecDepth 100000 in
set_option maxHeartbeats 800000 in
theorem i_contains (a0 : Option Addr) (len cap : Nat) (f0 f1 : Nat → Int) (x y : Int) (w : World) (hl : len ≤ 1048576) (hE : RowPrefix a0 len f0 f1 w) :
    Calls Try.prog 98 #[.slice a0 len cap, .agg #[.int .i64 x, .int .i64 y]] w fun e w' => e = .returned (.bool (inL len f0 f1 x y)) ∧ Below w.heap.size w w' := by
  have s1 := hide (fun w R => i_index a0 len cap f0 f1 x y w hl R)
  clear hl
  go_enter Try.func98, Try.ntmps98
  go_wp2_with fail
  refine (s1.out _ (hE.below (below_box (Below.refl _ _)))).mono ?_
  rintro e w1 ⟨r, rfl, hr, b1⟩
  have hr := hide hr
  go_wp2_with fail
  go_ret
  exact ⟨ret_bool (by first | exact hr.out | (rw [← hr.out])), below_box b1⟩
set_option maxRecDepth 100000 in
set_option maxHeartbeats 6400000 in
theorem i_goodUpdate (ga : Option Addr) (gn gc : Nat) (f0 f1 : Nat → Int) (o nx md pf : Int) (a0 : Option Addr) (n0 c0 : Nat) (f : Nat → Int) (a1 : Option Addr) (n1 c1 : Nat) (g : Nat → Int) (ca : Option Addr) (cn cc : Nat) (h0 h1 : Nat → Int) (w : World) (lg : gn ≤ 1048576) (l0 : n0 ≤ 1048576) (l1 : n1 ≤ 1048576) (lc : cn ≤ 1048576) (RG : RowPrefix ga gn f0 f1 w) (R0 : RowInt a0 n0 f w) (R1 : RowInt a1 n1 g w) (RC : RowPrefix ca cn h0 h1 w) :
    Calls Try.prog 60 #[.agg #[.slice ga gn gc, .int .i64 o, .slice a0 n0 c0, .int .i64 nx, .int .i64 md, .int .i64 pf, .slice a1 n1 c1, .slice ca cn cc]] w fun e w' => e = .returned (.bool (updB gn f0 f1 o nx md pf n0 f n1 g cn h0 h1)) ∧ Below w.heap.size w w' := by
  have M := Mut.new w #[.slice ga gn gc, .int .i64 o, .slice a0 n0 c0, .int .i64 nx, .int .i64 md, .int .i64 pf, .slice a1 n1 c1, .slice ca cn cc] 27
  have d : Below w.heap.size w (w.alloc (.cells #[.slice ga gn gc, .int .i64 o, .slice a0 n0 c0, .int .i64 nx, .int .i64 md, .int .i64 pf, .slice a1 n1 c1, .slice ca cn cc] 27)) := below_box (Below.refl _ _)
  have IN := hide (fun x y w R => i_contains ga gn gc f0 f1 x y w lg R)
  have NG := hide (fun w R => i_nlri ga gn gc f0 f1 w lg R)
  have NC := hide (fun w R => i_nlri ca cn cc h0 h1 w lc R)
  have AT := hide (fun w R R' => i_goodAttrs o nx md pf a0 n0 c0 f a1 n1 c1 g w l0 l1 R R')
  have ZE := hide (fun w => i_zero o nx md pf a0 n0 c0 a1 n1 c1 w)
  have hdef : Hid (updB gn f0 f1 o nx md pf n0 f n1 g cn h0 h1 = (apart gn f0 f1 cn h0 h1 && nlriB gn f0 f1 && nlriB cn h0 h1 && attrB o nx md pf n0 f n1 g && (decide (0 < cn) || zeroB o nx md pf n0 n1))) := rfl
  generalize hAt : attrB o nx md pf n0 f n1 g = rA at *
  generalize hZe : zeroB o nx md pf n0 n1 = rZ at *
  generalize hNg : nlriB gn f0 f1 = rG at *
  generalize hNc : nlriB cn h0 h1 = rC at *
  generalize hres : updB gn f0 f1 o nx md pf n0 f n1 g cn h0 h1 = res at *
  clear hAt hZe hNg hNc hres lg l0 l1
  have d0 := d
  by_cases x0 : rG = true
  · by_cases x1 : rC = true
    · by_cases x2 : rA = true
      · have hd2 := hide (hdef.out.trans (show _ = (apart gn f0 f1 cn h0 h1 && (decide (0 < cn) || rZ)) by rw [x0, x1, x2]; simp))
        clear hdef
        have hdef := hd2
        clear hd2
        rw [x0] at NG
        clear x0
        rw [x1] at NC
        clear x1
        rw [x2] at AT
        clear x2
        go_enter Try.func60, Try.ntmps60
        go_wp2_with fail
        generalize w.alloc (.cells #[.slice ga gn gc, .int .i64 o, .slice a0 n0 c0, .int .i64 nx, .int .i64 md, .int .i64 pf, .slice a1 n1 c1, .slice ca cn cc] 27) = wa at *
        have u0 := M.2.1 0 _ rfl
        have u1 := M.2.1 1 _ rfl
        have u2 := M.2.1 2 _ rfl
        have u3 := M.2.1 3 _ rfl
        have u4 := M.2.1 4 _ rfl
        have u5 := M.2.1 5 _ rfl
        have u6 := M.2.1 6 _ rfl
        have u7 := M.2.1 7 _ rfl
        refine (NG.out _ (RG.below d0)).mono ?_
        rintro e w1 ⟨rfl, bb⟩
        have d1 := d0.trans (bb.mono d0.size)
        have M := M.below bb
        clear bb
        have z1_0 := M.2.1 0 _ rfl
        have z1_1 := M.2.1 1 _ rfl
        have z1_2 := M.2.1 2 _ rfl
        have z1_3 := M.2.1 3 _ rfl
        have z1_4 := M.2.1 4 _ rfl
        have z1_5 := M.2.1 5 _ rfl
        have z1_6 := M.2.1 6 _ rfl
        have z1_7 := M.2.1 7 _ rfl
        go_wp2_with fail
        refine (NC.out _ (RC.below d1)).mono ?_
        rintro e w2 ⟨rfl, bb⟩
        have d2 := d1.trans (bb.mono d1.size)
        have M := M.below bb
        clear bb
        have z2_0 := M.2.1 0 _ rfl
        have z2_1 := M.2.1 1 _ rfl
        have z2_2 := M.2.1 2 _ rfl
        have z2_3 := M.2.1 3 _ rfl
        have z2_4 := M.2.1 4 _ rfl
        have z2_5 := M.2.1 5 _ rfl
        have z2_6 := M.2.1 6 _ rfl
        have z2_7 := M.2.1 7 _ rfl
        go_wp2_with fail
        refine (AT.out _ (R0.below d2) (R1.below d2)).mono ?_
        rintro e w3 ⟨rfl, bb⟩
        have d3 := d2.trans (bb.mono d2.size)
        have M := M.below bb
        clear bb
        have z3_0 := M.2.1 0 _ rfl
        have z3_1 := M.2.1 1 _ rfl
        have z3_2 := M.2.1 2 _ rfl
        have z3_3 := M.2.1 3 _ rfl
        have z3_4 := M.2.1 4 _ rfl
        have z3_5 := M.2.1 5 _ rfl
        have z3_6 := M.2.1 6 _ rfl
        have z3_7 := M.2.1 7 _ rfl
        go_wp2_with fail
        clear z3_0
        go_loopw [4, 24] (fun _ i wr => ∃ q : Nat, q ≤ cn ∧ i = .int .i64 q ∧ Below w.heap.size w wr ∧ Mut wr w.heap.size [.slice ga gn gc, .int .i64 o, .slice a0 n0 c0, .int .i64 nx, .int .i64 md, .int .i64 pf, .slice a1 n1 c1, .slice ca cn cc] ∧ (List.range q).all (fun j => !inL gn f0 f1 (h0 j) (h1 j)) = true) (fun _ i _ => cn - (intOf i).toNat)
        case atStart => exact ⟨0, Nat.zero_le _, rfl, d3, M, rfl⟩
        case round =>
          clear M d3
          obtain ⟨q, hq, rfl, hb, M, hall⟩ := hrel
          by_cases hlt : q < cn
          · obtain ⟨b, off, rfl, hbw, e0, e1⟩ := RC q hlt
            have e0 := (hb.cell (p := ⟨b, off + q * 2, none⟩) hbw).trans e0
            have e1 := (hb.cell (p := ⟨b, off + q * 2 + 1, none⟩) hbw).trans e1
            have hlt' : (q : Int) < (cn : Int) := by omega
            have s1 := hide (fun w R => IN.out (h0 q) (h1 q) w R)
            have hbA : ∀ ob : Obj, Below w.heap.size w (wr.alloc ob) := fun ob => hb.trans ((below_box (Below.refl (wr.alloc ob).heap.size (wr.alloc ob))).mono hb.size)
            have MA := fun ob : Obj => M.alloc ob
            have m0 := M.2.1 0 _ rfl
            have mo := fun ob : Obj => (old1 (show w.heap.size < wr.heap.size from M.1) ob 0).trans m0
            clear IN
            by_cases he : inL gn f0 f1 (h0 q) (h1 q) = true
            · have hN := hide (hdef.out.trans (show _ = false by
                have e : apart gn f0 f1 cn h0 h1 = false := rall_no hlt (by rw [he]; rfl)
                rw [e]; simp))
              rw [he] at s1
              clear hall he RC hdef
              generalize (h0 q) = a at *
              generalize (h1 q) = l at *
              go_wp2_with fail
              refine (s1.out _ (RG.below (hbA _))).mono ?_
              rintro e w1_ ⟨rfl, b1⟩
              have hbz := (hbA (.cells #[.int .i64 a, .int .i64 l] 122)).trans (b1.mono (hbA _).size)
              go_wp2_with fail
              go_ret
              exact ⟨ret_bool hN.out.symm, hbz⟩
            · have he : inL gn f0 f1 (h0 q) (h1 q) = false := by simpa using he
              have hN := hide (rall_next (p := fun j => !inL gn f0 f1 (h0 j) (h1 j)) hall (by rw [he]; rfl))
              rw [he] at s1
              clear hall he RC hdef
              generalize (h0 q) = a at s1 e0
              generalize (h1 q) = l at s1 e1
              go_wp2_with fail
              refine (s1.out _ (RG.below (hbA _))).mono ?_
              rintro e w1_ ⟨rfl, b1⟩
              have hbz := (hbA (.cells #[.int .i64 a, .int .i64 l] 122)).trans (b1.mono (hbA _).size)
              have hMz := (MA (.cells #[.int .i64 a, .int .i64 l] 122)).below b1
              go_wp2_with fail
              exact ⟨⟨q + 1, by omega, by go_num, hbz, hMz, hN.out⟩, by simp [intOf]; omega⟩
          · have hq' : q = cn := by omega
            subst hq'
            have hA := hide (show apart gn f0 f1 q h0 h1 = true from hall)
            clear hall hlt hq IN
            have v0 := M.2.1 0 _ rfl
            have v1 := M.2.1 1 _ rfl
            have v2 := M.2.1 2 _ rfl
            have v3 := M.2.1 3 _ rfl
            have v4 := M.2.1 4 _ rfl
            have v5 := M.2.1 5 _ rfl
            have v6 := M.2.1 6 _ rfl
            have v7 := M.2.1 7 _ rfl
            have d4 := hb
            clear hb
            by_cases hp : 0 < q
            · have hv := hide (hdef.out.trans (show _ = true by rw [hA.out]; simp [hp]))
              have hp' : (q : Int) > 0 := by omega
              clear hdef hA hp
              go_wp2_with fail
              go_ret
              exact ⟨ret_bool hv.out.symm, d4⟩
            · have hp0 : q = 0 := by omega
              have hv := hide (hdef.out.trans (show _ = rZ by rw [hA.out, hp0]; simp))
              have hp' : ¬ ((q : Int) > 0) := by omega
              clear hdef hA hp hp0
              go_wp2_with fail
              refine (ZE.out _).mono ?_
              rintro e w5 ⟨rfl, bb⟩
              have d5 := d4.trans (bb.mono d4.size)
              go_wp2_with fail
              go_ret
              exact ⟨ret_bool hv.out.symm, d5⟩
      · have x2 : rA = false := by simpa using x2
        have hv := hide (hdef.out.trans (show _ = false by rw [x2]; simp))
        rw [x0] at NG
        rw [x1] at NC
        rw [x2] at AT
        clear hdef x0 x1 x2
        go_enter Try.func60, Try.ntmps60
        go_wp2_with fail
        generalize w.alloc (.cells #[.slice ga gn gc, .int .i64 o, .slice a0 n0 c0, .int .i64 nx, .int .i64 md, .int .i64 pf, .slice a1 n1 c1, .slice ca cn cc] 27) = wa at *
        have u0 := M.2.1 0 _ rfl
        have u1 := M.2.1 1 _ rfl
        have u2 := M.2.1 2 _ rfl
        have u3 := M.2.1 3 _ rfl
        have u4 := M.2.1 4 _ rfl
        have u5 := M.2.1 5 _ rfl
        have u6 := M.2.1 6 _ rfl
        have u7 := M.2.1 7 _ rfl
        refine (NG.out _ (RG.below d0)).mono ?_
        rintro e w1 ⟨rfl, bb⟩
        have d1 := d0.trans (bb.mono d0.size)
        have M := M.below bb
        clear bb
        have z1_0 := M.2.1 0 _ rfl
        have z1_1 := M.2.1 1 _ rfl
        have z1_2 := M.2.1 2 _ rfl
        have z1_3 := M.2.1 3 _ rfl
        have z1_4 := M.2.1 4 _ rfl
        have z1_5 := M.2.1 5 _ rfl
        have z1_6 := M.2.1 6 _ rfl
        have z1_7 := M.2.1 7 _ rfl
        go_wp2_with fail
        refine (NC.out _ (RC.below d1)).mono ?_
        rintro e w2 ⟨rfl, bb⟩
        have d2 := d1.trans (bb.mono d1.size)
        have M := M.below bb
        clear bb
        have z2_0 := M.2.1 0 _ rfl
        have z2_1 := M.2.1 1 _ rfl
        have z2_2 := M.2.1 2 _ rfl
        have z2_3 := M.2.1 3 _ rfl
        have z2_4 := M.2.1 4 _ rfl
        have z2_5 := M.2.1 5 _ rfl
        have z2_6 := M.2.1 6 _ rfl
        have z2_7 := M.2.1 7 _ rfl
        go_wp2_with fail
        refine (AT.out _ (R0.below d2) (R1.below d2)).mono ?_
        rintro e w3 ⟨rfl, bb⟩
        have d3 := d2.trans (bb.mono d2.size)
        have M := M.below bb
        clear bb
        have z3_0 := M.2.1 0 _ rfl
        have z3_1 := M.2.1 1 _ rfl
        have z3_2 := M.2.1 2 _ rfl
        have z3_3 := M.2.1 3 _ rfl
        have z3_4 := M.2.1 4 _ rfl
        have z3_5 := M.2.1 5 _ rfl
        have z3_6 := M.2.1 6 _ rfl
        have z3_7 := M.2.1 7 _ rfl
        go_wp2_with fail
        go_ret
        exact ⟨ret_bool hv.out.symm, d3⟩
    · have x1 : rC = false := by simpa using x1
      have hv := hide (hdef.out.trans (show _ = false by rw [x1]; simp))
      rw [x0] at NG
      rw [x1] at NC
      clear hdef x0 x1
      go_enter Try.func60, Try.ntmps60
      go_wp2_with fail
      generalize w.alloc (.cells #[.slice ga gn gc, .int .i64 o, .slice a0 n0 c0, .int .i64 nx, .int .i64 md, .int .i64 pf, .slice a1 n1 c1, .slice ca cn cc] 27) = wa at *
      have u0 := M.2.1 0 _ rfl
      have u1 := M.2.1 1 _ rfl
      have u2 := M.2.1 2 _ rfl
      have u3 := M.2.1 3 _ rfl
      have u4 := M.2.1 4 _ rfl
      have u5 := M.2.1 5 _ rfl
      have u6 := M.2.1 6 _ rfl
      have u7 := M.2.1 7 _ rfl
      refine (NG.out _ (RG.below d0)).mono ?_
      rintro e w1 ⟨rfl, bb⟩
      have d1 := d0.trans (bb.mono d0.size)
      have M := M.below bb
      clear bb
      have z1_0 := M.2.1 0 _ rfl
      have z1_1 := M.2.1 1 _ rfl
      have z1_2 := M.2.1 2 _ rfl
      have z1_3 := M.2.1 3 _ rfl
      have z1_4 := M.2.1 4 _ rfl
      have z1_5 := M.2.1 5 _ rfl
      have z1_6 := M.2.1 6 _ rfl
      have z1_7 := M.2.1 7 _ rfl
      go_wp2_with fail
      refine (NC.out _ (RC.below d1)).mono ?_
      rintro e w2 ⟨rfl, bb⟩
      have d2 := d1.trans (bb.mono d1.size)
      have M := M.below bb
      clear bb
      have z2_0 := M.2.1 0 _ rfl
      have z2_1 := M.2.1 1 _ rfl
      have z2_2 := M.2.1 2 _ rfl
      have z2_3 := M.2.1 3 _ rfl
      have z2_4 := M.2.1 4 _ rfl
      have z2_5 := M.2.1 5 _ rfl
      have z2_6 := M.2.1 6 _ rfl
      have z2_7 := M.2.1 7 _ rfl
      go_wp2_with fail
      go_ret
      exact ⟨ret_bool hv.out.symm, d2⟩
  · have x0 : rG = false := by simpa using x0
    have hv := hide (hdef.out.trans (show _ = false by rw [x0]; simp))
    rw [x0] at NG
    clear hdef x0
    go_enter Try.func60, Try.ntmps60
    go_wp2_with fail
    generalize w.alloc (.cells #[.slice ga gn gc, .int .i64 o, .slice a0 n0 c0, .int .i64 nx, .int .i64 md, .int .i64 pf, .slice a1 n1 c1, .slice ca cn cc] 27) = wa at *
    have u0 := M.2.1 0 _ rfl
    have u1 := M.2.1 1 _ rfl
    have u2 := M.2.1 2 _ rfl
    have u3 := M.2.1 3 _ rfl
    have u4 := M.2.1 4 _ rfl
    have u5 := M.2.1 5 _ rfl
    have u6 := M.2.1 6 _ rfl
    have u7 := M.2.1 7 _ rfl
    refine (NG.out _ (RG.below d0)).mono ?_
    rintro e w1 ⟨rfl, bb⟩
    have d1 := d0.trans (bb.mono d0.size)
    have M := M.below bb
    clear bb
    have z1_0 := M.2.1 0 _ rfl
    have z1_1 := M.2.1 1 _ rfl
    have z1_2 := M.2.1 2 _ rfl
    have z1_3 := M.2.1 3 _ rfl
    have z1_4 := M.2.1 4 _ rfl
    have z1_5 := M.2.1 5 _ rfl
    have z1_6 := M.2.1 6 _ rfl
    have z1_7 := M.2.1 7 _ rfl
    go_wp2_with fail
    go_ret
    exact ⟨ret_bool hv.out.symm, d1⟩
end Go.Proofs.Ytoeephmdklmpfaa
