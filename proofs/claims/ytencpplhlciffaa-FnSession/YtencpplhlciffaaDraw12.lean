/- What the specification's cursor draws as events. -/
import Derived.Test.YtencpplhlciffaaDrawOne
import Derived.Test.YtencpplhlciffaaMemW
import Derived.Test.YtencpplhlciffaaFlatEvent
import Derived.Test.YtencpplhlciffaaPlain12
import Derived.Deep.DeepCutAuto
import Derived.Deep.CutRange
namespace Go.Proofs.Ytencpplhlciffaa
open Go.RowKit

theorem own_only12 {e : TypeId} {m n base c : Nat} {v : Value} {xs : List Value} {w w' : World} (h : OwnW e m base v n xs w) (k : Only c w w') (hc : c < base) : OwnW e m base v n xs w' :=
  ownW_only h k (fun q => by have := (ownW_lt h q).1; omega)
theorem only_base12 {c : Nat} {w x y : World} (h : Only c w x) (k : Below w.heap.size x y) : Only c w y :=
  ⟨k.os.trans h.1, k.tape.trans h.2.1, k.output.trans h.2.2.1, Nat.le_trans h.2.2.2.1 k.size, fun i hi hn => (k.block i hi).trans (h.2.2.2.2 i hi hn)⟩
theorem cur_grown12 {c n base : Nat} {e : TypeId} {m q : Nat} {v u : Value} {xs : List Value} {w w' : World} (h : Cur c v n w) (ho : OwnW e m base u q xs w) (hc : c < base) (k : w.grownBy w' u.ownBlock) : Cur c v n w' := by
  obtain ⟨p, s, h0, h1, hcw, c0, c1, c2, hs, f0, f1, f2⟩ := h
  have hb := k.block c hcw (fun e => by have := (ownW_lt ho e.symm).1; omega)
  have hc' : ∀ o, w'.cell? ⟨c, o, none⟩ = w.cell? ⟨c, o, none⟩ := fun o => World.cell?_of_block (w := w) hb
  have hf' : ∀ o, w'.frozen? ⟨c, o, none⟩ = w.frozen? ⟨c, o, none⟩ := fun o => World.frozen?_of_block (w := w) hb
  exact ⟨p, s, h0, h1, Nat.lt_of_lt_of_le hcw k.size, (hc' _).trans c0, (hc' _).trans c1, (hc' _).trans c2, hs, (hf' _).trans f0, (hf' _).trans f1, (hf' _).trans f2⟩
/-- Cells that hold whole numbers. -/
def IntD (xs : List Value) : Prop := ∀ u ∈ xs, ∃ z : Int, u = .int .i64 z
theorem IntD.nil : IntD [] := fun u hu => by simp at hu
theorem IntD.app {xs ys : List Value} (h : IntD xs) (k : IntD ys) : IntD (xs ++ ys) := fun u hu => (List.mem_append.1 hu).elim (h u) (k u)
theorem IntD.two (x y : Int) : IntD [.int .i64 x, .int .i64 y] := fun u hu => by
  simp only [List.mem_cons, List.not_mem_nil, or_false] at hu
  rcases hu with h | h
  · exact ⟨x, h⟩
  · exact ⟨y, h⟩
theorem IntD.four (x y z t : Int) : IntD [.int .i64 x, .int .i64 y, .int .i64 z, .int .i64 t] := (IntD.two x y).app (IntD.two z t)
theorem IntD.one' {xs : List Value} (h : IntD xs) : ∀ u ∈ xs, u.oneCell' = true := fun u hu => by
  obtain ⟨z, rfl⟩ := h u hu
  rfl
noncomputable def nAt (xs : List Value) (i : Nat) : Int := match xs[i]? with | some (.int _ z) => z | _ => 0
theorem IntD.at {xs : List Value} (h : IntD xs) {i : Nat} (hi : i < xs.length) : xs[i]? = some (.int .i64 (nAt xs i)) := by
  obtain ⟨z, e⟩ := h xs[i] (List.getElem_mem hi)
  have e2 : xs[i]? = some (.int .i64 z) := by rw [List.getElem?_eq_getElem hi, e]
  simp [nAt, e2]
theorem nums12_3 (w : World) (t : TypeId) (z0 z1 z2 : Int) : NumsAt w.heap.size 0 3 (fun _ => True) (w.alloc (.cells #[.int .i64 z0, .int .i64 z1, .int .i64 z2] t)) := by
  refine ⟨by simp, fun j hj => ?_⟩
  obtain rfl | rfl | rfl : j = 0 ∨ j = 1 ∨ j = 2 := by omega
  all_goals exact ⟨_, by simp [go_sem]; rfl, trivial⟩
theorem nums12_5 (w : World) (t : TypeId) (z0 z1 z2 z3 z4 : Int) : NumsAt w.heap.size 0 5 (fun _ => True) (w.alloc (.cells #[.int .i64 z0, .int .i64 z1, .int .i64 z2, .int .i64 z3, .int .i64 z4] t)) := by
  refine ⟨by simp, fun j hj => ?_⟩
  obtain rfl | rfl | rfl | rfl | rfl : j = 0 ∨ j = 1 ∨ j = 2 ∨ j = 3 ∨ j = 4 := by omega
  all_goals exact ⟨_, by simp [go_sem]; rfl, trivial⟩
theorem nums12_6 (w : World) (t : TypeId) (z0 z1 z2 z3 z4 z5 : Int) : NumsAt w.heap.size 0 6 (fun _ => True) (w.alloc (.cells #[.int .i64 z0, .int .i64 z1, .int .i64 z2, .int .i64 z3, .int .i64 z4, .int .i64 z5] t)) := by
  refine ⟨by simp, fun j hj => ?_⟩
  obtain rfl | rfl | rfl | rfl | rfl | rfl : j = 0 ∨ j = 1 ∨ j = 2 ∨ j = 3 ∨ j = 4 ∨ j = 5 := by omega
  all_goals exact ⟨_, by simp [go_sem]; rfl, trivial⟩
theorem nums12_7 (w : World) (t : TypeId) (z0 z1 z2 z3 z4 z5 z6 : Int) : NumsAt w.heap.size 0 7 (fun _ => True) (w.alloc (.cells #[.int .i64 z0, .int .i64 z1, .int .i64 z2, .int .i64 z3, .int .i64 z4, .int .i64 z5, .int .i64 z6] t)) := by
  refine ⟨by simp, fun j hj => ?_⟩
  obtain rfl | rfl | rfl | rfl | rfl | rfl | rfl : j = 0 ∨ j = 1 ∨ j = 2 ∨ j = 3 ∨ j = 4 ∨ j = 5 ∨ j = 6 := by omega
  all_goals exact ⟨_, by simp [go_sem]; rfl, trivial⟩
theorem nums12_12 (w : World) (t : TypeId) (z0 z1 z2 z3 z4 z5 z6 z7 z8 z9 z10 z11 : Int) : NumsAt w.heap.size 0 12 (fun _ => True) (w.alloc (.cells #[.int .i64 z0, .int .i64 z1, .int .i64 z2, .int .i64 z3, .int .i64 z4, .int .i64 z5, .int .i64 z6, .int .i64 z7, .int .i64 z8, .int .i64 z9, .int .i64 z10, .int .i64 z11] t)) := by
  refine ⟨by simp, fun j hj => ?_⟩
  obtain rfl | rfl | rfl | rfl | rfl | rfl | rfl | rfl | rfl | rfl | rfl | rfl : j = 0 ∨ j = 1 ∨ j = 2 ∨ j = 3 ∨ j = 4 ∨ j = 5 ∨ j = 6 ∨ j = 7 ∨ j = 8 ∨ j = 9 ∨ j = 10 ∨ j = 11 := by omega
  all_goals exact ⟨_, by simp [go_sem]; rfl, trivial⟩
theorem aggEv : AggT Try.prog 23 33 (.agg #[.int .i64 0, .int .i64 0]) 2 16 := ⟨Try.underlying23, by kernel_rfl, rfl, by decide⟩
theorem own_event {base n : Nat} {v : Value} {xs : List Value} {w : World} (h : OwnW 33 2 base v n xs w) (hI : IntD xs) :
    ∃ a cap f0 f1, v = .slice a n cap ∧ n ≤ cap ∧ RowEvent a n f0 f1 w := by
  obtain ⟨a, cap, e, hR, hs⟩ := ownW_row h
  have hl : xs.length = n * 2 := h.1
  refine ⟨a, cap, fun i => nAt xs (i * 2), fun i => nAt xs (i * 2 + 1), e, ?_, fun i hi => ?_⟩
  · rcases hs with ⟨_, h2, h3⟩ | ⟨g, _, _, _, h4, _⟩
    · omega
    · exact h4
  · obtain ⟨b, off, ha, hb, c0⟩ := hR (i * 2) _ (hI.at (by omega))
    obtain ⟨b1, off1, ha1, hb1, c1⟩ := hR (i * 2 + 1) _ (hI.at (by omega))
    rw [ha] at ha1
    simp only [Option.some.injEq, Addr.mk.injEq, and_true] at ha1
    obtain ⟨rfl, rfl⟩ := ha1
    exact ⟨b, off, ha, hb, c0, by rw [Nat.add_assoc]; exact c1⟩
/-- A list of events that is drawn. -/
def EvL (e : TypeId) (base : Nat) (l : Value) (ln : Nat) (w : World) : Prop := ∃ xs, OwnW e 2 base l ln xs w ∧ IntD xs
theorem EvL.only {e : TypeId} {base ln c : Nat} {l : Value} {w w' : World} (h : EvL e base l ln w) (k : Only c w w') (hc : c < base) : EvL e base l ln w' := by
  obtain ⟨xs, h1, h2⟩ := h
  exact ⟨xs, own_only12 h1 k hc, h2⟩
theorem EvL.away {e : TypeId} {base ln c : Nat} {l : Value} {w w' : World} (h : EvL e base l ln w) (k : Only c w w') (hc : l.ownBlock ≠ some c) : EvL e base l ln w' := by
  obtain ⟨xs, h1, h2⟩ := h
  exact ⟨xs, ownW_only h1 k hc, h2⟩
set_option maxRecDepth 100000 in
set_option maxHeartbeats 6400000 in
theorem d_events (c : Nat) (v : Value) (len n : Nat) (w : World) (hn : n ≤ 100000) (hcur : Cur c v n w) (hby : BytesAt c w v len) :
    Calls Try.prog 18 #[.pointer (some ⟨c, 0, none⟩)] w fun e w' =>
      ∃ (lv : Value) (ln : Nat), e = .returned lv ∧ ln ≤ 104 ∧ EvL 33 w.heap.size lv ln w' ∧ Cur c v (n + 1000) w' ∧ Only c w w' := by
  have hcw : c < w.heap.size := by obtain ⟨p, s, h0, h1, hc, _⟩ := hcur; exact hc
  have s1 := hide (fun k m w hk hm hc hb => d_one c v len m k w hm hk hc hb)
  have s2 := hide (fun k m w hk hm hc hb => d_pick c v len m k w hm hk hc hb)
  have s3 := hide (fun L k cap m w hm h1 h2 hc hb hL hLc => d_among c v len m L 0 k cap (fun _ => True) w hm h1 h2 hc hb hL hLc)
  have hB := hide (fun (w' : World) (k : Only c w w') => hby.only k (Nat.le_refl _))
  clear hby
  go_enter Try.func18, Try.ntmps18
  go_wp2_with fail
  refine (s1.out _ _ _ (by omega) (by omega) hcur (hB.out _ (Only.refl _ _))).mono ?_
  rintro e w1 ⟨r1, rfl, hc1, ho1⟩
  clear hcur
  have hE0 : EvL 33 w.heap.size (.slice none 0 0) 0 w1 := ⟨[], ownW_nil _ _ _ _, IntD.nil⟩
  cases r1 with
  | false =>
    obtain ⟨xs0, own0, I0⟩ := hE0
    have hs1 := ho1.2.2.2.1
    have RA := RowW.mut (Mut.new w1 #[.int .i64 1, .int .i64 0, .int .i64 3, .int .i64 0] 33)
    have hIa := IntD.four (1) (0) (3) (0)
    have h1c := hide hIa.one'
    have bA : Below w1.heap.size w1 (w1.alloc (.cells #[.int .i64 1, .int .i64 0, .int .i64 3, .int .i64 0] 33)) := below_box (Below.refl _ _)
    have hownA := ownW_below own0 bA
    have hbA : w.heap.size ≤ (w1.alloc (.cells #[.int .i64 1, .int .i64 0, .int .i64 3, .int .i64 0] 33)).heap.size := by simp; omega
    have hl9 : Hid (0 + 2 ≤ 8589934593) := by show _ ≤ _; omega
    go_wp2_with (first | (at_builtin; refine wpList_appW aggEv rfl _ _ rfl w.heap.size _ 0 xs0 rfl hownA w1.heap.size 0 2 2 [.int .i64 1, .int .i64 0, .int .i64 3, .int .i64 0] rfl rfl RA h1c.out hl9.out (by decide) hbA ?_; intro v6 w6 own6 b6 g6 _))
    have hE1 : EvL 33 w.heap.size v6 2 w6 := ⟨_, own6, I0.app hIa⟩
    have hc6 := cur_grown12 (cur_below hc1 bA) hownA hcw g6
    have ho6 := only_base12 (ho1.trans (Only.of_below (c := c) bA)) b6
    clear RA hIa h1c bA hownA hbA hl9 own6 b6 g6 own0 I0 hc1 ho1
    refine (s1.out _ _ _ (by omega) (by omega) hc6 (hB.out _ ho6)).mono ?_
    rintro e w7 ⟨r2, rfl, hc7, ho7⟩
    have hE7 := hE1.only ho7 hcw
    replace ho7 := ho6.trans ho7
    clear hE1 hc6 ho6
    cases r2 with
    | false =>
      go_wp2_with fail
      refine (s2.out _ _ _ (by omega) (by omega) hc7 (hB.out _ ho7)).mono ?_
      rintro e wa ⟨qa, hqa0, hqa1, rfl, hca, hoa⟩
      have hEa := hE7.only hoa hcw
      replace hoa := ho7.trans hoa
      clear hE7 hc7 ho7
      go_wp2_with fail
      refine (s1.out _ _ _ (by omega) (by omega) hca (hB.out _ hoa)).mono ?_
      rintro e wb ⟨r3, rfl, hcb, hob⟩
      have hEb := hEa.only hob hcw
      replace hob := hoa.trans hob
      clear hEa hca hoa
      cases r3 with
      | false =>
        obtain ⟨N, hN⟩ : ∃ N : Nat, qa = (N : Int) := ⟨qa.toNat, by omega⟩
        subst hN
        have hN9 : N ≤ 100 := by omega
        go_wp2_with fail
        go_loopw [3, 4] (fun l i wr => ∃ (k lm : Nat), i = .int .i64 k ∧ k ≤ N ∧ lm + k ≤ 104 ∧ EvL 33 w.heap.size l lm wr ∧ Cur c v (n + 14 + 8 * (N - k)) wr ∧ Only c w wr) (fun _ i _ => (intOf i).toNat)
        case atStart => exact ⟨N, 2, by first | rfl | (simp only [hN]), Nat.le_refl _, by omega, hEb, cur_up hcb (by omega), hob⟩
        case round =>
          obtain ⟨k, lm, rfl, hk, hlm, hEr, hcr, hor⟩ := hrel
          clear hEb hcb hob
          by_cases hk0 : 0 < k
          · have hk0' : (k : Int) > 0 := by omega
            have hk9 : (k : Int) ≤ 100 := by omega
            have hNm := nums12_12 wr 3 1 3 5 7 7 7 8 8 10 10 10 10
            have bN : Below wr.heap.size wr (wr.alloc (.cells #[.int .i64 1, .int .i64 3, .int .i64 5, .int .i64 7, .int .i64 7, .int .i64 7, .int .i64 8, .int .i64 8, .int .i64 10, .int .i64 10, .int .i64 10, .int .i64 10] 3)) := below_box (Below.refl _ _)
            have hcN := cur_below hcr bN
            have hoN := only_base12 hor (bN.mono hor.2.2.2.1)
            have hEN : EvL 33 w.heap.size u3 lm (wr.alloc (.cells #[.int .i64 1, .int .i64 3, .int .i64 5, .int .i64 7, .int .i64 7, .int .i64 7, .int .i64 8, .int .i64 8, .int .i64 10, .int .i64 10, .int .i64 10, .int .i64 10] 3)) := by
              obtain ⟨xs, h1, h2⟩ := hEr
              exact ⟨xs, ownW_below h1 bN, h2⟩
            have hrc : wr.heap.size ≠ c := by have := hor.2.2.2.1; omega
            clear bN hEr hcr hor
            go_wp2_with fail
            refine (s3.out _ _ _ _ _ (by omega) (by omega) (by omega) hcN (hB.out _ hoN) hNm hrc).mono ?_
            rintro e we ⟨kd, _, rfl, hce, hoe⟩
            have hEe := hEN.only hoe hcw
            replace hoe := hoN.trans hoe
            clear hEN hcN hoN hNm
            have ME := Mut.new we #[.int .i64 kd, .int .i64 0] 33
            have bE : Below we.heap.size we (we.alloc (.cells #[.int .i64 kd, .int .i64 0] 33)) := below_box (Below.refl _ _)
            have hcE := cur_below hce bE
            have hse := hoe.2.2.2.1
            have hoE := only_base12 hoe (bE.mono hse)
            have hEE : EvL 33 w.heap.size u3 lm (we.alloc (.cells #[.int .i64 kd, .int .i64 0] 33)) := by
              obtain ⟨xs, h1, h2⟩ := hEe
              exact ⟨xs, ownW_below h1 bE, h2⟩
            have hec : we.heap.size ≠ c := by omega
            have hnE : u3.ownBlock ≠ some we.heap.size := by
              obtain ⟨xs, h1, _⟩ := hEe
              exact fun q => by have := (ownW_lt h1 q).2; omega
            clear bE hEe hce hoe
            go_wp2_with fail
            generalize we.alloc (.cells #[.int .i64 kd, .int .i64 0] 33) = wf at *
            generalize we.heap.size = qe at *
            refine (s1.out _ _ _ (by omega) (by omega) hcE (hB.out _ hoE)).mono ?_
            rintro e wg ⟨r4, rfl, hcg, hog⟩
            have hEg := hEE.only hog hcw
            have hng := hnE
            have MEg := ME.only hog hec
            replace hog := hoE.trans hog
            clear hEE hcE hoE ME hnE
            cases r4 with
            | false =>
              go_upto_region 14 with fail
              have hX := hide (And.intro hcg (And.intro hog (And.intro hEg (And.intro MEg hng))))
              clear hcg hog hEg MEg hng
              generalize wg = X at *
              obtain ⟨hcX, hoX, hEX, MX, hnX⟩ := hX.out
              clear hX
              by_cases k5 : kd = 5
              · subst k5
                have hNm := nums12_7 X 3 0 2 3 9 90 100 101
                have bN : Below X.heap.size X (X.alloc (.cells #[.int .i64 0, .int .i64 2, .int .i64 3, .int .i64 9, .int .i64 90, .int .i64 100, .int .i64 101] 3)) := below_box (Below.refl _ _)
                have hcN := cur_below hcX bN
                have hsX := hoX.2.2.2.1
                have hoN := only_base12 hoX (bN.mono hsX)
                have hEN : EvL 33 w.heap.size u3 lm (X.alloc (.cells #[.int .i64 0, .int .i64 2, .int .i64 3, .int .i64 9, .int .i64 90, .int .i64 100, .int .i64 101] 3)) := by
                  obtain ⟨xs, h1, h2⟩ := hEX
                  exact ⟨xs, ownW_below h1 bN, h2⟩
                have MN := MX.below bN
                have hXc : X.heap.size ≠ c := by omega
                have z0 := MX.2.1 0 _ rfl
                clear bN hEX hcX hoX MX
                go_wp2_with fail
                refine (s3.out _ _ _ _ _ (by omega) (by omega) (by omega) hcN (hB.out _ hoN) hNm hXc).mono ?_
                rintro e wi ⟨r5, _, rfl, hci, hoi⟩
                have hEi := hEN.only hoi hcw
                have MEi := MN.only hoi hec
                replace hoi := hoN.trans hoi
                have zi := MEi.2.1 1 _ rfl
                have zfi := MEi.2.2 1 (by simp)
                have MY := MEi.set 1 (.int .i64 r5)
                have hcY := cur_only hci ((Only.refl qe wi).setCell 1 (.int .i64 r5)) (Ne.symm hec)
                have hoY : Only c w (wi.setCell ⟨qe, 1, none⟩ (.int .i64 r5)) := hoi.setNew hse 1 _
                have hEY : EvL 33 w.heap.size u3 lm (wi.setCell ⟨qe, 1, none⟩ (.int .i64 r5)) := hEi.away ((Only.refl qe wi).setCell 1 _) hnX
                clear hEN hcN hoN MN hNm hEi hci hoi MEi z0
                go_upto_region 16 with fail
                clear zi zfi
                generalize wi.setCell ⟨qe, 1, none⟩ (.int .i64 r5) = Y at *
                simp only [List.set_cons_zero, List.set_cons_succ] at MY
                have z0 := MY.2.1 0 _ rfl
                have z1 := MY.2.1 1 _ rfl
                obtain ⟨xs9, own9, I9⟩ := hEY
                have hs9 := hoY.2.2.2.1
                have RA := RowW.mut (Mut.new Y #[.int .i64 5, .int .i64 r5] 33)
                have hIa := IntD.two (5) (r5)
                have h1c := hide hIa.one'
                have bA : Below Y.heap.size Y (Y.alloc (.cells #[.int .i64 5, .int .i64 r5] 33)) := below_box (Below.refl _ _)
                have hownA := ownW_below own9 bA
                have hbA : w.heap.size ≤ (Y.alloc (.cells #[.int .i64 5, .int .i64 r5] 33)).heap.size := by simp; omega
                have hl9 : Hid (lm + 1 ≤ 8589934593) := by show _ ≤ _; omega
                go_wp2_with (first | (at_builtin; refine wpList_appW aggEv rfl _ _ rfl w.heap.size _ lm xs9 rfl hownA Y.heap.size 0 1 1 [.int .i64 5, .int .i64 r5] rfl rfl RA h1c.out hl9.out (by decide) hbA ?_; intro v6 w6 own6 b6 g6 _))
                exact ⟨⟨k - 1, lm + 1, by congr 1; omega, by omega, by omega, ⟨_, own6, I9.app hIa⟩, cur_grown12 (cur_below (cur_up hcY (by omega)) bA) hownA hcw g6, only_base12 (hoY.trans (Only.of_below (c := c) bA)) b6⟩, by simp [intOf]; omega⟩
              · have k5' : (kd == 5) = false := by simp [k5]
                have z0 := MX.2.1 0 _ rfl
                have z1 := MX.2.1 1 _ rfl
                obtain ⟨xs9, own9, I9⟩ := hEX
                have hs9 := hoX.2.2.2.1
                have RA := RowW.mut (Mut.new X #[.int .i64 kd, .int .i64 0] 33)
                have hIa := IntD.two (kd) (0)
                have h1c := hide hIa.one'
                have bA : Below X.heap.size X (X.alloc (.cells #[.int .i64 kd, .int .i64 0] 33)) := below_box (Below.refl _ _)
                have hownA := ownW_below own9 bA
                have hbA : w.heap.size ≤ (X.alloc (.cells #[.int .i64 kd, .int .i64 0] 33)).heap.size := by simp; omega
                have hl9 : Hid (lm + 1 ≤ 8589934593) := by show _ ≤ _; omega
                go_wp2_with (first | (at_builtin; refine wpList_appW aggEv rfl _ _ rfl w.heap.size _ lm xs9 rfl hownA X.heap.size 0 1 1 [.int .i64 kd, .int .i64 0] rfl rfl RA h1c.out hl9.out (by decide) hbA ?_; intro v6 w6 own6 b6 g6 _))
                exact ⟨⟨k - 1, lm + 1, by congr 1; omega, by omega, by omega, ⟨_, own6, I9.app hIa⟩, cur_grown12 (cur_below (cur_up hcX (by omega)) bA) hownA hcw g6, only_base12 (hoX.trans (Only.of_below (c := c) bA)) b6⟩, by simp [intOf]; omega⟩
            | true =>
              go_wp2_with fail
              refine (s2.out _ _ _ (by omega) (by omega) hcg (hB.out _ hog)).mono ?_
              rintro e wh ⟨qh, hqh0, hqh1, rfl, hch, hoh⟩
              have hEh := hEg.only hoh hcw
              have MEh0 := MEg.only hoh hec
              replace hoh := hog.trans hoh
              have z0' := MEh0.2.1 0 _ rfl
              have zf0' := MEh0.2.2 0 (by simp)
              have hqh2 : qh ≤ 10 := by omega
              have MX := MEh0.set 0 (.int .i64 (1 + qh))
              have hcX := cur_only hch ((Only.refl qe wh).setCell 0 (.int .i64 (1 + qh))) (Ne.symm hec)
              have hoX : Only c w (wh.setCell ⟨qe, 0, none⟩ (.int .i64 (1 + qh))) := hoh.setNew hse 0 _
              have hEX : EvL 33 w.heap.size u3 lm (wh.setCell ⟨qe, 0, none⟩ (.int .i64 (1 + qh))) := hEh.away ((Only.refl qe wh).setCell 0 _) hng
              have hnX := hng
              clear hEg hcg hog MEg hEh hch hoh MEh0 hng
              go_upto_region 14 with fail
              clear z0' zf0'
              generalize wh.setCell ⟨qe, 0, none⟩ (.int .i64 (1 + qh)) = X at *
              generalize 1 + qh = kd at *
              simp only [List.set_cons_zero] at MX
              by_cases k5 : kd = 5
              · subst k5
                have hNm := nums12_7 X 3 0 2 3 9 90 100 101
                have bN : Below X.heap.size X (X.alloc (.cells #[.int .i64 0, .int .i64 2, .int .i64 3, .int .i64 9, .int .i64 90, .int .i64 100, .int .i64 101] 3)) := below_box (Below.refl _ _)
                have hcN := cur_below hcX bN
                have hsX := hoX.2.2.2.1
                have hoN := only_base12 hoX (bN.mono hsX)
                have hEN : EvL 33 w.heap.size u3 lm (X.alloc (.cells #[.int .i64 0, .int .i64 2, .int .i64 3, .int .i64 9, .int .i64 90, .int .i64 100, .int .i64 101] 3)) := by
                  obtain ⟨xs, h1, h2⟩ := hEX
                  exact ⟨xs, ownW_below h1 bN, h2⟩
                have MN := MX.below bN
                have hXc : X.heap.size ≠ c := by omega
                have z0 := MX.2.1 0 _ rfl
                clear bN hEX hcX hoX MX
                go_wp2_with fail
                refine (s3.out _ _ _ _ _ (by omega) (by omega) (by omega) hcN (hB.out _ hoN) hNm hXc).mono ?_
                rintro e wi ⟨r5, _, rfl, hci, hoi⟩
                have hEi := hEN.only hoi hcw
                have MEi := MN.only hoi hec
                replace hoi := hoN.trans hoi
                have zi := MEi.2.1 1 _ rfl
                have zfi := MEi.2.2 1 (by simp)
                have MY := MEi.set 1 (.int .i64 r5)
                have hcY := cur_only hci ((Only.refl qe wi).setCell 1 (.int .i64 r5)) (Ne.symm hec)
                have hoY : Only c w (wi.setCell ⟨qe, 1, none⟩ (.int .i64 r5)) := hoi.setNew hse 1 _
                have hEY : EvL 33 w.heap.size u3 lm (wi.setCell ⟨qe, 1, none⟩ (.int .i64 r5)) := hEi.away ((Only.refl qe wi).setCell 1 _) hnX
                clear hEN hcN hoN MN hNm hEi hci hoi MEi z0
                go_upto_region 16 with fail
                clear zi zfi
                generalize wi.setCell ⟨qe, 1, none⟩ (.int .i64 r5) = Y at *
                simp only [List.set_cons_zero, List.set_cons_succ] at MY
                have z0 := MY.2.1 0 _ rfl
                have z1 := MY.2.1 1 _ rfl
                obtain ⟨xs9, own9, I9⟩ := hEY
                have hs9 := hoY.2.2.2.1
                have RA := RowW.mut (Mut.new Y #[.int .i64 5, .int .i64 r5] 33)
                have hIa := IntD.two (5) (r5)
                have h1c := hide hIa.one'
                have bA : Below Y.heap.size Y (Y.alloc (.cells #[.int .i64 5, .int .i64 r5] 33)) := below_box (Below.refl _ _)
                have hownA := ownW_below own9 bA
                have hbA : w.heap.size ≤ (Y.alloc (.cells #[.int .i64 5, .int .i64 r5] 33)).heap.size := by simp; omega
                have hl9 : Hid (lm + 1 ≤ 8589934593) := by show _ ≤ _; omega
                go_wp2_with (first | (at_builtin; refine wpList_appW aggEv rfl _ _ rfl w.heap.size _ lm xs9 rfl hownA Y.heap.size 0 1 1 [.int .i64 5, .int .i64 r5] rfl rfl RA h1c.out hl9.out (by decide) hbA ?_; intro v6 w6 own6 b6 g6 _))
                exact ⟨⟨k - 1, lm + 1, by congr 1; omega, by omega, by omega, ⟨_, own6, I9.app hIa⟩, cur_grown12 (cur_below (cur_up hcY (by omega)) bA) hownA hcw g6, only_base12 (hoY.trans (Only.of_below (c := c) bA)) b6⟩, by simp [intOf]; omega⟩
              · have k5' : (kd == 5) = false := by simp [k5]
                have z0 := MX.2.1 0 _ rfl
                have z1 := MX.2.1 1 _ rfl
                obtain ⟨xs9, own9, I9⟩ := hEX
                have hs9 := hoX.2.2.2.1
                have RA := RowW.mut (Mut.new X #[.int .i64 kd, .int .i64 0] 33)
                have hIa := IntD.two (kd) (0)
                have h1c := hide hIa.one'
                have bA : Below X.heap.size X (X.alloc (.cells #[.int .i64 kd, .int .i64 0] 33)) := below_box (Below.refl _ _)
                have hownA := ownW_below own9 bA
                have hbA : w.heap.size ≤ (X.alloc (.cells #[.int .i64 kd, .int .i64 0] 33)).heap.size := by simp; omega
                have hl9 : Hid (lm + 1 ≤ 8589934593) := by show _ ≤ _; omega
                go_wp2_with (first | (at_builtin; refine wpList_appW aggEv rfl _ _ rfl w.heap.size _ lm xs9 rfl hownA X.heap.size 0 1 1 [.int .i64 kd, .int .i64 0] rfl rfl RA h1c.out hl9.out (by decide) hbA ?_; intro v6 w6 own6 b6 g6 _))
                exact ⟨⟨k - 1, lm + 1, by congr 1; omega, by omega, by omega, ⟨_, own6, I9.app hIa⟩, cur_grown12 (cur_below (cur_up hcX (by omega)) bA) hownA hcw g6, only_base12 (hoX.trans (Only.of_below (c := c) bA)) b6⟩, by simp [intOf]; omega⟩
          · have hk0' : ¬ (k : Int) > 0 := by omega
            go_wp2_with fail
            go_ret
            exact ⟨_, rfl, lm, by omega, hEr, cur_up hcr (by omega), hor⟩
      | true =>
        go_wp2_with fail
        refine (s2.out _ _ _ (by omega) (by omega) hcb (hB.out _ hob)).mono ?_
        rintro e wd ⟨qd, hqd0, hqd1, rfl, hcd, hod⟩
        have hEd := hEb.only hod hcw
        replace hod := hob.trans hod
        clear hEb hcb hob
        obtain ⟨N, hN⟩ : ∃ N : Nat, 98 + qd = (N : Int) := ⟨(98 + qd).toNat, by omega⟩
        have hN9 : N ≤ 100 := by omega
        clear hqa0 hqa1
        go_wp2_with fail
        go_loopw [3, 4] (fun l i wr => ∃ (k lm : Nat), i = .int .i64 k ∧ k ≤ N ∧ lm + k ≤ 104 ∧ EvL 33 w.heap.size l lm wr ∧ Cur c v (n + 14 + 8 * (N - k)) wr ∧ Only c w wr) (fun _ i _ => (intOf i).toNat)
        case atStart => exact ⟨N, 2, by first | rfl | (simp only [hN]), Nat.le_refl _, by omega, hEd, cur_up hcd (by omega), hod⟩
        case round =>
          obtain ⟨k, lm, rfl, hk, hlm, hEr, hcr, hor⟩ := hrel
          clear hEd hcd hod
          by_cases hk0 : 0 < k
          · have hk0' : (k : Int) > 0 := by omega
            have hk9 : (k : Int) ≤ 100 := by omega
            have hNm := nums12_12 wr 3 1 3 5 7 7 7 8 8 10 10 10 10
            have bN : Below wr.heap.size wr (wr.alloc (.cells #[.int .i64 1, .int .i64 3, .int .i64 5, .int .i64 7, .int .i64 7, .int .i64 7, .int .i64 8, .int .i64 8, .int .i64 10, .int .i64 10, .int .i64 10, .int .i64 10] 3)) := below_box (Below.refl _ _)
            have hcN := cur_below hcr bN
            have hoN := only_base12 hor (bN.mono hor.2.2.2.1)
            have hEN : EvL 33 w.heap.size u3 lm (wr.alloc (.cells #[.int .i64 1, .int .i64 3, .int .i64 5, .int .i64 7, .int .i64 7, .int .i64 7, .int .i64 8, .int .i64 8, .int .i64 10, .int .i64 10, .int .i64 10, .int .i64 10] 3)) := by
              obtain ⟨xs, h1, h2⟩ := hEr
              exact ⟨xs, ownW_below h1 bN, h2⟩
            have hrc : wr.heap.size ≠ c := by have := hor.2.2.2.1; omega
            clear bN hEr hcr hor
            go_wp2_with fail
            refine (s3.out _ _ _ _ _ (by omega) (by omega) (by omega) hcN (hB.out _ hoN) hNm hrc).mono ?_
            rintro e we ⟨kd, _, rfl, hce, hoe⟩
            have hEe := hEN.only hoe hcw
            replace hoe := hoN.trans hoe
            clear hEN hcN hoN hNm
            have ME := Mut.new we #[.int .i64 kd, .int .i64 0] 33
            have bE : Below we.heap.size we (we.alloc (.cells #[.int .i64 kd, .int .i64 0] 33)) := below_box (Below.refl _ _)
            have hcE := cur_below hce bE
            have hse := hoe.2.2.2.1
            have hoE := only_base12 hoe (bE.mono hse)
            have hEE : EvL 33 w.heap.size u3 lm (we.alloc (.cells #[.int .i64 kd, .int .i64 0] 33)) := by
              obtain ⟨xs, h1, h2⟩ := hEe
              exact ⟨xs, ownW_below h1 bE, h2⟩
            have hec : we.heap.size ≠ c := by omega
            have hnE : u3.ownBlock ≠ some we.heap.size := by
              obtain ⟨xs, h1, _⟩ := hEe
              exact fun q => by have := (ownW_lt h1 q).2; omega
            clear bE hEe hce hoe
            go_wp2_with fail
            generalize we.alloc (.cells #[.int .i64 kd, .int .i64 0] 33) = wf at *
            generalize we.heap.size = qe at *
            refine (s1.out _ _ _ (by omega) (by omega) hcE (hB.out _ hoE)).mono ?_
            rintro e wg ⟨r4, rfl, hcg, hog⟩
            have hEg := hEE.only hog hcw
            have hng := hnE
            have MEg := ME.only hog hec
            replace hog := hoE.trans hog
            clear hEE hcE hoE ME hnE
            cases r4 with
            | false =>
              go_upto_region 14 with fail
              have hX := hide (And.intro hcg (And.intro hog (And.intro hEg (And.intro MEg hng))))
              clear hcg hog hEg MEg hng
              generalize wg = X at *
              obtain ⟨hcX, hoX, hEX, MX, hnX⟩ := hX.out
              clear hX
              by_cases k5 : kd = 5
              · subst k5
                have hNm := nums12_7 X 3 0 2 3 9 90 100 101
                have bN : Below X.heap.size X (X.alloc (.cells #[.int .i64 0, .int .i64 2, .int .i64 3, .int .i64 9, .int .i64 90, .int .i64 100, .int .i64 101] 3)) := below_box (Below.refl _ _)
                have hcN := cur_below hcX bN
                have hsX := hoX.2.2.2.1
                have hoN := only_base12 hoX (bN.mono hsX)
                have hEN : EvL 33 w.heap.size u3 lm (X.alloc (.cells #[.int .i64 0, .int .i64 2, .int .i64 3, .int .i64 9, .int .i64 90, .int .i64 100, .int .i64 101] 3)) := by
                  obtain ⟨xs, h1, h2⟩ := hEX
                  exact ⟨xs, ownW_below h1 bN, h2⟩
                have MN := MX.below bN
                have hXc : X.heap.size ≠ c := by omega
                have z0 := MX.2.1 0 _ rfl
                clear bN hEX hcX hoX MX
                go_wp2_with fail
                refine (s3.out _ _ _ _ _ (by omega) (by omega) (by omega) hcN (hB.out _ hoN) hNm hXc).mono ?_
                rintro e wi ⟨r5, _, rfl, hci, hoi⟩
                have hEi := hEN.only hoi hcw
                have MEi := MN.only hoi hec
                replace hoi := hoN.trans hoi
                have zi := MEi.2.1 1 _ rfl
                have zfi := MEi.2.2 1 (by simp)
                have MY := MEi.set 1 (.int .i64 r5)
                have hcY := cur_only hci ((Only.refl qe wi).setCell 1 (.int .i64 r5)) (Ne.symm hec)
                have hoY : Only c w (wi.setCell ⟨qe, 1, none⟩ (.int .i64 r5)) := hoi.setNew hse 1 _
                have hEY : EvL 33 w.heap.size u3 lm (wi.setCell ⟨qe, 1, none⟩ (.int .i64 r5)) := hEi.away ((Only.refl qe wi).setCell 1 _) hnX
                clear hEN hcN hoN MN hNm hEi hci hoi MEi z0
                go_upto_region 16 with fail
                clear zi zfi
                generalize wi.setCell ⟨qe, 1, none⟩ (.int .i64 r5) = Y at *
                simp only [List.set_cons_zero, List.set_cons_succ] at MY
                have z0 := MY.2.1 0 _ rfl
                have z1 := MY.2.1 1 _ rfl
                obtain ⟨xs9, own9, I9⟩ := hEY
                have hs9 := hoY.2.2.2.1
                have RA := RowW.mut (Mut.new Y #[.int .i64 5, .int .i64 r5] 33)
                have hIa := IntD.two (5) (r5)
                have h1c := hide hIa.one'
                have bA : Below Y.heap.size Y (Y.alloc (.cells #[.int .i64 5, .int .i64 r5] 33)) := below_box (Below.refl _ _)
                have hownA := ownW_below own9 bA
                have hbA : w.heap.size ≤ (Y.alloc (.cells #[.int .i64 5, .int .i64 r5] 33)).heap.size := by simp; omega
                have hl9 : Hid (lm + 1 ≤ 8589934593) := by show _ ≤ _; omega
                go_wp2_with (first | (at_builtin; refine wpList_appW aggEv rfl _ _ rfl w.heap.size _ lm xs9 rfl hownA Y.heap.size 0 1 1 [.int .i64 5, .int .i64 r5] rfl rfl RA h1c.out hl9.out (by decide) hbA ?_; intro v6 w6 own6 b6 g6 _))
                exact ⟨⟨k - 1, lm + 1, by congr 1; omega, by omega, by omega, ⟨_, own6, I9.app hIa⟩, cur_grown12 (cur_below (cur_up hcY (by omega)) bA) hownA hcw g6, only_base12 (hoY.trans (Only.of_below (c := c) bA)) b6⟩, by simp [intOf]; omega⟩
              · have k5' : (kd == 5) = false := by simp [k5]
                have z0 := MX.2.1 0 _ rfl
                have z1 := MX.2.1 1 _ rfl
                obtain ⟨xs9, own9, I9⟩ := hEX
                have hs9 := hoX.2.2.2.1
                have RA := RowW.mut (Mut.new X #[.int .i64 kd, .int .i64 0] 33)
                have hIa := IntD.two (kd) (0)
                have h1c := hide hIa.one'
                have bA : Below X.heap.size X (X.alloc (.cells #[.int .i64 kd, .int .i64 0] 33)) := below_box (Below.refl _ _)
                have hownA := ownW_below own9 bA
                have hbA : w.heap.size ≤ (X.alloc (.cells #[.int .i64 kd, .int .i64 0] 33)).heap.size := by simp; omega
                have hl9 : Hid (lm + 1 ≤ 8589934593) := by show _ ≤ _; omega
                go_wp2_with (first | (at_builtin; refine wpList_appW aggEv rfl _ _ rfl w.heap.size _ lm xs9 rfl hownA X.heap.size 0 1 1 [.int .i64 kd, .int .i64 0] rfl rfl RA h1c.out hl9.out (by decide) hbA ?_; intro v6 w6 own6 b6 g6 _))
                exact ⟨⟨k - 1, lm + 1, by congr 1; omega, by omega, by omega, ⟨_, own6, I9.app hIa⟩, cur_grown12 (cur_below (cur_up hcX (by omega)) bA) hownA hcw g6, only_base12 (hoX.trans (Only.of_below (c := c) bA)) b6⟩, by simp [intOf]; omega⟩
            | true =>
              go_wp2_with fail
              refine (s2.out _ _ _ (by omega) (by omega) hcg (hB.out _ hog)).mono ?_
              rintro e wh ⟨qh, hqh0, hqh1, rfl, hch, hoh⟩
              have hEh := hEg.only hoh hcw
              have MEh0 := MEg.only hoh hec
              replace hoh := hog.trans hoh
              have z0' := MEh0.2.1 0 _ rfl
              have zf0' := MEh0.2.2 0 (by simp)
              have hqh2 : qh ≤ 10 := by omega
              have MX := MEh0.set 0 (.int .i64 (1 + qh))
              have hcX := cur_only hch ((Only.refl qe wh).setCell 0 (.int .i64 (1 + qh))) (Ne.symm hec)
              have hoX : Only c w (wh.setCell ⟨qe, 0, none⟩ (.int .i64 (1 + qh))) := hoh.setNew hse 0 _
              have hEX : EvL 33 w.heap.size u3 lm (wh.setCell ⟨qe, 0, none⟩ (.int .i64 (1 + qh))) := hEh.away ((Only.refl qe wh).setCell 0 _) hng
              have hnX := hng
              clear hEg hcg hog MEg hEh hch hoh MEh0 hng
              go_upto_region 14 with fail
              clear z0' zf0'
              generalize wh.setCell ⟨qe, 0, none⟩ (.int .i64 (1 + qh)) = X at *
              generalize 1 + qh = kd at *
              simp only [List.set_cons_zero] at MX
              by_cases k5 : kd = 5
              · subst k5
                have hNm := nums12_7 X 3 0 2 3 9 90 100 101
                have bN : Below X.heap.size X (X.alloc (.cells #[.int .i64 0, .int .i64 2, .int .i64 3, .int .i64 9, .int .i64 90, .int .i64 100, .int .i64 101] 3)) := below_box (Below.refl _ _)
                have hcN := cur_below hcX bN
                have hsX := hoX.2.2.2.1
                have hoN := only_base12 hoX (bN.mono hsX)
                have hEN : EvL 33 w.heap.size u3 lm (X.alloc (.cells #[.int .i64 0, .int .i64 2, .int .i64 3, .int .i64 9, .int .i64 90, .int .i64 100, .int .i64 101] 3)) := by
                  obtain ⟨xs, h1, h2⟩ := hEX
                  exact ⟨xs, ownW_below h1 bN, h2⟩
                have MN := MX.below bN
                have hXc : X.heap.size ≠ c := by omega
                have z0 := MX.2.1 0 _ rfl
                clear bN hEX hcX hoX MX
                go_wp2_with fail
                refine (s3.out _ _ _ _ _ (by omega) (by omega) (by omega) hcN (hB.out _ hoN) hNm hXc).mono ?_
                rintro e wi ⟨r5, _, rfl, hci, hoi⟩
                have hEi := hEN.only hoi hcw
                have MEi := MN.only hoi hec
                replace hoi := hoN.trans hoi
                have zi := MEi.2.1 1 _ rfl
                have zfi := MEi.2.2 1 (by simp)
                have MY := MEi.set 1 (.int .i64 r5)
                have hcY := cur_only hci ((Only.refl qe wi).setCell 1 (.int .i64 r5)) (Ne.symm hec)
                have hoY : Only c w (wi.setCell ⟨qe, 1, none⟩ (.int .i64 r5)) := hoi.setNew hse 1 _
                have hEY : EvL 33 w.heap.size u3 lm (wi.setCell ⟨qe, 1, none⟩ (.int .i64 r5)) := hEi.away ((Only.refl qe wi).setCell 1 _) hnX
                clear hEN hcN hoN MN hNm hEi hci hoi MEi z0
                go_upto_region 16 with fail
                clear zi zfi
                generalize wi.setCell ⟨qe, 1, none⟩ (.int .i64 r5) = Y at *
                simp only [List.set_cons_zero, List.set_cons_succ] at MY
                have z0 := MY.2.1 0 _ rfl
                have z1 := MY.2.1 1 _ rfl
                obtain ⟨xs9, own9, I9⟩ := hEY
                have hs9 := hoY.2.2.2.1
                have RA := RowW.mut (Mut.new Y #[.int .i64 5, .int .i64 r5] 33)
                have hIa := IntD.two (5) (r5)
                have h1c := hide hIa.one'
                have bA : Below Y.heap.size Y (Y.alloc (.cells #[.int .i64 5, .int .i64 r5] 33)) := below_box (Below.refl _ _)
                have hownA := ownW_below own9 bA
                have hbA : w.heap.size ≤ (Y.alloc (.cells #[.int .i64 5, .int .i64 r5] 33)).heap.size := by simp; omega
                have hl9 : Hid (lm + 1 ≤ 8589934593) := by show _ ≤ _; omega
                go_wp2_with (first | (at_builtin; refine wpList_appW aggEv rfl _ _ rfl w.heap.size _ lm xs9 rfl hownA Y.heap.size 0 1 1 [.int .i64 5, .int .i64 r5] rfl rfl RA h1c.out hl9.out (by decide) hbA ?_; intro v6 w6 own6 b6 g6 _))
                exact ⟨⟨k - 1, lm + 1, by congr 1; omega, by omega, by omega, ⟨_, own6, I9.app hIa⟩, cur_grown12 (cur_below (cur_up hcY (by omega)) bA) hownA hcw g6, only_base12 (hoY.trans (Only.of_below (c := c) bA)) b6⟩, by simp [intOf]; omega⟩
              · have k5' : (kd == 5) = false := by simp [k5]
                have z0 := MX.2.1 0 _ rfl
                have z1 := MX.2.1 1 _ rfl
                obtain ⟨xs9, own9, I9⟩ := hEX
                have hs9 := hoX.2.2.2.1
                have RA := RowW.mut (Mut.new X #[.int .i64 kd, .int .i64 0] 33)
                have hIa := IntD.two (kd) (0)
                have h1c := hide hIa.one'
                have bA : Below X.heap.size X (X.alloc (.cells #[.int .i64 kd, .int .i64 0] 33)) := below_box (Below.refl _ _)
                have hownA := ownW_below own9 bA
                have hbA : w.heap.size ≤ (X.alloc (.cells #[.int .i64 kd, .int .i64 0] 33)).heap.size := by simp; omega
                have hl9 : Hid (lm + 1 ≤ 8589934593) := by show _ ≤ _; omega
                go_wp2_with (first | (at_builtin; refine wpList_appW aggEv rfl _ _ rfl w.heap.size _ lm xs9 rfl hownA X.heap.size 0 1 1 [.int .i64 kd, .int .i64 0] rfl rfl RA h1c.out hl9.out (by decide) hbA ?_; intro v6 w6 own6 b6 g6 _))
                exact ⟨⟨k - 1, lm + 1, by congr 1; omega, by omega, by omega, ⟨_, own6, I9.app hIa⟩, cur_grown12 (cur_below (cur_up hcX (by omega)) bA) hownA hcw g6, only_base12 (hoX.trans (Only.of_below (c := c) bA)) b6⟩, by simp [intOf]; omega⟩
          · have hk0' : ¬ (k : Int) > 0 := by omega
            go_wp2_with fail
            go_ret
            exact ⟨_, rfl, lm, by omega, hEr, cur_up hcr (by omega), hor⟩
    | true =>
      go_wp2_with fail
      refine (s2.out _ _ _ (by omega) (by omega) hc7 (hB.out _ ho7)).mono ?_
      rintro e w8 ⟨q8, hq80, hq81, rfl, hc8, ho8⟩
      have hE8 := hE7.only ho8 hcw
      replace ho8 := ho7.trans ho8
      clear hE7 hc7 ho7
      obtain ⟨xs8, own8, I8⟩ := hE8
      have hs8 := ho8.2.2.2.1
      have hq8' : q8 ≤ 20 := by omega
      have RA := RowW.mut (Mut.new w8 #[.int .i64 5, .int .i64 (3 + q8), .int .i64 7, .int .i64 0] 33)
      have hIa := IntD.four (5) ((3 + q8)) (7) (0)
      have h1c := hide hIa.one'
      have bA : Below w8.heap.size w8 (w8.alloc (.cells #[.int .i64 5, .int .i64 (3 + q8), .int .i64 7, .int .i64 0] 33)) := below_box (Below.refl _ _)
      have hownA := ownW_below own8 bA
      have hbA : w.heap.size ≤ (w8.alloc (.cells #[.int .i64 5, .int .i64 (3 + q8), .int .i64 7, .int .i64 0] 33)).heap.size := by simp; omega
      have hl9 : Hid (2 + 2 ≤ 8589934593) := by show _ ≤ _; omega
      go_wp2_with (first | (at_builtin; refine wpList_appW aggEv rfl _ _ rfl w.heap.size _ 2 xs8 rfl hownA w8.heap.size 0 2 2 [.int .i64 5, .int .i64 (3 + q8), .int .i64 7, .int .i64 0] rfl rfl RA h1c.out hl9.out (by decide) hbA ?_; intro v9 w9 own9 b9 g9 _))
      have hE9 : EvL 33 w.heap.size v9 (2 + 2) w9 := ⟨_, own9, I8.app hIa⟩
      have hc9 := cur_grown12 (cur_below hc8 bA) hownA hcw g9
      have ho9 := only_base12 (ho8.trans (Only.of_below (c := c) bA)) b9
      clear RA hIa h1c bA hownA hbA hl9 own9 b9 g9 own8 I8 hc8 ho8
      refine (s2.out _ _ _ (by omega) (by omega) hc9 (hB.out _ ho9)).mono ?_
      rintro e wa ⟨qa, hqa0, hqa1, rfl, hca, hoa⟩
      have hEa := hE9.only hoa hcw
      replace hoa := ho9.trans hoa
      clear hE9 hc9 ho9
      go_wp2_with fail
      refine (s1.out _ _ _ (by omega) (by omega) hca (hB.out _ hoa)).mono ?_
      rintro e wb ⟨r3, rfl, hcb, hob⟩
      have hEb := hEa.only hob hcw
      replace hob := hoa.trans hob
      clear hEa hca hoa
      cases r3 with
      | false =>
        obtain ⟨N, hN⟩ : ∃ N : Nat, qa = (N : Int) := ⟨qa.toNat, by omega⟩
        subst hN
        have hN9 : N ≤ 100 := by omega
        go_wp2_with fail
        go_loopw [3, 4] (fun l i wr => ∃ (k lm : Nat), i = .int .i64 k ∧ k ≤ N ∧ lm + k ≤ 104 ∧ EvL 33 w.heap.size l lm wr ∧ Cur c v (n + 14 + 8 * (N - k)) wr ∧ Only c w wr) (fun _ i _ => (intOf i).toNat)
        case atStart => exact ⟨N, 2 + 2, by first | rfl | (simp only [hN]), Nat.le_refl _, by omega, hEb, cur_up hcb (by omega), hob⟩
        case round =>
          obtain ⟨k, lm, rfl, hk, hlm, hEr, hcr, hor⟩ := hrel
          clear hEb hcb hob
          by_cases hk0 : 0 < k
          · have hk0' : (k : Int) > 0 := by omega
            have hk9 : (k : Int) ≤ 100 := by omega
            have hNm := nums12_12 wr 3 1 3 5 7 7 7 8 8 10 10 10 10
            have bN : Below wr.heap.size wr (wr.alloc (.cells #[.int .i64 1, .int .i64 3, .int .i64 5, .int .i64 7, .int .i64 7, .int .i64 7, .int .i64 8, .int .i64 8, .int .i64 10, .int .i64 10, .int .i64 10, .int .i64 10] 3)) := below_box (Below.refl _ _)
            have hcN := cur_below hcr bN
            have hoN := only_base12 hor (bN.mono hor.2.2.2.1)
            have hEN : EvL 33 w.heap.size u3 lm (wr.alloc (.cells #[.int .i64 1, .int .i64 3, .int .i64 5, .int .i64 7, .int .i64 7, .int .i64 7, .int .i64 8, .int .i64 8, .int .i64 10, .int .i64 10, .int .i64 10, .int .i64 10] 3)) := by
              obtain ⟨xs, h1, h2⟩ := hEr
              exact ⟨xs, ownW_below h1 bN, h2⟩
            have hrc : wr.heap.size ≠ c := by have := hor.2.2.2.1; omega
            clear bN hEr hcr hor
            go_wp2_with fail
            refine (s3.out _ _ _ _ _ (by omega) (by omega) (by omega) hcN (hB.out _ hoN) hNm hrc).mono ?_
            rintro e we ⟨kd, _, rfl, hce, hoe⟩
            have hEe := hEN.only hoe hcw
            replace hoe := hoN.trans hoe
            clear hEN hcN hoN hNm
            have ME := Mut.new we #[.int .i64 kd, .int .i64 0] 33
            have bE : Below we.heap.size we (we.alloc (.cells #[.int .i64 kd, .int .i64 0] 33)) := below_box (Below.refl _ _)
            have hcE := cur_below hce bE
            have hse := hoe.2.2.2.1
            have hoE := only_base12 hoe (bE.mono hse)
            have hEE : EvL 33 w.heap.size u3 lm (we.alloc (.cells #[.int .i64 kd, .int .i64 0] 33)) := by
              obtain ⟨xs, h1, h2⟩ := hEe
              exact ⟨xs, ownW_below h1 bE, h2⟩
            have hec : we.heap.size ≠ c := by omega
            have hnE : u3.ownBlock ≠ some we.heap.size := by
              obtain ⟨xs, h1, _⟩ := hEe
              exact fun q => by have := (ownW_lt h1 q).2; omega
            clear bE hEe hce hoe
            go_wp2_with fail
            generalize we.alloc (.cells #[.int .i64 kd, .int .i64 0] 33) = wf at *
            generalize we.heap.size = qe at *
            refine (s1.out _ _ _ (by omega) (by omega) hcE (hB.out _ hoE)).mono ?_
            rintro e wg ⟨r4, rfl, hcg, hog⟩
            have hEg := hEE.only hog hcw
            have hng := hnE
            have MEg := ME.only hog hec
            replace hog := hoE.trans hog
            clear hEE hcE hoE ME hnE
            cases r4 with
            | false =>
              go_upto_region 14 with fail
              have hX := hide (And.intro hcg (And.intro hog (And.intro hEg (And.intro MEg hng))))
              clear hcg hog hEg MEg hng
              generalize wg = X at *
              obtain ⟨hcX, hoX, hEX, MX, hnX⟩ := hX.out
              clear hX
              by_cases k5 : kd = 5
              · subst k5
                have hNm := nums12_7 X 3 0 2 3 9 90 100 101
                have bN : Below X.heap.size X (X.alloc (.cells #[.int .i64 0, .int .i64 2, .int .i64 3, .int .i64 9, .int .i64 90, .int .i64 100, .int .i64 101] 3)) := below_box (Below.refl _ _)
                have hcN := cur_below hcX bN
                have hsX := hoX.2.2.2.1
                have hoN := only_base12 hoX (bN.mono hsX)
                have hEN : EvL 33 w.heap.size u3 lm (X.alloc (.cells #[.int .i64 0, .int .i64 2, .int .i64 3, .int .i64 9, .int .i64 90, .int .i64 100, .int .i64 101] 3)) := by
                  obtain ⟨xs, h1, h2⟩ := hEX
                  exact ⟨xs, ownW_below h1 bN, h2⟩
                have MN := MX.below bN
                have hXc : X.heap.size ≠ c := by omega
                have z0 := MX.2.1 0 _ rfl
                clear bN hEX hcX hoX MX
                go_wp2_with fail
                refine (s3.out _ _ _ _ _ (by omega) (by omega) (by omega) hcN (hB.out _ hoN) hNm hXc).mono ?_
                rintro e wi ⟨r5, _, rfl, hci, hoi⟩
                have hEi := hEN.only hoi hcw
                have MEi := MN.only hoi hec
                replace hoi := hoN.trans hoi
                have zi := MEi.2.1 1 _ rfl
                have zfi := MEi.2.2 1 (by simp)
                have MY := MEi.set 1 (.int .i64 r5)
                have hcY := cur_only hci ((Only.refl qe wi).setCell 1 (.int .i64 r5)) (Ne.symm hec)
                have hoY : Only c w (wi.setCell ⟨qe, 1, none⟩ (.int .i64 r5)) := hoi.setNew hse 1 _
                have hEY : EvL 33 w.heap.size u3 lm (wi.setCell ⟨qe, 1, none⟩ (.int .i64 r5)) := hEi.away ((Only.refl qe wi).setCell 1 _) hnX
                clear hEN hcN hoN MN hNm hEi hci hoi MEi z0
                go_upto_region 16 with fail
                clear zi zfi
                generalize wi.setCell ⟨qe, 1, none⟩ (.int .i64 r5) = Y at *
                simp only [List.set_cons_zero, List.set_cons_succ] at MY
                have z0 := MY.2.1 0 _ rfl
                have z1 := MY.2.1 1 _ rfl
                obtain ⟨xs9, own9, I9⟩ := hEY
                have hs9 := hoY.2.2.2.1
                have RA := RowW.mut (Mut.new Y #[.int .i64 5, .int .i64 r5] 33)
                have hIa := IntD.two (5) (r5)
                have h1c := hide hIa.one'
                have bA : Below Y.heap.size Y (Y.alloc (.cells #[.int .i64 5, .int .i64 r5] 33)) := below_box (Below.refl _ _)
                have hownA := ownW_below own9 bA
                have hbA : w.heap.size ≤ (Y.alloc (.cells #[.int .i64 5, .int .i64 r5] 33)).heap.size := by simp; omega
                have hl9 : Hid (lm + 1 ≤ 8589934593) := by show _ ≤ _; omega
                go_wp2_with (first | (at_builtin; refine wpList_appW aggEv rfl _ _ rfl w.heap.size _ lm xs9 rfl hownA Y.heap.size 0 1 1 [.int .i64 5, .int .i64 r5] rfl rfl RA h1c.out hl9.out (by decide) hbA ?_; intro v6 w6 own6 b6 g6 _))
                exact ⟨⟨k - 1, lm + 1, by congr 1; omega, by omega, by omega, ⟨_, own6, I9.app hIa⟩, cur_grown12 (cur_below (cur_up hcY (by omega)) bA) hownA hcw g6, only_base12 (hoY.trans (Only.of_below (c := c) bA)) b6⟩, by simp [intOf]; omega⟩
              · have k5' : (kd == 5) = false := by simp [k5]
                have z0 := MX.2.1 0 _ rfl
                have z1 := MX.2.1 1 _ rfl
                obtain ⟨xs9, own9, I9⟩ := hEX
                have hs9 := hoX.2.2.2.1
                have RA := RowW.mut (Mut.new X #[.int .i64 kd, .int .i64 0] 33)
                have hIa := IntD.two (kd) (0)
                have h1c := hide hIa.one'
                have bA : Below X.heap.size X (X.alloc (.cells #[.int .i64 kd, .int .i64 0] 33)) := below_box (Below.refl _ _)
                have hownA := ownW_below own9 bA
                have hbA : w.heap.size ≤ (X.alloc (.cells #[.int .i64 kd, .int .i64 0] 33)).heap.size := by simp; omega
                have hl9 : Hid (lm + 1 ≤ 8589934593) := by show _ ≤ _; omega
                go_wp2_with (first | (at_builtin; refine wpList_appW aggEv rfl _ _ rfl w.heap.size _ lm xs9 rfl hownA X.heap.size 0 1 1 [.int .i64 kd, .int .i64 0] rfl rfl RA h1c.out hl9.out (by decide) hbA ?_; intro v6 w6 own6 b6 g6 _))
                exact ⟨⟨k - 1, lm + 1, by congr 1; omega, by omega, by omega, ⟨_, own6, I9.app hIa⟩, cur_grown12 (cur_below (cur_up hcX (by omega)) bA) hownA hcw g6, only_base12 (hoX.trans (Only.of_below (c := c) bA)) b6⟩, by simp [intOf]; omega⟩
            | true =>
              go_wp2_with fail
              refine (s2.out _ _ _ (by omega) (by omega) hcg (hB.out _ hog)).mono ?_
              rintro e wh ⟨qh, hqh0, hqh1, rfl, hch, hoh⟩
              have hEh := hEg.only hoh hcw
              have MEh0 := MEg.only hoh hec
              replace hoh := hog.trans hoh
              have z0' := MEh0.2.1 0 _ rfl
              have zf0' := MEh0.2.2 0 (by simp)
              have hqh2 : qh ≤ 10 := by omega
              have MX := MEh0.set 0 (.int .i64 (1 + qh))
              have hcX := cur_only hch ((Only.refl qe wh).setCell 0 (.int .i64 (1 + qh))) (Ne.symm hec)
              have hoX : Only c w (wh.setCell ⟨qe, 0, none⟩ (.int .i64 (1 + qh))) := hoh.setNew hse 0 _
              have hEX : EvL 33 w.heap.size u3 lm (wh.setCell ⟨qe, 0, none⟩ (.int .i64 (1 + qh))) := hEh.away ((Only.refl qe wh).setCell 0 _) hng
              have hnX := hng
              clear hEg hcg hog MEg hEh hch hoh MEh0 hng
              go_upto_region 14 with fail
              clear z0' zf0'
              generalize wh.setCell ⟨qe, 0, none⟩ (.int .i64 (1 + qh)) = X at *
              generalize 1 + qh = kd at *
              simp only [List.set_cons_zero] at MX
              by_cases k5 : kd = 5
              · subst k5
                have hNm := nums12_7 X 3 0 2 3 9 90 100 101
                have bN : Below X.heap.size X (X.alloc (.cells #[.int .i64 0, .int .i64 2, .int .i64 3, .int .i64 9, .int .i64 90, .int .i64 100, .int .i64 101] 3)) := below_box (Below.refl _ _)
                have hcN := cur_below hcX bN
                have hsX := hoX.2.2.2.1
                have hoN := only_base12 hoX (bN.mono hsX)
                have hEN : EvL 33 w.heap.size u3 lm (X.alloc (.cells #[.int .i64 0, .int .i64 2, .int .i64 3, .int .i64 9, .int .i64 90, .int .i64 100, .int .i64 101] 3)) := by
                  obtain ⟨xs, h1, h2⟩ := hEX
                  exact ⟨xs, ownW_below h1 bN, h2⟩
                have MN := MX.below bN
                have hXc : X.heap.size ≠ c := by omega
                have z0 := MX.2.1 0 _ rfl
                clear bN hEX hcX hoX MX
                go_wp2_with fail
                refine (s3.out _ _ _ _ _ (by omega) (by omega) (by omega) hcN (hB.out _ hoN) hNm hXc).mono ?_
                rintro e wi ⟨r5, _, rfl, hci, hoi⟩
                have hEi := hEN.only hoi hcw
                have MEi := MN.only hoi hec
                replace hoi := hoN.trans hoi
                have zi := MEi.2.1 1 _ rfl
                have zfi := MEi.2.2 1 (by simp)
                have MY := MEi.set 1 (.int .i64 r5)
                have hcY := cur_only hci ((Only.refl qe wi).setCell 1 (.int .i64 r5)) (Ne.symm hec)
                have hoY : Only c w (wi.setCell ⟨qe, 1, none⟩ (.int .i64 r5)) := hoi.setNew hse 1 _
                have hEY : EvL 33 w.heap.size u3 lm (wi.setCell ⟨qe, 1, none⟩ (.int .i64 r5)) := hEi.away ((Only.refl qe wi).setCell 1 _) hnX
                clear hEN hcN hoN MN hNm hEi hci hoi MEi z0
                go_upto_region 16 with fail
                clear zi zfi
                generalize wi.setCell ⟨qe, 1, none⟩ (.int .i64 r5) = Y at *
                simp only [List.set_cons_zero, List.set_cons_succ] at MY
                have z0 := MY.2.1 0 _ rfl
                have z1 := MY.2.1 1 _ rfl
                obtain ⟨xs9, own9, I9⟩ := hEY
                have hs9 := hoY.2.2.2.1
                have RA := RowW.mut (Mut.new Y #[.int .i64 5, .int .i64 r5] 33)
                have hIa := IntD.two (5) (r5)
                have h1c := hide hIa.one'
                have bA : Below Y.heap.size Y (Y.alloc (.cells #[.int .i64 5, .int .i64 r5] 33)) := below_box (Below.refl _ _)
                have hownA := ownW_below own9 bA
                have hbA : w.heap.size ≤ (Y.alloc (.cells #[.int .i64 5, .int .i64 r5] 33)).heap.size := by simp; omega
                have hl9 : Hid (lm + 1 ≤ 8589934593) := by show _ ≤ _; omega
                go_wp2_with (first | (at_builtin; refine wpList_appW aggEv rfl _ _ rfl w.heap.size _ lm xs9 rfl hownA Y.heap.size 0 1 1 [.int .i64 5, .int .i64 r5] rfl rfl RA h1c.out hl9.out (by decide) hbA ?_; intro v6 w6 own6 b6 g6 _))
                exact ⟨⟨k - 1, lm + 1, by congr 1; omega, by omega, by omega, ⟨_, own6, I9.app hIa⟩, cur_grown12 (cur_below (cur_up hcY (by omega)) bA) hownA hcw g6, only_base12 (hoY.trans (Only.of_below (c := c) bA)) b6⟩, by simp [intOf]; omega⟩
              · have k5' : (kd == 5) = false := by simp [k5]
                have z0 := MX.2.1 0 _ rfl
                have z1 := MX.2.1 1 _ rfl
                obtain ⟨xs9, own9, I9⟩ := hEX
                have hs9 := hoX.2.2.2.1
                have RA := RowW.mut (Mut.new X #[.int .i64 kd, .int .i64 0] 33)
                have hIa := IntD.two (kd) (0)
                have h1c := hide hIa.one'
                have bA : Below X.heap.size X (X.alloc (.cells #[.int .i64 kd, .int .i64 0] 33)) := below_box (Below.refl _ _)
                have hownA := ownW_below own9 bA
                have hbA : w.heap.size ≤ (X.alloc (.cells #[.int .i64 kd, .int .i64 0] 33)).heap.size := by simp; omega
                have hl9 : Hid (lm + 1 ≤ 8589934593) := by show _ ≤ _; omega
                go_wp2_with (first | (at_builtin; refine wpList_appW aggEv rfl _ _ rfl w.heap.size _ lm xs9 rfl hownA X.heap.size 0 1 1 [.int .i64 kd, .int .i64 0] rfl rfl RA h1c.out hl9.out (by decide) hbA ?_; intro v6 w6 own6 b6 g6 _))
                exact ⟨⟨k - 1, lm + 1, by congr 1; omega, by omega, by omega, ⟨_, own6, I9.app hIa⟩, cur_grown12 (cur_below (cur_up hcX (by omega)) bA) hownA hcw g6, only_base12 (hoX.trans (Only.of_below (c := c) bA)) b6⟩, by simp [intOf]; omega⟩
          · have hk0' : ¬ (k : Int) > 0 := by omega
            go_wp2_with fail
            go_ret
            exact ⟨_, rfl, lm, by omega, hEr, cur_up hcr (by omega), hor⟩
      | true =>
        go_wp2_with fail
        refine (s2.out _ _ _ (by omega) (by omega) hcb (hB.out _ hob)).mono ?_
        rintro e wd ⟨qd, hqd0, hqd1, rfl, hcd, hod⟩
        have hEd := hEb.only hod hcw
        replace hod := hob.trans hod
        clear hEb hcb hob
        obtain ⟨N, hN⟩ : ∃ N : Nat, 98 + qd = (N : Int) := ⟨(98 + qd).toNat, by omega⟩
        have hN9 : N ≤ 100 := by omega
        clear hqa0 hqa1
        go_wp2_with fail
        go_loopw [3, 4] (fun l i wr => ∃ (k lm : Nat), i = .int .i64 k ∧ k ≤ N ∧ lm + k ≤ 104 ∧ EvL 33 w.heap.size l lm wr ∧ Cur c v (n + 14 + 8 * (N - k)) wr ∧ Only c w wr) (fun _ i _ => (intOf i).toNat)
        case atStart => exact ⟨N, 2 + 2, by first | rfl | (simp only [hN]), Nat.le_refl _, by omega, hEd, cur_up hcd (by omega), hod⟩
        case round =>
          obtain ⟨k, lm, rfl, hk, hlm, hEr, hcr, hor⟩ := hrel
          clear hEd hcd hod
          by_cases hk0 : 0 < k
          · have hk0' : (k : Int) > 0 := by omega
            have hk9 : (k : Int) ≤ 100 := by omega
            have hNm := nums12_12 wr 3 1 3 5 7 7 7 8 8 10 10 10 10
            have bN : Below wr.heap.size wr (wr.alloc (.cells #[.int .i64 1, .int .i64 3, .int .i64 5, .int .i64 7, .int .i64 7, .int .i64 7, .int .i64 8, .int .i64 8, .int .i64 10, .int .i64 10, .int .i64 10, .int .i64 10] 3)) := below_box (Below.refl _ _)
            have hcN := cur_below hcr bN
            have hoN := only_base12 hor (bN.mono hor.2.2.2.1)
            have hEN : EvL 33 w.heap.size u3 lm (wr.alloc (.cells #[.int .i64 1, .int .i64 3, .int .i64 5, .int .i64 7, .int .i64 7, .int .i64 7, .int .i64 8, .int .i64 8, .int .i64 10, .int .i64 10, .int .i64 10, .int .i64 10] 3)) := by
              obtain ⟨xs, h1, h2⟩ := hEr
              exact ⟨xs, ownW_below h1 bN, h2⟩
            have hrc : wr.heap.size ≠ c := by have := hor.2.2.2.1; omega
            clear bN hEr hcr hor
            go_wp2_with fail
            refine (s3.out _ _ _ _ _ (by omega) (by omega) (by omega) hcN (hB.out _ hoN) hNm hrc).mono ?_
            rintro e we ⟨kd, _, rfl, hce, hoe⟩
            have hEe := hEN.only hoe hcw
            replace hoe := hoN.trans hoe
            clear hEN hcN hoN hNm
            have ME := Mut.new we #[.int .i64 kd, .int .i64 0] 33
            have bE : Below we.heap.size we (we.alloc (.cells #[.int .i64 kd, .int .i64 0] 33)) := below_box (Below.refl _ _)
            have hcE := cur_below hce bE
            have hse := hoe.2.2.2.1
            have hoE := only_base12 hoe (bE.mono hse)
            have hEE : EvL 33 w.heap.size u3 lm (we.alloc (.cells #[.int .i64 kd, .int .i64 0] 33)) := by
              obtain ⟨xs, h1, h2⟩ := hEe
              exact ⟨xs, ownW_below h1 bE, h2⟩
            have hec : we.heap.size ≠ c := by omega
            have hnE : u3.ownBlock ≠ some we.heap.size := by
              obtain ⟨xs, h1, _⟩ := hEe
              exact fun q => by have := (ownW_lt h1 q).2; omega
            clear bE hEe hce hoe
            go_wp2_with fail
            generalize we.alloc (.cells #[.int .i64 kd, .int .i64 0] 33) = wf at *
            generalize we.heap.size = qe at *
            refine (s1.out _ _ _ (by omega) (by omega) hcE (hB.out _ hoE)).mono ?_
            rintro e wg ⟨r4, rfl, hcg, hog⟩
            have hEg := hEE.only hog hcw
            have hng := hnE
            have MEg := ME.only hog hec
            replace hog := hoE.trans hog
            clear hEE hcE hoE ME hnE
            cases r4 with
            | false =>
              go_upto_region 14 with fail
              have hX := hide (And.intro hcg (And.intro hog (And.intro hEg (And.intro MEg hng))))
              clear hcg hog hEg MEg hng
              generalize wg = X at *
              obtain ⟨hcX, hoX, hEX, MX, hnX⟩ := hX.out
              clear hX
              by_cases k5 : kd = 5
              · subst k5
                have hNm := nums12_7 X 3 0 2 3 9 90 100 101
                have bN : Below X.heap.size X (X.alloc (.cells #[.int .i64 0, .int .i64 2, .int .i64 3, .int .i64 9, .int .i64 90, .int .i64 100, .int .i64 101] 3)) := below_box (Below.refl _ _)
                have hcN := cur_below hcX bN
                have hsX := hoX.2.2.2.1
                have hoN := only_base12 hoX (bN.mono hsX)
                have hEN : EvL 33 w.heap.size u3 lm (X.alloc (.cells #[.int .i64 0, .int .i64 2, .int .i64 3, .int .i64 9, .int .i64 90, .int .i64 100, .int .i64 101] 3)) := by
                  obtain ⟨xs, h1, h2⟩ := hEX
                  exact ⟨xs, ownW_below h1 bN, h2⟩
                have MN := MX.below bN
                have hXc : X.heap.size ≠ c := by omega
                have z0 := MX.2.1 0 _ rfl
                clear bN hEX hcX hoX MX
                go_wp2_with fail
                refine (s3.out _ _ _ _ _ (by omega) (by omega) (by omega) hcN (hB.out _ hoN) hNm hXc).mono ?_
                rintro e wi ⟨r5, _, rfl, hci, hoi⟩
                have hEi := hEN.only hoi hcw
                have MEi := MN.only hoi hec
                replace hoi := hoN.trans hoi
                have zi := MEi.2.1 1 _ rfl
                have zfi := MEi.2.2 1 (by simp)
                have MY := MEi.set 1 (.int .i64 r5)
                have hcY := cur_only hci ((Only.refl qe wi).setCell 1 (.int .i64 r5)) (Ne.symm hec)
                have hoY : Only c w (wi.setCell ⟨qe, 1, none⟩ (.int .i64 r5)) := hoi.setNew hse 1 _
                have hEY : EvL 33 w.heap.size u3 lm (wi.setCell ⟨qe, 1, none⟩ (.int .i64 r5)) := hEi.away ((Only.refl qe wi).setCell 1 _) hnX
                clear hEN hcN hoN MN hNm hEi hci hoi MEi z0
                go_upto_region 16 with fail
                clear zi zfi
                generalize wi.setCell ⟨qe, 1, none⟩ (.int .i64 r5) = Y at *
                simp only [List.set_cons_zero, List.set_cons_succ] at MY
                have z0 := MY.2.1 0 _ rfl
                have z1 := MY.2.1 1 _ rfl
                obtain ⟨xs9, own9, I9⟩ := hEY
                have hs9 := hoY.2.2.2.1
                have RA := RowW.mut (Mut.new Y #[.int .i64 5, .int .i64 r5] 33)
                have hIa := IntD.two (5) (r5)
                have h1c := hide hIa.one'
                have bA : Below Y.heap.size Y (Y.alloc (.cells #[.int .i64 5, .int .i64 r5] 33)) := below_box (Below.refl _ _)
                have hownA := ownW_below own9 bA
                have hbA : w.heap.size ≤ (Y.alloc (.cells #[.int .i64 5, .int .i64 r5] 33)).heap.size := by simp; omega
                have hl9 : Hid (lm + 1 ≤ 8589934593) := by show _ ≤ _; omega
                go_wp2_with (first | (at_builtin; refine wpList_appW aggEv rfl _ _ rfl w.heap.size _ lm xs9 rfl hownA Y.heap.size 0 1 1 [.int .i64 5, .int .i64 r5] rfl rfl RA h1c.out hl9.out (by decide) hbA ?_; intro v6 w6 own6 b6 g6 _))
                exact ⟨⟨k - 1, lm + 1, by congr 1; omega, by omega, by omega, ⟨_, own6, I9.app hIa⟩, cur_grown12 (cur_below (cur_up hcY (by omega)) bA) hownA hcw g6, only_base12 (hoY.trans (Only.of_below (c := c) bA)) b6⟩, by simp [intOf]; omega⟩
              · have k5' : (kd == 5) = false := by simp [k5]
                have z0 := MX.2.1 0 _ rfl
                have z1 := MX.2.1 1 _ rfl
                obtain ⟨xs9, own9, I9⟩ := hEX
                have hs9 := hoX.2.2.2.1
                have RA := RowW.mut (Mut.new X #[.int .i64 kd, .int .i64 0] 33)
                have hIa := IntD.two (kd) (0)
                have h1c := hide hIa.one'
                have bA : Below X.heap.size X (X.alloc (.cells #[.int .i64 kd, .int .i64 0] 33)) := below_box (Below.refl _ _)
                have hownA := ownW_below own9 bA
                have hbA : w.heap.size ≤ (X.alloc (.cells #[.int .i64 kd, .int .i64 0] 33)).heap.size := by simp; omega
                have hl9 : Hid (lm + 1 ≤ 8589934593) := by show _ ≤ _; omega
                go_wp2_with (first | (at_builtin; refine wpList_appW aggEv rfl _ _ rfl w.heap.size _ lm xs9 rfl hownA X.heap.size 0 1 1 [.int .i64 kd, .int .i64 0] rfl rfl RA h1c.out hl9.out (by decide) hbA ?_; intro v6 w6 own6 b6 g6 _))
                exact ⟨⟨k - 1, lm + 1, by congr 1; omega, by omega, by omega, ⟨_, own6, I9.app hIa⟩, cur_grown12 (cur_below (cur_up hcX (by omega)) bA) hownA hcw g6, only_base12 (hoX.trans (Only.of_below (c := c) bA)) b6⟩, by simp [intOf]; omega⟩
            | true =>
              go_wp2_with fail
              refine (s2.out _ _ _ (by omega) (by omega) hcg (hB.out _ hog)).mono ?_
              rintro e wh ⟨qh, hqh0, hqh1, rfl, hch, hoh⟩
              have hEh := hEg.only hoh hcw
              have MEh0 := MEg.only hoh hec
              replace hoh := hog.trans hoh
              have z0' := MEh0.2.1 0 _ rfl
              have zf0' := MEh0.2.2 0 (by simp)
              have hqh2 : qh ≤ 10 := by omega
              have MX := MEh0.set 0 (.int .i64 (1 + qh))
              have hcX := cur_only hch ((Only.refl qe wh).setCell 0 (.int .i64 (1 + qh))) (Ne.symm hec)
              have hoX : Only c w (wh.setCell ⟨qe, 0, none⟩ (.int .i64 (1 + qh))) := hoh.setNew hse 0 _
              have hEX : EvL 33 w.heap.size u3 lm (wh.setCell ⟨qe, 0, none⟩ (.int .i64 (1 + qh))) := hEh.away ((Only.refl qe wh).setCell 0 _) hng
              have hnX := hng
              clear hEg hcg hog MEg hEh hch hoh MEh0 hng
              go_upto_region 14 with fail
              clear z0' zf0'
              generalize wh.setCell ⟨qe, 0, none⟩ (.int .i64 (1 + qh)) = X at *
              generalize 1 + qh = kd at *
              simp only [List.set_cons_zero] at MX
              by_cases k5 : kd = 5
              · subst k5
                have hNm := nums12_7 X 3 0 2 3 9 90 100 101
                have bN : Below X.heap.size X (X.alloc (.cells #[.int .i64 0, .int .i64 2, .int .i64 3, .int .i64 9, .int .i64 90, .int .i64 100, .int .i64 101] 3)) := below_box (Below.refl _ _)
                have hcN := cur_below hcX bN
                have hsX := hoX.2.2.2.1
                have hoN := only_base12 hoX (bN.mono hsX)
                have hEN : EvL 33 w.heap.size u3 lm (X.alloc (.cells #[.int .i64 0, .int .i64 2, .int .i64 3, .int .i64 9, .int .i64 90, .int .i64 100, .int .i64 101] 3)) := by
                  obtain ⟨xs, h1, h2⟩ := hEX
                  exact ⟨xs, ownW_below h1 bN, h2⟩
                have MN := MX.below bN
                have hXc : X.heap.size ≠ c := by omega
                have z0 := MX.2.1 0 _ rfl
                clear bN hEX hcX hoX MX
                go_wp2_with fail
                refine (s3.out _ _ _ _ _ (by omega) (by omega) (by omega) hcN (hB.out _ hoN) hNm hXc).mono ?_
                rintro e wi ⟨r5, _, rfl, hci, hoi⟩
                have hEi := hEN.only hoi hcw
                have MEi := MN.only hoi hec
                replace hoi := hoN.trans hoi
                have zi := MEi.2.1 1 _ rfl
                have zfi := MEi.2.2 1 (by simp)
                have MY := MEi.set 1 (.int .i64 r5)
                have hcY := cur_only hci ((Only.refl qe wi).setCell 1 (.int .i64 r5)) (Ne.symm hec)
                have hoY : Only c w (wi.setCell ⟨qe, 1, none⟩ (.int .i64 r5)) := hoi.setNew hse 1 _
                have hEY : EvL 33 w.heap.size u3 lm (wi.setCell ⟨qe, 1, none⟩ (.int .i64 r5)) := hEi.away ((Only.refl qe wi).setCell 1 _) hnX
                clear hEN hcN hoN MN hNm hEi hci hoi MEi z0
                go_upto_region 16 with fail
                clear zi zfi
                generalize wi.setCell ⟨qe, 1, none⟩ (.int .i64 r5) = Y at *
                simp only [List.set_cons_zero, List.set_cons_succ] at MY
                have z0 := MY.2.1 0 _ rfl
                have z1 := MY.2.1 1 _ rfl
                obtain ⟨xs9, own9, I9⟩ := hEY
                have hs9 := hoY.2.2.2.1
                have RA := RowW.mut (Mut.new Y #[.int .i64 5, .int .i64 r5] 33)
                have hIa := IntD.two (5) (r5)
                have h1c := hide hIa.one'
                have bA : Below Y.heap.size Y (Y.alloc (.cells #[.int .i64 5, .int .i64 r5] 33)) := below_box (Below.refl _ _)
                have hownA := ownW_below own9 bA
                have hbA : w.heap.size ≤ (Y.alloc (.cells #[.int .i64 5, .int .i64 r5] 33)).heap.size := by simp; omega
                have hl9 : Hid (lm + 1 ≤ 8589934593) := by show _ ≤ _; omega
                go_wp2_with (first | (at_builtin; refine wpList_appW aggEv rfl _ _ rfl w.heap.size _ lm xs9 rfl hownA Y.heap.size 0 1 1 [.int .i64 5, .int .i64 r5] rfl rfl RA h1c.out hl9.out (by decide) hbA ?_; intro v6 w6 own6 b6 g6 _))
                exact ⟨⟨k - 1, lm + 1, by congr 1; omega, by omega, by omega, ⟨_, own6, I9.app hIa⟩, cur_grown12 (cur_below (cur_up hcY (by omega)) bA) hownA hcw g6, only_base12 (hoY.trans (Only.of_below (c := c) bA)) b6⟩, by simp [intOf]; omega⟩
              · have k5' : (kd == 5) = false := by simp [k5]
                have z0 := MX.2.1 0 _ rfl
                have z1 := MX.2.1 1 _ rfl
                obtain ⟨xs9, own9, I9⟩ := hEX
                have hs9 := hoX.2.2.2.1
                have RA := RowW.mut (Mut.new X #[.int .i64 kd, .int .i64 0] 33)
                have hIa := IntD.two (kd) (0)
                have h1c := hide hIa.one'
                have bA : Below X.heap.size X (X.alloc (.cells #[.int .i64 kd, .int .i64 0] 33)) := below_box (Below.refl _ _)
                have hownA := ownW_below own9 bA
                have hbA : w.heap.size ≤ (X.alloc (.cells #[.int .i64 kd, .int .i64 0] 33)).heap.size := by simp; omega
                have hl9 : Hid (lm + 1 ≤ 8589934593) := by show _ ≤ _; omega
                go_wp2_with (first | (at_builtin; refine wpList_appW aggEv rfl _ _ rfl w.heap.size _ lm xs9 rfl hownA X.heap.size 0 1 1 [.int .i64 kd, .int .i64 0] rfl rfl RA h1c.out hl9.out (by decide) hbA ?_; intro v6 w6 own6 b6 g6 _))
                exact ⟨⟨k - 1, lm + 1, by congr 1; omega, by omega, by omega, ⟨_, own6, I9.app hIa⟩, cur_grown12 (cur_below (cur_up hcX (by omega)) bA) hownA hcw g6, only_base12 (hoX.trans (Only.of_below (c := c) bA)) b6⟩, by simp [intOf]; omega⟩
          · have hk0' : ¬ (k : Int) > 0 := by omega
            go_wp2_with fail
            go_ret
            exact ⟨_, rfl, lm, by omega, hEr, cur_up hcr (by omega), hor⟩
  | true =>
    go_wp2_with fail
    refine (s1.out _ _ _ (by omega) (by omega) hc1 (hB.out _ ho1)).mono ?_
    rintro e w7 ⟨r2, rfl, hc7, ho7⟩
    have hE7 := hE0.only ho7 hcw
    replace ho7 := ho1.trans ho7
    clear hE0 hc1 ho1
    cases r2 with
    | false =>
      go_wp2_with fail
      refine (s2.out _ _ _ (by omega) (by omega) hc7 (hB.out _ ho7)).mono ?_
      rintro e wa ⟨qa, hqa0, hqa1, rfl, hca, hoa⟩
      have hEa := hE7.only hoa hcw
      replace hoa := ho7.trans hoa
      clear hE7 hc7 ho7
      go_wp2_with fail
      refine (s1.out _ _ _ (by omega) (by omega) hca (hB.out _ hoa)).mono ?_
      rintro e wb ⟨r3, rfl, hcb, hob⟩
      have hEb := hEa.only hob hcw
      replace hob := hoa.trans hob
      clear hEa hca hoa
      cases r3 with
      | false =>
        obtain ⟨N, hN⟩ : ∃ N : Nat, qa = (N : Int) := ⟨qa.toNat, by omega⟩
        subst hN
        have hN9 : N ≤ 100 := by omega
        go_wp2_with fail
        go_loopw [3, 4] (fun l i wr => ∃ (k lm : Nat), i = .int .i64 k ∧ k ≤ N ∧ lm + k ≤ 104 ∧ EvL 33 w.heap.size l lm wr ∧ Cur c v (n + 14 + 8 * (N - k)) wr ∧ Only c w wr) (fun _ i _ => (intOf i).toNat)
        case atStart => exact ⟨N, 0, by first | rfl | (simp only [hN]), Nat.le_refl _, by omega, hEb, cur_up hcb (by omega), hob⟩
        case round =>
          obtain ⟨k, lm, rfl, hk, hlm, hEr, hcr, hor⟩ := hrel
          clear hEb hcb hob
          by_cases hk0 : 0 < k
          · have hk0' : (k : Int) > 0 := by omega
            have hk9 : (k : Int) ≤ 100 := by omega
            have hNm := nums12_12 wr 3 1 3 5 7 7 7 8 8 10 10 10 10
            have bN : Below wr.heap.size wr (wr.alloc (.cells #[.int .i64 1, .int .i64 3, .int .i64 5, .int .i64 7, .int .i64 7, .int .i64 7, .int .i64 8, .int .i64 8, .int .i64 10, .int .i64 10, .int .i64 10, .int .i64 10] 3)) := below_box (Below.refl _ _)
            have hcN := cur_below hcr bN
            have hoN := only_base12 hor (bN.mono hor.2.2.2.1)
            have hEN : EvL 33 w.heap.size u3 lm (wr.alloc (.cells #[.int .i64 1, .int .i64 3, .int .i64 5, .int .i64 7, .int .i64 7, .int .i64 7, .int .i64 8, .int .i64 8, .int .i64 10, .int .i64 10, .int .i64 10, .int .i64 10] 3)) := by
              obtain ⟨xs, h1, h2⟩ := hEr
              exact ⟨xs, ownW_below h1 bN, h2⟩
            have hrc : wr.heap.size ≠ c := by have := hor.2.2.2.1; omega
            clear bN hEr hcr hor
            go_wp2_with fail
            refine (s3.out _ _ _ _ _ (by omega) (by omega) (by omega) hcN (hB.out _ hoN) hNm hrc).mono ?_
            rintro e we ⟨kd, _, rfl, hce, hoe⟩
            have hEe := hEN.only hoe hcw
            replace hoe := hoN.trans hoe
            clear hEN hcN hoN hNm
            have ME := Mut.new we #[.int .i64 kd, .int .i64 0] 33
            have bE : Below we.heap.size we (we.alloc (.cells #[.int .i64 kd, .int .i64 0] 33)) := below_box (Below.refl _ _)
            have hcE := cur_below hce bE
            have hse := hoe.2.2.2.1
            have hoE := only_base12 hoe (bE.mono hse)
            have hEE : EvL 33 w.heap.size u3 lm (we.alloc (.cells #[.int .i64 kd, .int .i64 0] 33)) := by
              obtain ⟨xs, h1, h2⟩ := hEe
              exact ⟨xs, ownW_below h1 bE, h2⟩
            have hec : we.heap.size ≠ c := by omega
            have hnE : u3.ownBlock ≠ some we.heap.size := by
              obtain ⟨xs, h1, _⟩ := hEe
              exact fun q => by have := (ownW_lt h1 q).2; omega
            clear bE hEe hce hoe
            go_wp2_with fail
            generalize we.alloc (.cells #[.int .i64 kd, .int .i64 0] 33) = wf at *
            generalize we.heap.size = qe at *
            refine (s1.out _ _ _ (by omega) (by omega) hcE (hB.out _ hoE)).mono ?_
            rintro e wg ⟨r4, rfl, hcg, hog⟩
            have hEg := hEE.only hog hcw
            have hng := hnE
            have MEg := ME.only hog hec
            replace hog := hoE.trans hog
            clear hEE hcE hoE ME hnE
            cases r4 with
            | false =>
              go_upto_region 14 with fail
              have hX := hide (And.intro hcg (And.intro hog (And.intro hEg (And.intro MEg hng))))
              clear hcg hog hEg MEg hng
              generalize wg = X at *
              obtain ⟨hcX, hoX, hEX, MX, hnX⟩ := hX.out
              clear hX
              by_cases k5 : kd = 5
              · subst k5
                have hNm := nums12_7 X 3 0 2 3 9 90 100 101
                have bN : Below X.heap.size X (X.alloc (.cells #[.int .i64 0, .int .i64 2, .int .i64 3, .int .i64 9, .int .i64 90, .int .i64 100, .int .i64 101] 3)) := below_box (Below.refl _ _)
                have hcN := cur_below hcX bN
                have hsX := hoX.2.2.2.1
                have hoN := only_base12 hoX (bN.mono hsX)
                have hEN : EvL 33 w.heap.size u3 lm (X.alloc (.cells #[.int .i64 0, .int .i64 2, .int .i64 3, .int .i64 9, .int .i64 90, .int .i64 100, .int .i64 101] 3)) := by
                  obtain ⟨xs, h1, h2⟩ := hEX
                  exact ⟨xs, ownW_below h1 bN, h2⟩
                have MN := MX.below bN
                have hXc : X.heap.size ≠ c := by omega
                have z0 := MX.2.1 0 _ rfl
                clear bN hEX hcX hoX MX
                go_wp2_with fail
                refine (s3.out _ _ _ _ _ (by omega) (by omega) (by omega) hcN (hB.out _ hoN) hNm hXc).mono ?_
                rintro e wi ⟨r5, _, rfl, hci, hoi⟩
                have hEi := hEN.only hoi hcw
                have MEi := MN.only hoi hec
                replace hoi := hoN.trans hoi
                have zi := MEi.2.1 1 _ rfl
                have zfi := MEi.2.2 1 (by simp)
                have MY := MEi.set 1 (.int .i64 r5)
                have hcY := cur_only hci ((Only.refl qe wi).setCell 1 (.int .i64 r5)) (Ne.symm hec)
                have hoY : Only c w (wi.setCell ⟨qe, 1, none⟩ (.int .i64 r5)) := hoi.setNew hse 1 _
                have hEY : EvL 33 w.heap.size u3 lm (wi.setCell ⟨qe, 1, none⟩ (.int .i64 r5)) := hEi.away ((Only.refl qe wi).setCell 1 _) hnX
                clear hEN hcN hoN MN hNm hEi hci hoi MEi z0
                go_upto_region 16 with fail
                clear zi zfi
                generalize wi.setCell ⟨qe, 1, none⟩ (.int .i64 r5) = Y at *
                simp only [List.set_cons_zero, List.set_cons_succ] at MY
                have z0 := MY.2.1 0 _ rfl
                have z1 := MY.2.1 1 _ rfl
                obtain ⟨xs9, own9, I9⟩ := hEY
                have hs9 := hoY.2.2.2.1
                have RA := RowW.mut (Mut.new Y #[.int .i64 5, .int .i64 r5] 33)
                have hIa := IntD.two (5) (r5)
                have h1c := hide hIa.one'
                have bA : Below Y.heap.size Y (Y.alloc (.cells #[.int .i64 5, .int .i64 r5] 33)) := below_box (Below.refl _ _)
                have hownA := ownW_below own9 bA
                have hbA : w.heap.size ≤ (Y.alloc (.cells #[.int .i64 5, .int .i64 r5] 33)).heap.size := by simp; omega
                have hl9 : Hid (lm + 1 ≤ 8589934593) := by show _ ≤ _; omega
                go_wp2_with (first | (at_builtin; refine wpList_appW aggEv rfl _ _ rfl w.heap.size _ lm xs9 rfl hownA Y.heap.size 0 1 1 [.int .i64 5, .int .i64 r5] rfl rfl RA h1c.out hl9.out (by decide) hbA ?_; intro v6 w6 own6 b6 g6 _))
                exact ⟨⟨k - 1, lm + 1, by congr 1; omega, by omega, by omega, ⟨_, own6, I9.app hIa⟩, cur_grown12 (cur_below (cur_up hcY (by omega)) bA) hownA hcw g6, only_base12 (hoY.trans (Only.of_below (c := c) bA)) b6⟩, by simp [intOf]; omega⟩
              · have k5' : (kd == 5) = false := by simp [k5]
                have z0 := MX.2.1 0 _ rfl
                have z1 := MX.2.1 1 _ rfl
                obtain ⟨xs9, own9, I9⟩ := hEX
                have hs9 := hoX.2.2.2.1
                have RA := RowW.mut (Mut.new X #[.int .i64 kd, .int .i64 0] 33)
                have hIa := IntD.two (kd) (0)
                have h1c := hide hIa.one'
                have bA : Below X.heap.size X (X.alloc (.cells #[.int .i64 kd, .int .i64 0] 33)) := below_box (Below.refl _ _)
                have hownA := ownW_below own9 bA
                have hbA : w.heap.size ≤ (X.alloc (.cells #[.int .i64 kd, .int .i64 0] 33)).heap.size := by simp; omega
                have hl9 : Hid (lm + 1 ≤ 8589934593) := by show _ ≤ _; omega
                go_wp2_with (first | (at_builtin; refine wpList_appW aggEv rfl _ _ rfl w.heap.size _ lm xs9 rfl hownA X.heap.size 0 1 1 [.int .i64 kd, .int .i64 0] rfl rfl RA h1c.out hl9.out (by decide) hbA ?_; intro v6 w6 own6 b6 g6 _))
                exact ⟨⟨k - 1, lm + 1, by congr 1; omega, by omega, by omega, ⟨_, own6, I9.app hIa⟩, cur_grown12 (cur_below (cur_up hcX (by omega)) bA) hownA hcw g6, only_base12 (hoX.trans (Only.of_below (c := c) bA)) b6⟩, by simp [intOf]; omega⟩
            | true =>
              go_wp2_with fail
              refine (s2.out _ _ _ (by omega) (by omega) hcg (hB.out _ hog)).mono ?_
              rintro e wh ⟨qh, hqh0, hqh1, rfl, hch, hoh⟩
              have hEh := hEg.only hoh hcw
              have MEh0 := MEg.only hoh hec
              replace hoh := hog.trans hoh
              have z0' := MEh0.2.1 0 _ rfl
              have zf0' := MEh0.2.2 0 (by simp)
              have hqh2 : qh ≤ 10 := by omega
              have MX := MEh0.set 0 (.int .i64 (1 + qh))
              have hcX := cur_only hch ((Only.refl qe wh).setCell 0 (.int .i64 (1 + qh))) (Ne.symm hec)
              have hoX : Only c w (wh.setCell ⟨qe, 0, none⟩ (.int .i64 (1 + qh))) := hoh.setNew hse 0 _
              have hEX : EvL 33 w.heap.size u3 lm (wh.setCell ⟨qe, 0, none⟩ (.int .i64 (1 + qh))) := hEh.away ((Only.refl qe wh).setCell 0 _) hng
              have hnX := hng
              clear hEg hcg hog MEg hEh hch hoh MEh0 hng
              go_upto_region 14 with fail
              clear z0' zf0'
              generalize wh.setCell ⟨qe, 0, none⟩ (.int .i64 (1 + qh)) = X at *
              generalize 1 + qh = kd at *
              simp only [List.set_cons_zero] at MX
              by_cases k5 : kd = 5
              · subst k5
                have hNm := nums12_7 X 3 0 2 3 9 90 100 101
                have bN : Below X.heap.size X (X.alloc (.cells #[.int .i64 0, .int .i64 2, .int .i64 3, .int .i64 9, .int .i64 90, .int .i64 100, .int .i64 101] 3)) := below_box (Below.refl _ _)
                have hcN := cur_below hcX bN
                have hsX := hoX.2.2.2.1
                have hoN := only_base12 hoX (bN.mono hsX)
                have hEN : EvL 33 w.heap.size u3 lm (X.alloc (.cells #[.int .i64 0, .int .i64 2, .int .i64 3, .int .i64 9, .int .i64 90, .int .i64 100, .int .i64 101] 3)) := by
                  obtain ⟨xs, h1, h2⟩ := hEX
                  exact ⟨xs, ownW_below h1 bN, h2⟩
                have MN := MX.below bN
                have hXc : X.heap.size ≠ c := by omega
                have z0 := MX.2.1 0 _ rfl
                clear bN hEX hcX hoX MX
                go_wp2_with fail
                refine (s3.out _ _ _ _ _ (by omega) (by omega) (by omega) hcN (hB.out _ hoN) hNm hXc).mono ?_
                rintro e wi ⟨r5, _, rfl, hci, hoi⟩
                have hEi := hEN.only hoi hcw
                have MEi := MN.only hoi hec
                replace hoi := hoN.trans hoi
                have zi := MEi.2.1 1 _ rfl
                have zfi := MEi.2.2 1 (by simp)
                have MY := MEi.set 1 (.int .i64 r5)
                have hcY := cur_only hci ((Only.refl qe wi).setCell 1 (.int .i64 r5)) (Ne.symm hec)
                have hoY : Only c w (wi.setCell ⟨qe, 1, none⟩ (.int .i64 r5)) := hoi.setNew hse 1 _
                have hEY : EvL 33 w.heap.size u3 lm (wi.setCell ⟨qe, 1, none⟩ (.int .i64 r5)) := hEi.away ((Only.refl qe wi).setCell 1 _) hnX
                clear hEN hcN hoN MN hNm hEi hci hoi MEi z0
                go_upto_region 16 with fail
                clear zi zfi
                generalize wi.setCell ⟨qe, 1, none⟩ (.int .i64 r5) = Y at *
                simp only [List.set_cons_zero, List.set_cons_succ] at MY
                have z0 := MY.2.1 0 _ rfl
                have z1 := MY.2.1 1 _ rfl
                obtain ⟨xs9, own9, I9⟩ := hEY
                have hs9 := hoY.2.2.2.1
                have RA := RowW.mut (Mut.new Y #[.int .i64 5, .int .i64 r5] 33)
                have hIa := IntD.two (5) (r5)
                have h1c := hide hIa.one'
                have bA : Below Y.heap.size Y (Y.alloc (.cells #[.int .i64 5, .int .i64 r5] 33)) := below_box (Below.refl _ _)
                have hownA := ownW_below own9 bA
                have hbA : w.heap.size ≤ (Y.alloc (.cells #[.int .i64 5, .int .i64 r5] 33)).heap.size := by simp; omega
                have hl9 : Hid (lm + 1 ≤ 8589934593) := by show _ ≤ _; omega
                go_wp2_with (first | (at_builtin; refine wpList_appW aggEv rfl _ _ rfl w.heap.size _ lm xs9 rfl hownA Y.heap.size 0 1 1 [.int .i64 5, .int .i64 r5] rfl rfl RA h1c.out hl9.out (by decide) hbA ?_; intro v6 w6 own6 b6 g6 _))
                exact ⟨⟨k - 1, lm + 1, by congr 1; omega, by omega, by omega, ⟨_, own6, I9.app hIa⟩, cur_grown12 (cur_below (cur_up hcY (by omega)) bA) hownA hcw g6, only_base12 (hoY.trans (Only.of_below (c := c) bA)) b6⟩, by simp [intOf]; omega⟩
              · have k5' : (kd == 5) = false := by simp [k5]
                have z0 := MX.2.1 0 _ rfl
                have z1 := MX.2.1 1 _ rfl
                obtain ⟨xs9, own9, I9⟩ := hEX
                have hs9 := hoX.2.2.2.1
                have RA := RowW.mut (Mut.new X #[.int .i64 kd, .int .i64 0] 33)
                have hIa := IntD.two (kd) (0)
                have h1c := hide hIa.one'
                have bA : Below X.heap.size X (X.alloc (.cells #[.int .i64 kd, .int .i64 0] 33)) := below_box (Below.refl _ _)
                have hownA := ownW_below own9 bA
                have hbA : w.heap.size ≤ (X.alloc (.cells #[.int .i64 kd, .int .i64 0] 33)).heap.size := by simp; omega
                have hl9 : Hid (lm + 1 ≤ 8589934593) := by show _ ≤ _; omega
                go_wp2_with (first | (at_builtin; refine wpList_appW aggEv rfl _ _ rfl w.heap.size _ lm xs9 rfl hownA X.heap.size 0 1 1 [.int .i64 kd, .int .i64 0] rfl rfl RA h1c.out hl9.out (by decide) hbA ?_; intro v6 w6 own6 b6 g6 _))
                exact ⟨⟨k - 1, lm + 1, by congr 1; omega, by omega, by omega, ⟨_, own6, I9.app hIa⟩, cur_grown12 (cur_below (cur_up hcX (by omega)) bA) hownA hcw g6, only_base12 (hoX.trans (Only.of_below (c := c) bA)) b6⟩, by simp [intOf]; omega⟩
          · have hk0' : ¬ (k : Int) > 0 := by omega
            go_wp2_with fail
            go_ret
            exact ⟨_, rfl, lm, by omega, hEr, cur_up hcr (by omega), hor⟩
      | true =>
        go_wp2_with fail
        refine (s2.out _ _ _ (by omega) (by omega) hcb (hB.out _ hob)).mono ?_
        rintro e wd ⟨qd, hqd0, hqd1, rfl, hcd, hod⟩
        have hEd := hEb.only hod hcw
        replace hod := hob.trans hod
        clear hEb hcb hob
        obtain ⟨N, hN⟩ : ∃ N : Nat, 98 + qd = (N : Int) := ⟨(98 + qd).toNat, by omega⟩
        have hN9 : N ≤ 100 := by omega
        clear hqa0 hqa1
        go_wp2_with fail
        go_loopw [3, 4] (fun l i wr => ∃ (k lm : Nat), i = .int .i64 k ∧ k ≤ N ∧ lm + k ≤ 104 ∧ EvL 33 w.heap.size l lm wr ∧ Cur c v (n + 14 + 8 * (N - k)) wr ∧ Only c w wr) (fun _ i _ => (intOf i).toNat)
        case atStart => exact ⟨N, 0, by first | rfl | (simp only [hN]), Nat.le_refl _, by omega, hEd, cur_up hcd (by omega), hod⟩
        case round =>
          obtain ⟨k, lm, rfl, hk, hlm, hEr, hcr, hor⟩ := hrel
          clear hEd hcd hod
          by_cases hk0 : 0 < k
          · have hk0' : (k : Int) > 0 := by omega
            have hk9 : (k : Int) ≤ 100 := by omega
            have hNm := nums12_12 wr 3 1 3 5 7 7 7 8 8 10 10 10 10
            have bN : Below wr.heap.size wr (wr.alloc (.cells #[.int .i64 1, .int .i64 3, .int .i64 5, .int .i64 7, .int .i64 7, .int .i64 7, .int .i64 8, .int .i64 8, .int .i64 10, .int .i64 10, .int .i64 10, .int .i64 10] 3)) := below_box (Below.refl _ _)
            have hcN := cur_below hcr bN
            have hoN := only_base12 hor (bN.mono hor.2.2.2.1)
            have hEN : EvL 33 w.heap.size u3 lm (wr.alloc (.cells #[.int .i64 1, .int .i64 3, .int .i64 5, .int .i64 7, .int .i64 7, .int .i64 7, .int .i64 8, .int .i64 8, .int .i64 10, .int .i64 10, .int .i64 10, .int .i64 10] 3)) := by
              obtain ⟨xs, h1, h2⟩ := hEr
              exact ⟨xs, ownW_below h1 bN, h2⟩
            have hrc : wr.heap.size ≠ c := by have := hor.2.2.2.1; omega
            clear bN hEr hcr hor
            go_wp2_with fail
            refine (s3.out _ _ _ _ _ (by omega) (by omega) (by omega) hcN (hB.out _ hoN) hNm hrc).mono ?_
            rintro e we ⟨kd, _, rfl, hce, hoe⟩
            have hEe := hEN.only hoe hcw
            replace hoe := hoN.trans hoe
            clear hEN hcN hoN hNm
            have ME := Mut.new we #[.int .i64 kd, .int .i64 0] 33
            have bE : Below we.heap.size we (we.alloc (.cells #[.int .i64 kd, .int .i64 0] 33)) := below_box (Below.refl _ _)
            have hcE := cur_below hce bE
            have hse := hoe.2.2.2.1
            have hoE := only_base12 hoe (bE.mono hse)
            have hEE : EvL 33 w.heap.size u3 lm (we.alloc (.cells #[.int .i64 kd, .int .i64 0] 33)) := by
              obtain ⟨xs, h1, h2⟩ := hEe
              exact ⟨xs, ownW_below h1 bE, h2⟩
            have hec : we.heap.size ≠ c := by omega
            have hnE : u3.ownBlock ≠ some we.heap.size := by
              obtain ⟨xs, h1, _⟩ := hEe
              exact fun q => by have := (ownW_lt h1 q).2; omega
            clear bE hEe hce hoe
            go_wp2_with fail
            generalize we.alloc (.cells #[.int .i64 kd, .int .i64 0] 33) = wf at *
            generalize we.heap.size = qe at *
            refine (s1.out _ _ _ (by omega) (by omega) hcE (hB.out _ hoE)).mono ?_
            rintro e wg ⟨r4, rfl, hcg, hog⟩
            have hEg := hEE.only hog hcw
            have hng := hnE
            have MEg := ME.only hog hec
            replace hog := hoE.trans hog
            clear hEE hcE hoE ME hnE
            cases r4 with
            | false =>
              go_upto_region 14 with fail
              have hX := hide (And.intro hcg (And.intro hog (And.intro hEg (And.intro MEg hng))))
              clear hcg hog hEg MEg hng
              generalize wg = X at *
              obtain ⟨hcX, hoX, hEX, MX, hnX⟩ := hX.out
              clear hX
              by_cases k5 : kd = 5
              · subst k5
                have hNm := nums12_7 X 3 0 2 3 9 90 100 101
                have bN : Below X.heap.size X (X.alloc (.cells #[.int .i64 0, .int .i64 2, .int .i64 3, .int .i64 9, .int .i64 90, .int .i64 100, .int .i64 101] 3)) := below_box (Below.refl _ _)
                have hcN := cur_below hcX bN
                have hsX := hoX.2.2.2.1
                have hoN := only_base12 hoX (bN.mono hsX)
                have hEN : EvL 33 w.heap.size u3 lm (X.alloc (.cells #[.int .i64 0, .int .i64 2, .int .i64 3, .int .i64 9, .int .i64 90, .int .i64 100, .int .i64 101] 3)) := by
                  obtain ⟨xs, h1, h2⟩ := hEX
                  exact ⟨xs, ownW_below h1 bN, h2⟩
                have MN := MX.below bN
                have hXc : X.heap.size ≠ c := by omega
                have z0 := MX.2.1 0 _ rfl
                clear bN hEX hcX hoX MX
                go_wp2_with fail
                refine (s3.out _ _ _ _ _ (by omega) (by omega) (by omega) hcN (hB.out _ hoN) hNm hXc).mono ?_
                rintro e wi ⟨r5, _, rfl, hci, hoi⟩
                have hEi := hEN.only hoi hcw
                have MEi := MN.only hoi hec
                replace hoi := hoN.trans hoi
                have zi := MEi.2.1 1 _ rfl
                have zfi := MEi.2.2 1 (by simp)
                have MY := MEi.set 1 (.int .i64 r5)
                have hcY := cur_only hci ((Only.refl qe wi).setCell 1 (.int .i64 r5)) (Ne.symm hec)
                have hoY : Only c w (wi.setCell ⟨qe, 1, none⟩ (.int .i64 r5)) := hoi.setNew hse 1 _
                have hEY : EvL 33 w.heap.size u3 lm (wi.setCell ⟨qe, 1, none⟩ (.int .i64 r5)) := hEi.away ((Only.refl qe wi).setCell 1 _) hnX
                clear hEN hcN hoN MN hNm hEi hci hoi MEi z0
                go_upto_region 16 with fail
                clear zi zfi
                generalize wi.setCell ⟨qe, 1, none⟩ (.int .i64 r5) = Y at *
                simp only [List.set_cons_zero, List.set_cons_succ] at MY
                have z0 := MY.2.1 0 _ rfl
                have z1 := MY.2.1 1 _ rfl
                obtain ⟨xs9, own9, I9⟩ := hEY
                have hs9 := hoY.2.2.2.1
                have RA := RowW.mut (Mut.new Y #[.int .i64 5, .int .i64 r5] 33)
                have hIa := IntD.two (5) (r5)
                have h1c := hide hIa.one'
                have bA : Below Y.heap.size Y (Y.alloc (.cells #[.int .i64 5, .int .i64 r5] 33)) := below_box (Below.refl _ _)
                have hownA := ownW_below own9 bA
                have hbA : w.heap.size ≤ (Y.alloc (.cells #[.int .i64 5, .int .i64 r5] 33)).heap.size := by simp; omega
                have hl9 : Hid (lm + 1 ≤ 8589934593) := by show _ ≤ _; omega
                go_wp2_with (first | (at_builtin; refine wpList_appW aggEv rfl _ _ rfl w.heap.size _ lm xs9 rfl hownA Y.heap.size 0 1 1 [.int .i64 5, .int .i64 r5] rfl rfl RA h1c.out hl9.out (by decide) hbA ?_; intro v6 w6 own6 b6 g6 _))
                exact ⟨⟨k - 1, lm + 1, by congr 1; omega, by omega, by omega, ⟨_, own6, I9.app hIa⟩, cur_grown12 (cur_below (cur_up hcY (by omega)) bA) hownA hcw g6, only_base12 (hoY.trans (Only.of_below (c := c) bA)) b6⟩, by simp [intOf]; omega⟩
              · have k5' : (kd == 5) = false := by simp [k5]
                have z0 := MX.2.1 0 _ rfl
                have z1 := MX.2.1 1 _ rfl
                obtain ⟨xs9, own9, I9⟩ := hEX
                have hs9 := hoX.2.2.2.1
                have RA := RowW.mut (Mut.new X #[.int .i64 kd, .int .i64 0] 33)
                have hIa := IntD.two (kd) (0)
                have h1c := hide hIa.one'
                have bA : Below X.heap.size X (X.alloc (.cells #[.int .i64 kd, .int .i64 0] 33)) := below_box (Below.refl _ _)
                have hownA := ownW_below own9 bA
                have hbA : w.heap.size ≤ (X.alloc (.cells #[.int .i64 kd, .int .i64 0] 33)).heap.size := by simp; omega
                have hl9 : Hid (lm + 1 ≤ 8589934593) := by show _ ≤ _; omega
                go_wp2_with (first | (at_builtin; refine wpList_appW aggEv rfl _ _ rfl w.heap.size _ lm xs9 rfl hownA X.heap.size 0 1 1 [.int .i64 kd, .int .i64 0] rfl rfl RA h1c.out hl9.out (by decide) hbA ?_; intro v6 w6 own6 b6 g6 _))
                exact ⟨⟨k - 1, lm + 1, by congr 1; omega, by omega, by omega, ⟨_, own6, I9.app hIa⟩, cur_grown12 (cur_below (cur_up hcX (by omega)) bA) hownA hcw g6, only_base12 (hoX.trans (Only.of_below (c := c) bA)) b6⟩, by simp [intOf]; omega⟩
            | true =>
              go_wp2_with fail
              refine (s2.out _ _ _ (by omega) (by omega) hcg (hB.out _ hog)).mono ?_
              rintro e wh ⟨qh, hqh0, hqh1, rfl, hch, hoh⟩
              have hEh := hEg.only hoh hcw
              have MEh0 := MEg.only hoh hec
              replace hoh := hog.trans hoh
              have z0' := MEh0.2.1 0 _ rfl
              have zf0' := MEh0.2.2 0 (by simp)
              have hqh2 : qh ≤ 10 := by omega
              have MX := MEh0.set 0 (.int .i64 (1 + qh))
              have hcX := cur_only hch ((Only.refl qe wh).setCell 0 (.int .i64 (1 + qh))) (Ne.symm hec)
              have hoX : Only c w (wh.setCell ⟨qe, 0, none⟩ (.int .i64 (1 + qh))) := hoh.setNew hse 0 _
              have hEX : EvL 33 w.heap.size u3 lm (wh.setCell ⟨qe, 0, none⟩ (.int .i64 (1 + qh))) := hEh.away ((Only.refl qe wh).setCell 0 _) hng
              have hnX := hng
              clear hEg hcg hog MEg hEh hch hoh MEh0 hng
              go_upto_region 14 with fail
              clear z0' zf0'
              generalize wh.setCell ⟨qe, 0, none⟩ (.int .i64 (1 + qh)) = X at *
              generalize 1 + qh = kd at *
              simp only [List.set_cons_zero] at MX
              by_cases k5 : kd = 5
              · subst k5
                have hNm := nums12_7 X 3 0 2 3 9 90 100 101
                have bN : Below X.heap.size X (X.alloc (.cells #[.int .i64 0, .int .i64 2, .int .i64 3, .int .i64 9, .int .i64 90, .int .i64 100, .int .i64 101] 3)) := below_box (Below.refl _ _)
                have hcN := cur_below hcX bN
                have hsX := hoX.2.2.2.1
                have hoN := only_base12 hoX (bN.mono hsX)
                have hEN : EvL 33 w.heap.size u3 lm (X.alloc (.cells #[.int .i64 0, .int .i64 2, .int .i64 3, .int .i64 9, .int .i64 90, .int .i64 100, .int .i64 101] 3)) := by
                  obtain ⟨xs, h1, h2⟩ := hEX
                  exact ⟨xs, ownW_below h1 bN, h2⟩
                have MN := MX.below bN
                have hXc : X.heap.size ≠ c := by omega
                have z0 := MX.2.1 0 _ rfl
                clear bN hEX hcX hoX MX
                go_wp2_with fail
                refine (s3.out _ _ _ _ _ (by omega) (by omega) (by omega) hcN (hB.out _ hoN) hNm hXc).mono ?_
                rintro e wi ⟨r5, _, rfl, hci, hoi⟩
                have hEi := hEN.only hoi hcw
                have MEi := MN.only hoi hec
                replace hoi := hoN.trans hoi
                have zi := MEi.2.1 1 _ rfl
                have zfi := MEi.2.2 1 (by simp)
                have MY := MEi.set 1 (.int .i64 r5)
                have hcY := cur_only hci ((Only.refl qe wi).setCell 1 (.int .i64 r5)) (Ne.symm hec)
                have hoY : Only c w (wi.setCell ⟨qe, 1, none⟩ (.int .i64 r5)) := hoi.setNew hse 1 _
                have hEY : EvL 33 w.heap.size u3 lm (wi.setCell ⟨qe, 1, none⟩ (.int .i64 r5)) := hEi.away ((Only.refl qe wi).setCell 1 _) hnX
                clear hEN hcN hoN MN hNm hEi hci hoi MEi z0
                go_upto_region 16 with fail
                clear zi zfi
                generalize wi.setCell ⟨qe, 1, none⟩ (.int .i64 r5) = Y at *
                simp only [List.set_cons_zero, List.set_cons_succ] at MY
                have z0 := MY.2.1 0 _ rfl
                have z1 := MY.2.1 1 _ rfl
                obtain ⟨xs9, own9, I9⟩ := hEY
                have hs9 := hoY.2.2.2.1
                have RA := RowW.mut (Mut.new Y #[.int .i64 5, .int .i64 r5] 33)
                have hIa := IntD.two (5) (r5)
                have h1c := hide hIa.one'
                have bA : Below Y.heap.size Y (Y.alloc (.cells #[.int .i64 5, .int .i64 r5] 33)) := below_box (Below.refl _ _)
                have hownA := ownW_below own9 bA
                have hbA : w.heap.size ≤ (Y.alloc (.cells #[.int .i64 5, .int .i64 r5] 33)).heap.size := by simp; omega
                have hl9 : Hid (lm + 1 ≤ 8589934593) := by show _ ≤ _; omega
                go_wp2_with (first | (at_builtin; refine wpList_appW aggEv rfl _ _ rfl w.heap.size _ lm xs9 rfl hownA Y.heap.size 0 1 1 [.int .i64 5, .int .i64 r5] rfl rfl RA h1c.out hl9.out (by decide) hbA ?_; intro v6 w6 own6 b6 g6 _))
                exact ⟨⟨k - 1, lm + 1, by congr 1; omega, by omega, by omega, ⟨_, own6, I9.app hIa⟩, cur_grown12 (cur_below (cur_up hcY (by omega)) bA) hownA hcw g6, only_base12 (hoY.trans (Only.of_below (c := c) bA)) b6⟩, by simp [intOf]; omega⟩
              · have k5' : (kd == 5) = false := by simp [k5]
                have z0 := MX.2.1 0 _ rfl
                have z1 := MX.2.1 1 _ rfl
                obtain ⟨xs9, own9, I9⟩ := hEX
                have hs9 := hoX.2.2.2.1
                have RA := RowW.mut (Mut.new X #[.int .i64 kd, .int .i64 0] 33)
                have hIa := IntD.two (kd) (0)
                have h1c := hide hIa.one'
                have bA : Below X.heap.size X (X.alloc (.cells #[.int .i64 kd, .int .i64 0] 33)) := below_box (Below.refl _ _)
                have hownA := ownW_below own9 bA
                have hbA : w.heap.size ≤ (X.alloc (.cells #[.int .i64 kd, .int .i64 0] 33)).heap.size := by simp; omega
                have hl9 : Hid (lm + 1 ≤ 8589934593) := by show _ ≤ _; omega
                go_wp2_with (first | (at_builtin; refine wpList_appW aggEv rfl _ _ rfl w.heap.size _ lm xs9 rfl hownA X.heap.size 0 1 1 [.int .i64 kd, .int .i64 0] rfl rfl RA h1c.out hl9.out (by decide) hbA ?_; intro v6 w6 own6 b6 g6 _))
                exact ⟨⟨k - 1, lm + 1, by congr 1; omega, by omega, by omega, ⟨_, own6, I9.app hIa⟩, cur_grown12 (cur_below (cur_up hcX (by omega)) bA) hownA hcw g6, only_base12 (hoX.trans (Only.of_below (c := c) bA)) b6⟩, by simp [intOf]; omega⟩
          · have hk0' : ¬ (k : Int) > 0 := by omega
            go_wp2_with fail
            go_ret
            exact ⟨_, rfl, lm, by omega, hEr, cur_up hcr (by omega), hor⟩
    | true =>
      go_wp2_with fail
      refine (s2.out _ _ _ (by omega) (by omega) hc7 (hB.out _ ho7)).mono ?_
      rintro e w8 ⟨q8, hq80, hq81, rfl, hc8, ho8⟩
      have hE8 := hE7.only ho8 hcw
      replace ho8 := ho7.trans ho8
      clear hE7 hc7 ho7
      obtain ⟨xs8, own8, I8⟩ := hE8
      have hs8 := ho8.2.2.2.1
      have hq8' : q8 ≤ 20 := by omega
      have RA := RowW.mut (Mut.new w8 #[.int .i64 5, .int .i64 (3 + q8), .int .i64 7, .int .i64 0] 33)
      have hIa := IntD.four (5) ((3 + q8)) (7) (0)
      have h1c := hide hIa.one'
      have bA : Below w8.heap.size w8 (w8.alloc (.cells #[.int .i64 5, .int .i64 (3 + q8), .int .i64 7, .int .i64 0] 33)) := below_box (Below.refl _ _)
      have hownA := ownW_below own8 bA
      have hbA : w.heap.size ≤ (w8.alloc (.cells #[.int .i64 5, .int .i64 (3 + q8), .int .i64 7, .int .i64 0] 33)).heap.size := by simp; omega
      have hl9 : Hid (0 + 2 ≤ 8589934593) := by show _ ≤ _; omega
      go_wp2_with (first | (at_builtin; refine wpList_appW aggEv rfl _ _ rfl w.heap.size _ 0 xs8 rfl hownA w8.heap.size 0 2 2 [.int .i64 5, .int .i64 (3 + q8), .int .i64 7, .int .i64 0] rfl rfl RA h1c.out hl9.out (by decide) hbA ?_; intro v9 w9 own9 b9 g9 _))
      have hE9 : EvL 33 w.heap.size v9 (0 + 2) w9 := ⟨_, own9, I8.app hIa⟩
      have hc9 := cur_grown12 (cur_below hc8 bA) hownA hcw g9
      have ho9 := only_base12 (ho8.trans (Only.of_below (c := c) bA)) b9
      clear RA hIa h1c bA hownA hbA hl9 own9 b9 g9 own8 I8 hc8 ho8
      refine (s2.out _ _ _ (by omega) (by omega) hc9 (hB.out _ ho9)).mono ?_
      rintro e wa ⟨qa, hqa0, hqa1, rfl, hca, hoa⟩
      have hEa := hE9.only hoa hcw
      replace hoa := ho9.trans hoa
      clear hE9 hc9 ho9
      go_wp2_with fail
      refine (s1.out _ _ _ (by omega) (by omega) hca (hB.out _ hoa)).mono ?_
      rintro e wb ⟨r3, rfl, hcb, hob⟩
      have hEb := hEa.only hob hcw
      replace hob := hoa.trans hob
      clear hEa hca hoa
      cases r3 with
      | false =>
        obtain ⟨N, hN⟩ : ∃ N : Nat, qa = (N : Int) := ⟨qa.toNat, by omega⟩
        subst hN
        have hN9 : N ≤ 100 := by omega
        go_wp2_with fail
        go_loopw [3, 4] (fun l i wr => ∃ (k lm : Nat), i = .int .i64 k ∧ k ≤ N ∧ lm + k ≤ 104 ∧ EvL 33 w.heap.size l lm wr ∧ Cur c v (n + 14 + 8 * (N - k)) wr ∧ Only c w wr) (fun _ i _ => (intOf i).toNat)
        case atStart => exact ⟨N, 0 + 2, by first | rfl | (simp only [hN]), Nat.le_refl _, by omega, hEb, cur_up hcb (by omega), hob⟩
        case round =>
          obtain ⟨k, lm, rfl, hk, hlm, hEr, hcr, hor⟩ := hrel
          clear hEb hcb hob
          by_cases hk0 : 0 < k
          · have hk0' : (k : Int) > 0 := by omega
            have hk9 : (k : Int) ≤ 100 := by omega
            have hNm := nums12_12 wr 3 1 3 5 7 7 7 8 8 10 10 10 10
            have bN : Below wr.heap.size wr (wr.alloc (.cells #[.int .i64 1, .int .i64 3, .int .i64 5, .int .i64 7, .int .i64 7, .int .i64 7, .int .i64 8, .int .i64 8, .int .i64 10, .int .i64 10, .int .i64 10, .int .i64 10] 3)) := below_box (Below.refl _ _)
            have hcN := cur_below hcr bN
            have hoN := only_base12 hor (bN.mono hor.2.2.2.1)
            have hEN : EvL 33 w.heap.size u3 lm (wr.alloc (.cells #[.int .i64 1, .int .i64 3, .int .i64 5, .int .i64 7, .int .i64 7, .int .i64 7, .int .i64 8, .int .i64 8, .int .i64 10, .int .i64 10, .int .i64 10, .int .i64 10] 3)) := by
              obtain ⟨xs, h1, h2⟩ := hEr
              exact ⟨xs, ownW_below h1 bN, h2⟩
            have hrc : wr.heap.size ≠ c := by have := hor.2.2.2.1; omega
            clear bN hEr hcr hor
            go_wp2_with fail
            refine (s3.out _ _ _ _ _ (by omega) (by omega) (by omega) hcN (hB.out _ hoN) hNm hrc).mono ?_
            rintro e we ⟨kd, _, rfl, hce, hoe⟩
            have hEe := hEN.only hoe hcw
            replace hoe := hoN.trans hoe
            clear hEN hcN hoN hNm
            have ME := Mut.new we #[.int .i64 kd, .int .i64 0] 33
            have bE : Below we.heap.size we (we.alloc (.cells #[.int .i64 kd, .int .i64 0] 33)) := below_box (Below.refl _ _)
            have hcE := cur_below hce bE
            have hse := hoe.2.2.2.1
            have hoE := only_base12 hoe (bE.mono hse)
            have hEE : EvL 33 w.heap.size u3 lm (we.alloc (.cells #[.int .i64 kd, .int .i64 0] 33)) := by
              obtain ⟨xs, h1, h2⟩ := hEe
              exact ⟨xs, ownW_below h1 bE, h2⟩
            have hec : we.heap.size ≠ c := by omega
            have hnE : u3.ownBlock ≠ some we.heap.size := by
              obtain ⟨xs, h1, _⟩ := hEe
              exact fun q => by have := (ownW_lt h1 q).2; omega
            clear bE hEe hce hoe
            go_wp2_with fail
            generalize we.alloc (.cells #[.int .i64 kd, .int .i64 0] 33) = wf at *
            generalize we.heap.size = qe at *
            refine (s1.out _ _ _ (by omega) (by omega) hcE (hB.out _ hoE)).mono ?_
            rintro e wg ⟨r4, rfl, hcg, hog⟩
            have hEg := hEE.only hog hcw
            have hng := hnE
            have MEg := ME.only hog hec
            replace hog := hoE.trans hog
            clear hEE hcE hoE ME hnE
            cases r4 with
            | false =>
              go_upto_region 14 with fail
              have hX := hide (And.intro hcg (And.intro hog (And.intro hEg (And.intro MEg hng))))
              clear hcg hog hEg MEg hng
              generalize wg = X at *
              obtain ⟨hcX, hoX, hEX, MX, hnX⟩ := hX.out
              clear hX
              by_cases k5 : kd = 5
              · subst k5
                have hNm := nums12_7 X 3 0 2 3 9 90 100 101
                have bN : Below X.heap.size X (X.alloc (.cells #[.int .i64 0, .int .i64 2, .int .i64 3, .int .i64 9, .int .i64 90, .int .i64 100, .int .i64 101] 3)) := below_box (Below.refl _ _)
                have hcN := cur_below hcX bN
                have hsX := hoX.2.2.2.1
                have hoN := only_base12 hoX (bN.mono hsX)
                have hEN : EvL 33 w.heap.size u3 lm (X.alloc (.cells #[.int .i64 0, .int .i64 2, .int .i64 3, .int .i64 9, .int .i64 90, .int .i64 100, .int .i64 101] 3)) := by
                  obtain ⟨xs, h1, h2⟩ := hEX
                  exact ⟨xs, ownW_below h1 bN, h2⟩
                have MN := MX.below bN
                have hXc : X.heap.size ≠ c := by omega
                have z0 := MX.2.1 0 _ rfl
                clear bN hEX hcX hoX MX
                go_wp2_with fail
                refine (s3.out _ _ _ _ _ (by omega) (by omega) (by omega) hcN (hB.out _ hoN) hNm hXc).mono ?_
                rintro e wi ⟨r5, _, rfl, hci, hoi⟩
                have hEi := hEN.only hoi hcw
                have MEi := MN.only hoi hec
                replace hoi := hoN.trans hoi
                have zi := MEi.2.1 1 _ rfl
                have zfi := MEi.2.2 1 (by simp)
                have MY := MEi.set 1 (.int .i64 r5)
                have hcY := cur_only hci ((Only.refl qe wi).setCell 1 (.int .i64 r5)) (Ne.symm hec)
                have hoY : Only c w (wi.setCell ⟨qe, 1, none⟩ (.int .i64 r5)) := hoi.setNew hse 1 _
                have hEY : EvL 33 w.heap.size u3 lm (wi.setCell ⟨qe, 1, none⟩ (.int .i64 r5)) := hEi.away ((Only.refl qe wi).setCell 1 _) hnX
                clear hEN hcN hoN MN hNm hEi hci hoi MEi z0
                go_upto_region 16 with fail
                clear zi zfi
                generalize wi.setCell ⟨qe, 1, none⟩ (.int .i64 r5) = Y at *
                simp only [List.set_cons_zero, List.set_cons_succ] at MY
                have z0 := MY.2.1 0 _ rfl
                have z1 := MY.2.1 1 _ rfl
                obtain ⟨xs9, own9, I9⟩ := hEY
                have hs9 := hoY.2.2.2.1
                have RA := RowW.mut (Mut.new Y #[.int .i64 5, .int .i64 r5] 33)
                have hIa := IntD.two (5) (r5)
                have h1c := hide hIa.one'
                have bA : Below Y.heap.size Y (Y.alloc (.cells #[.int .i64 5, .int .i64 r5] 33)) := below_box (Below.refl _ _)
                have hownA := ownW_below own9 bA
                have hbA : w.heap.size ≤ (Y.alloc (.cells #[.int .i64 5, .int .i64 r5] 33)).heap.size := by simp; omega
                have hl9 : Hid (lm + 1 ≤ 8589934593) := by show _ ≤ _; omega
                go_wp2_with (first | (at_builtin; refine wpList_appW aggEv rfl _ _ rfl w.heap.size _ lm xs9 rfl hownA Y.heap.size 0 1 1 [.int .i64 5, .int .i64 r5] rfl rfl RA h1c.out hl9.out (by decide) hbA ?_; intro v6 w6 own6 b6 g6 _))
                exact ⟨⟨k - 1, lm + 1, by congr 1; omega, by omega, by omega, ⟨_, own6, I9.app hIa⟩, cur_grown12 (cur_below (cur_up hcY (by omega)) bA) hownA hcw g6, only_base12 (hoY.trans (Only.of_below (c := c) bA)) b6⟩, by simp [intOf]; omega⟩
              · have k5' : (kd == 5) = false := by simp [k5]
                have z0 := MX.2.1 0 _ rfl
                have z1 := MX.2.1 1 _ rfl
                obtain ⟨xs9, own9, I9⟩ := hEX
                have hs9 := hoX.2.2.2.1
                have RA := RowW.mut (Mut.new X #[.int .i64 kd, .int .i64 0] 33)
                have hIa := IntD.two (kd) (0)
                have h1c := hide hIa.one'
                have bA : Below X.heap.size X (X.alloc (.cells #[.int .i64 kd, .int .i64 0] 33)) := below_box (Below.refl _ _)
                have hownA := ownW_below own9 bA
                have hbA : w.heap.size ≤ (X.alloc (.cells #[.int .i64 kd, .int .i64 0] 33)).heap.size := by simp; omega
                have hl9 : Hid (lm + 1 ≤ 8589934593) := by show _ ≤ _; omega
                go_wp2_with (first | (at_builtin; refine wpList_appW aggEv rfl _ _ rfl w.heap.size _ lm xs9 rfl hownA X.heap.size 0 1 1 [.int .i64 kd, .int .i64 0] rfl rfl RA h1c.out hl9.out (by decide) hbA ?_; intro v6 w6 own6 b6 g6 _))
                exact ⟨⟨k - 1, lm + 1, by congr 1; omega, by omega, by omega, ⟨_, own6, I9.app hIa⟩, cur_grown12 (cur_below (cur_up hcX (by omega)) bA) hownA hcw g6, only_base12 (hoX.trans (Only.of_below (c := c) bA)) b6⟩, by simp [intOf]; omega⟩
            | true =>
              go_wp2_with fail
              refine (s2.out _ _ _ (by omega) (by omega) hcg (hB.out _ hog)).mono ?_
              rintro e wh ⟨qh, hqh0, hqh1, rfl, hch, hoh⟩
              have hEh := hEg.only hoh hcw
              have MEh0 := MEg.only hoh hec
              replace hoh := hog.trans hoh
              have z0' := MEh0.2.1 0 _ rfl
              have zf0' := MEh0.2.2 0 (by simp)
              have hqh2 : qh ≤ 10 := by omega
              have MX := MEh0.set 0 (.int .i64 (1 + qh))
              have hcX := cur_only hch ((Only.refl qe wh).setCell 0 (.int .i64 (1 + qh))) (Ne.symm hec)
              have hoX : Only c w (wh.setCell ⟨qe, 0, none⟩ (.int .i64 (1 + qh))) := hoh.setNew hse 0 _
              have hEX : EvL 33 w.heap.size u3 lm (wh.setCell ⟨qe, 0, none⟩ (.int .i64 (1 + qh))) := hEh.away ((Only.refl qe wh).setCell 0 _) hng
              have hnX := hng
              clear hEg hcg hog MEg hEh hch hoh MEh0 hng
              go_upto_region 14 with fail
              clear z0' zf0'
              generalize wh.setCell ⟨qe, 0, none⟩ (.int .i64 (1 + qh)) = X at *
              generalize 1 + qh = kd at *
              simp only [List.set_cons_zero] at MX
              by_cases k5 : kd = 5
              · subst k5
                have hNm := nums12_7 X 3 0 2 3 9 90 100 101
                have bN : Below X.heap.size X (X.alloc (.cells #[.int .i64 0, .int .i64 2, .int .i64 3, .int .i64 9, .int .i64 90, .int .i64 100, .int .i64 101] 3)) := below_box (Below.refl _ _)
                have hcN := cur_below hcX bN
                have hsX := hoX.2.2.2.1
                have hoN := only_base12 hoX (bN.mono hsX)
                have hEN : EvL 33 w.heap.size u3 lm (X.alloc (.cells #[.int .i64 0, .int .i64 2, .int .i64 3, .int .i64 9, .int .i64 90, .int .i64 100, .int .i64 101] 3)) := by
                  obtain ⟨xs, h1, h2⟩ := hEX
                  exact ⟨xs, ownW_below h1 bN, h2⟩
                have MN := MX.below bN
                have hXc : X.heap.size ≠ c := by omega
                have z0 := MX.2.1 0 _ rfl
                clear bN hEX hcX hoX MX
                go_wp2_with fail
                refine (s3.out _ _ _ _ _ (by omega) (by omega) (by omega) hcN (hB.out _ hoN) hNm hXc).mono ?_
                rintro e wi ⟨r5, _, rfl, hci, hoi⟩
                have hEi := hEN.only hoi hcw
                have MEi := MN.only hoi hec
                replace hoi := hoN.trans hoi
                have zi := MEi.2.1 1 _ rfl
                have zfi := MEi.2.2 1 (by simp)
                have MY := MEi.set 1 (.int .i64 r5)
                have hcY := cur_only hci ((Only.refl qe wi).setCell 1 (.int .i64 r5)) (Ne.symm hec)
                have hoY : Only c w (wi.setCell ⟨qe, 1, none⟩ (.int .i64 r5)) := hoi.setNew hse 1 _
                have hEY : EvL 33 w.heap.size u3 lm (wi.setCell ⟨qe, 1, none⟩ (.int .i64 r5)) := hEi.away ((Only.refl qe wi).setCell 1 _) hnX
                clear hEN hcN hoN MN hNm hEi hci hoi MEi z0
                go_upto_region 16 with fail
                clear zi zfi
                generalize wi.setCell ⟨qe, 1, none⟩ (.int .i64 r5) = Y at *
                simp only [List.set_cons_zero, List.set_cons_succ] at MY
                have z0 := MY.2.1 0 _ rfl
                have z1 := MY.2.1 1 _ rfl
                obtain ⟨xs9, own9, I9⟩ := hEY
                have hs9 := hoY.2.2.2.1
                have RA := RowW.mut (Mut.new Y #[.int .i64 5, .int .i64 r5] 33)
                have hIa := IntD.two (5) (r5)
                have h1c := hide hIa.one'
                have bA : Below Y.heap.size Y (Y.alloc (.cells #[.int .i64 5, .int .i64 r5] 33)) := below_box (Below.refl _ _)
                have hownA := ownW_below own9 bA
                have hbA : w.heap.size ≤ (Y.alloc (.cells #[.int .i64 5, .int .i64 r5] 33)).heap.size := by simp; omega
                have hl9 : Hid (lm + 1 ≤ 8589934593) := by show _ ≤ _; omega
                go_wp2_with (first | (at_builtin; refine wpList_appW aggEv rfl _ _ rfl w.heap.size _ lm xs9 rfl hownA Y.heap.size 0 1 1 [.int .i64 5, .int .i64 r5] rfl rfl RA h1c.out hl9.out (by decide) hbA ?_; intro v6 w6 own6 b6 g6 _))
                exact ⟨⟨k - 1, lm + 1, by congr 1; omega, by omega, by omega, ⟨_, own6, I9.app hIa⟩, cur_grown12 (cur_below (cur_up hcY (by omega)) bA) hownA hcw g6, only_base12 (hoY.trans (Only.of_below (c := c) bA)) b6⟩, by simp [intOf]; omega⟩
              · have k5' : (kd == 5) = false := by simp [k5]
                have z0 := MX.2.1 0 _ rfl
                have z1 := MX.2.1 1 _ rfl
                obtain ⟨xs9, own9, I9⟩ := hEX
                have hs9 := hoX.2.2.2.1
                have RA := RowW.mut (Mut.new X #[.int .i64 kd, .int .i64 0] 33)
                have hIa := IntD.two (kd) (0)
                have h1c := hide hIa.one'
                have bA : Below X.heap.size X (X.alloc (.cells #[.int .i64 kd, .int .i64 0] 33)) := below_box (Below.refl _ _)
                have hownA := ownW_below own9 bA
                have hbA : w.heap.size ≤ (X.alloc (.cells #[.int .i64 kd, .int .i64 0] 33)).heap.size := by simp; omega
                have hl9 : Hid (lm + 1 ≤ 8589934593) := by show _ ≤ _; omega
                go_wp2_with (first | (at_builtin; refine wpList_appW aggEv rfl _ _ rfl w.heap.size _ lm xs9 rfl hownA X.heap.size 0 1 1 [.int .i64 kd, .int .i64 0] rfl rfl RA h1c.out hl9.out (by decide) hbA ?_; intro v6 w6 own6 b6 g6 _))
                exact ⟨⟨k - 1, lm + 1, by congr 1; omega, by omega, by omega, ⟨_, own6, I9.app hIa⟩, cur_grown12 (cur_below (cur_up hcX (by omega)) bA) hownA hcw g6, only_base12 (hoX.trans (Only.of_below (c := c) bA)) b6⟩, by simp [intOf]; omega⟩
          · have hk0' : ¬ (k : Int) > 0 := by omega
            go_wp2_with fail
            go_ret
            exact ⟨_, rfl, lm, by omega, hEr, cur_up hcr (by omega), hor⟩
      | true =>
        go_wp2_with fail
        refine (s2.out _ _ _ (by omega) (by omega) hcb (hB.out _ hob)).mono ?_
        rintro e wd ⟨qd, hqd0, hqd1, rfl, hcd, hod⟩
        have hEd := hEb.only hod hcw
        replace hod := hob.trans hod
        clear hEb hcb hob
        obtain ⟨N, hN⟩ : ∃ N : Nat, 98 + qd = (N : Int) := ⟨(98 + qd).toNat, by omega⟩
        have hN9 : N ≤ 100 := by omega
        clear hqa0 hqa1
        go_wp2_with fail
        go_loopw [3, 4] (fun l i wr => ∃ (k lm : Nat), i = .int .i64 k ∧ k ≤ N ∧ lm + k ≤ 104 ∧ EvL 33 w.heap.size l lm wr ∧ Cur c v (n + 14 + 8 * (N - k)) wr ∧ Only c w wr) (fun _ i _ => (intOf i).toNat)
        case atStart => exact ⟨N, 0 + 2, by first | rfl | (simp only [hN]), Nat.le_refl _, by omega, hEd, cur_up hcd (by omega), hod⟩
        case round =>
          obtain ⟨k, lm, rfl, hk, hlm, hEr, hcr, hor⟩ := hrel
          clear hEd hcd hod
          by_cases hk0 : 0 < k
          · have hk0' : (k : Int) > 0 := by omega
            have hk9 : (k : Int) ≤ 100 := by omega
            have hNm := nums12_12 wr 3 1 3 5 7 7 7 8 8 10 10 10 10
            have bN : Below wr.heap.size wr (wr.alloc (.cells #[.int .i64 1, .int .i64 3, .int .i64 5, .int .i64 7, .int .i64 7, .int .i64 7, .int .i64 8, .int .i64 8, .int .i64 10, .int .i64 10, .int .i64 10, .int .i64 10] 3)) := below_box (Below.refl _ _)
            have hcN := cur_below hcr bN
            have hoN := only_base12 hor (bN.mono hor.2.2.2.1)
            have hEN : EvL 33 w.heap.size u3 lm (wr.alloc (.cells #[.int .i64 1, .int .i64 3, .int .i64 5, .int .i64 7, .int .i64 7, .int .i64 7, .int .i64 8, .int .i64 8, .int .i64 10, .int .i64 10, .int .i64 10, .int .i64 10] 3)) := by
              obtain ⟨xs, h1, h2⟩ := hEr
              exact ⟨xs, ownW_below h1 bN, h2⟩
            have hrc : wr.heap.size ≠ c := by have := hor.2.2.2.1; omega
            clear bN hEr hcr hor
            go_wp2_with fail
            refine (s3.out _ _ _ _ _ (by omega) (by omega) (by omega) hcN (hB.out _ hoN) hNm hrc).mono ?_
            rintro e we ⟨kd, _, rfl, hce, hoe⟩
            have hEe := hEN.only hoe hcw
            replace hoe := hoN.trans hoe
            clear hEN hcN hoN hNm
            have ME := Mut.new we #[.int .i64 kd, .int .i64 0] 33
            have bE : Below we.heap.size we (we.alloc (.cells #[.int .i64 kd, .int .i64 0] 33)) := below_box (Below.refl _ _)
            have hcE := cur_below hce bE
            have hse := hoe.2.2.2.1
            have hoE := only_base12 hoe (bE.mono hse)
            have hEE : EvL 33 w.heap.size u3 lm (we.alloc (.cells #[.int .i64 kd, .int .i64 0] 33)) := by
              obtain ⟨xs, h1, h2⟩ := hEe
              exact ⟨xs, ownW_below h1 bE, h2⟩
            have hec : we.heap.size ≠ c := by omega
            have hnE : u3.ownBlock ≠ some we.heap.size := by
              obtain ⟨xs, h1, _⟩ := hEe
              exact fun q => by have := (ownW_lt h1 q).2; omega
            clear bE hEe hce hoe
            go_wp2_with fail
            generalize we.alloc (.cells #[.int .i64 kd, .int .i64 0] 33) = wf at *
            generalize we.heap.size = qe at *
            refine (s1.out _ _ _ (by omega) (by omega) hcE (hB.out _ hoE)).mono ?_
            rintro e wg ⟨r4, rfl, hcg, hog⟩
            have hEg := hEE.only hog hcw
            have hng := hnE
            have MEg := ME.only hog hec
            replace hog := hoE.trans hog
            clear hEE hcE hoE ME hnE
            cases r4 with
            | false =>
              go_upto_region 14 with fail
              have hX := hide (And.intro hcg (And.intro hog (And.intro hEg (And.intro MEg hng))))
              clear hcg hog hEg MEg hng
              generalize wg = X at *
              obtain ⟨hcX, hoX, hEX, MX, hnX⟩ := hX.out
              clear hX
              by_cases k5 : kd = 5
              · subst k5
                have hNm := nums12_7 X 3 0 2 3 9 90 100 101
                have bN : Below X.heap.size X (X.alloc (.cells #[.int .i64 0, .int .i64 2, .int .i64 3, .int .i64 9, .int .i64 90, .int .i64 100, .int .i64 101] 3)) := below_box (Below.refl _ _)
                have hcN := cur_below hcX bN
                have hsX := hoX.2.2.2.1
                have hoN := only_base12 hoX (bN.mono hsX)
                have hEN : EvL 33 w.heap.size u3 lm (X.alloc (.cells #[.int .i64 0, .int .i64 2, .int .i64 3, .int .i64 9, .int .i64 90, .int .i64 100, .int .i64 101] 3)) := by
                  obtain ⟨xs, h1, h2⟩ := hEX
                  exact ⟨xs, ownW_below h1 bN, h2⟩
                have MN := MX.below bN
                have hXc : X.heap.size ≠ c := by omega
                have z0 := MX.2.1 0 _ rfl
                clear bN hEX hcX hoX MX
                go_wp2_with fail
                refine (s3.out _ _ _ _ _ (by omega) (by omega) (by omega) hcN (hB.out _ hoN) hNm hXc).mono ?_
                rintro e wi ⟨r5, _, rfl, hci, hoi⟩
                have hEi := hEN.only hoi hcw
                have MEi := MN.only hoi hec
                replace hoi := hoN.trans hoi
                have zi := MEi.2.1 1 _ rfl
                have zfi := MEi.2.2 1 (by simp)
                have MY := MEi.set 1 (.int .i64 r5)
                have hcY := cur_only hci ((Only.refl qe wi).setCell 1 (.int .i64 r5)) (Ne.symm hec)
                have hoY : Only c w (wi.setCell ⟨qe, 1, none⟩ (.int .i64 r5)) := hoi.setNew hse 1 _
                have hEY : EvL 33 w.heap.size u3 lm (wi.setCell ⟨qe, 1, none⟩ (.int .i64 r5)) := hEi.away ((Only.refl qe wi).setCell 1 _) hnX
                clear hEN hcN hoN MN hNm hEi hci hoi MEi z0
                go_upto_region 16 with fail
                clear zi zfi
                generalize wi.setCell ⟨qe, 1, none⟩ (.int .i64 r5) = Y at *
                simp only [List.set_cons_zero, List.set_cons_succ] at MY
                have z0 := MY.2.1 0 _ rfl
                have z1 := MY.2.1 1 _ rfl
                obtain ⟨xs9, own9, I9⟩ := hEY
                have hs9 := hoY.2.2.2.1
                have RA := RowW.mut (Mut.new Y #[.int .i64 5, .int .i64 r5] 33)
                have hIa := IntD.two (5) (r5)
                have h1c := hide hIa.one'
                have bA : Below Y.heap.size Y (Y.alloc (.cells #[.int .i64 5, .int .i64 r5] 33)) := below_box (Below.refl _ _)
                have hownA := ownW_below own9 bA
                have hbA : w.heap.size ≤ (Y.alloc (.cells #[.int .i64 5, .int .i64 r5] 33)).heap.size := by simp; omega
                have hl9 : Hid (lm + 1 ≤ 8589934593) := by show _ ≤ _; omega
                go_wp2_with (first | (at_builtin; refine wpList_appW aggEv rfl _ _ rfl w.heap.size _ lm xs9 rfl hownA Y.heap.size 0 1 1 [.int .i64 5, .int .i64 r5] rfl rfl RA h1c.out hl9.out (by decide) hbA ?_; intro v6 w6 own6 b6 g6 _))
                exact ⟨⟨k - 1, lm + 1, by congr 1; omega, by omega, by omega, ⟨_, own6, I9.app hIa⟩, cur_grown12 (cur_below (cur_up hcY (by omega)) bA) hownA hcw g6, only_base12 (hoY.trans (Only.of_below (c := c) bA)) b6⟩, by simp [intOf]; omega⟩
              · have k5' : (kd == 5) = false := by simp [k5]
                have z0 := MX.2.1 0 _ rfl
                have z1 := MX.2.1 1 _ rfl
                obtain ⟨xs9, own9, I9⟩ := hEX
                have hs9 := hoX.2.2.2.1
                have RA := RowW.mut (Mut.new X #[.int .i64 kd, .int .i64 0] 33)
                have hIa := IntD.two (kd) (0)
                have h1c := hide hIa.one'
                have bA : Below X.heap.size X (X.alloc (.cells #[.int .i64 kd, .int .i64 0] 33)) := below_box (Below.refl _ _)
                have hownA := ownW_below own9 bA
                have hbA : w.heap.size ≤ (X.alloc (.cells #[.int .i64 kd, .int .i64 0] 33)).heap.size := by simp; omega
                have hl9 : Hid (lm + 1 ≤ 8589934593) := by show _ ≤ _; omega
                go_wp2_with (first | (at_builtin; refine wpList_appW aggEv rfl _ _ rfl w.heap.size _ lm xs9 rfl hownA X.heap.size 0 1 1 [.int .i64 kd, .int .i64 0] rfl rfl RA h1c.out hl9.out (by decide) hbA ?_; intro v6 w6 own6 b6 g6 _))
                exact ⟨⟨k - 1, lm + 1, by congr 1; omega, by omega, by omega, ⟨_, own6, I9.app hIa⟩, cur_grown12 (cur_below (cur_up hcX (by omega)) bA) hownA hcw g6, only_base12 (hoX.trans (Only.of_below (c := c) bA)) b6⟩, by simp [intOf]; omega⟩
            | true =>
              go_wp2_with fail
              refine (s2.out _ _ _ (by omega) (by omega) hcg (hB.out _ hog)).mono ?_
              rintro e wh ⟨qh, hqh0, hqh1, rfl, hch, hoh⟩
              have hEh := hEg.only hoh hcw
              have MEh0 := MEg.only hoh hec
              replace hoh := hog.trans hoh
              have z0' := MEh0.2.1 0 _ rfl
              have zf0' := MEh0.2.2 0 (by simp)
              have hqh2 : qh ≤ 10 := by omega
              have MX := MEh0.set 0 (.int .i64 (1 + qh))
              have hcX := cur_only hch ((Only.refl qe wh).setCell 0 (.int .i64 (1 + qh))) (Ne.symm hec)
              have hoX : Only c w (wh.setCell ⟨qe, 0, none⟩ (.int .i64 (1 + qh))) := hoh.setNew hse 0 _
              have hEX : EvL 33 w.heap.size u3 lm (wh.setCell ⟨qe, 0, none⟩ (.int .i64 (1 + qh))) := hEh.away ((Only.refl qe wh).setCell 0 _) hng
              have hnX := hng
              clear hEg hcg hog MEg hEh hch hoh MEh0 hng
              go_upto_region 14 with fail
              clear z0' zf0'
              generalize wh.setCell ⟨qe, 0, none⟩ (.int .i64 (1 + qh)) = X at *
              generalize 1 + qh = kd at *
              simp only [List.set_cons_zero] at MX
              by_cases k5 : kd = 5
              · subst k5
                have hNm := nums12_7 X 3 0 2 3 9 90 100 101
                have bN : Below X.heap.size X (X.alloc (.cells #[.int .i64 0, .int .i64 2, .int .i64 3, .int .i64 9, .int .i64 90, .int .i64 100, .int .i64 101] 3)) := below_box (Below.refl _ _)
                have hcN := cur_below hcX bN
                have hsX := hoX.2.2.2.1
                have hoN := only_base12 hoX (bN.mono hsX)
                have hEN : EvL 33 w.heap.size u3 lm (X.alloc (.cells #[.int .i64 0, .int .i64 2, .int .i64 3, .int .i64 9, .int .i64 90, .int .i64 100, .int .i64 101] 3)) := by
                  obtain ⟨xs, h1, h2⟩ := hEX
                  exact ⟨xs, ownW_below h1 bN, h2⟩
                have MN := MX.below bN
                have hXc : X.heap.size ≠ c := by omega
                have z0 := MX.2.1 0 _ rfl
                clear bN hEX hcX hoX MX
                go_wp2_with fail
                refine (s3.out _ _ _ _ _ (by omega) (by omega) (by omega) hcN (hB.out _ hoN) hNm hXc).mono ?_
                rintro e wi ⟨r5, _, rfl, hci, hoi⟩
                have hEi := hEN.only hoi hcw
                have MEi := MN.only hoi hec
                replace hoi := hoN.trans hoi
                have zi := MEi.2.1 1 _ rfl
                have zfi := MEi.2.2 1 (by simp)
                have MY := MEi.set 1 (.int .i64 r5)
                have hcY := cur_only hci ((Only.refl qe wi).setCell 1 (.int .i64 r5)) (Ne.symm hec)
                have hoY : Only c w (wi.setCell ⟨qe, 1, none⟩ (.int .i64 r5)) := hoi.setNew hse 1 _
                have hEY : EvL 33 w.heap.size u3 lm (wi.setCell ⟨qe, 1, none⟩ (.int .i64 r5)) := hEi.away ((Only.refl qe wi).setCell 1 _) hnX
                clear hEN hcN hoN MN hNm hEi hci hoi MEi z0
                go_upto_region 16 with fail
                clear zi zfi
                generalize wi.setCell ⟨qe, 1, none⟩ (.int .i64 r5) = Y at *
                simp only [List.set_cons_zero, List.set_cons_succ] at MY
                have z0 := MY.2.1 0 _ rfl
                have z1 := MY.2.1 1 _ rfl
                obtain ⟨xs9, own9, I9⟩ := hEY
                have hs9 := hoY.2.2.2.1
                have RA := RowW.mut (Mut.new Y #[.int .i64 5, .int .i64 r5] 33)
                have hIa := IntD.two (5) (r5)
                have h1c := hide hIa.one'
                have bA : Below Y.heap.size Y (Y.alloc (.cells #[.int .i64 5, .int .i64 r5] 33)) := below_box (Below.refl _ _)
                have hownA := ownW_below own9 bA
                have hbA : w.heap.size ≤ (Y.alloc (.cells #[.int .i64 5, .int .i64 r5] 33)).heap.size := by simp; omega
                have hl9 : Hid (lm + 1 ≤ 8589934593) := by show _ ≤ _; omega
                go_wp2_with (first | (at_builtin; refine wpList_appW aggEv rfl _ _ rfl w.heap.size _ lm xs9 rfl hownA Y.heap.size 0 1 1 [.int .i64 5, .int .i64 r5] rfl rfl RA h1c.out hl9.out (by decide) hbA ?_; intro v6 w6 own6 b6 g6 _))
                exact ⟨⟨k - 1, lm + 1, by congr 1; omega, by omega, by omega, ⟨_, own6, I9.app hIa⟩, cur_grown12 (cur_below (cur_up hcY (by omega)) bA) hownA hcw g6, only_base12 (hoY.trans (Only.of_below (c := c) bA)) b6⟩, by simp [intOf]; omega⟩
              · have k5' : (kd == 5) = false := by simp [k5]
                have z0 := MX.2.1 0 _ rfl
                have z1 := MX.2.1 1 _ rfl
                obtain ⟨xs9, own9, I9⟩ := hEX
                have hs9 := hoX.2.2.2.1
                have RA := RowW.mut (Mut.new X #[.int .i64 kd, .int .i64 0] 33)
                have hIa := IntD.two (kd) (0)
                have h1c := hide hIa.one'
                have bA : Below X.heap.size X (X.alloc (.cells #[.int .i64 kd, .int .i64 0] 33)) := below_box (Below.refl _ _)
                have hownA := ownW_below own9 bA
                have hbA : w.heap.size ≤ (X.alloc (.cells #[.int .i64 kd, .int .i64 0] 33)).heap.size := by simp; omega
                have hl9 : Hid (lm + 1 ≤ 8589934593) := by show _ ≤ _; omega
                go_wp2_with (first | (at_builtin; refine wpList_appW aggEv rfl _ _ rfl w.heap.size _ lm xs9 rfl hownA X.heap.size 0 1 1 [.int .i64 kd, .int .i64 0] rfl rfl RA h1c.out hl9.out (by decide) hbA ?_; intro v6 w6 own6 b6 g6 _))
                exact ⟨⟨k - 1, lm + 1, by congr 1; omega, by omega, by omega, ⟨_, own6, I9.app hIa⟩, cur_grown12 (cur_below (cur_up hcX (by omega)) bA) hownA hcw g6, only_base12 (hoX.trans (Only.of_below (c := c) bA)) b6⟩, by simp [intOf]; omega⟩
          · have hk0' : ¬ (k : Int) > 0 := by omega
            go_wp2_with fail
            go_ret
            exact ⟨_, rfl, lm, by omega, hEr, cur_up hcr (by omega), hor⟩
end Go.Proofs.Ytencpplhlciffaa
