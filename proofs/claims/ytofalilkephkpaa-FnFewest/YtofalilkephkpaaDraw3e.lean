/- What the specification draws for SameAddrs and MeetSets. -/
import Derived.Test.YtofalilkephkpaaDraw3d
namespace Go.Proofs.Ytofalilkephkpaa
open Go.RowKit

theorem row_two {w : World} {b : Nat} {p q : Pf} (hb : b < w.heap.size) (h0 : w.cell? ⟨b, 0, none⟩ = some (.int .i64 p.1)) (h1 : w.cell? ⟨b, 1, none⟩ = some (.int .i64 p.2)) (h2 : w.cell? ⟨b, 2, none⟩ = some (.int .i64 q.1)) (h3 : w.cell? ⟨b, 3, none⟩ = some (.int .i64 q.2)) : RowP (some ⟨b, 0, none⟩) [p, q] w := by
  intro i hi
  simp only [List.length_cons, List.length_nil] at hi
  obtain rfl | rfl : i = 0 ∨ i = 1 := by omega
  · exact ⟨b, 0, rfl, hb, h0, h1⟩
  · exact ⟨b, 0, rfl, hb, h2, h3⟩
theorem box3 (w : World) (o o' : Obj) (x y : Value) (t : TypeId) : (((w.alloc o).alloc o').alloc (.cells #[x, y] t)).cell? ⟨w.heap.size + 2, 0, none⟩ = some x ∧ (((w.alloc o).alloc o').alloc (.cells #[x, y] t)).cell? ⟨w.heap.size + 2, 1, none⟩ = some y := by
  have h := Bk.new ((w.alloc o).alloc o') #[x, y] t
  have e : ((w.alloc o).alloc o').heap.size = w.heap.size + 2 := by simp
  rw [e] at h
  exact ⟨(h.cell 0).trans rfl, (h.cell 1).trans rfl⟩
set_option maxRecDepth 100000 in
set_option maxHeartbeats 6400000 in
theorem d_same (v : Value) (len : Nat) (w : World) (hby : BytesAt w.heap.size w v len) :
    Calls Try.prog 15 #[v] w fun e w' => ∃ a ca, ∃ L : List Pf, ∃ b cb, ∃ M : List Pf, e = .returned (.tuple #[.slice a L.length ca, .slice b M.length cb]) ∧ L.length ≤ 130 ∧ M.length ≤ 130 ∧ SrcP a L ca w' ∧ SrcP b M cb w' ∧ Below w.heap.size w w' := by
  obtain ⟨p, cap, rfl, hl, hj⟩ := hby
  have hcu0 : Cur w.heap.size (.slice p len cap) 0 (w.alloc (.cells #[.slice p len cap, .int .i64 0, .int .u64 0] 118)) := ⟨0, 0, by omega, by omega, by simp, by simp [go_sem], by simp [go_sem], by simp [go_sem], by omega, by simp [go_sem], by simp [go_sem], by simp [go_sem]⟩
  have hby0 : BytesAt w.heap.size (w.alloc (.cells #[.slice p len cap, .int .i64 0, .int .u64 0] 118)) (.slice p len cap) len := bytes_to3 ⟨p, cap, rfl, hl, hj⟩ (below_box (Below.refl _ _)) (Nat.le_refl _)
  have hb0 : Below w.heap.size w (w.alloc (.cells #[.slice p len cap, .int .i64 0, .int .u64 0] 118)) := below_box (Below.refl _ _)
  have hz0 : (w.alloc (.cells #[.slice p len cap, .int .i64 0, .int .u64 0] 118)).heap.size = w.heap.size + 1 := by simp
  have s1 := hide (fun m w' hm hc hb => d_prefixes w.heap.size (.slice p len cap) len m w' hm hc hb)
  have s2 := hide (fun m w' hm hc hb => d_one w.heap.size (.slice p len cap) len m 2 w' hm (by omega) hc hb)
  clear hj
  go_enter Try.func15, Try.ntmps15
  go_wp2_with fail
  generalize hW0 : w.alloc (.cells #[.slice p len cap, .int .i64 0, .int .u64 0] 118) = W0 at *
  clear hW0
  have hB := hide (fun (w' : World) (k : Only w.heap.size W0 w') => hby0.only k (Nat.le_refl _))
  have hE := hide (fun (w' : World) (k : Only w.heap.size W0 w') => hb0.trans (k.below (by omega)))
  clear hby0 hb0
  generalize hcc : w.heap.size = c at *
  refine (s1.out _ _ (by omega) hcu0 (hB.out _ (Only.refl _ _))).mono ?_
  rintro e w1 ⟨a, ca, L, rfl, hLl, hL1, hc1, ho1⟩
  rw [hz0] at hL1
  have hz1 := ho1.2.2.2.1
  clear hcu0
  cases hg : goodL L with
  | false =>
    have s3 := hide (fun w hR => s_fewestOf_no a ca L w (by omega) hR hg)
    go_wp2_with fail
    refine (s3.out _ hL1.1).mono ?_
    rintro e w2 ⟨rfl, hb2⟩
    have hc2 := cur_below hc1 hb2
    have hO2 := ho1.trans (Only.of_below (c := c) hb2)
    have hL2 := hL1.below hb2
    clear hb2 s3 hc1 hL1
    go_wp2_with fail
    refine (s1.out _ _ (by omega) hc2 (hB.out _ hO2)).mono ?_
    rintro e w9 ⟨b, cb, M, rfl, hMl, hM9, hc9, ho9⟩
    have hO9 := hO2.trans ho9
    have hL9 := hL2.only ho9 (by omega)
    go_wp2_with fail
    exact bodyPost_ret (v := .tuple #[.slice a L.length ca, .slice b M.length cb]) (by simp [results, Try.results15, go_sem]) rfl ⟨a, ca, L, b, cb, M, rfl, hLl, hMl, hL9.src, hM9.src, by rw [hcc]; exact hE.out _ hO9⟩
  | true =>
    obtain ⟨g1, g2⟩ := goodL_parts hg
    have s3 := hide (fun w hR => s_fewestOf_yes a ca L w hR hg)
    have hUl : (fewS L).length ≤ 64 := Nat.le_trans (fewS_good g1).2.2 g2
    have gU := (fewS_good g1).1.gd
    clear hg g1
    generalize fewS L = U at *
    go_wp2_with fail
    refine (s3.out _ hL1.1).mono ?_
    rintro e w2 ⟨v2, rfl, ho2, hb2⟩
    have hc2 := cur_below hc1 hb2
    have hO2 := ho1.trans (Only.of_below (c := c) hb2)
    have hL2 := hL1.below hb2
    have hz2 := hO2.2.2.2.1
    obtain ⟨ua, uc, rfl, hU2⟩ := LooseP.own ho2
    clear hb2 s3 hc1 hL1 ho2
    go_wp2_with fail
    refine (s2.out _ _ (by omega) hc2 (hB.out _ hO2)).mono ?_
    rintro e w3 ⟨r3, rfl, hc3, ho3⟩
    have hO3 := hO2.trans ho3
    have hL3 := hL2.only ho3 (by omega)
    have hU3 := hU2.only ho3 (by omega)
    have hz3 := hO3.2.2.2.1
    clear ho3 hL2 hU2 hc2 hO2
    cases r3 with
    | true =>
      go_wp2_with fail
      refine (s1.out _ _ (by omega) hc3 (hB.out _ hO3)).mono ?_
      rintro e w9 ⟨b, cb, M, rfl, hMl, hM9, hc9, ho9⟩
      have hO9 := hO3.trans ho9
      have hL9 := hL3.only ho9 (by omega)
      go_wp2_with fail
      exact bodyPost_ret (v := .tuple #[.slice a L.length ca, .slice b M.length cb]) (by simp [results, Try.results15, go_sem]) rfl ⟨a, ca, L, b, cb, M, rfl, hLl, hMl, hL9.src, hM9.src, by rw [hcc]; exact hE.out _ hO9⟩
    | false =>
      go_wp2_with fail
      go_loopw [8, 35] (fun l i wr => ∃ k : Nat, ∃ T : List Pf, k ≤ U.length ∧ i = .int .i64 k ∧ OwnP w3.heap.size l T wr ∧ T.length ≤ 2 * k ∧ Cur c (.slice p len cap) (1000 + 2 * k) wr ∧ Only c w3 wr) (fun _ i _ => U.length - (intOf i).toNat)
      case atStart => exact ⟨0, [], Nat.zero_le _, rfl, ownP_nil _ _, by simp, cur_up hc3 (by omega), Only.refl _ _⟩
      case round =>
        obtain ⟨k, T, hk, rfl, hown, hlen, hc, ho⟩ := hrel
        have hOr := hO3.trans ho
        by_cases hlt : k < U.length
        · have hlt' : (k : Int) < (U.length : Int) := by omega
          obtain ⟨b, off, rfl, hbw2, h0, h1⟩ := (hU3.only ho (by omega)).1 k hlt
          have gi := gU _ (pAt_mem hlt)
          have hzr := ho.2.2.2.1
          generalize hP : pAt U k = P at *
          clear hP
          obtain ⟨qa, ql⟩ := P
          obtain ⟨e1, e2, _⟩ := gdP_parts gi
          dsimp only at *
          by_cases hq : ql < 32
          · have s4 := hide (fun w => s_halves_yes qa ql w gi hq)
            generalize qa + pw (ql + 1) = hi at *
            generalize ql + 1 = l1 at *
            clear gi e1 e2
            go_wp2_with fail
            refine (s4.out _).mono ?_
            rintro e w4 ⟨rfl, hb4⟩
            have hb4' := below_box hb4
            have hBq := (Bk.new wr #[.int .i64 qa, .int .i64 ql] 34).below hb4
            have hOw4 := ownP_below hown hb4'
            have hc4 := cur_below hc hb4'
            have hOn4 := ho.trans (Only.of_below (c := c) hb4')
            have hz4 : wr.heap.size < w4.heap.size := hBq.lt
            clear hb4 hb4' hown hc ho h0 h1 s4
            have hBx : Bk ((w4.alloc (.cells #[.int .i64 qa, .int .i64 l1] 34)).alloc (.cells #[.int .i64 hi, .int .i64 l1] 34)) w4.heap.size #[.int .i64 qa, .int .i64 l1] 34 := (Bk.new w4 _ _).below (below_box (Below.refl _ _))
            have hBy : Bk ((w4.alloc (.cells #[.int .i64 qa, .int .i64 l1] 34)).alloc (.cells #[.int .i64 hi, .int .i64 l1] 34)) (w4.heap.size + 1) #[.int .i64 hi, .int .i64 l1] 34 := by have := Bk.new (w4.alloc (.cells #[.int .i64 qa, .int .i64 l1] 34)) #[.int .i64 hi, .int .i64 l1] 34; simpa using this
            have hd : Below w4.heap.size w4 ((w4.alloc (.cells #[.int .i64 qa, .int .i64 l1] 34)).alloc (.cells #[.int .i64 hi, .int .i64 l1] 34)) := below_box2 (Below.refl _ _)
            go_wp2_with fail
            generalize ((w4.alloc (.cells #[.int .i64 qa, .int .i64 l1] 34)).alloc (.cells #[.int .i64 hi, .int .i64 l1] 34)) = W5 at *
            have hOw5 := ownP_below hOw4 hd
            have hc5 := cur_below hc4 hd
            have hOn5 := hOn4.trans (Only.of_below (c := c) hd)
            have hBq5 := hBq.below hd
            clear hOw4 hc4 hOn4 hBq hd
            refine (s2.out _ _ (by omega) hc5 (hB.out _ (hO3.trans hOn5))).mono ?_
            rintro e w6 ⟨r6, rfl, hc6, ho6⟩
            have hOw6 := own_only hOw5 ho6 (by omega)
            have hOn6 := hOn5.trans ho6
            have hq6 : Bk w6 wr.heap.size #[.int .i64 qa, .int .i64 ql] 34 := (ho6.2.2.2.2 _ hBq5.lt (by omega)).trans hBq5
            have hx6 : Bk w6 w4.heap.size #[.int .i64 qa, .int .i64 l1] 34 := (ho6.2.2.2.2 _ hBx.lt (by omega)).trans hBx
            have hy6 : Bk w6 (w4.heap.size + 1) #[.int .i64 hi, .int .i64 l1] 34 := (ho6.2.2.2.2 _ hBy.lt (by omega)).trans hBy
            have q0 := (hq6.cell 0).trans (show _ = some (.int .i64 qa) from rfl)
            have q1 := (hq6.cell 1).trans (show _ = some (.int .i64 ql) from rfl)
            have x0 := (hx6.cell 0).trans (show _ = some (.int .i64 qa) from rfl)
            have x1 := (hx6.cell 1).trans (show _ = some (.int .i64 l1) from rfl)
            have y0 := (hy6.cell 0).trans (show _ = some (.int .i64 hi) from rfl)
            have y1 := (hy6.cell 1).trans (show _ = some (.int .i64 l1) from rfl)
            have hs6 := hOn6.2.2.2.1
            clear hOw5 ho6 hOn5 hBq5 hBx hBy hq6 hx6 hy6 hc5
            cases r6 with
            | false =>
              go_wp2_with (first | (at_builtin; refine wpList_appP rfl _ _ rfl w3.heap.size _ T rfl (ownP_below hOw6 (below_box (Below.refl _ _))) (some ⟨w6.heap.size, 0, none⟩) [(qa, ql)] 1 rfl ⟨RowP.one (by simp) (by simp) (by simp), .inr ⟨_, _, rfl⟩⟩ (by simp only [List.length_cons, List.length_nil]; omega) (by simp; omega) ?_))
              intro v7 w7 hown7 hbe7 hgr7
              have hc7 := cur_grown (cur_below hc6 (below_box (Below.refl _ _))) (ownP_below hOw6 (below_box (Below.refl _ _))) (by omega) hgr7
              have hOn7 := only_base (hOn6.trans (Only.of_below (c := c) (below_box (Below.refl _ _)))) hbe7
              have hl7 : (T ++ [(qa, ql)]).length = T.length + 1 := by simp
              clear hgr7 hbe7
              go_wp2_with fail
              exact ⟨⟨k + 1, _, by omega, by go_num, hown7, by omega, cur_up hc7 (by omega), hOn7⟩, by simp [intOf]; omega⟩
            | true =>
              by_cases h20 : U.length < 20
              · have h20' : (U.length : Int) < 20 := by omega
                go_wp2_with (first | (at_builtin; refine wpList_appP rfl _ _ rfl w3.heap.size _ T rfl (ownP_below hOw6 (below_box (Below.refl _ _))) (some ⟨w6.heap.size, 0, none⟩) [(hi, l1), (qa, l1)] 2 rfl ⟨row_two (by simp) (by simp) (by simp) (by simp) (by simp), .inr ⟨_, _, rfl⟩⟩ (by simp only [List.length_cons, List.length_nil]; omega) (by simp; omega) ?_))
                intro v7 w7 hown7 hbe7 hgr7
                have hc7 := cur_grown (cur_below hc6 (below_box (Below.refl _ _))) (ownP_below hOw6 (below_box (Below.refl _ _))) (by omega) hgr7
                have hOn7 := only_base (hOn6.trans (Only.of_below (c := c) (below_box (Below.refl _ _)))) hbe7
                have hl7 : (T ++ [(hi, l1), (qa, l1)]).length = T.length + 2 := by simp
                clear hgr7 hbe7
                go_wp2_with fail
                exact ⟨⟨k + 1, _, by omega, by go_num, hown7, by omega, cur_up hc7 (by omega), hOn7⟩, by simp [intOf]; omega⟩
              · have h20' : ¬ (U.length : Int) < 20 := by omega
                go_wp2_with (first | (at_builtin; refine wpList_appP rfl _ _ rfl w3.heap.size _ T rfl (ownP_below hOw6 (below_box (Below.refl _ _))) (some ⟨w6.heap.size, 0, none⟩) [(qa, ql)] 1 rfl ⟨RowP.one (by simp) (by simp) (by simp), .inr ⟨_, _, rfl⟩⟩ (by simp only [List.length_cons, List.length_nil]; omega) (by simp; omega) ?_))
                intro v7 w7 hown7 hbe7 hgr7
                have hc7 := cur_grown (cur_below hc6 (below_box (Below.refl _ _))) (ownP_below hOw6 (below_box (Below.refl _ _))) (by omega) hgr7
                have hOn7 := only_base (hOn6.trans (Only.of_below (c := c) (below_box (Below.refl _ _)))) hbe7
                have hl7 : (T ++ [(qa, ql)]).length = T.length + 1 := by simp
                clear hgr7 hbe7
                go_wp2_with fail
                exact ⟨⟨k + 1, _, by omega, by go_num, hown7, by omega, cur_up hc7 (by omega), hOn7⟩, by simp [intOf]; omega⟩
          · have hq32 : ql = 32 := by omega
            have s4 := hide (fun w => s_halves_no qa ql w (.inr hq32))
            clear hq hq32 e1 e2 gi
            go_wp2_with fail
            refine (s4.out _).mono ?_
            rintro e w4 ⟨rfl, hb4⟩
            have hb4' := below_box hb4
            have hBq := (Bk.new wr #[.int .i64 qa, .int .i64 ql] 34).below hb4
            have hOw4 := ownP_below hown hb4'
            have hc4 := cur_below hc hb4'
            have hOn4 := ho.trans (Only.of_below (c := c) hb4')
            have hs4 := hOn4.2.2.2.1
            have hlt4 := hBq.lt
            have q0 := fun o o' => ((old2 hlt4).1 o o' 0).trans (hBq.cell 0)
            have q1 := fun o o' => ((old2 hlt4).1 o o' 1).trans (hBq.cell 1)
            simp only [List.getElem?_toArray, List.getElem?_cons_zero, List.getElem?_cons_succ] at q0 q1
            have nq1 : ¬ wr.heap.size = w4.heap.size := by omega
            have nq2 : ¬ wr.heap.size = w4.heap.size + 1 := by omega
            clear hb4 hb4' hown hc ho h0 h1 s4
            go_wp2_with (first | (at_builtin; refine wpList_appP rfl _ _ rfl w3.heap.size _ T rfl (ownP_below (ownP_below hOw4 (below_box2 (Below.refl _ _))) (below_box (Below.refl _ _))) (some ⟨w4.heap.size + 2, 0, none⟩) [(qa, ql)] 1 rfl ⟨RowP.one (by simp) (box3 _ _ _ _ _ _).1 (box3 _ _ _ _ _ _).2, .inr ⟨_, _, rfl⟩⟩ (by simp only [List.length_cons, List.length_nil]; omega) (by simp; omega) ?_))
            intro v7 w7 hown7 hbe7 hgr7
            have hc7 := cur_grown (cur_below (cur_below hc4 (below_box2 (Below.refl _ _))) (below_box (Below.refl _ _))) (ownP_below (ownP_below hOw4 (below_box2 (Below.refl _ _))) (below_box (Below.refl _ _))) (by omega) hgr7
            have hOn7 := only_base ((hOn4.trans (Only.of_below (c := c) (below_box2 (Below.refl _ _)))).trans (Only.of_below (c := c) (below_box (Below.refl _ _)))) hbe7
            have hl7 : (T ++ [(qa, ql)]).length = T.length + 1 := by simp
            clear hgr7 hbe7
            go_wp2_with fail
            exact ⟨⟨k + 1, _, by omega, by go_num, hown7, by omega, cur_up hc7 (by omega), hOn7⟩, by simp [intOf]; omega⟩
        · have hk' : k = U.length := by omega
          subst hk'
          obtain ⟨oa, oc, rfl, hT⟩ := LooseP.own hown
          have hLr := hL3.only ho (by omega)
          clear hown
          go_wp2_with fail
          exact bodyPost_ret (v := .tuple #[.slice a L.length ca, .slice oa T.length oc]) (by simp [results, Try.results15, go_sem]) rfl ⟨a, ca, L, oa, oc, T, rfl, hLl, by omega, hLr.src, hT.src, by rw [hcc]; exact hE.out _ hOr⟩
end Go.Proofs.Ytofalilkephkpaa
