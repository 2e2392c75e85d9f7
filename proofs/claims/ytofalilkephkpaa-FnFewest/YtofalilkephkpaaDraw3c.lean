/- What the specification's cursor draws as a list of prefixes. -/
import Derived.Test.YtofalilkephkpaaDraw3b
namespace Go.Proofs.Ytofalilkephkpaa
open Go.RowKit

set_option maxRecDepth 100000 in
set_option maxHeartbeats 6400000 in
theorem d_prefixes (c : Nat) (v : Value) (len n : Nat) (w : World) (hn : n ≤ 100000) (hcur : Cur c v n w) (hby : BytesAt c w v len) :
    Calls Try.prog 86 #[.pointer (some ⟨c, 0, none⟩)] w fun e w' =>
      ∃ a cap, ∃ L : List Pf, e = .returned (.slice a L.length cap) ∧ L.length ≤ 130 ∧ LooseP w.heap.size a L cap w' ∧ Cur c v (n + 700) w' ∧ Only c w w' := by
  have hcw : c < w.heap.size := by obtain ⟨p, s, h0, h1, hc, _⟩ := hcur; exact hc
  have s1 := hide (fun m w hm hc hb => d_pick c v len m 8 w hm (by omega) hc hb)
  have s2 := hide (fun m w hm hc hb => d_one c v len m 20 w hm (by omega) hc hb)
  have s3 := hide (fun m w hm hc hb => d_pick c v len m 2 w hm (by omega) hc hb)
  have s4 := hide (fun m w hm hc hb => d_fine c v len m w hm hc hb)
  have s5 := hide (fun m w hm hc hb => d_one c v len m 4 w hm (by omega) hc hb)
  have s6 := hide (fun m w hm hc hb => d_one c v len m 30 w hm (by omega) hc hb)
  have s7 := hide (fun m w hm hc hb => d_prefix c v len m w hm hc hb)
  have hB := hide (fun (w' : World) (k : Only c w w') => hby.only k (Nat.le_refl _))
  clear hby
  go_enter Try.func86, Try.ntmps86
  go_wp2_with fail
  refine (s1.out _ _ (by omega) hcur (hB.out _ (Only.refl _ _))).mono ?_
  rintro e w1 ⟨r, hr0, hr1, rfl, hc1, ho1⟩
  obtain ⟨k0, rfl⟩ : ∃ k : Nat, r = k := ⟨r.toNat, by omega⟩
  have hk0 : k0 ≤ 65 := by omega
  clear hcur s1 hr0 hr1
  go_wp2_with fail
  refine (s2.out _ _ (by omega) hc1 (hB.out _ ho1)).mono ?_
  rintro e w2 ⟨r, rfl, hc2, ho2⟩
  have hO2 := ho1.trans ho2
  clear hc1 ho1 ho2 s2
  cases r with
  | false =>
    go_wp2_with fail
    go_loopw [3, 4] (fun l i wr => ∃ k : Nat, ∃ L : List Pf, k ≤ 65 ∧ i = .int .i64 k ∧ OwnP w.heap.size l L wr ∧ L.length ≤ 2 * (65 - k) ∧ Cur c v (n + 6 + 10 * (65 - k)) wr ∧ Only c w wr) (fun _ i _ => (intOf i).toNat)
    case atStart => exact ⟨k0, [], hk0, by first | rfl | go_num | (congr 1; omega), ownP_nil _ _, by simp, cur_up hc2 (by omega), hO2⟩
    case round =>
      obtain ⟨k, L, hk, rfl, hown, hlen, hc, ho⟩ := hrel
      by_cases hkp : 0 < k
      · have hkp' : (0 : Int) < (k : Int) := by omega
        go_wp2_with fail
        refine (s4.out _ _ (by omega) hc (hB.out _ ho)).mono ?_
        rintro e w3 ⟨q, gq, rfl, hc3, ho3⟩
        have hO3 := own_only hown ho3 hcw
        have hOn3 := ho.trans ho3
        have hs3 := hOn3.2.2.2.1
        clear hown ho3 hc ho
        obtain ⟨qa, ql⟩ := q
        dsimp only at *
        go_wp2_with (first | (at_builtin; refine wpList_appP rfl _ _ rfl w.heap.size _ L rfl (ownP_below hO3 (below_box2 (Below.refl _ _))) (some ⟨w3.heap.size + 1, 0, none⟩) [(qa, ql)] 1 rfl ⟨RowP.one (by simp) (by simp) (by simp), .inr ⟨_, _, rfl⟩⟩ (by simp only [List.length_cons, List.length_nil]; omega) (by simp; omega) ?_))
        intro v4 w4 hown4 hbe4 hgr4
        have hB4 : Bk w4 w3.heap.size #[.int .i64 qa, .int .i64 ql] 34 := (hgr4.block _ (by simp; omega) (box_ne hO3 (Nat.le_refl _))).trans ((Bk.new w3 #[.int .i64 qa, .int .i64 ql] 34).below (below_box (Below.refl _ _)))
        have hc4 := cur_grown (cur_below hc3 (below_box2 (Below.refl _ _))) (ownP_below hO3 (below_box2 (Below.refl _ _))) hcw hgr4
        have hOn4 := only_base (hOn3.trans (Only.of_below (c := c) (below_box2 (Below.refl _ _)))) hbe4
        have hl4 : (L ++ [(qa, ql)]).length = L.length + 1 := by simp
        clear hgr4 hbe4 hO3 hc3 hOn3
        generalize L ++ [(qa, ql)] = L4 at *
        have b0 := (hB4.cell 0).trans (show _ = some (.int .i64 qa) from rfl)
        have b1 := (hB4.cell 1).trans (show _ = some (.int .i64 ql) from rfl)
        have hs4 := hOn4.2.2.2.1
        by_cases hql : 0 < ql
        · go_wp2_with fail
          refine (s5.out _ _ (by omega) hc4 (hB.out _ hOn4)).mono ?_
          rintro e w5 ⟨r5, rfl, hc5, ho5⟩
          have hO5 := own_only hown4 ho5 hcw
          have hOn5 := hOn4.trans ho5
          have hB5 : Bk w5 w3.heap.size #[.int .i64 qa, .int .i64 ql] 34 := (ho5.2.2.2.2 _ hB4.lt (by omega)).trans hB4
          have b0 := (hB5.cell 0).trans (show _ = some (.int .i64 qa) from rfl)
          have b1 := (hB5.cell 1).trans (show _ = some (.int .i64 ql) from rfl)
          clear ho5 hown4 hB4 hc4 hOn4 hB5
          cases r5 with
          | false =>
            go_wp2_with fail
            exact ⟨⟨k - 1, L4, by omega, by first | go_num | (congr 1; omega), hO5, by omega, cur_up hc5 (by omega), hOn5⟩, by simp [intOf]; omega⟩
          | true =>
            have s8 := hide (fun w => sib_run (p := (qa, ql)) gq hql w)
            dsimp only at s8
            generalize hsq : sibP (qa, ql) = sq at *
            obtain ⟨sa, sl⟩ := sq
            dsimp only at *
            go_wp2_with fail
            refine (s8.out _).mono ?_
            rintro e w6 ⟨rfl, hb6⟩
            have hO6 := ownP_below hO5 hb6
            have hc6 := cur_below hc5 hb6
            have hOn6 := hOn5.trans (Only.of_below (c := c) hb6)
            have hs6 := hOn6.2.2.2.1
            clear hb6 hO5 hc5 hOn5 b0 b1 s8
            go_wp2_with (first | (at_builtin; refine wpList_appP rfl _ _ rfl w.heap.size _ L4 rfl (ownP_below hO6 (below_box (Below.refl _ _))) (some ⟨w6.heap.size, 0, none⟩) [(sa, sl)] 1 rfl ⟨RowP.one (by simp) (by simp) (by simp), .inr ⟨_, _, rfl⟩⟩ (by simp only [List.length_cons, List.length_nil]; omega) (by simp; omega) ?_))
            intro v7 w7 hown7 hbe7 hgr7
            have hc7 := cur_grown (cur_below hc6 (below_box (Below.refl _ _))) (ownP_below hO6 (below_box (Below.refl _ _))) hcw hgr7
            have hOn7 := only_base (hOn6.trans (Only.of_below (c := c) (below_box (Below.refl _ _)))) hbe7
            have hl7 : (L4 ++ [(sa, sl)]).length = L4.length + 1 := by simp
            clear hgr7 hbe7 hO6 hc6 hOn6
            go_wp2_with fail
            exact ⟨⟨k - 1, _, by omega, by first | go_num | (congr 1; omega), hown7, by omega, cur_up hc7 (by omega), hOn7⟩, by simp [intOf]; omega⟩
        · go_wp2_with fail
          exact ⟨⟨k - 1, L4, by omega, by first | go_num | (congr 1; omega), hown4, by omega, cur_up hc4 (by omega), hOn4⟩, by simp [intOf]; omega⟩
      · have hk' : k = 0 := by omega
        subst hk'
        obtain ⟨oa, oc, rfl, hL⟩ := LooseP.own hown
        clear hown
        by_cases h64 : 64 < L.length
        · have h64' : (64 : Int) < (L.length : Int) := by omega
          go_wp2_with fail
          refine (s5.out _ _ (by omega) hc (hB.out _ ho)).mono ?_
          rintro e w3 ⟨r3, rfl, hc3, ho3⟩
          have hL3 := hL.only ho3 hcw
          have hO3 := ho.trans ho3
          clear ho3 hL hc ho
          cases r3 with
          | false =>
            have hLt := hL3.take 64
            have hlt : (L.take 64).length = 64 := by rw [List.length_take]; omega
            have hoc : 64 ≤ oc := by
              rcases hL3.2 with ⟨_, e, _⟩ | ⟨g, _, _, _, h, _⟩
              · rw [e] at h64; simp at h64
              · omega
            clear hL3
            generalize L.take 64 = L3 at *
            go_wp2_with fail
            refine (s6.out _ _ (by omega) hc3 (hB.out _ hO3)).mono ?_
            rintro e w8 ⟨r8, rfl, hc8, ho8⟩
            have hL8 := hLt.only ho8 hcw
            have hO8 := hO3.trans ho8
            clear ho8 hLt
            have h0 : 0 < L3.length := by omega
            cases r8 with
            | false =>
              go_wp2_with fail
              go_ret
              exact ⟨_, _, L3, by rw [hlt]; rfl, by omega, hL8, cur_up hc8 (by omega), hO8⟩
            | true =>
              go_wp2_with fail
              refine (s7.out _ _ (by omega) hc8 (hB.out _ hO8)).mono ?_
              rintro e w9 ⟨pa, pl, rfl, hc9, ho9⟩
              have hL9 := hL8.only ho9 hcw
              have hO9 := hO8.trans ho9
              clear ho9 hL8 hO8
              obtain ⟨g, e, g1, g2, g3, g4⟩ : ∃ g, oa = some ⟨g, 0, none⟩ ∧ w.heap.size ≤ g ∧ g < w9.heap.size ∧ L3.length ≤ oc ∧ ∀ j, w9.frozen? ⟨g, j, none⟩ = false := by
                rcases hL9.2 with ⟨_, e, _⟩ | h
                · rw [e] at h0; simp at h0
                · exact h
              subst e
              obtain ⟨M, hM, hL10⟩ := hL9.set (by omega) (pa, pl)
              obtain ⟨b0, off0, e0, _, i0, i1⟩ := hL9.1 0 (by omega)
              simp only [Option.some.injEq, Addr.mk.injEq, and_true] at e0
              obtain ⟨rfl, rfl⟩ := e0
              simp only [Nat.zero_add, Nat.zero_mul] at i0 i1
              have j0 := g4 0
              have j1 := g4 1
              clear g4
              have hc10 := cur_only (cur_only hc9 ((Only.refl g w9).setCell 0 (.int .i64 pa)) (by omega)) ((Only.refl g _).setCell 1 (.int .i64 pl)) (by omega)
              have hO10 := (hO9.setNew g1 0 (.int .i64 pa)).setNew g1 1 (.int .i64 pl)
              go_wp2_with fail
              go_ret
              exact ⟨_, _, M, by rw [hM, hlt]; rfl, by omega, hL10, cur_up hc10 (by omega), hO10⟩
          | true =>
            by_cases h0 : 0 < L.length
            · have h0' : (0 : Int) < (L.length : Int) := by omega
              go_wp2_with fail
              refine (s6.out _ _ (by omega) hc3 (hB.out _ hO3)).mono ?_
              rintro e w8 ⟨r8, rfl, hc8, ho8⟩
              have hL8 := hL3.only ho8 hcw
              have hO8 := hO3.trans ho8
              clear ho8
              cases r8 with
              | false =>
                go_wp2_with fail
                go_ret
                exact ⟨_, _, _, by first | rfl | rw [hlen], by omega, hL8, cur_up hc8 (by omega), hO8⟩
              | true =>
                go_wp2_with fail
                refine (s7.out _ _ (by omega) hc8 (hB.out _ hO8)).mono ?_
                rintro e w9 ⟨pa, pl, rfl, hc9, ho9⟩
                have hL9 := hL8.only ho9 hcw
                have hO9 := hO8.trans ho9
                clear ho9 hL8 hO8
                obtain ⟨g, e, g1, g2, g3, g4⟩ : ∃ g, oa = some ⟨g, 0, none⟩ ∧ w.heap.size ≤ g ∧ g < w9.heap.size ∧ (L).length ≤ oc ∧ ∀ j, w9.frozen? ⟨g, j, none⟩ = false := by
                  rcases hL9.2 with ⟨_, e, _⟩ | h
                  · rw [e] at h0; simp at h0
                  · exact h
                subst e
                obtain ⟨M, hM, hL10⟩ := hL9.set (by omega) (pa, pl)
                obtain ⟨b0, off0, e0, _, i0, i1⟩ := hL9.1 0 (by omega)
                simp only [Option.some.injEq, Addr.mk.injEq, and_true] at e0
                obtain ⟨rfl, rfl⟩ := e0
                simp only [Nat.zero_add, Nat.zero_mul] at i0 i1
                have j0 := g4 0
                have j1 := g4 1
                clear g4
                have hc10 := cur_only (cur_only hc9 ((Only.refl g w9).setCell 0 (.int .i64 pa)) (by omega)) ((Only.refl g _).setCell 1 (.int .i64 pl)) (by omega)
                have hO10 := (hO9.setNew g1 0 (.int .i64 pa)).setNew g1 1 (.int .i64 pl)
                go_wp2_with fail
                go_ret
                exact ⟨_, _, M, by rw [hM]; first | rfl | rw [hlen], by omega, hL10, cur_up hc10 (by omega), hO10⟩
            · have h0' : ¬ (0 : Int) < (L.length : Int) := by omega
              go_wp2_with fail
              go_ret
              exact ⟨_, _, _, by first | rfl | rw [hlen], by omega, hL3, cur_up hc3 (by omega), hO3⟩
        · have h64' : ¬ (64 : Int) < (L.length : Int) := by omega
          by_cases h0 : 0 < L.length
          · have h0' : (0 : Int) < (L.length : Int) := by omega
            go_wp2_with fail
            refine (s6.out _ _ (by omega) hc (hB.out _ ho)).mono ?_
            rintro e w8 ⟨r8, rfl, hc8, ho8⟩
            have hL8 := hL.only ho8 hcw
            have hO8 := ho.trans ho8
            clear ho8
            cases r8 with
            | false =>
              go_wp2_with fail
              go_ret
              exact ⟨_, _, _, by first | rfl | rw [hlen], by omega, hL8, cur_up hc8 (by omega), hO8⟩
            | true =>
              go_wp2_with fail
              refine (s7.out _ _ (by omega) hc8 (hB.out _ hO8)).mono ?_
              rintro e w9 ⟨pa, pl, rfl, hc9, ho9⟩
              have hL9 := hL8.only ho9 hcw
              have hO9 := hO8.trans ho9
              clear ho9 hL8 hO8
              obtain ⟨g, e, g1, g2, g3, g4⟩ : ∃ g, oa = some ⟨g, 0, none⟩ ∧ w.heap.size ≤ g ∧ g < w9.heap.size ∧ (L).length ≤ oc ∧ ∀ j, w9.frozen? ⟨g, j, none⟩ = false := by
                rcases hL9.2 with ⟨_, e, _⟩ | h
                · rw [e] at h0; simp at h0
                · exact h
              subst e
              obtain ⟨M, hM, hL10⟩ := hL9.set (by omega) (pa, pl)
              obtain ⟨b0, off0, e0, _, i0, i1⟩ := hL9.1 0 (by omega)
              simp only [Option.some.injEq, Addr.mk.injEq, and_true] at e0
              obtain ⟨rfl, rfl⟩ := e0
              simp only [Nat.zero_add, Nat.zero_mul] at i0 i1
              have j0 := g4 0
              have j1 := g4 1
              clear g4
              have hc10 := cur_only (cur_only hc9 ((Only.refl g w9).setCell 0 (.int .i64 pa)) (by omega)) ((Only.refl g _).setCell 1 (.int .i64 pl)) (by omega)
              have hO10 := (hO9.setNew g1 0 (.int .i64 pa)).setNew g1 1 (.int .i64 pl)
              go_wp2_with fail
              go_ret
              exact ⟨_, _, M, by rw [hM]; first | rfl | rw [hlen], by omega, hL10, cur_up hc10 (by omega), hO10⟩
          · have h0' : ¬ (0 : Int) < (L.length : Int) := by omega
            go_wp2_with fail
            go_ret
            exact ⟨_, _, _, by first | rfl | rw [hlen], by omega, hL, cur_up hc (by omega), ho⟩
  | true =>
    go_wp2_with fail
    refine (s3.out _ _ (by omega) hc2 (hB.out _ hO2)).mono ?_
    rintro e w2b ⟨r, hr0, hr1, rfl, hc2b, ho2b⟩
    obtain ⟨k1, rfl⟩ : ∃ k : Nat, r = k := ⟨r.toNat, by omega⟩
    have hk1 : k1 + 64 ≤ 65 := by omega
    have hO2b := hO2.trans ho2b
    clear hc2 ho2b hO2 hr0 hr1 s3
    go_wp2_with fail
    go_loopw [3, 4] (fun l i wr => ∃ k : Nat, ∃ L : List Pf, k ≤ 65 ∧ i = .int .i64 k ∧ OwnP w.heap.size l L wr ∧ L.length ≤ 2 * (65 - k) ∧ Cur c v (n + 6 + 10 * (65 - k)) wr ∧ Only c w wr) (fun _ i _ => (intOf i).toNat)
    case atStart => exact ⟨k1 + 64, [], hk1, by first | rfl | go_num | (congr 1; omega), ownP_nil _ _, by simp, cur_up hc2b (by omega), hO2b⟩
    case round =>
      obtain ⟨k, L, hk, rfl, hown, hlen, hc, ho⟩ := hrel
      by_cases hkp : 0 < k
      · have hkp' : (0 : Int) < (k : Int) := by omega
        go_wp2_with fail
        refine (s4.out _ _ (by omega) hc (hB.out _ ho)).mono ?_
        rintro e w3 ⟨q, gq, rfl, hc3, ho3⟩
        have hO3 := own_only hown ho3 hcw
        have hOn3 := ho.trans ho3
        have hs3 := hOn3.2.2.2.1
        clear hown ho3 hc ho
        obtain ⟨qa, ql⟩ := q
        dsimp only at *
        go_wp2_with (first | (at_builtin; refine wpList_appP rfl _ _ rfl w.heap.size _ L rfl (ownP_below hO3 (below_box2 (Below.refl _ _))) (some ⟨w3.heap.size + 1, 0, none⟩) [(qa, ql)] 1 rfl ⟨RowP.one (by simp) (by simp) (by simp), .inr ⟨_, _, rfl⟩⟩ (by simp only [List.length_cons, List.length_nil]; omega) (by simp; omega) ?_))
        intro v4 w4 hown4 hbe4 hgr4
        have hB4 : Bk w4 w3.heap.size #[.int .i64 qa, .int .i64 ql] 34 := (hgr4.block _ (by simp; omega) (box_ne hO3 (Nat.le_refl _))).trans ((Bk.new w3 #[.int .i64 qa, .int .i64 ql] 34).below (below_box (Below.refl _ _)))
        have hc4 := cur_grown (cur_below hc3 (below_box2 (Below.refl _ _))) (ownP_below hO3 (below_box2 (Below.refl _ _))) hcw hgr4
        have hOn4 := only_base (hOn3.trans (Only.of_below (c := c) (below_box2 (Below.refl _ _)))) hbe4
        have hl4 : (L ++ [(qa, ql)]).length = L.length + 1 := by simp
        clear hgr4 hbe4 hO3 hc3 hOn3
        generalize L ++ [(qa, ql)] = L4 at *
        have b0 := (hB4.cell 0).trans (show _ = some (.int .i64 qa) from rfl)
        have b1 := (hB4.cell 1).trans (show _ = some (.int .i64 ql) from rfl)
        have hs4 := hOn4.2.2.2.1
        by_cases hql : 0 < ql
        · go_wp2_with fail
          refine (s5.out _ _ (by omega) hc4 (hB.out _ hOn4)).mono ?_
          rintro e w5 ⟨r5, rfl, hc5, ho5⟩
          have hO5 := own_only hown4 ho5 hcw
          have hOn5 := hOn4.trans ho5
          have hB5 : Bk w5 w3.heap.size #[.int .i64 qa, .int .i64 ql] 34 := (ho5.2.2.2.2 _ hB4.lt (by omega)).trans hB4
          have b0 := (hB5.cell 0).trans (show _ = some (.int .i64 qa) from rfl)
          have b1 := (hB5.cell 1).trans (show _ = some (.int .i64 ql) from rfl)
          clear ho5 hown4 hB4 hc4 hOn4 hB5
          cases r5 with
          | false =>
            go_wp2_with fail
            exact ⟨⟨k - 1, L4, by omega, by first | go_num | (congr 1; omega), hO5, by omega, cur_up hc5 (by omega), hOn5⟩, by simp [intOf]; omega⟩
          | true =>
            have s8 := hide (fun w => sib_run (p := (qa, ql)) gq hql w)
            dsimp only at s8
            generalize hsq : sibP (qa, ql) = sq at *
            obtain ⟨sa, sl⟩ := sq
            dsimp only at *
            go_wp2_with fail
            refine (s8.out _).mono ?_
            rintro e w6 ⟨rfl, hb6⟩
            have hO6 := ownP_below hO5 hb6
            have hc6 := cur_below hc5 hb6
            have hOn6 := hOn5.trans (Only.of_below (c := c) hb6)
            have hs6 := hOn6.2.2.2.1
            clear hb6 hO5 hc5 hOn5 b0 b1 s8
            go_wp2_with (first | (at_builtin; refine wpList_appP rfl _ _ rfl w.heap.size _ L4 rfl (ownP_below hO6 (below_box (Below.refl _ _))) (some ⟨w6.heap.size, 0, none⟩) [(sa, sl)] 1 rfl ⟨RowP.one (by simp) (by simp) (by simp), .inr ⟨_, _, rfl⟩⟩ (by simp only [List.length_cons, List.length_nil]; omega) (by simp; omega) ?_))
            intro v7 w7 hown7 hbe7 hgr7
            have hc7 := cur_grown (cur_below hc6 (below_box (Below.refl _ _))) (ownP_below hO6 (below_box (Below.refl _ _))) hcw hgr7
            have hOn7 := only_base (hOn6.trans (Only.of_below (c := c) (below_box (Below.refl _ _)))) hbe7
            have hl7 : (L4 ++ [(sa, sl)]).length = L4.length + 1 := by simp
            clear hgr7 hbe7 hO6 hc6 hOn6
            go_wp2_with fail
            exact ⟨⟨k - 1, _, by omega, by first | go_num | (congr 1; omega), hown7, by omega, cur_up hc7 (by omega), hOn7⟩, by simp [intOf]; omega⟩
        · go_wp2_with fail
          exact ⟨⟨k - 1, L4, by omega, by first | go_num | (congr 1; omega), hown4, by omega, cur_up hc4 (by omega), hOn4⟩, by simp [intOf]; omega⟩
      · have hk' : k = 0 := by omega
        subst hk'
        obtain ⟨oa, oc, rfl, hL⟩ := LooseP.own hown
        clear hown
        by_cases h64 : 64 < L.length
        · have h64' : (64 : Int) < (L.length : Int) := by omega
          go_wp2_with fail
          refine (s5.out _ _ (by omega) hc (hB.out _ ho)).mono ?_
          rintro e w3 ⟨r3, rfl, hc3, ho3⟩
          have hL3 := hL.only ho3 hcw
          have hO3 := ho.trans ho3
          clear ho3 hL hc ho
          cases r3 with
          | false =>
            have hLt := hL3.take 64
            have hlt : (L.take 64).length = 64 := by rw [List.length_take]; omega
            have hoc : 64 ≤ oc := by
              rcases hL3.2 with ⟨_, e, _⟩ | ⟨g, _, _, _, h, _⟩
              · rw [e] at h64; simp at h64
              · omega
            clear hL3
            generalize L.take 64 = L3 at *
            go_wp2_with fail
            refine (s6.out _ _ (by omega) hc3 (hB.out _ hO3)).mono ?_
            rintro e w8 ⟨r8, rfl, hc8, ho8⟩
            have hL8 := hLt.only ho8 hcw
            have hO8 := hO3.trans ho8
            clear ho8 hLt
            have h0 : 0 < L3.length := by omega
            cases r8 with
            | false =>
              go_wp2_with fail
              go_ret
              exact ⟨_, _, L3, by rw [hlt]; rfl, by omega, hL8, cur_up hc8 (by omega), hO8⟩
            | true =>
              go_wp2_with fail
              refine (s7.out _ _ (by omega) hc8 (hB.out _ hO8)).mono ?_
              rintro e w9 ⟨pa, pl, rfl, hc9, ho9⟩
              have hL9 := hL8.only ho9 hcw
              have hO9 := hO8.trans ho9
              clear ho9 hL8 hO8
              obtain ⟨g, e, g1, g2, g3, g4⟩ : ∃ g, oa = some ⟨g, 0, none⟩ ∧ w.heap.size ≤ g ∧ g < w9.heap.size ∧ L3.length ≤ oc ∧ ∀ j, w9.frozen? ⟨g, j, none⟩ = false := by
                rcases hL9.2 with ⟨_, e, _⟩ | h
                · rw [e] at h0; simp at h0
                · exact h
              subst e
              obtain ⟨M, hM, hL10⟩ := hL9.set (by omega) (pa, pl)
              obtain ⟨b0, off0, e0, _, i0, i1⟩ := hL9.1 0 (by omega)
              simp only [Option.some.injEq, Addr.mk.injEq, and_true] at e0
              obtain ⟨rfl, rfl⟩ := e0
              simp only [Nat.zero_add, Nat.zero_mul] at i0 i1
              have j0 := g4 0
              have j1 := g4 1
              clear g4
              have hc10 := cur_only (cur_only hc9 ((Only.refl g w9).setCell 0 (.int .i64 pa)) (by omega)) ((Only.refl g _).setCell 1 (.int .i64 pl)) (by omega)
              have hO10 := (hO9.setNew g1 0 (.int .i64 pa)).setNew g1 1 (.int .i64 pl)
              go_wp2_with fail
              go_ret
              exact ⟨_, _, M, by rw [hM, hlt]; rfl, by omega, hL10, cur_up hc10 (by omega), hO10⟩
          | true =>
            by_cases h0 : 0 < L.length
            · have h0' : (0 : Int) < (L.length : Int) := by omega
              go_wp2_with fail
              refine (s6.out _ _ (by omega) hc3 (hB.out _ hO3)).mono ?_
              rintro e w8 ⟨r8, rfl, hc8, ho8⟩
              have hL8 := hL3.only ho8 hcw
              have hO8 := hO3.trans ho8
              clear ho8
              cases r8 with
              | false =>
                go_wp2_with fail
                go_ret
                exact ⟨_, _, _, by first | rfl | rw [hlen], by omega, hL8, cur_up hc8 (by omega), hO8⟩
              | true =>
                go_wp2_with fail
                refine (s7.out _ _ (by omega) hc8 (hB.out _ hO8)).mono ?_
                rintro e w9 ⟨pa, pl, rfl, hc9, ho9⟩
                have hL9 := hL8.only ho9 hcw
                have hO9 := hO8.trans ho9
                clear ho9 hL8 hO8
                obtain ⟨g, e, g1, g2, g3, g4⟩ : ∃ g, oa = some ⟨g, 0, none⟩ ∧ w.heap.size ≤ g ∧ g < w9.heap.size ∧ (L).length ≤ oc ∧ ∀ j, w9.frozen? ⟨g, j, none⟩ = false := by
                  rcases hL9.2 with ⟨_, e, _⟩ | h
                  · rw [e] at h0; simp at h0
                  · exact h
                subst e
                obtain ⟨M, hM, hL10⟩ := hL9.set (by omega) (pa, pl)
                obtain ⟨b0, off0, e0, _, i0, i1⟩ := hL9.1 0 (by omega)
                simp only [Option.some.injEq, Addr.mk.injEq, and_true] at e0
                obtain ⟨rfl, rfl⟩ := e0
                simp only [Nat.zero_add, Nat.zero_mul] at i0 i1
                have j0 := g4 0
                have j1 := g4 1
                clear g4
                have hc10 := cur_only (cur_only hc9 ((Only.refl g w9).setCell 0 (.int .i64 pa)) (by omega)) ((Only.refl g _).setCell 1 (.int .i64 pl)) (by omega)
                have hO10 := (hO9.setNew g1 0 (.int .i64 pa)).setNew g1 1 (.int .i64 pl)
                go_wp2_with fail
                go_ret
                exact ⟨_, _, M, by rw [hM]; first | rfl | rw [hlen], by omega, hL10, cur_up hc10 (by omega), hO10⟩
            · have h0' : ¬ (0 : Int) < (L.length : Int) := by omega
              go_wp2_with fail
              go_ret
              exact ⟨_, _, _, by first | rfl | rw [hlen], by omega, hL3, cur_up hc3 (by omega), hO3⟩
        · have h64' : ¬ (64 : Int) < (L.length : Int) := by omega
          by_cases h0 : 0 < L.length
          · have h0' : (0 : Int) < (L.length : Int) := by omega
            go_wp2_with fail
            refine (s6.out _ _ (by omega) hc (hB.out _ ho)).mono ?_
            rintro e w8 ⟨r8, rfl, hc8, ho8⟩
            have hL8 := hL.only ho8 hcw
            have hO8 := ho.trans ho8
            clear ho8
            cases r8 with
            | false =>
              go_wp2_with fail
              go_ret
              exact ⟨_, _, _, by first | rfl | rw [hlen], by omega, hL8, cur_up hc8 (by omega), hO8⟩
            | true =>
              go_wp2_with fail
              refine (s7.out _ _ (by omega) hc8 (hB.out _ hO8)).mono ?_
              rintro e w9 ⟨pa, pl, rfl, hc9, ho9⟩
              have hL9 := hL8.only ho9 hcw
              have hO9 := hO8.trans ho9
              clear ho9 hL8 hO8
              obtain ⟨g, e, g1, g2, g3, g4⟩ : ∃ g, oa = some ⟨g, 0, none⟩ ∧ w.heap.size ≤ g ∧ g < w9.heap.size ∧ (L).length ≤ oc ∧ ∀ j, w9.frozen? ⟨g, j, none⟩ = false := by
                rcases hL9.2 with ⟨_, e, _⟩ | h
                · rw [e] at h0; simp at h0
                · exact h
              subst e
              obtain ⟨M, hM, hL10⟩ := hL9.set (by omega) (pa, pl)
              obtain ⟨b0, off0, e0, _, i0, i1⟩ := hL9.1 0 (by omega)
              simp only [Option.some.injEq, Addr.mk.injEq, and_true] at e0
              obtain ⟨rfl, rfl⟩ := e0
              simp only [Nat.zero_add, Nat.zero_mul] at i0 i1
              have j0 := g4 0
              have j1 := g4 1
              clear g4
              have hc10 := cur_only (cur_only hc9 ((Only.refl g w9).setCell 0 (.int .i64 pa)) (by omega)) ((Only.refl g _).setCell 1 (.int .i64 pl)) (by omega)
              have hO10 := (hO9.setNew g1 0 (.int .i64 pa)).setNew g1 1 (.int .i64 pl)
              go_wp2_with fail
              go_ret
              exact ⟨_, _, M, by rw [hM]; first | rfl | rw [hlen], by omega, hL10, cur_up hc10 (by omega), hO10⟩
          · have h0' : ¬ (0 : Int) < (L.length : Int) := by omega
            go_wp2_with fail
            go_ret
            exact ⟨_, _, _, by first | rfl | rw [hlen], by omega, hL, cur_up hc (by omega), ho⟩
end Go.Proofs.Ytofalilkephkpaa
