/- What the program's withinBounds, meetsOf and MeetSets answer. -/
import Derived.Test.YtlflfloopomaiaaI3g
namespace Go.Proofs.Ytlflfloopomaiaa
open Go.RowKit

set_option maxRecDepth 100000 in
set_option maxHeartbeats 800000 in
theorem i_within (base : Nat) (v : Value) (L : List Pf) (w : World) (hl : L.length ≤ 8589934592) (ho : OwnP base v L w) :
    Calls Try.prog 71 #[v] w fun e w' => ∃ v', e = .returned (.tuple #[v', .bool (decide (L.length ≤ 64))]) ∧ OwnP base v' (if L.length ≤ 64 then L else []) w' ∧ w' = w := by
  obtain ⟨a, c, rfl, _, _⟩ := ownP_row ho
  by_cases h : L.length ≤ 64
  · have h1 : ¬ (64 : Int) < (L.length : Int) := by omega
    have hO := hide ho
    clear ho
    go_enter Try.func71, Try.ntmps71
    go_wp2_with fail
    exact bodyPost_ret (v := .tuple #[.slice a L.length c, .bool true]) (by simp [results, Try.results71, go_sem]) rfl ⟨.slice a L.length c, by first | rfl | rw [decide_eq_true h], by first | exact hO.out | (rw [if_pos h]; exact hO.out), rfl⟩
  · have h1 : (64 : Int) < (L.length : Int) := by omega
    clear ho
    go_enter Try.func71, Try.ntmps71
    go_wp2_with fail
    exact bodyPost_ret (v := .tuple #[.slice none 0 0, .bool false]) (by simp [results, Try.results71, go_sem]) rfl ⟨.slice none 0 0, by first | rfl | rw [decide_eq_false h], by first | exact ownP_nil _ _ | (rw [if_neg h]; exact ownP_nil _ _), rfl⟩
theorem meets_next {p : Pf} {M : List Pf} {k : Nat} (h : k < M.length) : meets p (M.take (k + 1)) = meets p (M.take k) ++ meet1 p (pAt M k) := by
  unfold meets
  rw [take_succ h, List.flatMap_append]
  simp
theorem meet1_1 {p q : Pf} (h : covP p q = true) : meet1 p q = [q] := by unfold meet1; rw [if_pos h]
theorem meet1_2 {p q : Pf} (h : covP p q = false) (h2 : covP q p = true) : meet1 p q = [p] := by unfold meet1; rw [if_neg (by rw [h]; simp), if_pos h2]
theorem meet1_3 {p q : Pf} (h : covP p q = false) (h2 : covP q p = false) : meet1 p q = [] := by unfold meet1; rw [if_neg (by rw [h]; simp), if_neg (by rw [h2]; simp)]
theorem meet1_len (p q : Pf) : (meet1 p q).length ≤ 1 := by
  unfold meet1
  split
  · simp
  · split <;> simp
theorem meets_len (p : Pf) : ∀ M : List Pf, (meets p M).length ≤ M.length
  | [] => by simp [meets]
  | q :: M => by
    have h1 := meet1_len p q
    have h2 := meets_len p M
    have e : meets p (q :: M) = meet1 p q ++ meets p M := by simp [meets]
    rw [e, List.length_append, List.length_cons]
    omega
set_option maxRecDepth 100000 in
set_option maxHeartbeats 3200000 in
theorem i_meets (p : Pf) (b0 : Option Addr) (capb : Nat) (M : List Pf) (w : World) (hl : M.length ≤ 4294967295) (hR : RowP b0 M w) (gp : gdP p) (hM : ∀ q, q ∈ M → gdP q) :
    Calls Try.prog 75 #[.agg #[.int .i64 p.1, .int .i64 p.2], .slice b0 M.length capb] w fun e w' => ∃ v, e = .returned v ∧ OwnP w.heap.size v (meets p M) w' ∧ Below w.heap.size w w' := by
  have hpe : Hid (p = (p.1, p.2)) := rfl
  go_enter Try.func75, Try.ntmps75
  go_wp2_with fail
  have hBP : Bk (w.alloc (.cells #[.int .i64 p.1, .int .i64 p.2] 34)) w.heap.size #[.int .i64 p.1, .int .i64 p.2] 34 := Bk.new w _ _
  have hbx : Below w.heap.size w (w.alloc (.cells #[.int .i64 p.1, .int .i64 p.2] 34)) := below_box (Below.refl _ _)
  generalize w.alloc (.cells #[.int .i64 p.1, .int .i64 p.2] 34) = w1 at *
  have hR1 := hR.below hbx
  have hsw := hBP.lt
  clear hR
  go_loopw [5, 10] (fun o i wr => ∃ k : Nat, k ≤ M.length ∧ i = .int .i64 k ∧ OwnP w1.heap.size o (meets p (M.take k)) wr ∧ Below w1.heap.size w1 wr) (fun _ i _ => M.length - (intOf i).toNat)
  case atStart => exact ⟨0, Nat.zero_le _, rfl, ownP_nil _ _, Below.refl _ _⟩
  case round =>
    obtain ⟨k, hk, rfl, hown, hb⟩ := hrel
    have hsr := hb.size
    by_cases hlt : k < M.length
    · obtain ⟨b, off, rfl, hbw, h0, h1⟩ := (hR1.below hb) k hlt
      have hlt' : (k : Int) < (M.length : Int) := by omega
      have gq := hM _ (pAt_mem hlt)
      have s5 := hide (fun w => i_hasPrefix3 p (pAt M k) w gp gq)
      have s6 := hide (fun w => i_hasPrefix3 (pAt M k) p w gq gp)
      have hN := hide (meets_next (p := p) hlt)
      have e1 := hide (meet1_1 (p := p) (q := pAt M k))
      have e2 := hide (meet1_2 (p := p) (q := pAt M k))
      have e3 := hide (meet1_3 (p := p) (q := pAt M k))
      have hml := meets_len p (M.take k)
      have htl : (M.take k).length ≤ k := List.length_take_le _ _
      have hBr := hBP.base hb hBP.lt
      have r0 := fun o => (old1 hBr.lt o 0).trans (hBr.cell 0)
      have r1 := fun o => (old1 hBr.lt o 1).trans (hBr.cell 1)
      simp only [List.getElem?_toArray, List.getElem?_cons_zero, List.getElem?_cons_succ] at r0 r1
      have n0 : ¬ w.heap.size = wr.heap.size := by have := hBr.lt; omega
      have hbx2 : Below w1.heap.size w1 (wr.alloc (.cells #[.int .i64 (pAt M k).1, .int .i64 (pAt M k).2] 34)) := hb.trans ((below_box (Below.refl _ _)).mono hsr)
      have hOx := ownP_below hown (below_box (o := .cells #[.int .i64 (pAt M k).1, .int .i64 (pAt M k).2] 34) (Below.refl _ _))
      have hBix : Bk (wr.alloc (.cells #[.int .i64 (pAt M k).1, .int .i64 (pAt M k).2] 34)) w.heap.size #[.int .i64 p.1, .int .i64 p.2] 34 := hBr.below (below_box (Below.refl _ _))
      have hBkx : Bk (wr.alloc (.cells #[.int .i64 (pAt M k).1, .int .i64 (pAt M k).2] 34)) wr.heap.size #[.int .i64 (pAt M k).1, .int .i64 (pAt M k).2] 34 := Bk.new wr _ _
      clear hR1 hM gq gp
      generalize hcv : covP p (pAt M k) = cv at *
      generalize hdv : covP (pAt M k) p = dv at *
      clear hcv hdv
      generalize meets p (M.take k) = T at *
      generalize hP : pAt M k = P at *
      clear hP
      obtain ⟨ka, kl⟩ := P
      dsimp only at *
      cases cv with
      | true =>
        have hF := hide (hN.out.trans (congrArg (T ++ ·) (e1.out rfl)))
        clear e1 e2 e3 hN s6
        go_wp2_with fail
        refine (s5.out _).mono ?_
        rintro e w5 ⟨rfl, hb5⟩
        have hOx := ownP_below hOx hb5
        have hBk5 := hBkx.below hb5
        have hbx3 := hbx2.trans (hb5.mono hbx2.size)
        have q0 := (hBk5.cell 0).trans (show _ = some (.int .i64 ka) from rfl)
        have q1 := (hBk5.cell 1).trans (show _ = some (.int .i64 kl) from rfl)
        have hsx := hbx3.size
        clear hb5 hBk5 hBkx hBix hown
        go_wp2_with (first | (at_builtin; refine wpList_appP rfl _ _ rfl w1.heap.size _ T rfl (ownP_below hOx (below_box (Below.refl _ _))) (some ⟨w5.heap.size, 0, none⟩) [(ka, kl)] 1 rfl ⟨RowP.one (by simp) (by simp) (by simp), .inr ⟨_, _, rfl⟩⟩ (by simp only [List.length_cons, List.length_nil]; omega) (by simp; omega) ?_))
        intro v' w6 hown' hbe _
        have hbe2 : Below w1.heap.size w1 w6 := (hbx3.trans ((below_box (Below.refl _ _)).mono hsx)).trans hbe
        go_wp2_with fail
        exact ⟨⟨k + 1, by omega, by go_num, (by rw [hF.out]; exact hown'), hbe2⟩, by simp [intOf]; omega⟩
      | false =>
        cases dv with
        | true =>
          have hF := hide (hN.out.trans (congrArg (T ++ ·) (e2.out rfl rfl)))
          clear e1 e2 e3 hN
          go_wp2_with fail
          refine (s5.out _).mono ?_
          rintro e w5 ⟨rfl, hb5⟩
          have hOx := ownP_below hOx hb5
          have hBk5 := hBkx.below hb5
          have hBi5 := hBix.below hb5
          have hbx3 := hbx2.trans (hb5.mono hbx2.size)
          have q0 := (hBk5.cell 0).trans (show _ = some (.int .i64 ka) from rfl)
          have q1 := (hBk5.cell 1).trans (show _ = some (.int .i64 kl) from rfl)
          have p0 := (hBi5.cell 0).trans (show _ = some (.int .i64 p.1) from rfl)
          have p1 := (hBi5.cell 1).trans (show _ = some (.int .i64 p.2) from rfl)
          clear hb5 hBkx hBix hown
          go_wp2_with fail
          refine (s6.out _).mono ?_
          rintro e w6 ⟨rfl, hb6⟩
          have hOx := ownP_below hOx hb6
          have hBi6 := hBi5.below hb6
          have hbx4 := hbx3.trans (hb6.mono hbx3.size)
          have p0 := (hBi6.cell 0).trans (show _ = some (.int .i64 p.1) from rfl)
          have p1 := (hBi6.cell 1).trans (show _ = some (.int .i64 p.2) from rfl)
          have hsx := hbx4.size
          clear hb6 hBi5 hBi6 hBk5 q0 q1
          go_wp2_with (first | (at_builtin; refine wpList_appP rfl _ _ rfl w1.heap.size _ T rfl (ownP_below hOx (below_box (Below.refl _ _))) (some ⟨w6.heap.size, 0, none⟩) [p] 1 rfl ⟨RowP.one (by simp) (by simp) (by simp), .inr ⟨_, _, rfl⟩⟩ (by simp only [List.length_cons, List.length_nil]; omega) (by simp; omega) ?_))
          intro v' w7 hown' hbe _
          have hbe2 : Below w1.heap.size w1 w7 := (hbx4.trans ((below_box (Below.refl _ _)).mono hsx)).trans hbe
          go_wp2_with fail
          exact ⟨⟨k + 1, by omega, by go_num, (by rw [hF.out]; exact hown'), hbe2⟩, by simp [intOf]; omega⟩
        | false =>
          have hF := hide (hN.out.trans ((congrArg (T ++ ·) (e3.out rfl rfl)).trans (List.append_nil T)))
          clear e1 e2 e3 hN
          go_wp2_with fail
          refine (s5.out _).mono ?_
          rintro e w5 ⟨rfl, hb5⟩
          have hOx := ownP_below hOx hb5
          have hBk5 := hBkx.below hb5
          have hBi5 := hBix.below hb5
          have hbx3 := hbx2.trans (hb5.mono hbx2.size)
          have q0 := (hBk5.cell 0).trans (show _ = some (.int .i64 ka) from rfl)
          have q1 := (hBk5.cell 1).trans (show _ = some (.int .i64 kl) from rfl)
          have p0 := (hBi5.cell 0).trans (show _ = some (.int .i64 p.1) from rfl)
          have p1 := (hBi5.cell 1).trans (show _ = some (.int .i64 p.2) from rfl)
          clear hb5 hBkx hBix hown
          go_wp2_with fail
          refine (s6.out _).mono ?_
          rintro e w6 ⟨rfl, hb6⟩
          have hOx := ownP_below hOx hb6
          have hbx4 := hbx3.trans (hb6.mono hbx3.size)
          clear hb6 hBi5 hBk5 q0 q1 p0 p1
          go_wp2_with fail
          exact ⟨⟨k + 1, by omega, by go_num, (by rw [hF.out]; exact hOx), hbx4⟩, by simp [intOf]; omega⟩
    · have hk' : k = M.length := by omega
      subst hk'
      rw [List.take_length] at hown
      clear hR1
      go_wp2_with fail
      go_ret
      exact ⟨_, rfl, ownP_base hown (by omega), hbx.trans (hb.mono (by omega))⟩
theorem both_take {L M : List Pf} (hL : ∀ q, q ∈ L → gdP q) (hM : ∀ q, q ∈ M → gdP q) {k : Nat} : (∀ q, q ∈ bothI (L.take k) M → gdP q) := (bothI_facts (fun q hq => hL q (List.mem_of_mem_take hq)) hM).1
theorem both_len : ∀ (L M o : List Pf), (∀ q, q ∈ o → gdP q) → (∀ q, q ∈ L → gdP q) → (∀ q, q ∈ M → gdP q) → (L.foldl (fun out p => putI out (meets p M)) o).length ≤ o.length + L.length * M.length
  | [], M, o, _, _, _ => by simp
  | p :: L, M, o, ho, hL, hM => by
    have gm : ∀ q, q ∈ meets p M → gdP q := by
      intro q hq
      unfold meets at hq
      rw [List.mem_flatMap] at hq
      obtain ⟨x, hx, hq⟩ := hq
      exact (meet1_facts (hL p (by simp)) (hM x hx)).1 q hq
    obtain ⟨h1, _, _, h4⟩ := putI_facts (meets p M) o ho gm
    have h5 := meets_len p M
    have h6 := both_len L M (putI o (meets p M)) h1 (fun q hq => hL q (by simp [hq])) hM
    rw [List.foldl_cons, List.length_cons, Nat.add_mul, Nat.one_mul]
    omega
theorem meets_gd {p : Pf} {M : List Pf} (gp : gdP p) (hM : ∀ q, q ∈ M → gdP q) : ∀ q, q ∈ meets p M → gdP q := by
  intro q hq
  unfold meets at hq
  rw [List.mem_flatMap] at hq
  obtain ⟨x, hx, hq⟩ := hq
  exact (meet1_facts gp (hM x hx)).1 q hq
theorem both_bd {L M : List Pf} (hL : ∀ q, q ∈ L → gdP q) (hM : ∀ q, q ∈ M → gdP q) (h1 : L.length ≤ 64) (h2 : M.length ≤ 64) (k : Nat) : (bothI (L.take k) M).length ≤ 4096 := by
  have h := both_len (L.take k) M [] (by simp) (fun q hq => hL q (List.mem_of_mem_take hq)) hM
  have h3 : (L.take k).length ≤ 64 := by rw [List.length_take]; omega
  have h4 := Nat.mul_le_mul h3 h2
  unfold bothI
  simp only [List.length_nil] at h
  omega
set_option maxRecDepth 100000 in
set_option maxHeartbeats 3200000 in
theorem i_meetSets_yes (a : Option Addr) (cap : Nat) (L : List Pf) (b0 : Option Addr) (capb : Nat) (M : List Pf) (w : World) (hR : RowP a L w) (hRM : RowP b0 M w) (hg : goodL L = true) (hgm : goodL M = true) :
    Calls Try.prog 34 #[.slice a L.length cap, .slice b0 M.length capb] w fun e w' => ∃ v, e = .returned (.tuple #[v, .bool (decide ((meetS L M).length ≤ 64))]) ∧ OwnP w.heap.size v (if (meetS L M).length ≤ 64 then meetS L M else []) w' ∧ Below w.heap.size w w' := by
  obtain ⟨g1, g2⟩ := goodL_parts hg
  obtain ⟨m1, m2⟩ := goodL_parts hgm
  have s1 := hide (fun w hR => i_are a cap L w (by omega) hR)
  have s2 := hide (fun w hR => i_are b0 capb M w (by omega) hR)
  rw [hg] at s1
  rw [hgm] at s2
  have hMS := hide (meet_same g1 m1)
  have hml := hide (gs_len ((fewS_good (bothI_facts g1 m1).1).1))
  clear hg hgm
  go_enter Try.func34, Try.ntmps34
  go_wp2_with fail
  refine (s1.out _ hR).mono ?_
  rintro e w1 ⟨rfl, hb1⟩
  go_wp2_with fail
  refine (s2.out _ (hRM.below hb1)).mono ?_
  rintro e w2 ⟨rfl, hb2⟩
  have hbw := below_step hb1 hb2
  have hR2 := hR.below hbw
  have hRM2 := hRM.below hbw
  clear hb1 hb2 s1 s2 hR hRM
  go_wp2_with fail
  go_loopw [6, 19] (fun o i wr => ∃ k : Nat, k ≤ L.length ∧ i = .int .i64 k ∧ OwnP w2.heap.size o (bothI (L.take k) M) wr ∧ Below w2.heap.size w2 wr) (fun _ i _ => L.length - (intOf i).toNat)
  case atStart => exact ⟨0, Nat.zero_le _, rfl, ownP_nil _ _, Below.refl _ _⟩
  case round =>
    obtain ⟨k, hk, rfl, hown, hb⟩ := hrel
    have hsr := hb.size
    have hbd := both_bd g1 m1 g2 m2 k
    have hgd := both_take g1 m1 (k := k)
    by_cases hlt : k < L.length
    · obtain ⟨b, off, rfl, hbw2, h0, h1⟩ := (hR2.below hb) k hlt
      have hlt' : (k : Int) < (L.length : Int) := by omega
      have gq := g1 _ (pAt_mem hlt)
      have s3 := hide (fun w hr => i_meets (pAt L k) b0 capb M w (by omega) hr gq m1)
      have hmm := meets_len (pAt L k) M
      have s4 := hide (fun a c b0 cb w h1 h2 => i_putInto a c (bothI (L.take k) M) b0 cb (meets (pAt L k) M) w (by omega) (by omega) h1 h2 hgd (meets_gd gq m1))
      have hN : Hid (bothI (L.take (k + 1)) M = putI (bothI (L.take k) M) (meets (pAt L k) M)) := hide (foldl_take (fun out p => putI out (meets p M)) [] hlt)
      have hRMr := hRM2.below hb
      clear hgd gq hR2 hRM2 hMS hml
      generalize bothI (L.take k) M = T at *
      generalize meets (pAt L k) M = E at *
      generalize hP : pAt L k = P at *
      clear hP
      obtain ⟨ia, il⟩ := P
      dsimp only at *
      have hRMx := hRMr.below (below_box (o := .cells #[.int .i64 ia, .int .i64 il] 34) (Below.refl _ _))
      clear hRMr
      go_wp2_with fail
      refine (s3.out _ hRMx).mono ?_
      rintro e w3 ⟨v3, rfl, ho3, hb3⟩
      have hb3' := below_box hb3
      have hO3 := ownP_below hown hb3'
      have hbz := hb.trans (hb3'.mono hsr)
      obtain ⟨ta, tc, rfl, hT3⟩ := SrcP.own hO3
      obtain ⟨ea, ec, rfl, hE3, _⟩ := ownP_row ho3
      clear hb3 hb3' hown ho3 hO3 hRMx
      go_wp2_with fail
      refine (s4.out _ _ _ _ _ hT3 hE3).mono ?_
      rintro e w4 ⟨v4, rfl, ho4, hb4⟩
      have hs3 := hbz.size
      go_wp2_with fail
      exact ⟨⟨k + 1, by omega, by go_num, (by rw [hN.out]; exact ownP_base ho4 hs3), hbz.trans (hb4.mono hs3)⟩, by simp [intOf]; omega⟩
    · have hk' : k = L.length := by omega
      subst hk'
      rw [List.take_length] at hown hbd hgd
      obtain ⟨ta, tc, rfl, hT⟩ := SrcP.own hown
      have s5 := hide (fun w hr => i_few ta tc (bothI L M) w (by omega) hr hgd)
      have s6 := hide (fun base v w ho => i_within base v (fewS (bothI L M)) w (by have := hml.out; omega) ho)
      rw [hMS.out] at s5 s6
      have hbz := hbw.trans (hb.mono hbw.size)
      clear hR2 hRM2 hown hgd hMS hml
      generalize bothI L M = T at *
      by_cases h64 : (meetS L M).length ≤ 64
      · rw [decide_eq_true h64, if_pos h64] at s6
        go_wp2_with fail
        refine (s5.out _ hT).mono ?_
        rintro e w5 ⟨v5, rfl, ho5, hb5⟩
        go_wp2_with fail
        refine (s6.out _ _ _ ho5).mono ?_
        rintro e w6 ⟨v6, rfl, ho6, rfl⟩
        have ho7 := ownP_base ho6 hbz.size
        go_wp2_with fail
        refine bodyPost_ret (v := .tuple #[v6, .bool true]) (by simp [results, Try.results34, go_sem]) rfl ⟨v6, by first | rfl | rw [decide_eq_true h64], by first | exact ho7 | (rw [if_pos h64]; exact ho7), hbz.trans (hb5.mono hbz.size)⟩
      · rw [decide_eq_false h64, if_neg h64] at s6
        go_wp2_with fail
        refine (s5.out _ hT).mono ?_
        rintro e w5 ⟨v5, rfl, ho5, hb5⟩
        go_wp2_with fail
        refine (s6.out _ _ _ ho5).mono ?_
        rintro e w6 ⟨v6, rfl, ho6, rfl⟩
        have ho7 := ownP_base ho6 hbz.size
        go_wp2_with fail
        refine bodyPost_ret (v := .tuple #[v6, .bool false]) (by simp [results, Try.results34, go_sem]) rfl ⟨v6, by first | rfl | rw [decide_eq_false h64], by first | exact ho7 | (rw [if_neg h64]; exact ho7), hbz.trans (hb5.mono hbz.size)⟩
set_option maxRecDepth 100000 in
set_option maxHeartbeats 800000 in
theorem i_meetSets_no (a : Option Addr) (cap : Nat) (L : List Pf) (b0 : Option Addr) (capb : Nat) (M : List Pf) (w : World) (hl : L.length ≤ 8589934592) (hlm : M.length ≤ 8589934592) (hR : RowP a L w) (hRM : RowP b0 M w) (h : goodL L = false ∨ goodL M = false) :
    Calls Try.prog 34 #[.slice a L.length cap, .slice b0 M.length capb] w fun e w' => e = .returned (.tuple #[.slice none 0 0, .bool false]) ∧ Below w.heap.size w w' := by
  have s1 := hide (fun w hR => i_are a cap L w hl hR)
  have s2 := hide (fun w hR => i_are b0 capb M w hlm hR)
  cases hg : goodL L with
  | false =>
    rw [hg] at s1
    clear h
    go_enter Try.func34, Try.ntmps34
    go_wp2_with fail
    refine (s1.out _ hR).mono ?_
    rintro e w1 ⟨rfl, hb1⟩
    go_wp2_with fail
    refine bodyPost_ret (v := .tuple #[.slice none 0 0, .bool false]) (by simp [results, Try.results34, go_sem]) rfl ⟨rfl, hb1⟩
  | true =>
    have hgm : goodL M = false := by rcases h with h | h; rw [hg] at h; simp at h; exact h
    rw [hg] at s1
    rw [hgm] at s2
    clear h hgm
    go_enter Try.func34, Try.ntmps34
    go_wp2_with fail
    refine (s1.out _ hR).mono ?_
    rintro e w1 ⟨rfl, hb1⟩
    go_wp2_with fail
    refine (s2.out _ (hRM.below hb1)).mono ?_
    rintro e w2 ⟨rfl, hb2⟩
    go_wp2_with fail
    refine bodyPost_ret (v := .tuple #[.slice none 0 0, .bool false]) (by simp [results, Try.results34, go_sem]) rfl ⟨rfl, below_step hb1 hb2⟩
end Go.Proofs.Ytlflfloopomaiaa
