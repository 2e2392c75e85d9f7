/- What the specification's MeetSets answers. -/
import Derived.Test.YtlflfloopomaiaaS3b
namespace Go.Proofs.Ytlflfloopomaiaa
open Go.RowKit

/-- What two have in common is put. -/
def mPut (p : Pf) (o : List Pf) (q : Pf) : List Pf := if covP p q then putP o q else if covP q p then putP o p else o
def inS (p : Pf) (o : List Pf) (V : List Pf) : List Pf := V.foldl (mPut p) o
def outS (U V : List Pf) : List Pf := U.foldl (fun o p => inS p o V) []
theorem mPut_eq (p q : Pf) (o : List Pf) : (meet1 p q).foldl putP o = mPut p o q := by
  unfold meet1 mPut
  split
  · rfl
  · split <;> rfl
theorem meetS_eq (a b : List Pf) : meetS a b = outS (fewS a) (fewS b) := by
  unfold meetS meetAll meets outS inS
  rw [← fold_flat putP (fun p => (fewS b).flatMap (meet1 p))]
  congr 1
  funext o p
  rw [← fold_flat putP (meet1 p)]
  congr 1
  funext o q
  exact mPut_eq p q o
theorem gs_mPut {p q : Pf} {o : List Pf} (G : Gs o) (gp : gdP p) (gq : gdP q) : Gs (mPut p o q) := by
  unfold mPut
  split
  · exact (putP_good G gq).1
  · split
    · exact (putP_good G gp).1
    · exact G
theorem gs_inS {p : Pf} (gp : gdP p) : ∀ (V o : List Pf), Gs o → (∀ q, q ∈ V → gdP q) → Gs (inS p o V)
  | [], _, G, _ => G
  | q :: V, o, G, h => gs_inS gp V (mPut p o q) (gs_mPut G gp (h q (by simp))) (fun x hx => h x (by simp [hx]))
theorem gs_outS {V : List Pf} (hV : ∀ q, q ∈ V → gdP q) : ∀ (U o : List Pf), Gs o → (∀ q, q ∈ U → gdP q) → Gs (U.foldl (fun o p => inS p o V) o)
  | [], _, G, _ => G
  | p :: U, o, G, h => gs_outS hV U (inS p o V) (gs_inS (h p (by simp)) V o G hV) (fun x hx => h x (by simp [hx]))
theorem mPut_1 {p q : Pf} (o : List Pf) (h : covP p q = true) : mPut p o q = putP o q := by unfold mPut; rw [if_pos h]
theorem mPut_2 {p q : Pf} (o : List Pf) (h : covP p q = false) (h2 : covP q p = true) : mPut p o q = putP o p := by unfold mPut; rw [if_neg (by rw [h]; simp), if_pos h2]
theorem mPut_3 {p q : Pf} (o : List Pf) (h : covP p q = false) (h2 : covP q p = false) : mPut p o q = o := by unfold mPut; rw [if_neg (by rw [h]; simp), if_neg (by rw [h2]; simp)]

set_option maxRecDepth 100000 in
set_option maxHeartbeats 6400000 in
theorem s_meetSets_yes (a : Option Addr) (cap : Nat) (L : List Pf) (b0 : Option Addr) (capb : Nat) (M : List Pf) (w : World) (hR : RowP a L w) (hRM : RowP b0 M w) (hg : goodL L = true) (hgm : goodL M = true) :
    Calls Try.prog 35 #[.slice a L.length cap, .slice b0 M.length capb] w fun e w' => ∃ v, e = .returned (.tuple #[v, .bool (decide ((meetS L M).length ≤ 64))]) ∧ OwnP w.heap.size v (if (meetS L M).length ≤ 64 then meetS L M else []) w' ∧ Below w.heap.size w w' := by
  obtain ⟨g1, g2⟩ := goodL_parts hg
  obtain ⟨m1, m2⟩ := goodL_parts hgm
  have s1 := hide (fun w hR => s_l3Good a cap L w (by omega) hR)
  have s2 := hide (fun w hR => s_l3Good b0 capb M w (by omega) hR)
  rw [hg] at s1
  rw [hgm] at s2
  have s3 := hide (fun w hR => s_few a cap L w (by omega) hR g1)
  have s4 := hide (fun w hR => s_few b0 capb M w (by omega) hR m1)
  have hUl : (fewS L).length ≤ 64 := Nat.le_trans (fewS_good g1).2.2 g2
  have hVl : (fewS M).length ≤ 64 := Nat.le_trans (fewS_good m1).2.2 m2
  have gU := (fewS_good g1).1.gd
  have gV := (fewS_good m1).1.gd
  rw [meetS_eq]
  clear hg hgm g1 m1
  generalize fewS L = U at *
  generalize fewS M = V at *
  go_enter Try.func35, Try.ntmps35
  go_wp2_with fail
  refine (s1.out _ hR).mono ?_
  rintro e w1 ⟨rfl, hb1⟩
  go_wp2_with fail
  refine (s2.out _ (hRM.below hb1)).mono ?_
  rintro e w2 ⟨rfl, hb2⟩
  have hb12 := below_step hb1 hb2
  clear hb1 hb2 s1 s2
  go_wp2_with fail
  refine (s3.out _ (hR.below hb12)).mono ?_
  rintro e w3 ⟨v3, rfl, ho3, hb3⟩
  have hbw := below_step hb12 hb3
  obtain ⟨ua, uc, rfl, hRU, _⟩ := ownP_row ho3
  have hRM3 := hRM.below hbw
  clear hb12 hb3 s3 ho3 hR hRM
  go_wp2_with fail
  go_loopw [6, 22] (fun o i wr => ∃ k : Nat, k ≤ U.length ∧ i = .int .i64 k ∧ OwnP w3.heap.size o ((U.take k).foldl (fun o p => inS p o V) []) wr ∧ Below w3.heap.size w3 wr) (fun _ i _ => U.length - (intOf i).toNat)
  case atStart => exact ⟨0, Nat.zero_le _, rfl, ownP_nil _ _, Below.refl _ _⟩
  case round =>
    obtain ⟨n, hn, rfl, hown, hb⟩ := hrel
    have hsr := hb.size
    by_cases hlt : n < U.length
    · obtain ⟨b, off, rfl, hbw2, h0, h1⟩ := (hRU.below hb) n hlt
      have hlt' : (n : Int) < (U.length : Int) := by omega
      have gi := gU _ (pAt_mem hlt)
      have hG := gs_outS gV (U.take n) [] gs_nil (fun q hq => gU q (List.mem_of_mem_take hq))
      have hN := hide (foldl_take (fun o p => inS p o V) [] hlt)
      generalize (U.take n).foldl (fun o p => inS p o V) [] = T at *
      generalize hP : pAt U n = P at *
      clear hP
      obtain ⟨ia, il⟩ := P
      dsimp only at *
      have hBI0 : Bk (wr.alloc (.cells #[.int .i64 ia, .int .i64 il] 34)) wr.heap.size #[.int .i64 ia, .int .i64 il] 34 := Bk.new wr _ _
      have hbx : Below wr.heap.size wr (wr.alloc (.cells #[.int .i64 ia, .int .i64 il] 34)) := below_box (Below.refl _ _)
      have hOx := ownP_below hown hbx
      have hbo := hb.trans (hbx.mono hsr)
      have hRMx := hRM3.below hbo
      clear hown hb hsr hbx
      generalize hwi : wr = wi at *
      clear hwi
      go_wp2_with fail
      clear h0 h1
      generalize wi.alloc (.cells #[.int .i64 ia, .int .i64 il] 34) = wx at *
      refine (s4.out _ hRMx).mono ?_
      rintro e w4 ⟨v4, rfl, ho4, hb4⟩
      obtain ⟨va, vc, rfl, hRV, _⟩ := ownP_row ho4
      have hOy := ownP_below hOx hb4
      have hboy := hbo.trans (hb4.mono hbo.size)
      have hBI := hBI0.below hb4
      have hsy := hboy.size
      clear ho4 hb4 hOx hbo hBI0 hRMx
      go_wp2_with fail
      go_loopw [6, 29] (fun o i wr => ∃ k : Nat, k ≤ V.length ∧ i = .int .i64 k ∧ OwnP w3.heap.size o (inS (ia, il) T (V.take k)) wr ∧ Below w4.heap.size w4 wr) (fun _ i _ => V.length - (intOf i).toNat)
      case atStart => exact ⟨0, Nat.zero_le _, rfl, hOy, Below.refl _ _⟩
      case round =>
        obtain ⟨k, hk, rfl, hown, hb⟩ := hrel
        have hsr := hb.size
        by_cases hkl : k < V.length
        · obtain ⟨b', off', rfl, hbw3, i0, i1⟩ := (hRV.below hb) k hkl
          have hkl' : (k : Int) < (V.length : Int) := by omega
          have gk := gV _ (pAt_mem hkl)
          have hG2 := gs_inS gi (V.take k) T hG (fun q hq => gV q (List.mem_of_mem_take hq))
          have hl2 := gs_len hG2
          have hN2 : Hid (inS (ia, il) T (V.take (k + 1)) = mPut (ia, il) (inS (ia, il) T (V.take k)) (pAt V k)) := hide (foldl_take (mPut (ia, il)) T hkl)
          have s5 := hide (fun w => cov_run gi gk w)
          have s6 := hide (fun w => cov_run gk gi w)
          have s7 := hide (fun base v w hb ho => s_put base v (inS (ia, il) T (V.take k)) (pAt V k) w hb ho hG2.gd gk (by omega))
          have s8 := hide (fun base v w hb ho => s_put base v (inS (ia, il) T (V.take k)) (ia, il) w hb ho hG2.gd gi (by omega))
          have e1 := hide (mPut_1 (p := (ia, il)) (q := pAt V k) (inS (ia, il) T (V.take k)))
          have e2 := hide (mPut_2 (p := (ia, il)) (q := pAt V k) (inS (ia, il) T (V.take k)))
          have e3 := hide (mPut_3 (p := (ia, il)) (q := pAt V k) (inS (ia, il) T (V.take k)))
          have hBr := hBI.base hb hBI.lt
          have r0 := fun o => (old1 hBr.lt o 0).trans (hBr.cell 0)
          have r1 := fun o => (old1 hBr.lt o 1).trans (hBr.cell 1)
          simp only [List.getElem?_toArray, List.getElem?_cons_zero, List.getElem?_cons_succ] at r0 r1
          have n0 : ¬ wi.heap.size = wr.heap.size := by have := hBr.lt; omega
          have hbx : Below w4.heap.size w4 (wr.alloc (.cells #[.int .i64 (pAt V k).1, .int .i64 (pAt V k).2] 34)) := hb.trans ((below_box (Below.refl _ _)).mono hsr)
          have hOx := ownP_below hown (below_box (o := .cells #[.int .i64 (pAt V k).1, .int .i64 (pAt V k).2] 34) (Below.refl _ _))
          have hBix : Bk (wr.alloc (.cells #[.int .i64 (pAt V k).1, .int .i64 (pAt V k).2] 34)) wi.heap.size #[.int .i64 ia, .int .i64 il] 34 := hBr.below (below_box (Below.refl _ _))
          have hBkx : Bk (wr.alloc (.cells #[.int .i64 (pAt V k).1, .int .i64 (pAt V k).2] 34)) wr.heap.size #[.int .i64 (pAt V k).1, .int .i64 (pAt V k).2] 34 := Bk.new wr _ _
          clear hRV hG2 gk hRU hRM3 hN s4
          generalize hcv : covP (ia, il) (pAt V k) = cv at *
          generalize hdv : covP (pAt V k) (ia, il) = dv at *
          clear hcv hdv
          generalize inS (ia, il) T (V.take k) = T2 at *
          generalize hP : pAt V k = P at *
          clear hP
          obtain ⟨ka, kl⟩ := P
          dsimp only at *
          cases cv with
          | true =>
            have hF := hide (hN2.out.trans (e1.out rfl))
            clear e1 e2 e3 hN2 s6 s8
            go_wp2_with fail
            refine (s5.out _).mono ?_
            rintro e w5 ⟨rfl, hb5⟩
            have hOx := ownP_below hOx hb5
            have hBk5 := hBkx.below hb5
            have hbx := hbx.trans (hb5.mono hbx.size)
            have q0 := (hBk5.cell 0).trans (show _ = some (.int .i64 ka) from rfl)
            have q1 := (hBk5.cell 1).trans (show _ = some (.int .i64 kl) from rfl)
            have hsx := hbx.size
            clear hb5 hBk5 hBkx hBix hown
            go_wp2_with fail
            refine (s7.out w3.heap.size _ _ (by omega) hOx).mono ?_
            rintro e w6 ⟨v6, rfl, ho6, hb6⟩
            go_wp2_with fail
            exact ⟨⟨k + 1, by omega, by go_num, (by rw [hF.out]; exact ho6), hbx.trans (hb6.mono hbx.size)⟩, by simp [intOf]; omega⟩
          | false =>
            cases dv with
            | true =>
              have hF := hide (hN2.out.trans (e2.out rfl rfl))
              clear e1 e2 e3 hN2 s7
              go_wp2_with fail
              refine (s5.out _).mono ?_
              rintro e w5 ⟨rfl, hb5⟩
              have hOx := ownP_below hOx hb5
              have hBk5 := hBkx.below hb5
              have hBi5 := hBix.below hb5
              have hbx := hbx.trans (hb5.mono hbx.size)
              have q0 := (hBk5.cell 0).trans (show _ = some (.int .i64 ka) from rfl)
              have q1 := (hBk5.cell 1).trans (show _ = some (.int .i64 kl) from rfl)
              have p0 := (hBi5.cell 0).trans (show _ = some (.int .i64 ia) from rfl)
              have p1 := (hBi5.cell 1).trans (show _ = some (.int .i64 il) from rfl)
              clear hb5 hBkx hBix hown
              go_wp2_with fail
              refine (s6.out _).mono ?_
              rintro e w6 ⟨rfl, hb6⟩
              have hOx := ownP_below hOx hb6
              have hBi6 := hBi5.below hb6
              have hbx := hbx.trans (hb6.mono hbx.size)
              have p0 := (hBi6.cell 0).trans (show _ = some (.int .i64 ia) from rfl)
              have p1 := (hBi6.cell 1).trans (show _ = some (.int .i64 il) from rfl)
              have hsx := hbx.size
              clear hb6 hBi5 hBi6 hBk5 q0 q1
              go_wp2_with fail
              refine (s8.out w3.heap.size _ _ (by omega) hOx).mono ?_
              rintro e w7 ⟨v7, rfl, ho7, hb7⟩
              go_wp2_with fail
              exact ⟨⟨k + 1, by omega, by go_num, (by rw [hF.out]; exact ho7), hbx.trans (hb7.mono hbx.size)⟩, by simp [intOf]; omega⟩
            | false =>
              have hF := hide (hN2.out.trans (e3.out rfl rfl))
              clear e1 e2 e3 hN2 s7 s8
              go_wp2_with fail
              refine (s5.out _).mono ?_
              rintro e w5 ⟨rfl, hb5⟩
              have hOx := ownP_below hOx hb5
              have hBk5 := hBkx.below hb5
              have hBi5 := hBix.below hb5
              have hbx := hbx.trans (hb5.mono hbx.size)
              have q0 := (hBk5.cell 0).trans (show _ = some (.int .i64 ka) from rfl)
              have q1 := (hBk5.cell 1).trans (show _ = some (.int .i64 kl) from rfl)
              have p0 := (hBi5.cell 0).trans (show _ = some (.int .i64 ia) from rfl)
              have p1 := (hBi5.cell 1).trans (show _ = some (.int .i64 il) from rfl)
              clear hb5 hBkx hBix hown
              go_wp2_with fail
              refine (s6.out _).mono ?_
              rintro e w6 ⟨rfl, hb6⟩
              have hOx := ownP_below hOx hb6
              have hbx := hbx.trans (hb6.mono hbx.size)
              clear hb6 hBi5 hBk5 q0 q1 p0 p1
              go_wp2_with fail
              exact ⟨⟨k + 1, by omega, by go_num, (by rw [hF.out]; exact hOx), hbx⟩, by simp [intOf]; omega⟩
        · have hk' : k = V.length := by omega
          subst hk'
          rw [List.take_length] at hown
          have hF : Hid ((U.take (n + 1)).foldl (fun o p => inS p o V) [] = inS (ia, il) T V) := hN
          have hbz := hboy.trans (hb.mono hsy)
          clear hRV hRU hRM3 hN s4
          go_wp2_with fail
          exact ⟨⟨n + 1, by omega, by go_num, (by rw [hF.out]; exact hown), hbz⟩, by simp [intOf]; omega⟩
    · have hn' : n = U.length := by omega
      subst hn'
      rw [List.take_length] at hown
      have hO2 : OwnP w3.heap.size _ (outS U V) wr := hown
      clear hown
      obtain ⟨oa, oc, rfl, _, _⟩ := ownP_row hO2
      have hbz := hbw.trans (hb.mono hbw.size)
      clear hRU hRM3 s4
      by_cases h64 : (outS U V).length ≤ 64
      · have h64' : ¬ (64 : Int) < ((outS U V).length : Int) := by omega
        go_wp2_with fail
        exact bodyPost_ret (v := .tuple #[.slice oa (outS U V).length oc, .bool true]) (by simp [results, Try.results35, go_sem]) rfl ⟨.slice oa (outS U V).length oc, by first | rfl | rw [decide_eq_true h64], by first | exact ownP_base hO2 hbw.size | (rw [if_pos h64]; exact ownP_base hO2 hbw.size), hbz⟩
      · have h64' : (64 : Int) < ((outS U V).length : Int) := by omega
        go_wp2_with fail
        exact bodyPost_ret (v := .tuple #[.slice none 0 0, .bool false]) (by simp [results, Try.results35, go_sem]) rfl ⟨.slice none 0 0, by first | rfl | rw [decide_eq_false h64], by first | exact ownP_nil _ _ | (rw [if_neg h64]; exact ownP_nil _ _), hbz⟩
set_option maxRecDepth 100000 in
set_option maxHeartbeats 800000 in
theorem s_meetSets_no (a : Option Addr) (cap : Nat) (L : List Pf) (b0 : Option Addr) (capb : Nat) (M : List Pf) (w : World) (hl : L.length ≤ 8589934592) (hlm : M.length ≤ 8589934592) (hR : RowP a L w) (hRM : RowP b0 M w) (h : goodL L = false ∨ goodL M = false) :
    Calls Try.prog 35 #[.slice a L.length cap, .slice b0 M.length capb] w fun e w' => e = .returned (.tuple #[.slice none 0 0, .bool false]) ∧ Below w.heap.size w w' := by
  have s1 := hide (fun w hR => s_l3Good a cap L w hl hR)
  have s2 := hide (fun w hR => s_l3Good b0 capb M w hlm hR)
  cases hg : goodL L with
  | false =>
    rw [hg] at s1
    clear h
    go_enter Try.func35, Try.ntmps35
    go_wp2_with fail
    refine (s1.out _ hR).mono ?_
    rintro e w1 ⟨rfl, hb1⟩
    go_wp2_with fail
    refine bodyPost_ret (v := .tuple #[.slice none 0 0, .bool false]) (by simp [results, Try.results35, go_sem]) rfl ⟨rfl, hb1⟩
  | true =>
    have hgm : goodL M = false := by rcases h with h | h; rw [hg] at h; simp at h; exact h
    rw [hg] at s1
    rw [hgm] at s2
    clear h hgm
    go_enter Try.func35, Try.ntmps35
    go_wp2_with fail
    refine (s1.out _ hR).mono ?_
    rintro e w1 ⟨rfl, hb1⟩
    go_wp2_with fail
    refine (s2.out _ (hRM.below hb1)).mono ?_
    rintro e w2 ⟨rfl, hb2⟩
    go_wp2_with fail
    refine bodyPost_ret (v := .tuple #[.slice none 0 0, .bool false]) (by simp [results, Try.results35, go_sem]) rfl ⟨rfl, below_step hb1 hb2⟩
end Go.Proofs.Ytlflfloopomaiaa
