/- What the program's CutPrefix answers. -/
import Derived.Test.YtlflfloopomaiaaI3g
import Derived.Test.YtlflfloopomaiaaI3i
import Derived.Test.YtlflfloopomaiaaI3k
import Derived.Test.YtlflfloopomaiaaS3i
namespace Go.Proofs.Ytlflfloopomaiaa
open Go.RowKit

theorem cutI_take {U : List Pf} {p : Pf} (G : Gs U) (gp : gdP p) (k : Nat) : (∀ q, q ∈ cutI (U.take k) p → gdP q) ∧ (cutI (U.take k) p).length ≤ 4294967296 := by
  obtain ⟨h1, _⟩ := cut_good G gp
  have e : U.flatMap (fun q => woutP q p) = (U.take k).flatMap (fun q => woutP q p) ++ (U.drop k).flatMap (fun q => woutP q p) := by rw [← List.flatMap_append, List.take_append_drop]
  have hgd := h1.gd
  have hch := h1.ch
  have hln := gs_len h1
  rw [e] at hgd hch hln
  rw [List.length_append] at hln
  have g2 : ∀ q, q ∈ (U.take k).flatMap (fun q => woutP q p) → gdP q := fun q hq => hgd q (List.mem_append_left _ hq)
  have c2 := (List.pairwise_append.1 hch).1
  have e2 : cutI (U.take k) p = (U.take k).flatMap (fun q => woutP q p) := by
    unfold cutI
    have e3 := fold_flat incP (fun q => woutP q p) (U.take k) []
    show (U.take k).foldl (fun out q => (woutP q p).foldl incP out) [] = _
    rw [e3]
    have := putI_chain ((U.take k).flatMap fun q => woutP q p) [] (by simp) g2 (by simpa using c2)
    simpa [putI] using this
  rw [e2]
  exact ⟨g2, by omega⟩
set_option maxRecDepth 100000 in
set_option maxHeartbeats 3200000 in
theorem i_cutPrefix_yes (a : Option Addr) (cap : Nat) (L : List Pf) (p : Pf) (w : World) (hR : SrcP a L cap w) (hg : goodL L = true) (gp : gdP p) :
    Calls Try.prog 31 #[.slice a L.length cap, .agg #[.int .i64 p.1, .int .i64 p.2]] w fun e w' => ∃ v, e = .returned (.tuple #[v, .bool (decide ((cutS (fewS L) p).length ≤ 64))]) ∧ OwnP w.heap.size v (if (cutS (fewS L) p).length ≤ 64 then cutS (fewS L) p else []) w' ∧ Below w.heap.size w w' := by
  obtain ⟨g1, g2⟩ := goodL_parts hg
  have s1 := hide (fun w hR => i_are a cap L w (by omega) hR)
  have s2 := hide (fun w => i_good p.1 p.2 w)
  rw [hg] at s1
  have gpB : goodB p.1 p.2 = true := gp
  rw [gpB] at s2
  have s3 := hide (fun w hR => i_few a cap L w (by omega) hR g1)
  have G := (fewS_good g1).1
  have hUl : (fewS L).length ≤ 64 := Nat.le_trans (fewS_good g1).2.2 g2
  clear hg g1 gpB
  generalize fewS L = U at *
  have gU := G.gd
  have hCT := hide (fun k => cutI_take G gp k)
  have hCS : Hid (cutI U p = cutS U p) := hide ((cut_same G gp).2.trans (cut_same G gp).1.symm)
  clear G
  have hBP : Bk (w.alloc (.cells #[.int .i64 p.1, .int .i64 p.2] 34)) w.heap.size #[.int .i64 p.1, .int .i64 p.2] 34 := Bk.new w _ _
  have hbx : Below w.heap.size w (w.alloc (.cells #[.int .i64 p.1, .int .i64 p.2] 34)) := below_box (Below.refl _ _)
  have hRx := hR.1.below hbx
  go_enter Try.func31, Try.ntmps31
  go_wp2_with fail
  generalize w.alloc (.cells #[.int .i64 p.1, .int .i64 p.2] 34) = wx at *
  refine (s1.out _ hRx).mono ?_
  rintro e w1 ⟨rfl, hb1⟩
  have hBP := hBP.below hb1
  have hbw := hbx.trans (hb1.mono hbx.size)
  have p0 := (hBP.cell 0).trans (show _ = some (.int .i64 p.1) from rfl)
  have p1 := (hBP.cell 1).trans (show _ = some (.int .i64 p.2) from rfl)
  clear hb1 hbx hRx s1
  go_wp2_with fail
  refine (s2.out _).mono ?_
  rintro e w2 ⟨rfl, hb2⟩
  have hBP := hBP.below hb2
  have hbw := hbw.trans (hb2.mono hbw.size)
  clear hb2 s2 p0 p1
  go_wp2_with fail
  refine (s3.out _ ⟨hR.1.below hbw, hR.2⟩).mono ?_
  rintro e w3 ⟨v3, rfl, ho3, hb3⟩
  have hBP := hBP.below hb3
  have hbw := hbw.trans (hb3.mono hbw.size)
  obtain ⟨ua, uc, rfl, hRU, _⟩ := ownP_row ho3
  clear hb3 s3 ho3 hR
  go_wp2_with fail
  go_loopw [6, 20] (fun o i wr => ∃ k : Nat, k ≤ U.length ∧ i = .int .i64 k ∧ OwnP w3.heap.size o (cutI (U.take k) p) wr ∧ Below w3.heap.size w3 wr) (fun _ i _ => U.length - (intOf i).toNat)
  case atStart => exact ⟨0, Nat.zero_le _, rfl, ownP_nil _ _, Below.refl _ _⟩
  case round =>
    obtain ⟨n, hn, rfl, hown, hb⟩ := hrel
    have hsr := hb.size
    by_cases hlt : n < U.length
    · obtain ⟨b, off, rfl, hbw2, h0, h1⟩ := (hRU.below hb) n hlt
      have hlt' : (n : Int) < (U.length : Int) := by omega
      have gi := gU _ (pAt_mem hlt)
      obtain ⟨hTg, hTl⟩ := hCT.out n
      have hN : Hid (cutI (U.take (n + 1)) p = putI (cutI (U.take n) p) (woutP (pAt U n) p)) := hide (foldl_take (fun out q => putI out (woutP q p)) [] hlt)
      have s4 : Hid (∀ w, Calls Try.prog 70 #[.agg #[.int .i64 (pAt U n).1, .int .i64 (pAt U n).2], .agg #[.int .i64 p.1, .int .i64 p.2]] w fun e w' => ∃ v, e = .returned v ∧ OwnP w.heap.size v (woutP (pAt U n) p) w' ∧ Below w.heap.size w w') := hide (fun w => i_leftOf p gp 33 (pAt U n) w gi (by have := (gdP_parts gi).1; show (33 : Int) ≤ _ + 33; omega) (by omega))
      have hWl := wp_len gi gp
      have hWg := (woutP_facts gi gp).gd
      have s5 := hide (fun a c b0 cb w h1 h2 => i_putInto a c (cutI (U.take n) p) b0 cb (woutP (pAt U n) p) w hTl hWl h1 h2 hTg hWg)
      clear hTg hWg hCT hCS gi hRU gU
      generalize cutI (U.take n) p = T at *
      generalize woutP (pAt U n) p = V at *
      generalize hP : pAt U n = P at *
      clear hP
      obtain ⟨ia, il⟩ := P
      dsimp only at *
      have hBr := hBP.base hb hBP.lt
      have r0 := fun o => (old1 hBr.lt o 0).trans (hBr.cell 0)
      have r1 := fun o => (old1 hBr.lt o 1).trans (hBr.cell 1)
      simp only [List.getElem?_toArray, List.getElem?_cons_zero, List.getElem?_cons_succ] at r0 r1
      have n0 : ¬ w.heap.size = wr.heap.size := by have := hBr.lt; omega
      go_wp2_with fail
      refine (s4.out _).mono ?_
      rintro e w4 ⟨v4, rfl, ho4, hb4⟩
      obtain ⟨va, vc, rfl, hRV, _⟩ := ownP_row ho4
      have hb4' := below_box hb4
      have hOy := ownP_below hown hb4'
      have hboy := hb.trans (hb4'.mono hsr)
      have hsy := hboy.size
      obtain ⟨ta, tc, rfl, hT3⟩ := SrcP.own hOy
      clear ho4 hb4 hb4' hown hb r0 r1 h0 h1 s4 hBr hsr hOy
      go_wp2_with fail
      refine (s5.out _ _ _ _ _ hT3 hRV).mono ?_
      rintro e w5 ⟨v5, rfl, ho5, hb5⟩
      clear hT3 hRV s5
      go_wp2_with fail
      exact ⟨⟨n + 1, by omega, by go_num, (by rw [hN.out]; exact ownP_base ho5 hsy), hboy.trans (hb5.mono hsy)⟩, by simp [intOf]; omega⟩
    · have hn' : n = U.length := by omega
      subst hn'
      have hTl := (hCT.out U.length).2
      rw [List.take_length] at hown hTl
      have hO2 : OwnP w3.heap.size _ (cutI U p) wr := hown
      rw [hCS.out] at hO2 hTl
      clear hown hCS hCT
      have s6 := hide (fun base v w ho => i_within base v (cutS U p) w (by omega) ho)
      have hbz := hbw.trans (hb.mono hbw.size)
      clear hRU
      by_cases h64 : (cutS U p).length ≤ 64
      · rw [decide_eq_true h64, if_pos h64] at s6
        go_wp2_with fail
        refine (s6.out _ _ _ hO2).mono ?_
        rintro e w6 ⟨v6, rfl, ho6, hw6⟩
        subst hw6
        have ho7 := ownP_base ho6 hbw.size
        go_wp2_with fail
        exact bodyPost_ret (v := .tuple #[v6, .bool true]) (by simp [results, Try.results31, go_sem]) rfl ⟨v6, by first | rfl | rw [decide_eq_true h64], by first | exact ho7 | (rw [if_pos h64]; exact ho7), hbz⟩
      · rw [decide_eq_false h64, if_neg h64] at s6
        go_wp2_with fail
        refine (s6.out _ _ _ hO2).mono ?_
        rintro e w6 ⟨v6, rfl, ho6, hw6⟩
        subst hw6
        have ho7 := ownP_base ho6 hbw.size
        go_wp2_with fail
        exact bodyPost_ret (v := .tuple #[v6, .bool false]) (by simp [results, Try.results31, go_sem]) rfl ⟨v6, by first | rfl | rw [decide_eq_false h64], by first | exact ho7 | (rw [if_neg h64]; exact ho7), hbz⟩
set_option maxRecDepth 100000 in
set_option maxHeartbeats 800000 in
theorem i_cutPrefix_no (a : Option Addr) (cap : Nat) (L : List Pf) (pa pl : Int) (w : World) (hl : L.length ≤ 8589934592) (hR : RowP a L w) (h : goodL L = false ∨ goodB pa pl = false) :
    Calls Try.prog 31 #[.slice a L.length cap, .agg #[.int .i64 pa, .int .i64 pl]] w fun e w' => e = .returned (.tuple #[.slice none 0 0, .bool false]) ∧ Below w.heap.size w w' := by
  have s1 := hide (fun w hR => i_are a cap L w hl hR)
  have s2 := hide (fun w => i_good pa pl w)
  have hRx := fun o => hR.below (below_box (o := o) (Below.refl _ _))
  cases hg : goodL L with
  | false =>
    rw [hg] at s1
    clear h
    go_enter Try.func31, Try.ntmps31
    go_wp2_with fail
    refine (s1.out _ (hRx _)).mono ?_
    rintro e w1 ⟨rfl, hb1⟩
    go_wp2_with fail
    refine bodyPost_ret (v := .tuple #[.slice none 0 0, .bool false]) (by simp [results, Try.results31, go_sem]) rfl ⟨rfl, below_box hb1⟩
  | true =>
    have hgm : goodB pa pl = false := by rcases h with h | h; rw [hg] at h; simp at h; exact h
    rw [hg] at s1
    rw [hgm] at s2
    clear h hgm
    go_enter Try.func31, Try.ntmps31
    go_wp2_with fail
    refine (s1.out _ (hRx _)).mono ?_
    rintro e w1 ⟨rfl, hb1⟩
    have hBP := (Bk.new w #[.int .i64 pa, .int .i64 pl] 34).below hb1
    have p0 := (hBP.cell 0).trans (show _ = some (.int .i64 pa) from rfl)
    have p1 := (hBP.cell 1).trans (show _ = some (.int .i64 pl) from rfl)
    go_wp2_with fail
    refine (s2.out _).mono ?_
    rintro e w2 ⟨rfl, hb2⟩
    go_wp2_with fail
    refine bodyPost_ret (v := .tuple #[.slice none 0 0, .bool false]) (by simp [results, Try.results31, go_sem]) rfl ⟨rfl, below_step (below_box hb1) hb2⟩
end Go.Proofs.Ytlflfloopomaiaa
