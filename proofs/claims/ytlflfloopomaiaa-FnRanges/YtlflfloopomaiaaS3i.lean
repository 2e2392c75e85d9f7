/- What the specification's CutPrefix answers. -/
import Derived.Test.YtlflfloopomaiaaS3b
import Derived.Test.YtlflfloopomaiaaS3g
namespace Go.Proofs.Ytlflfloopomaiaa
open Go.RowKit

theorem gs_cutTo {p : Pf} (gp : gdP p) : ∀ (U o : List Pf), Gs o → (∀ q, q ∈ U → gdP q) → Gs (U.foldl (fun out q => (woutP q p).foldl putP out) o)
  | [], _, G, _ => G
  | q :: U, o, G, h => gs_cutTo gp U _ (fold_put (woutP q p) o G (woutP_facts (h q (by simp)) gp).gd).1 (fun x hx => h x (by simp [hx]))
theorem wp_len {q p : Pf} (gq : gdP q) (gp : gdP p) : (woutP q p).length ≤ 4294967296 := by
  have F := woutP_facts gq gp
  have := chain_len (woutP q p) 0 F.gd F.ch (fun e he => (gdP_parts (F.gd e he)).2.2.1) (by omega)
  omega

set_option maxRecDepth 100000 in
set_option maxHeartbeats 6400000 in
theorem s_cutPrefix_yes (a : Option Addr) (cap : Nat) (L : List Pf) (p : Pf) (w : World) (hR : RowP a L w) (hg : goodL L = true) (gp : gdP p) :
    Calls Try.prog 32 #[.slice a L.length cap, .agg #[.int .i64 p.1, .int .i64 p.2]] w fun e w' => ∃ v, e = .returned (.tuple #[v, .bool (decide ((cutS (fewS L) p).length ≤ 64))]) ∧ OwnP w.heap.size v (if (cutS (fewS L) p).length ≤ 64 then cutS (fewS L) p else []) w' ∧ Below w.heap.size w w' := by
  obtain ⟨g1, g2⟩ := goodL_parts hg
  have s1 := hide (fun w hR => s_l3Good a cap L w (by omega) hR)
  have s2 := hide (fun w => s_good p.1 p.2 w)
  rw [hg] at s1
  have gpB : goodB p.1 p.2 = true := gp
  rw [gpB] at s2
  have s3 := hide (fun w hR => s_few a cap L w (by omega) hR g1)
  have hUl : (fewS L).length ≤ 64 := Nat.le_trans (fewS_good g1).2.2 g2
  have gU := (fewS_good g1).1.gd
  clear hg g1 gpB
  generalize fewS L = U at *
  have hBP : Bk (w.alloc (.cells #[.int .i64 p.1, .int .i64 p.2] 34)) w.heap.size #[.int .i64 p.1, .int .i64 p.2] 34 := Bk.new w _ _
  have hbx : Below w.heap.size w (w.alloc (.cells #[.int .i64 p.1, .int .i64 p.2] 34)) := below_box (Below.refl _ _)
  have hRx := hR.below hbx
  go_enter Try.func32, Try.ntmps32
  go_wp2_with fail
  generalize w.alloc (.cells #[.int .i64 p.1, .int .i64 p.2] 34) = wx at *
  refine (s1.out _ hRx).mono ?_
  rintro e w1 ⟨rfl, hb1⟩
  have hBP := hBP.below hb1
  have hbw := hbx.trans (hb1.mono hbx.size)
  have p0 := (hBP.cell 0).trans (show _ = some (.int .i64 p.1) from rfl)
  have p1 := (hBP.cell 1).trans (show _ = some (.int .i64 p.2) from rfl)
  clear hb1 hbx hRx s1
  go_wp2_with fail
  refine (s2.out _).mono ?_
  rintro e w2 ⟨rfl, hb2⟩
  have hBP := hBP.below hb2
  have hbw := hbw.trans (hb2.mono hbw.size)
  clear hb2 s2 p0 p1
  go_wp2_with fail
  refine (s3.out _ (hR.below hbw)).mono ?_
  rintro e w3 ⟨v3, rfl, ho3, hb3⟩
  have hBP := hBP.below hb3
  have hbw := hbw.trans (hb3.mono hbw.size)
  obtain ⟨ua, uc, rfl, hRU, _⟩ := ownP_row ho3
  clear hb3 s3 ho3 hR
  go_wp2_with fail
  go_loopw [6, 22] (fun o i wr => ∃ k : Nat, k ≤ U.length ∧ i = .int .i64 k ∧ OwnP w3.heap.size o ((U.take k).foldl (fun out q => (woutP q p).foldl putP out) []) wr ∧ Below w3.heap.size w3 wr) (fun _ i _ => U.length - (intOf i).toNat)
  case atStart => exact ⟨0, Nat.zero_le _, rfl, ownP_nil _ _, Below.refl _ _⟩
  case round =>
    obtain ⟨n, hn, rfl, hown, hb⟩ := hrel
    have hsr := hb.size
    by_cases hlt : n < U.length
    · obtain ⟨b, off, rfl, hbw2, h0, h1⟩ := (hRU.below hb) n hlt
      have hlt' : (n : Int) < (U.length : Int) := by omega
      have gi := gU _ (pAt_mem hlt)
      have hG := gs_cutTo gp (U.take n) [] gs_nil (fun q hq => gU q (List.mem_of_mem_take hq))
      have hN := hide (foldl_take (fun out q => (woutP q p).foldl putP out) [] hlt)
      have s4 : Hid (∀ w, Calls Try.prog 73 #[.agg #[.int .i64 (pAt U n).1, .int .i64 (pAt U n).2], .agg #[.int .i64 p.1, .int .i64 p.2]] w fun e w' => ∃ v, e = .returned v ∧ OwnP w.heap.size v (woutP (pAt U n) p) w' ∧ Below w.heap.size w w') := hide (fun w => s_without p gp 33 (pAt U n) w gi (by have := (gdP_parts gi).1; show (33 : Int) ≤ _ + 33; omega) (by omega))
      have hWl := wp_len gi gp
      have hWg := (woutP_facts gi gp).gd
      generalize (U.take n).foldl (fun out q => (woutP q p).foldl putP out) [] = T at *
      generalize woutP (pAt U n) p = V at *
      generalize hP : pAt U n = P at *
      clear hP
      obtain ⟨ia, il⟩ := P
      dsimp only at *
      have hBr := hBP.base hb hBP.lt
      have r0 := fun o => (old1 hBr.lt o 0).trans (hBr.cell 0)
      have r1 := fun o => (old1 hBr.lt o 1).trans (hBr.cell 1)
      simp only [List.getElem?_toArray, List.getElem?_cons_zero, List.getElem?_cons_succ] at r0 r1
      have n0 : ¬ w.heap.size = wr.heap.size := by have := hBr.lt; omega
      clear gi
      go_wp2_with fail
      refine (s4.out _).mono ?_
      rintro e w4 ⟨v4, rfl, ho4, hb4⟩
      obtain ⟨va, vc, rfl, hRV, _⟩ := ownP_row ho4
      have hb4' := below_box hb4
      have hOy := ownP_below hown hb4'
      have hboy := hb.trans (hb4'.mono hsr)
      have hsy := hboy.size
      clear ho4 hb4 hb4' hown hb r0 r1 h0 h1 s4 hBr hsr
      go_wp2_with fail
      go_loopw [6, 30] (fun o i wr => ∃ k : Nat, k ≤ V.length ∧ i = .int .i64 k ∧ OwnP w3.heap.size o ((V.take k).foldl putP T) wr ∧ Below w4.heap.size w4 wr) (fun _ i _ => V.length - (intOf i).toNat)
      case atStart => exact ⟨0, Nat.zero_le _, rfl, hOy, Below.refl _ _⟩
      case round =>
        obtain ⟨k, hk, rfl, hown, hb⟩ := hrel
        have hsr := hb.size
        by_cases hkl : k < V.length
        · obtain ⟨b', off', rfl, hbw3, i0, i1⟩ := (hRV.below hb) k hkl
          have hkl' : (k : Int) < (V.length : Int) := by omega
          have gk := hWg _ (pAt_mem hkl)
          have hG2 := (fold_put (V.take k) T hG (fun q hq => hWg q (List.mem_of_mem_take hq))).1
          have hl2 := gs_len hG2
          have hN2 := hide (foldl_take putP T hkl)
          have s7 := hide (fun base v w hb ho => s_put base v ((V.take k).foldl putP T) (pAt V k) w hb ho hG2.gd gk (by omega))
          clear hRV hG2 gk hRU hN
          generalize (V.take k).foldl putP T = T2 at *
          generalize hP : pAt V k = P at *
          clear hP
          obtain ⟨ka, kl⟩ := P
          dsimp only at *
          have hOx := ownP_below hown (below_box (o := .cells #[.int .i64 ka, .int .i64 kl] 34) (Below.refl _ _))
          go_wp2_with fail
          refine (s7.out w3.heap.size _ _ (by simp; omega) hOx).mono ?_
          rintro e w6 ⟨v6, rfl, ho6, hb6⟩
          have hb6' := below_box hb6
          go_wp2_with fail
          exact ⟨⟨k + 1, by omega, by go_num, (by rw [hN2.out]; exact ho6), hb.trans (hb6'.mono hsr)⟩, by simp [intOf]; omega⟩
        · have hk' : k = V.length := by omega
          subst hk'
          rw [List.take_length] at hown
          have hbz := hboy.trans (hb.mono hsy)
          clear hRV hRU
          go_wp2_with fail
          exact ⟨⟨n + 1, by omega, by go_num, (by rw [hN.out]; exact hown), hbz⟩, by simp [intOf]; omega⟩
    · have hn' : n = U.length := by omega
      subst hn'
      rw [List.take_length] at hown
      have hO2 : OwnP w3.heap.size _ (cutS U p) wr := hown
      clear hown
      obtain ⟨oa, oc, rfl, _, _⟩ := ownP_row hO2
      have hbz := hbw.trans (hb.mono hbw.size)
      clear hRU
      by_cases h64 : (cutS U p).length ≤ 64
      · have h64' : ¬ (64 : Int) < ((cutS U p).length : Int) := by omega
        go_wp2_with fail
        exact bodyPost_ret (v := .tuple #[.slice oa (cutS U p).length oc, .bool true]) (by simp [results, Try.results32, go_sem]) rfl ⟨.slice oa (cutS U p).length oc, by first | rfl | rw [decide_eq_true h64], by first | exact ownP_base hO2 hbw.size | (rw [if_pos h64]; exact ownP_base hO2 hbw.size), hbz⟩
      · have h64' : (64 : Int) < ((cutS U p).length : Int) := by omega
        go_wp2_with fail
        exact bodyPost_ret (v := .tuple #[.slice none 0 0, .bool false]) (by simp [results, Try.results32, go_sem]) rfl ⟨.slice none 0 0, by first | rfl | rw [decide_eq_false h64], by first | exact ownP_nil _ _ | (rw [if_neg h64]; exact ownP_nil _ _), hbz⟩
set_option maxRecDepth 100000 in
set_option maxHeartbeats 800000 in
theorem s_cutPrefix_no (a : Option Addr) (cap : Nat) (L : List Pf) (pa pl : Int) (w : World) (hl : L.length ≤ 8589934592) (hR : RowP a L w) (h : goodL L = false ∨ goodB pa pl = false) :
    Calls Try.prog 32 #[.slice a L.length cap, .agg #[.int .i64 pa, .int .i64 pl]] w fun e w' => e = .returned (.tuple #[.slice none 0 0, .bool false]) ∧ Below w.heap.size w w' := by
  have s1 := hide (fun w hR => s_l3Good a cap L w hl hR)
  have s2 := hide (fun w => s_good pa pl w)
  have hRx := fun o => hR.below (below_box (o := o) (Below.refl _ _))
  cases hg : goodL L with
  | false =>
    rw [hg] at s1
    clear h
    go_enter Try.func32, Try.ntmps32
    go_wp2_with fail
    refine (s1.out _ (hRx _)).mono ?_
    rintro e w1 ⟨rfl, hb1⟩
    go_wp2_with fail
    refine bodyPost_ret (v := .tuple #[.slice none 0 0, .bool false]) (by simp [results, Try.results32, go_sem]) rfl ⟨rfl, below_box hb1⟩
  | true =>
    have hgm : goodB pa pl = false := by rcases h with h | h; rw [hg] at h; simp at h; exact h
    rw [hg] at s1
    rw [hgm] at s2
    clear h hgm
    go_enter Try.func32, Try.ntmps32
    go_wp2_with fail
    refine (s1.out _ (hRx _)).mono ?_
    rintro e w1 ⟨rfl, hb1⟩
    have hBP := (Bk.new w #[.int .i64 pa, .int .i64 pl] 34).below hb1
    have p0 := (hBP.cell 0).trans (show _ = some (.int .i64 pa) from rfl)
    have p1 := (hBP.cell 1).trans (show _ = some (.int .i64 pl) from rfl)
    go_wp2_with fail
    refine (s2.out _).mono ?_
    rintro e w2 ⟨rfl, hb2⟩
    go_wp2_with fail
    refine bodyPost_ret (v := .tuple #[.slice none 0 0, .bool false]) (by simp [results, Try.results32, go_sem]) rfl ⟨rfl, below_step (below_box hb1) hb2⟩
end Go.Proofs.Ytlflfloopomaiaa
