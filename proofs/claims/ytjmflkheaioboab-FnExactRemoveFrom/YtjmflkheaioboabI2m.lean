/- What the program's RemoveFrom answers. -/
import Derived.Test.YtjmflkheaioboabI2l
import Derived.Test.YtjmflkheaioboabI2i
import Derived.Test.YtjmflkheaioboabS2j
namespace Go.Proofs.Ytjmflkheaioboab
open Go.RowKit

set_option maxRecDepth 100000 in
set_option maxHeartbeats 3200000 in
theorem i_removeFrom_yes (a0 : Option Addr) (len cap : Nat) (T : Nat → Nd) (a l : Int) (w : World) (hl : len ≤ 1048576) (hE : RowT a0 len T w) (hg : trieB len T = true) (hfd : foundTo a l (allE T) (allE T).length = true) :
    Calls Try.prog 38 #[.slice a0 len cap, .agg #[.int .i64 a, .int .i64 l]] w fun e w' => ∃ v', e = .returned (.tuple #[v', .bool true]) ∧ OwnT w.heap.size v' (remT a l T) w' ∧ Below w.heap.size w w' := by
  obtain ⟨i0, hi, hz0, hz1, hz2⟩ := info_parts infoEntry
  obtain ⟨f1, f2, f3⟩ := all_facts hg
  have hE1 := fun o => hE.below (below_box (Below.refl (w.alloc o).heap.size (w.alloc o)))
  obtain ⟨⟨hn1, hn2⟩, htr, hen⟩ := trieB_parts hg
  obtain ⟨g1, g2, g3⟩ := rest_facts (a := a) (l := l) f1 f2 f3
  have htab := tab_list g1 g2 g3
  have sB := hide (fun a0 cap w hE => i_buildTrie_yes a0 (restE a l (allE T)).length cap _ _ _ w (by omega) hE htab)
  have s1 := hide (fun w hE => i_trieEntries_yes a0 len cap T w hl hE hg)
  clear hg htr hen f1 f2 g1 g2 htab
  have hrem : Hid (remT a l T = buildTo (fun i => (eAt (restE a l (allE T)) i).1) (fun i => (eAt (restE a l (allE T)) i).2.1) (fun i => (eAt (restE a l (allE T)) i).2.2) (restE a l (allE T)).length) := rfl
  generalize hes : allE T = es at *
  clear hes
  have hFD : Hid (¬ (restE a l es).length = es.length) := fun h => by rw [found_len.1 h] at hfd; simp at hfd
  clear hfd
  have he := neqPrefix_run
  have hgu := eqPrefix_guard
  go_enter Try.func38, Try.ntmps38
  go_wp2_with fail
  refine (s1.out _ (hE1 _)).mono ?_
  rintro e w3 ⟨v3, rfl, ho3, hb1⟩
  have hb := below_box hb1
  have p0 := ((bcell hb1).1 w.heap.size 0 (by simp)).trans (show _ = some (.int .i64 a) by simp [go_sem])
  have p1 := ((bcell hb1).1 w.heap.size 1 (by simp)).trans (show _ = some (.int .i64 l) by simp [go_sem])
  have hlt3 : w.heap.size < w3.heap.size := by have := hb1.size; simp at this; omega
  obtain ⟨ga, gc, rfl, hR, _⟩ := ownE_row ho3
  clear hb1 ho3 s1 hE hE1
  go_wp2_with fail
  go_loopw [8, 10, 20] (fun r _ i wr => ∃ k : Nat, k ≤ es.length ∧ i = .int .i64 k ∧ OwnE w3.heap.size r (restE a l (es.take k)) wr ∧ Below w3.heap.size w3 wr) (fun _ _ i _ => es.length - (intOf i).toNat)
  case atStart => exact ⟨0, Nat.zero_le _, rfl, ownE_nil _ _, Below.refl _ _⟩
  case round =>
    obtain ⟨k, hk, rfl, hown, hbr⟩ := hrel
    have q0 := (hbr.cell (p := ⟨w.heap.size, 0, none⟩) hlt3).trans p0
    have q1 := (hbr.cell (p := ⟨w.heap.size, 1, none⟩) hlt3).trans p1
    have hsr := hbr.size
    have n0 : ¬ w.heap.size = wr.heap.size := by omega
    have r0 := fun o => (old1 (show w.heap.size < wr.heap.size by omega) o 0).trans q0
    have r1 := fun o => (old1 (show w.heap.size < wr.heap.size by omega) o 1).trans q1
    by_cases hlt : k < es.length
    · obtain ⟨b, off, rfl, hbw, h0, h1, h2⟩ := (hR.below hbr) k hlt
      have hlt' : (k : Int) < (es.length : Int) := by omega
      have hY := hide (rest_y (a := a) (l := l) hlt)
      have hN := hide (rest_n (a := a) (l := l) hlt)
      have hFY := hide (found_y (a := a) (l := l) hlt)
      have hFN := hide (found_n (a := a) (l := l) hlt)
      have hrl := rest_len a l (es.take k)
      have htk : (es.take k).length ≤ k := List.length_take_le _ _
      have hR2 := hide hR
      clear hR
      obtain ⟨x, y, z, hxyz⟩ : ∃ x y z, eAt es k = (x, y, z) := ⟨_, _, _, rfl⟩
      dsimp only at h0 h1 h2
      rw [hxyz] at h0 h1 h2
      have hq : Hid (isE a l (eAt es k) = (x == a && y == l)) := by show _ = _; rw [hxyz]; rfl
      have hxyz := hide hxyz
      dsimp only at h0 h1 h2
      cases hc : (x == a && y == l) with
      | true =>
        have hY := hide (hY.out (hq.out.trans hc))
        have hFY := hide (hFY.out (hq.out.trans hc))
        clear hN hFN hq hR2 hxyz
        have hc' : (!(x == a && y == l)) = false := by rw [hc]; rfl
        go_wp2_with fail
        exact ⟨⟨k + 1, by omega, by go_num, (by rw [hY.out]; exact ownE_below hown (below_box (Below.refl _ _))), hbr.trans ((below_box (Below.refl _ _)).mono hsr)⟩, by simp [intOf]; omega⟩
      | false =>
        have hN := hide (hN.out (hq.out.trans hc))
        have hFN := hide (hFN.out (hq.out.trans hc))
        clear hY hFY hq hR2
        have hc' : (!(x == a && y == l)) = true := by rw [hc]; rfl
        have hX := hxyz.out
        generalize restE a l (es.take k) = rr at *
        have hob := ownE_below hown (below_box (o := .cells #[.int .i64 x, .int .i64 y, .int .i64 z] 32) (Below.refl _ _))
        have hob2 := ownE_below hob (below_box (o := .cells #[.int .i64 x, .int .i64 y, .int .i64 z] 32) (Below.refl _ _))
        rw [hX] at hN
        clear hX hxyz
        go_wp2_with (first | (at_builtin; refine wpList_append_own _ rfl _ _ 25 rfl w3.heap.size 32 i0 (.agg #[.int .i64 0, .int .i64 0, .int .i64 0]) 3 24 Try.underlying25 hi hz0 hz1 hz2 rfl (by decide) _ rr.length (ecells rr) rfl hob2 ⟨wr.heap.size + 1, 0, none⟩ 1 1 (enc (x, y, z)) rfl rfl ?c1 ?c2 ?c3 ?c4 ?c5 ?_))
        case c1 =>
          intro j u hj
          match j, hj with
          | 0, hj => simp [enc] at hj; subst hj; simp [Addr.add]
          | 1, hj => simp [enc] at hj; subst hj; simp [Addr.add]
          | 2, hj => simp [enc] at hj; subst hj; simp [Addr.add]
        case c2 => intro u hu; simp [enc] at hu; rcases hu with rfl | rfl | rfl <;> rfl
        case c3 => unfold maxLen; omega
        case c4 => omega
        case c5 => simp; omega
        · intro v' w5 hown' hgrow _
          have hT : OwnE w3.heap.size v' (rr ++ [(x, y, z)]) w5 := by unfold OwnE; rw [ec_app, ec_one]; simpa using hown'
          have hgb : Below w3.heap.size _ w5 := grown_belowE hob2 hgrow (by simp; omega)
          have hbe : Below w3.heap.size w3 w5 := (hbr.trans ((below_box2 (Below.refl _ _)).mono hsr)).trans hgb
          clear hown' hgrow hgb hob hob2 hown hbr
          go_wp2_with fail
          exact ⟨⟨k + 1, by omega, by go_num, (by rw [hN.out]; exact hT), hbe⟩, by simp [intOf]; omega⟩
    · have hk' : k = es.length := by omega
      subst hk'
      rw [List.take_length] at hown
      obtain ⟨ra, rc, rfl, hRr, _⟩ := ownE_row hown
      have hne : (((restE a l es).length : Int) == (es.length : Int)) = false := by rw [beq_eq_false_iff_ne]; intro h; exact hFD.out (by omega)
      clear hR
      go_wp2_with fail
      refine (sB.out _ _ _ hRr).mono ?_
      rintro e w6 ⟨v6, rfl, ho6, hb6⟩
      have hbz := hb.trans (hbr.mono hb.size)
      go_wp2_with fail
      refine bodyPost_ret (v := .tuple #[v6, .bool true]) (by simp [results, Try.results38, go_sem]) rfl ⟨_, rfl, ?_, hbz.trans (hb6.mono hbz.size)⟩
      rw [hrem.out]
      exact own_base ho6 hbz.size
set_option maxRecDepth 100000 in
set_option maxHeartbeats 3200000 in
theorem i_removeFrom_no2 (a0 : Option Addr) (len cap : Nat) (T : Nat → Nd) (a l : Int) (w : World) (hl : len ≤ 1048576) (hE : RowT a0 len T w) (hg : trieB len T = true) (hfd : foundTo a l (allE T) (allE T).length = false) :
    Calls Try.prog 38 #[.slice a0 len cap, .agg #[.int .i64 a, .int .i64 l]] w fun e w' => e = .returned (.tuple #[.slice none 0 0, .bool false]) ∧ Below w.heap.size w w' := by
  obtain ⟨i0, hi, hz0, hz1, hz2⟩ := info_parts infoEntry
  obtain ⟨f1, f2, f3⟩ := all_facts hg
  have hE1 := fun o => hE.below (below_box (Below.refl (w.alloc o).heap.size (w.alloc o)))
  obtain ⟨⟨hn1, hn2⟩, htr, hen⟩ := trieB_parts hg
  have s1 := hide (fun w hE => i_trieEntries_yes a0 len cap T w hl hE hg)
  clear hg htr hen f1 f2
  generalize hes : allE T = es at *
  clear hes
  have hFD : Hid ((restE a l es).length = es.length) := found_len.2 hfd
  clear hfd
  have he := neqPrefix_run
  have hgu := eqPrefix_guard
  go_enter Try.func38, Try.ntmps38
  go_wp2_with fail
  refine (s1.out _ (hE1 _)).mono ?_
  rintro e w3 ⟨v3, rfl, ho3, hb1⟩
  have hb := below_box hb1
  have p0 := ((bcell hb1).1 w.heap.size 0 (by simp)).trans (show _ = some (.int .i64 a) by simp [go_sem])
  have p1 := ((bcell hb1).1 w.heap.size 1 (by simp)).trans (show _ = some (.int .i64 l) by simp [go_sem])
  have hlt3 : w.heap.size < w3.heap.size := by have := hb1.size; simp at this; omega
  obtain ⟨ga, gc, rfl, hR, _⟩ := ownE_row ho3
  clear hb1 ho3 s1 hE hE1
  go_wp2_with fail
  go_loopw [8, 10, 20] (fun r _ i wr => ∃ k : Nat, k ≤ es.length ∧ i = .int .i64 k ∧ OwnE w3.heap.size r (restE a l (es.take k)) wr ∧ Below w3.heap.size w3 wr) (fun _ _ i _ => es.length - (intOf i).toNat)
  case atStart => exact ⟨0, Nat.zero_le _, rfl, ownE_nil _ _, Below.refl _ _⟩
  case round =>
    obtain ⟨k, hk, rfl, hown, hbr⟩ := hrel
    have q0 := (hbr.cell (p := ⟨w.heap.size, 0, none⟩) hlt3).trans p0
    have q1 := (hbr.cell (p := ⟨w.heap.size, 1, none⟩) hlt3).trans p1
    have hsr := hbr.size
    have n0 : ¬ w.heap.size = wr.heap.size := by omega
    have r0 := fun o => (old1 (show w.heap.size < wr.heap.size by omega) o 0).trans q0
    have r1 := fun o => (old1 (show w.heap.size < wr.heap.size by omega) o 1).trans q1
    by_cases hlt : k < es.length
    · obtain ⟨b, off, rfl, hbw, h0, h1, h2⟩ := (hR.below hbr) k hlt
      have hlt' : (k : Int) < (es.length : Int) := by omega
      have hY := hide (rest_y (a := a) (l := l) hlt)
      have hN := hide (rest_n (a := a) (l := l) hlt)
      have hFY := hide (found_y (a := a) (l := l) hlt)
      have hFN := hide (found_n (a := a) (l := l) hlt)
      have hrl := rest_len a l (es.take k)
      have htk : (es.take k).length ≤ k := List.length_take_le _ _
      have hR2 := hide hR
      clear hR
      obtain ⟨x, y, z, hxyz⟩ : ∃ x y z, eAt es k = (x, y, z) := ⟨_, _, _, rfl⟩
      dsimp only at h0 h1 h2
      rw [hxyz] at h0 h1 h2
      have hq : Hid (isE a l (eAt es k) = (x == a && y == l)) := by show _ = _; rw [hxyz]; rfl
      have hxyz := hide hxyz
      dsimp only at h0 h1 h2
      cases hc : (x == a && y == l) with
      | true =>
        have hY := hide (hY.out (hq.out.trans hc))
        have hFY := hide (hFY.out (hq.out.trans hc))
        clear hN hFN hq hR2 hxyz
        have hc' : (!(x == a && y == l)) = false := by rw [hc]; rfl
        go_wp2_with fail
        exact ⟨⟨k + 1, by omega, by go_num, (by rw [hY.out]; exact ownE_below hown (below_box (Below.refl _ _))), hbr.trans ((below_box (Below.refl _ _)).mono hsr)⟩, by simp [intOf]; omega⟩
      | false =>
        have hN := hide (hN.out (hq.out.trans hc))
        have hFN := hide (hFN.out (hq.out.trans hc))
        clear hY hFY hq hR2
        have hc' : (!(x == a && y == l)) = true := by rw [hc]; rfl
        have hX := hxyz.out
        generalize restE a l (es.take k) = rr at *
        have hob := ownE_below hown (below_box (o := .cells #[.int .i64 x, .int .i64 y, .int .i64 z] 32) (Below.refl _ _))
        have hob2 := ownE_below hob (below_box (o := .cells #[.int .i64 x, .int .i64 y, .int .i64 z] 32) (Below.refl _ _))
        rw [hX] at hN
        clear hX hxyz
        go_wp2_with (first | (at_builtin; refine wpList_append_own _ rfl _ _ 25 rfl w3.heap.size 32 i0 (.agg #[.int .i64 0, .int .i64 0, .int .i64 0]) 3 24 Try.underlying25 hi hz0 hz1 hz2 rfl (by decide) _ rr.length (ecells rr) rfl hob2 ⟨wr.heap.size + 1, 0, none⟩ 1 1 (enc (x, y, z)) rfl rfl ?c1 ?c2 ?c3 ?c4 ?c5 ?_))
        case c1 =>
          intro j u hj
          match j, hj with
          | 0, hj => simp [enc] at hj; subst hj; simp [Addr.add]
          | 1, hj => simp [enc] at hj; subst hj; simp [Addr.add]
          | 2, hj => simp [enc] at hj; subst hj; simp [Addr.add]
        case c2 => intro u hu; simp [enc] at hu; rcases hu with rfl | rfl | rfl <;> rfl
        case c3 => unfold maxLen; omega
        case c4 => omega
        case c5 => simp; omega
        · intro v' w5 hown' hgrow _
          have hT : OwnE w3.heap.size v' (rr ++ [(x, y, z)]) w5 := by unfold OwnE; rw [ec_app, ec_one]; simpa using hown'
          have hgb : Below w3.heap.size _ w5 := grown_belowE hob2 hgrow (by simp; omega)
          have hbe : Below w3.heap.size w3 w5 := (hbr.trans ((below_box2 (Below.refl _ _)).mono hsr)).trans hgb
          clear hown' hgrow hgb hob hob2 hown hbr
          go_wp2_with fail
          exact ⟨⟨k + 1, by omega, by go_num, (by rw [hN.out]; exact hT), hbe⟩, by simp [intOf]; omega⟩
    · have hk' : k = es.length := by omega
      subst hk'
      rw [List.take_length] at hown
      obtain ⟨ra, rc, rfl, _, _⟩ := ownE_row hown
      have hne : (((restE a l es).length : Int) == (es.length : Int)) = true := by rw [beq_iff_eq]; rw [hFD.out]
      clear hR
      go_wp2_with fail
      refine bodyPost_ret (v := .tuple #[.slice none 0 0, .bool false]) (by simp [results, Try.results38, go_sem]) rfl ⟨rfl, hb.trans (hbr.mono hb.size)⟩
set_option maxRecDepth 100000 in
set_option maxHeartbeats 800000 in
theorem i_removeFrom_no1 (a0 : Option Addr) (len cap : Nat) (T : Nat → Nd) (a l : Int) (w : World) (hl : len ≤ 1048576) (hE : RowT a0 len T w) (hg : trieB len T = false) :
    Calls Try.prog 38 #[.slice a0 len cap, .agg #[.int .i64 a, .int .i64 l]] w fun e w' => e = .returned (.tuple #[.slice none 0 0, .bool false]) ∧ Below w.heap.size w w' := by
  have s1 := hide (fun w hE => i_trieEntries_no a0 len cap T w hl hE hg)
  have hE1 := fun o => hE.below (below_box (Below.refl (w.alloc o).heap.size (w.alloc o)))
  go_enter Try.func38, Try.ntmps38
  go_wp2_with fail
  refine (s1.out _ (hE1 _)).mono ?_
  rintro e w1 ⟨rfl, hb1⟩
  go_wp2_with fail
  refine bodyPost_ret (v := .tuple #[.slice none 0 0, .bool false]) (by simp [results, Try.results38, go_sem]) rfl ⟨rfl, below_box hb1⟩
end Go.Proofs.Ytjmflkheaioboab
