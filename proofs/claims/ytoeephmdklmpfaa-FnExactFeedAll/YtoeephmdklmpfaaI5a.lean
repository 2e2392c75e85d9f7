/- What the program's FeedAll answers. -/
import Derived.Test.YtoeephmdklmpfaaS5a
import Derived.Test.YtoeephmdklmpfaaW5f
import Derived.Test.YtoeephmdklmpfaaLone5
import Derived.KernelRfl
namespace Go.Proofs.Ytoeephmdklmpfaa
open Go.RowKit Go.Conc

/-- The channel c holds the pieces L. -/
def Chn (c cap : Nat) (L : List ByteArray) (s r : Nat) (w : World) : Prop := w.heap[c]? = some (.chan cap (L.map Value.string).toArray false s r false)
theorem Chn.lt {c cap s r : Nat} {L : List ByteArray} {w : World} (h : Chn c cap L s r w) : c < w.heap.size := by
  unfold Chn at h
  exact (Array.getElem?_eq_some_iff.1 h).1
theorem Chn.below {c cap s r : Nat} {L : List ByteArray} {w w' : World} (h : Chn c cap L s r w) (k : Below w.heap.size w w') : Chn c cap L s r w' := (k.block c h.lt).trans h
theorem Chn.only {c d cap s r : Nat} {L : List ByteArray} {w w' : World} (h : Chn c cap L s r w) (k : Only d w w') (hn : c ≠ d) : Chn c cap L s r w' := (k.2.2.2.2 c h.lt hn).trans h
theorem only_chan (w : World) (c cap : Nat) (buf : Array Value) (cl : Bool) (s r : Nat) (tm : Bool) : Only c w (w.setChan c cap buf cl s r tm) :=
  ⟨rfl, rfl, rfl, by simp [World.setChan], fun k _ hk => by simp only [World.setChan]; rw [Array.getElem?_setIfInBounds_ne (by omega)]⟩
theorem Chn.push {c cap s r : Nat} {L : List ByteArray} {w : World} (h : Chn c cap L s r w) (x : ByteArray) : Chn c cap (L ++ [x]) (s + 1) r (w.setChan c cap ((L.map Value.string).toArray.push (.string x)) false (s + 1) r false) := by
  unfold Chn
  rw [heap_setChan _ _ _ _ _ _ _ _ h.lt]
  simp
theorem Chn.pop {c cap s r : Nat} {L : List ByteArray} {x : ByteArray} {w : World} (h : Chn c cap (x :: L) s r w) : Chn c cap L s (r + 1) (w.setChan c cap ((((x :: L).map Value.string).toArray).extract 1 (((x :: L).map Value.string).toArray).size) false s (r + 1) false) := by
  unfold Chn
  rw [heap_setChan _ _ _ _ _ _ _ _ h.lt]
  simp
  rw [List.take_of_length_le (by simp)]
theorem take_next {ss : List ByteArray} {n : Nat} (h : n < ss.length) : ss.take n ++ [sAt ss n] = ss.take (n + 1) := by
  unfold sAt
  rw [List.take_add_one, List.getElem?_eq_getElem h, List.getD_eq_getElem?_getD, List.getElem?_eq_getElem h]
  rfl
theorem drop_next {ss : List ByteArray} {n : Nat} (h : n < ss.length) : ss.drop n = sAt ss n :: ss.drop (n + 1) := by
  unfold sAt
  rw [List.drop_eq_getElem_cons h, List.getD_eq_getElem?_getD, List.getElem?_eq_getElem h]
  rfl
theorem chan_mk (n : Nat) (hn : n ≤ 60) (w : World) : (Instr.makeChan 108 (.int .i64 n)).run Try.prog w = .ok (.chan (some w.heap.size)) (w.alloc (.chan n #[] false 0 0 false)) := by
  have h : (Try.prog.info? 9).map (·.bytes) = some 16 := by kernel_rfl
  obtain ⟨i, hi, hb⟩ := Option.map_eq_some_iff.1 h
  exact run_makeChan (P := Try.prog) (w := w) Try.underlying108 hi .i64 n (by omega) (by rw [hb]; omega)

set_option maxRecDepth 100000 in
set_option maxHeartbeats 6400000 in
theorem i_feedAll (a : Option Addr) (cap : Nat) (ss : List ByteArray) (w : World) (hl : ss.length ≤ 1048576) (hsz : ∀ k, k < ss.length → (sAt ss k).size ≤ 1048576) (hR : RowS a ss w) :
    Calls Try.prog 45 #[.slice a ss.length cap] w (FaA ss w) := by
  by_cases h60 : ss.length ≤ 60
  · have h60' : ¬ ((ss.length : Int) > 60) := by omega
    have hmk := chan_mk ss.length h60
    have d0 : Below w.heap.size w (w.alloc (.cells #[.string ⟨#[]⟩, .slice none 0 0, .int .i64 0] 48)) := below_box (Below.refl _ _)
    have MR := (Mut.new w #[.string ⟨#[]⟩, .slice none 0 0, .int .i64 0] 48).alloc (.chan ss.length #[] false 0 0 false)
    have hc0 : Chn (w.heap.size + 1) ss.length [] 0 0 ((w.alloc (.cells #[.string ⟨#[]⟩, .slice none 0 0, .int .i64 0] 48)).alloc (.chan ss.length #[] false 0 0 false)) := by
      have := heap_alloc_new (w.alloc (.cells #[.string ⟨#[]⟩, .slice none 0 0, .int .i64 0] 48)) (.chan ss.length #[] false 0 0 false)
      simpa [Chn] using this
    have d1 : Below w.heap.size w ((w.alloc (.cells #[.string ⟨#[]⟩, .slice none 0 0, .int .i64 0] 48)).alloc (.chan ss.length #[] false 0 0 false)) := below_box2 (Below.refl _ _)
    refine calls_of_Wn Try.func45 rfl ?_
    simp only [Try.ntmps45, List.size_toArray, List.length_cons, List.length_nil, Nat.reduceAdd, Nat.reduceSub, Array.replicate_succ, Array.replicate_zero, List.push_toArray, List.append_toArray, List.nil_append, List.cons_append]
    (refine Wn.seq ?_; refine Wn.of ?_; go_wp2_with fail)
    (refine Wn.seq ?_; refine Wn.of ?_; go_wp2_with fail)
    (refine Wn.seq ?_; refine Wn.of ?_; go_wp2_with fail)
    refine Wn.seq ?_
    (refine Wn.seq ?_; refine Wn.of ?_; go_wp2_with fail)
    refine Wn.block ?_
    generalize (w.alloc (.cells #[.string ⟨#[]⟩, .slice none 0 0, .int .i64 0] 48)).alloc (.chan ss.length #[] false 0 0 false) = W0 at *
    clear d0 hmk
    generalize Value.bool (decide ((60 : Int) < (ss.length : Int))) = j13
    refine Wn.loop ss.length (fun n A W => n ≤ ss.length ∧ (∃ j6 j21 j22 j23 j24 j25 j26, A = ⟨#[.slice a ss.length cap, undef, .pointer (some ⟨w.heap.size, 0, none⟩), .bool false, .chan (some (w.heap.size + 1)), undef, j6, undef, undef, undef, undef, .slice a ss.length cap, .int .i64 ss.length, j13, undef, .slice a ss.length cap, .int .i64 ss.length, .chan (some (w.heap.size + 1)), .slice a ss.length cap, .int .i64 ss.length, .int .i64 n, j21, j22, j23, j24, j25, j26, undef, undef, undef, undef, undef, undef, undef, undef, undef, undef, undef, undef, undef, undef, undef, undef, undef], []⟩) ∧ Chn (w.heap.size + 1) ss.length (ss.take n) n 0 W ∧ Mut W w.heap.size [.string ⟨#[]⟩, .slice none 0 0, .int .i64 0] ∧ Below w.heap.size w W) ⟨Nat.zero_le _, ⟨_, _, _, _, _, _, _, rfl⟩, hc0, MR, d1⟩ (fun n A W h => h.1) ?_
    clear hc0 MR d1
    rintro n A W ⟨hn, ⟨j6, j21, j22, j23, j24, j25, j26, rfl⟩, hc, MR, dw⟩
    by_cases hlt : n < ss.length
    · obtain ⟨b, off, rfl, hbw, x0⟩ := hR n hlt
      have x0 := (dw.cell (p := ⟨b, off + n, none⟩) hbw).trans x0
      have hlt' : (n : Int) < (ss.length : Int) := by omega
      clear hR hsz
      (refine Wn.seq ?_; refine Wn.of ?_; go_wp2_with fail)
      (refine Wn.seq ?_; refine Wn.of ?_; go_wp2_with fail)
      refine Wn.seq ?_
      refine Wn.block ?_
      (refine Wn.seq ?_; refine Wn.of ?_; go_wp2_with fail)
      refine Wn.region ?_
      show On _ _ _ [0, 1, 2] _ _
      refine On.value (w' := W) (.chan (some (w.heap.size + 1))) rfl rfl (by simp [go_sem, execOp, Act.eval]) ?_
      refine On.value (w' := W) (.string (sAt ss n)) rfl rfl (by simp [go_sem, execOp, Act.eval, Act.put]) ?_
      refine On.send (c := w.heap.size + 1) (v := .string (sAt ss n)) (z := .tuple #[]) rfl rfl (by simp [go_sem, execOp, Act.eval, Act.put, scase]) hc (by simp; omega) ?_
      refine On.nil ?_
      have hc2 := hc.push (sAt ss n)
      have oo := only_chan W (w.heap.size + 1) ss.length (((ss.take n).map Value.string).toArray.push (.string (sAt ss n))) false (n + 1) 0 false
      have MR2 := MR.only oo (by omega)
      have d2 := dw.trans ((oo.below (Nat.le_of_lt hc.lt)).mono (by omega))
      rw [take_next hlt] at hc2
      generalize W.setChan (w.heap.size + 1) ss.length (((ss.take n).map Value.string).toArray.push (.string (sAt ss n))) false (n + 1) 0 false = W2 at *
      walk_nrm
      clear hc MR dw oo x0
      refine Wn.of ?_
      go_wp2_with fail
      exact ⟨hlt, ⟨_, _, _, _, _, _, _, rfl⟩, hc2, MR2, d2⟩
    · have hn' : n = ss.length := by omega
      subst hn'
      clear hR
      rw [List.take_length] at hc
      have NR := hide (fun w => i_newReader w)
      (refine Wn.seq ?_; refine Wn.of ?_; go_wp2_with fail)
      (refine Wn.seq ?_; refine Wn.of ?_; go_wp2_with fail)
      (refine Wn.seq ?_; refine Wn.of ?_; go_wp2_with fail)
      refine (NR.out _).mono ?_
      rintro e W1 ⟨_, rfl, aN, cN, bN, rfl, hN, ON, bb⟩
      have ON1 := ON
      obtain ⟨rfl, zN⟩ := ON.1 (by simp)
      have MR1 := MR.below bb
      have d1 := dw.trans (bb.mono dw.size)
      have hc1 := hc.below bb
      have y1 := bb.size
      have yc := hc.lt
      have hN := hN (by simp)
      clear bb MR dw ON NR hc
      have bb : Below W1.heap.size W1 (W1.alloc (.cells #[.string ByteArray.empty, .slice (some ⟨bN, 0, none⟩) 1 cN, .int .i64 0] 48)) := below_box (Below.refl _ _)
      have MB := Mut.new W1 #[.string ByteArray.empty, .slice (some ⟨bN, 0, none⟩) 1 cN, .int .i64 0] 48
      have MR2 := MR1.below bb
      have ON2 := ON1.below bb
      have hc2 := hc1.below bb
      have d2 := d1.trans (bb.mono d1.size)
      clear bb MR1 ON1 d1 hc1
      go_wp2_with fail
      generalize hWW : W1.alloc (.cells #[.string ByteArray.empty, .slice (some ⟨bN, 0, none⟩) 1 cN, .int .i64 0] 48) = W2 at *
      clear hWW
      have hx : w.heap.size + 1 < W1.heap.size := by omega
      have hbx : bN ≠ W1.heap.size := by omega
      have hbw : w.heap.size + 1 < bN := by omega
      clear zN y1 yc hN
      generalize W1.heap.size = x at *
      refine Wn.block ?_
      refine Wn.loop ss.length (fun n A W => n ≤ ss.length ∧ (∃ j6 j8 j9 j10 j20 j21 j22 j23 j24 j25 j26 j27 j28 j29 j30 j31 j32 j33 j34 j35 j36 j37 j38 j39 j40 j41 j42 j43, A = ⟨#[.slice a ss.length cap, undef, .pointer (some ⟨w.heap.size, 0, none⟩), .bool false, .chan (some (w.heap.size + 1)), undef, j6, .pointer (some ⟨x, 0, none⟩), j8, j9, j10, .slice a ss.length cap, .int .i64 ss.length, j13, undef, .slice a ss.length cap, .int .i64 ss.length, .chan (some (w.heap.size + 1)), .slice a ss.length cap, .int .i64 ss.length, j20, j21, j22, j23, j24, j25, j26, j27, j28, j29, j30, j31, j32, j33, j34, j35, j36, j37, j38, j39, j40, j41, j42, j43], []⟩) ∧ (∃ (X : ByteArray) (L : List Ms) (B : Int) (c cp : Nat), Hid ((X, L, B) = faR (ss.take n)) ∧ Hid (∀ j, j < n → (sAt ss j).size ≤ 300) ∧ Mut W x [.string X, .slice (some ⟨c, 0, none⟩) L.length cp, .int .i64 B] ∧ WrM (some ⟨c, 0, none⟩) c L W ∧ c ≠ x ∧ w.heap.size + 1 < c) ∧ Chn (w.heap.size + 1) ss.length (ss.drop n) ss.length n W ∧ Mut W w.heap.size [.string ⟨#[]⟩, .slice none 0 0, .int .i64 0] ∧ Below w.heap.size w W) ⟨Nat.zero_le _, ⟨_, _, _, _, _, _, _, _, _, _, _, _, _, _, _, _, _, _, _, _, _, _, _, _, _, _, _, _, rfl⟩, ⟨ByteArray.empty, [(4, ByteArray.empty)], 0, bN, cN, by show _ = _; rfl, fun j hj => absurd hj (Nat.not_lt_zero _), MB, ON2, hbx, hbw⟩, hc2, MR2, d2⟩ (fun n A W h => h.1) ?_
      clear MB ON2 MR2 d2 hc2 hbx hbw
      rintro n A W ⟨hn, ⟨j6, j8, j9, j10, j20, j21, j22, j23, j24, j25, j26, j27, j28, j29, j30, j31, j32, j33, j34, j35, j36, j37, j38, j39, j40, j41, j42, j43, rfl⟩, ⟨X, L, B, c, cp, hst, hpc, MB, OL, hcb, hcw⟩, hc, MR, dw⟩
      have hgood : grB X L B = true := by
        have := faR_good (ss.take n)
        rw [← hst.out] at this
        exact this
      obtain ⟨g1, _, _, _, g5, g6⟩ := gr_len hgood
      have gX := rest_len g5 g6
      refine Wn.block ?_
      (refine Wn.seq ?_; refine Wn.of ?_; go_wp2_with fail)
      refine Wn.seq ?_
      refine Wn.region ?_
      show On _ _ _ [0, 1, 2] _ _
      by_cases hlt : n < ss.length
      · have hsk := hsz n hlt
        rw [drop_next hlt] at hc
        refine On.take (c := w.heap.size + 1) (z := .string ⟨#[]⟩) rfl rfl (by simp [go_sem, execOp, Act.eval, rcase]) hc (by simp) ?_
        have hc2 := hc.pop
        have oo := only_chan W (w.heap.size + 1) ss.length (((sAt ss n :: ss.drop (n + 1)).map Value.string).toArray.extract 1 ((sAt ss n :: ss.drop (n + 1)).map Value.string).toArray.size) false ss.length (n + 1) false
        have MR2 := MR.only oo (by omega)
        have MB2 := MB.only oo (by omega)
        have OL2 := OL.only oo (fun _ => by omega)
        have d2 := dw.trans ((oo.below (Nat.le_of_lt hc.lt)).mono (by omega))
        generalize W.setChan (w.heap.size + 1) ss.length (((sAt ss n :: ss.drop (n + 1)).map Value.string).toArray.extract 1 ((sAt ss n :: ss.drop (n + 1)).map Value.string).toArray.size) false ss.length (n + 1) false = W2 at *
        clear hc MR MB OL dw oo
        refine On.value (w' := W2) (.int .i64 0) rfl rfl (by simp [go_sem, execOp, Act.eval, Act.put]) ?_
        refine On.value (w' := W2) (.bool true) rfl rfl (by simp [go_sem, execOp, Act.eval, Act.put]) ?_
        refine On.nil ?_
        walk_nrm
        simp only [Exit.then]
        refine Wn.block ?_
        refine Wn.of ?_
        have cu0 := MB2.2.1 0 _ rfl
        have cu1 := MB2.2.1 1 _ rfl
        have cu2 := MB2.2.1 2 _ rfl
        by_cases h3 : (sAt ss n).size ≤ 300
        · have F := hide (fun w hR => i_feed_yes X c cp L B (sAt ss n) w (by omega) (by omega) h3 hgood hR)
          have hst2 := hide (show (fdX X B (sAt ss n), fdL X L B (sAt ss n), fdB X B (sAt ss n)) = faR (ss.take (n + 1)) by rw [faR_next hlt, ← hst.out]; rfl)
          have hne : fdL X L B (sAt ss n) ≠ [] := by
            have := faR_ne (ss.take (n + 1))
            rw [← hst2.out] at this
            exact this
          have hpc2 := hide (show ∀ j, j < n + 1 → (sAt ss j).size ≤ 300 from fun j hj => by
            by_cases e : j = n
            · rw [e]; exact h3
            · exact hpc.out j (by omega))
          generalize fdX X B (sAt ss n) = X2 at *
          generalize fdL X L B (sAt ss n) = L2 at *
          generalize fdB X B (sAt ss n) = B2 at *
          clear hgood g1 g5 g6 hst hpc hsk
          go_wp2_with fail
          refine (F.out _ OL2.row).mono ?_
          rintro e W3 ⟨_, rfl, a3, cp3, c3, rfl, h3c, O3, bb⟩
          obtain ⟨rfl, z3⟩ := O3.1 hne
          have h3c := h3c hne
          have zb := MB2.1
          have zc := hc2.lt
          have MB3 := MB2.below bb
          have MR3 := MR2.below bb
          have hc3 := hc2.below bb
          have d3 := d2.trans (bb.mono d2.size)
          have y3 := bb.size
          clear bb OL2 cu0 cu1 cu2 MB2 MR2 d2 F hc2
          have b3 : Below W3.heap.size W3 (W3.alloc (.cells #[.string X2, .slice (some ⟨c3, 0, none⟩) L2.length cp3, .int .i64 B2] 48)) := below_box (Below.refl _ _)
          have MB4 := MB3.below b3
          have MR4 := MR3.below b3
          have O4 := O3.below b3
          have hc4 := hc3.below b3
          have d4 := d3.trans (b3.mono d3.size)
          have t0 := MB4.2.1 0 _ rfl
          have t1 := MB4.2.1 1 _ rfl
          have t2 := MB4.2.1 2 _ rfl
          have f0 := MB4.2.2 0 (by simp)
          have f1 := MB4.2.2 1 (by simp)
          have f2 := MB4.2.2 2 (by simp)
          clear b3 MB3 MR3 O3 d3 hc3
          go_wp2_with fail
          generalize hWW : W3.alloc (.cells #[.string X2, .slice (some ⟨c3, 0, none⟩) L2.length cp3, .int .i64 B2] 48) = W4 at *
          clear hWW
          have oo : Only x W4 (((W4.setCell ⟨x, 0, none⟩ (.string X2)).setCell ⟨x, 1, none⟩ (.slice (some ⟨c3, 0, none⟩) L2.length cp3)).setCell ⟨x, 2, none⟩ (.int .i64 B2)) := (((Only.refl _ _).setCell _ _).setCell _ _).setCell _ _
          have MB5 := ((MB4.set 0 (.string X2)).set 1 (.slice (some ⟨c3, 0, none⟩) L2.length cp3)).set 2 (.int .i64 B2)
          simp only [List.set_cons_succ, List.set_cons_zero] at MB5
          exact ⟨hlt, ⟨_, _, _, _, _, _, _, _, _, _, _, _, _, _, _, _, _, _, _, _, _, _, _, _, _, _, _, _, rfl⟩, ⟨X2, L2, B2, c3, cp3, hst2.out, hpc2.out, MB5, O4.only oo (fun _ => by omega), by omega, by omega⟩, hc4.only oo (by omega), MR4.only oo (by omega), d4.trans ((oo.below (by have := MB4.1; omega)).mono (by omega))⟩
        · have F := hide (fun w hR => i_feed_no X c cp L B (sAt ss n) w (by omega) (by omega) hsk (.inr h3) hR)
          have hno := hide (fa_piece hlt h3)
          clear hgood g1 g5 g6 hst hpc hsk hsz
          go_wp2_with fail
          refine (F.out _ OL2.row).mono ?_
          rintro e W3 ⟨_, rfl, a3, cp3, c3, rfl, _, _, bb⟩
          have MR3 := MR2.below bb
          have d3 := d2.trans (bb.mono d2.size)
          clear bb OL2 cu0 cu1 cu2 MB2 MR2 d2 F hc2
          have b3 : Below W3.heap.size W3 (W3.alloc (.cells #[.string ByteArray.empty, .slice a3 0 cp3, .int .i64 0] 48)) := below_box (Below.refl _ _)
          have MR4 := MR3.below b3
          have d4 := d3.trans (b3.mono d3.size)
          have m0 := MR4.2.1 0 _ rfl
          have m1 := MR4.2.1 1 _ rfl
          have m2 := MR4.2.1 2 _ rfl
          have f0 := MR4.2.2 0 (by simp)
          have f1 := MR4.2.2 1 (by simp)
          have f2 := MR4.2.2 2 (by simp)
          have yz := MR4.1
          clear b3 MR3 d3 MR4
          simp only [List.length_nil]
          go_wp2_with fail
          generalize hWW : W3.alloc (.cells #[.string ByteArray.empty, .slice a3 0 cp3, .int .i64 0] 48) = W4 at *
          clear hWW
          have o1 : Only w.heap.size W4 (((W4.setCell ⟨w.heap.size, 0, none⟩ (.string ⟨#[]⟩)).setCell ⟨w.heap.size, 1, none⟩ (.slice none 0 0)).setCell ⟨w.heap.size, 2, none⟩ (.int .i64 0)) := (((Only.refl _ _).setCell _ _).setCell _ _).setCell _ _
          have d5 := d4.trans (o1.below (by omega))
          clear o1
          exact bodyPost_ret (v := .tuple #[.agg #[.string ByteArray.empty, .slice none 0 0, .int .i64 0], .bool false]) (by simp [results, Try.results45, go_sem, *] <;> rfl) rfl ⟨fun h => absurd h (by rw [hno.out]; decide), fun _ => ⟨_, rfl, none, 0, 0, rfl, fun h => absurd rfl h, WrM.nil _ _ _, d5⟩⟩
      · have hn' : n = ss.length := by omega
        subst hn'
        rw [List.take_length] at hst
        rw [List.drop_length] at hc
        have hyes := hide (fa_all h60 hpc.out)
        refine On.none (c := w.heap.size + 1) (z := .string ⟨#[]⟩) rfl rfl (by simp [go_sem, execOp, Act.eval, rcase]) hc ?_
        refine On.value (w' := W) (.int .i64 (-1)) rfl rfl (by simp [go_sem, execOp, Act.eval, Act.put]) ?_
        refine On.value (w' := W) (.bool false) rfl rfl (by simp [go_sem, execOp, Act.eval, Act.put]) ?_
        refine On.nil ?_
        walk_nrm
        simp only [Exit.then]
        refine Wn.block ?_
        refine Wn.of ?_
        have cu0 := MB.2.1 0 _ rfl
        have cu1 := MB.2.1 1 _ rfl
        have cu2 := MB.2.1 2 _ rfl
        have m0 := MR.2.1 0 _ rfl
        have m1 := MR.2.1 1 _ rfl
        have m2 := MR.2.1 2 _ rfl
        have f0 := MR.2.2 0 (by simp)
        have f1 := MR.2.2 1 (by simp)
        have f2 := MR.2.2 2 (by simp)
        have zb := MB.1
        have zr := MR.1
        clear MB MR hgood g1 g5 g6 gX hsz hpc hc
        go_wp2_with fail
        have o1 : Only w.heap.size W (((W.setCell ⟨w.heap.size, 0, none⟩ (.string X)).setCell ⟨w.heap.size, 1, none⟩ (.slice (some ⟨c, 0, none⟩) L.length cp)).setCell ⟨w.heap.size, 2, none⟩ (.int .i64 B)) := (((Only.refl _ _).setCell _ _).setCell _ _).setCell _ _
        have O5 := OL.only o1 (fun _ => by omega)
        have d5 := dw.trans (o1.below (by omega))
        clear o1 OL dw
        exact bodyPost_ret (v := .tuple #[.agg #[.string X, .slice (some ⟨c, 0, none⟩) L.length cp, .int .i64 B], .bool true]) (by simp [results, Try.results45, go_sem, *]) rfl ⟨fun _ => ⟨_, rfl, by rw [← hst.out]; exact ⟨_, cp, c, rfl, fun _ => by omega, O5, d5⟩⟩, fun h => absurd h (by rw [hyes.out]; decide)⟩
  · have h60' : (ss.length : Int) > 60 := by omega
    have hno := hide (fa_long h60)
    have d5 : Below w.heap.size w (w.alloc (.cells #[.string ⟨#[]⟩, .slice none 0 0, .int .i64 0] 48)) := below_box (Below.refl _ _)
    clear hR hsz
    refine calls_of_Wn Try.func45 rfl ?_
    simp only [Try.ntmps45, List.size_toArray, List.length_cons, List.length_nil, Nat.reduceAdd, Nat.reduceSub, Array.replicate_succ, Array.replicate_zero, List.push_toArray, List.append_toArray, List.nil_append, List.cons_append]
    (refine Wn.seq ?_; refine Wn.of ?_; go_wp2_with fail)
    (refine Wn.seq ?_; refine Wn.of ?_; go_wp2_with fail)
    exact bodyPost_ret (v := .tuple #[.agg #[.string ByteArray.empty, .slice none 0 0, .int .i64 0], .bool false]) (by simp [results, Try.results45, go_sem] <;> rfl) rfl ⟨fun h => absurd h (by rw [hno.out]; decide), fun _ => ⟨_, rfl, none, 0, 0, rfl, fun h => absurd rfl h, WrM.nil _ _ _, d5⟩⟩
end Go.Proofs.Ytoeephmdklmpfaa
