/- What the specification's FeedAll answers. -/
import Derived.Test.YtoeephmdklmpfaaS5f
import Derived.Test.YtoeephmdklmpfaaFall5
namespace Go.Proofs.Ytoeephmdklmpfaa
open Go.RowKit

theorem fa_long {ss : List ByteArray} (h : ¬ ss.length ≤ 60) : faOk ss = false := by unfold faOk; rw [decide_eq_false h]; rfl
theorem fa_piece {ss : List ByteArray} {k : Nat} (hk : k < ss.length) (h : ¬ (sAt ss k).size ≤ 300) : faOk ss = false := by
  unfold faOk
  rw [Bool.and_eq_false_iff]
  right
  rw [List.all_eq_false]
  refine ⟨ss[k], List.getElem_mem hk, ?_⟩
  have e : sAt ss k = ss[k] := by unfold sAt; rw [List.getD_eq_getElem?_getD, List.getElem?_eq_getElem hk]; rfl
  rw [e] at h
  simpa using h
theorem fa_all {ss : List ByteArray} (hl : ss.length ≤ 60) (h : ∀ k, k < ss.length → (sAt ss k).size ≤ 300) : faOk ss = true := by
  unfold faOk
  rw [decide_eq_true hl, Bool.true_and, List.all_eq_true]
  intro s hs
  obtain ⟨k, hk, e⟩ := List.getElem_of_mem hs
  have e2 : sAt ss k = ss[k] := by unfold sAt; rw [List.getD_eq_getElem?_getD, List.getElem?_eq_getElem hk]; rfl
  have := h k hk
  rw [e2, e] at this
  simpa using this
/-- What FeedAll answers. -/
def FaA (ss : List ByteArray) (w : World) (e : Ending) (w' : World) : Prop :=
  (faOk ss = true → ∃ v, e = .returned (.tuple #[v, .bool true]) ∧ AnsR (faR ss).1 (faR ss).2.1 (faR ss).2.2 w v w') ∧ (faOk ss = false → ∃ v, e = .returned (.tuple #[v, .bool false]) ∧ AnsR ByteArray.empty [] 0 w v w')
set_option maxRecDepth 100000 in
set_option maxHeartbeats 6400000 in
theorem s_feedAll (a : Option Addr) (cap : Nat) (ss : List ByteArray) (w : World) (hl : ss.length ≤ 1048576) (hsz : ∀ k, k < ss.length → (sAt ss k).size ≤ 1048576) (hR : RowS a ss w) :
    Calls Try.prog 43 #[.slice a ss.length cap] w (FaA ss w) := by
  by_cases h60 : ss.length ≤ 60
  · have h60' : ¬ ((ss.length : Int) > 60) := by omega
    have NR := hide (fun w => s_newReader w)
    have MR := Mut.new w #[.string ⟨#[]⟩, .slice none 0 0, .int .i64 0] 48
    have d0 : Below w.heap.size w (w.alloc (.cells #[.string ⟨#[]⟩, .slice none 0 0, .int .i64 0] 48)) := below_box (Below.refl _ _)
    have y0 : w.heap.size < (w.alloc (.cells #[.string ⟨#[]⟩, .slice none 0 0, .int .i64 0] 48)).heap.size := by simp
    go_enter Try.func43, Try.ntmps43
    go_wp2_with fail
    generalize hWW : w.alloc (.cells #[.string ⟨#[]⟩, .slice none 0 0, .int .i64 0] 48) = W0 at *
    clear hWW
    refine (NR.out _).mono ?_
    rintro e W1 ⟨_, rfl, aN, cN, bN, rfl, hN, ON, bb⟩
    have ON1 := ON
    obtain ⟨rfl, zN⟩ := ON.1 (by simp)
    have MR1 := MR.below bb
    have d1 := d0.trans (bb.mono d0.size)
    have y1 := bb.size
    clear bb MR d0 ON NR
    have bb : Below W1.heap.size W1 (W1.alloc (.cells #[.string ByteArray.empty, .slice (some ⟨bN, 0, none⟩) 1 cN, .int .i64 0] 48)) := below_box (Below.refl _ _)
    have MB := Mut.new W1 #[.string ByteArray.empty, .slice (some ⟨bN, 0, none⟩) 1 cN, .int .i64 0] 48
    have MR2 := MR1.below bb
    have ON2 := ON1.below bb
    have d2 := d1.trans (bb.mono d1.size)
    have y2 : W1.heap.size < (W1.alloc (.cells #[.string ByteArray.empty, .slice (some ⟨bN, 0, none⟩) 1 cN, .int .i64 0] 48)).heap.size := by simp
    clear bb MR1 ON1 d1
    go_wp2_with fail
    generalize hWW : W1.alloc (.cells #[.string ByteArray.empty, .slice (some ⟨bN, 0, none⟩) 1 cN, .int .i64 0] 48) = W2 at *
    clear hWW
    go_loopw [16] (fun i wr => ∃ (k : Nat) (X : ByteArray) (L : List Ms) (B : Int) (c cp : Nat), k ≤ ss.length ∧ i = .int .i64 k ∧ Hid ((X, L, B) = faR (ss.take k)) ∧ Hid (∀ j, j < k → (sAt ss j).size ≤ 300) ∧ Mut wr W1.heap.size [.string X, .slice (some ⟨c, 0, none⟩) L.length cp, .int .i64 B] ∧ WrM (some ⟨c, 0, none⟩) c L wr ∧ c ≠ W1.heap.size ∧ w.heap.size < c ∧ Mut wr w.heap.size [.string ⟨#[]⟩, .slice none 0 0, .int .i64 0] ∧ Below w.heap.size w wr) (fun i _ => ss.length - (intOf i).toNat)
    case atStart => exact ⟨0, ByteArray.empty, [(4, ByteArray.empty)], 0, bN, cN, Nat.zero_le _, rfl, by show _ = _; rfl, fun j hj => absurd hj (Nat.not_lt_zero _), MB, ON2, by omega, by have := hN (by simp); have := MR2.1; omega, MR2, d2⟩
    case round =>
      clear MB ON2 MR2 d2
      obtain ⟨k, X, L, B, c, cp, hk, rfl, hst, hpc, MB, OL, hcb, hcw, MR, dw⟩ := hrel
      have hgood : grB X L B = true := by
        have := faR_good (ss.take k)
        rw [← hst.out] at this
        exact this
      obtain ⟨g1, _, _, _, g5, g6⟩ := gr_len hgood
      have gX := rest_len g5 g6
      by_cases hlt : k < ss.length
      · obtain ⟨b, off, rfl, hbw, x0⟩ := hR k hlt
        have x0 := (dw.cell (p := ⟨b, off + k, none⟩) hbw).trans x0
        have hlt' : (k : Int) < (ss.length : Int) := by omega
        have hsk := hsz k hlt
        have cu0 := MB.2.1 0 _ rfl
        have cu1 := MB.2.1 1 _ rfl
        have cu2 := MB.2.1 2 _ rfl
        by_cases h3 : (sAt ss k).size ≤ 300
        · have F := hide (fun w hR => s_feed_yes X c cp L B (sAt ss k) w (by omega) (by omega) h3 hgood hR)
          have hst2 := hide (show (fdX X B (sAt ss k), fdL X L B (sAt ss k), fdB X B (sAt ss k)) = faR (ss.take (k + 1)) by rw [faR_next hlt, ← hst.out]; rfl)
          have hne : fdL X L B (sAt ss k) ≠ [] := by
            have := faR_ne (ss.take (k + 1))
            rw [← hst2.out] at this
            exact this
          have hpc2 := hide (show ∀ j, j < k + 1 → (sAt ss j).size ≤ 300 from fun j hj => by
            by_cases e : j = k
            · rw [e]; exact h3
            · exact hpc.out j (by omega))
          generalize fdX X B (sAt ss k) = X2 at *
          generalize fdL X L B (sAt ss k) = L2 at *
          generalize fdB X B (sAt ss k) = B2 at *
          clear hgood g1 g5 g6 hst hpc hR hsz hsk
          go_wp2_with fail
          refine (F.out _ OL.row).mono ?_
          rintro e W3 ⟨_, rfl, a3, cp3, c3, rfl, h3c, O3, bb⟩
          obtain ⟨rfl, z3⟩ := O3.1 hne
          have h3c := h3c hne
          have zb := MB.1
          have MB3 := MB.below bb
          have MR3 := MR.below bb
          have d3 := dw.trans (bb.mono dw.size)
          have y3 := bb.size
          clear bb OL x0 cu0 cu1 cu2 MB MR dw F
          have b3 : Below W3.heap.size W3 (W3.alloc (.cells #[.string X2, .slice (some ⟨c3, 0, none⟩) L2.length cp3, .int .i64 B2] 48)) := below_box (Below.refl _ _)
          have MB4 := MB3.below b3
          have MR4 := MR3.below b3
          have O4 := O3.below b3
          have d4 := d3.trans (b3.mono d3.size)
          have t0 := MB4.2.1 0 _ rfl
          have t1 := MB4.2.1 1 _ rfl
          have t2 := MB4.2.1 2 _ rfl
          have f0 := MB4.2.2 0 (by simp)
          have f1 := MB4.2.2 1 (by simp)
          have f2 := MB4.2.2 2 (by simp)
          clear b3 MB3 MR3 O3 d3
          go_wp2_with fail
          generalize hWW : W3.alloc (.cells #[.string X2, .slice (some ⟨c3, 0, none⟩) L2.length cp3, .int .i64 B2] 48) = W4 at *
          clear hWW
          have oo : Only W1.heap.size W4 (((W4.setCell ⟨W1.heap.size, 0, none⟩ (.string X2)).setCell ⟨W1.heap.size, 1, none⟩ (.slice (some ⟨c3, 0, none⟩) L2.length cp3)).setCell ⟨W1.heap.size, 2, none⟩ (.int .i64 B2)) := (((Only.refl _ _).setCell _ _).setCell _ _).setCell _ _
          have MB5 := ((MB4.set 0 (.string X2)).set 1 (.slice (some ⟨c3, 0, none⟩) L2.length cp3)).set 2 (.int .i64 B2)
          simp only [List.set_cons_succ, List.set_cons_zero] at MB5
          have yz := MR4.1
          exact ⟨⟨k + 1, X2, L2, B2, c3, cp3, by omega, by go_num, hst2.out, hpc2.out, MB5, O4.only oo (fun _ => by omega), by omega, by omega, MR4.only oo (by omega), d4.trans ((oo.below (by have := MB4.1; omega)).mono (by omega))⟩, by simp [intOf]; omega⟩
        · have F := hide (fun w hR => s_feed_no X c cp L B (sAt ss k) w (by omega) (by omega) hsk (.inr h3) hR)
          have hno := hide (fa_piece hlt h3)
          clear hgood g1 g5 g6 hst hpc hR hsz hsk
          go_wp2_with fail
          refine (F.out _ OL.row).mono ?_
          rintro e W3 ⟨_, rfl, a3, cp3, c3, rfl, _, _, bb⟩
          have MR3 := MR.below bb
          have d3 := dw.trans (bb.mono dw.size)
          clear bb OL x0 cu0 cu1 cu2 MB MR dw F
          have b3 : Below W3.heap.size W3 (W3.alloc (.cells #[.string ByteArray.empty, .slice a3 0 cp3, .int .i64 0] 48)) := below_box (Below.refl _ _)
          have MR4 := MR3.below b3
          have d4 := d3.trans (b3.mono d3.size)
          have m0 := MR4.2.1 0 _ rfl
          have m1 := MR4.2.1 1 _ rfl
          have m2 := MR4.2.1 2 _ rfl
          have f0 := MR4.2.2 0 (by simp)
          have f1 := MR4.2.2 1 (by simp)
          have f2 := MR4.2.2 2 (by simp)
          have yz := MR4.1
          clear b3 MR3 d3 MR4
          simp only [List.length_nil]
          go_wp2_with fail
          generalize hWW : W3.alloc (.cells #[.string ByteArray.empty, .slice a3 0 cp3, .int .i64 0] 48) = W4 at *
          clear hWW
          have o1 : Only w.heap.size W4 (((W4.setCell ⟨w.heap.size, 0, none⟩ (.string ⟨#[]⟩)).setCell ⟨w.heap.size, 1, none⟩ (.slice none 0 0)).setCell ⟨w.heap.size, 2, none⟩ (.int .i64 0)) := (((Only.refl _ _).setCell _ _).setCell _ _).setCell _ _
          have d5 := d4.trans (o1.below (by omega))
          clear o1
          exact bodyPost_ret (v := .tuple #[.agg #[.string ByteArray.empty, .slice none 0 0, .int .i64 0], .bool false]) (by simp [results, Try.results43, go_sem, *] <;> rfl) rfl ⟨fun h => absurd h (by rw [hno.out]; decide), fun _ => ⟨_, rfl, none, 0, 0, rfl, fun h => absurd rfl h, WrM.nil _ _ _, d5⟩⟩
      · have hk' : k = ss.length := by omega
        subst hk'
        rw [List.take_length] at hst
        have hyes := hide (fa_all h60 hpc.out)
        have cu0 := MB.2.1 0 _ rfl
        have cu1 := MB.2.1 1 _ rfl
        have cu2 := MB.2.1 2 _ rfl
        have m0 := MR.2.1 0 _ rfl
        have m1 := MR.2.1 1 _ rfl
        have m2 := MR.2.1 2 _ rfl
        have f0 := MR.2.2 0 (by simp)
        have f1 := MR.2.2 1 (by simp)
        have f2 := MR.2.2 2 (by simp)
        have zb := MB.1
        have zr := MR.1
        clear MB MR hgood g1 g5 g6 gX hR hsz hpc
        go_wp2_with fail
        have o1 : Only w.heap.size wr (((wr.setCell ⟨w.heap.size, 0, none⟩ (.string X)).setCell ⟨w.heap.size, 1, none⟩ (.slice (some ⟨c, 0, none⟩) L.length cp)).setCell ⟨w.heap.size, 2, none⟩ (.int .i64 B)) := (((Only.refl _ _).setCell _ _).setCell _ _).setCell _ _
        have O5 := OL.only o1 (fun _ => by omega)
        have d5 := dw.trans (o1.below (by omega))
        clear o1 OL dw
        exact bodyPost_ret (v := .tuple #[.agg #[.string X, .slice (some ⟨c, 0, none⟩) L.length cp, .int .i64 B], .bool true]) (by simp [results, Try.results43, go_sem, *]) rfl ⟨fun _ => ⟨_, rfl, by rw [← hst.out]; exact ⟨_, cp, c, rfl, fun _ => by omega, O5, d5⟩⟩, fun h => absurd h (by rw [hyes.out]; decide)⟩
  · have h60' : (ss.length : Int) > 60 := by omega
    have hno := hide (fa_long h60)
    have d5 : Below w.heap.size w (w.alloc (.cells #[.string ⟨#[]⟩, .slice none 0 0, .int .i64 0] 48)) := below_box (Below.refl _ _)
    clear hR hsz
    go_enter Try.func43, Try.ntmps43
    go_wp2_with fail
    exact bodyPost_ret (v := .tuple #[.agg #[.string ByteArray.empty, .slice none 0 0, .int .i64 0], .bool false]) (by simp [results, Try.results43, go_sem] <;> rfl) rfl ⟨fun h => absurd h (by rw [hno.out]; decide), fun _ => ⟨_, rfl, none, 0, 0, rfl, fun h => absurd rfl h, WrM.nil _ _ _, d5⟩⟩
end Go.Proofs.Ytoeephmdklmpfaa
