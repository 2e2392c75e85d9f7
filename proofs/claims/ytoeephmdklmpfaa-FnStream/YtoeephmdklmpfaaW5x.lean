/- The law FnStream: what is read hangs on no cuts of the stream. -/
import Derived.Test.YtoeephmdklmpfaaW5s
import Derived.Test.YtoeephmdklmpfaaJoin5
import Derived.Test.YtoeephmdklmpfaaDe
import Derived.Test.YtoeephmdklmpfaaW5c
namespace Go.Proofs.Ytoeephmdklmpfaa
open Go.RowKit

theorem fa_ans (ss : List ByteArray) (hl : ss.length ≤ 120) (hs : ∀ s ∈ ss, s.size ≤ 1302) : ∃ (X : ByteArray) (K : List Ms) (B : Int) (f : Bool), X.size ≤ 65 ∧ K.length ≤ 40 ∧
    (f = true → grB X K B = true ∧ ∀ (c cap : Nat) (w : World), (cat ss).size ≤ 300 → RowS (some ⟨c, 0, none⟩) [cat ss] w → Calls Try.prog 45 #[.slice (some ⟨c, 0, none⟩) 1 cap] w fun e w' => ∃ v, e = .returned (.tuple #[v, .bool true]) ∧ AnsR X K B w v w') ∧
    (∀ (a : Option Addr) (cap : Nat) (w : World), RowS a ss w → Calls Try.prog 43 #[.slice a ss.length cap] w fun e w' => ∃ v, e = .returned (.tuple #[v, .bool f]) ∧ AnsR X K B w v w') ∧
    (∀ (a : Option Addr) (cap : Nat) (w : World), RowS a ss w → Calls Try.prog 45 #[.slice a ss.length cap] w fun e w' => ∃ v, e = .returned (.tuple #[v, .bool f]) ∧ AnsR X K B w v w') := by
  have hz : ∀ k, k < ss.length → (sAt ss k).size ≤ 1048576 := fun k hk => by
    have e : sAt ss k = ss[k] := by unfold sAt; rw [List.getD_eq_getElem?_getD, List.getElem?_eq_getElem hk]; rfl
    have := hs _ (List.getElem_mem hk)
    rw [e]
    omega
  have S := fun a cap w hR => s_feedAll a cap ss w (by omega) hz hR
  have I := fun a cap w hR => i_feedAll a cap ss w (by omega) hz hR
  cases ho : faOk ss with
  | true =>
    have hg := faR_good ss
    obtain ⟨g1, _, _, _, g5, g6⟩ := gr_len hg
    refine ⟨(faR ss).1, (faR ss).2.1, (faR ss).2.2, true, rest_len g5 g6, g1, fun _ => ⟨hg, fun c cap w h3 hR => ?_⟩, fun a cap w hR => (S a cap w hR).mono fun _ _ h => h.1 ho, fun a cap w hR => (I a cap w hR).mono fun _ _ h => h.1 ho⟩
    have k := i_feedAll (some ⟨c, 0, none⟩) cap [cat ss] w (by simp) (fun k hk => by
      obtain rfl : k = 0 := by simpa using hk
      show (cat ss).size ≤ _
      omega) hR
    refine k.mono fun _ _ h => ?_
    have := h.1 (faOk_one _ h3)
    rw [faR_cat] at this
    exact this
  | false => exact ⟨ByteArray.empty, [], 0, false, by decide, by simp, fun h => absurd h (by decide), fun a cap w hR => (S a cap w hR).mono fun _ _ h => h.2 ho, fun a cap w hR => (I a cap w hR).mono fun _ _ h => h.2 ho⟩
theorem ca_ans (s : ByteArray) (hs : s.size ≤ 1302) : ∃ (CL : List Ms) (CR : ByteArray) (CC : Int) (CF : Bool), CL.length ≤ 300 ∧
    (∀ w : World, Calls Try.prog 27 #[.string s] w fun e w' => ∃ v, e = .returned (.tuple #[v, .string CR, .int .i64 CC, .bool CF]) ∧ OwnM w.heap.size v CL w' ∧ Below w.heap.size w w') ∧
    (∀ w : World, Calls Try.prog 26 #[.string s] w fun e w' => ∃ v, e = .returned (.tuple #[v, .string CR, .int .i64 CC, .bool CF]) ∧ OwnM w.heap.size v CL w' ∧ Below w.heap.size w w') :=
  ⟨caL s, caR s, caC s, caF s, caL_len s, fun w => i_cutAll s w (by unfold maxLen; omega), fun w => s_cutAll s w (by unfold maxLen; omega)⟩
theorem cat_size {ss : List ByteArray} (hs : ∀ s ∈ ss, s.size ≤ 1302) : ∀ k, k ≤ ss.length → (cat (ss.take k)).size ≤ 1302 * k := by
  intro k
  induction k with
  | zero => intro _; simp [cat]
  | succ k ih =>
    intro hk
    have e : sAt ss k = ss[k] := by unfold sAt; rw [List.getD_eq_getElem?_getD, List.getElem?_eq_getElem (by omega)]; rfl
    have h1 := hs _ (List.getElem_mem (show k < ss.length by omega))
    rw [cat_next (by omega), app_size, e]
    have := ih (by omega)
    omega
theorem RowS.one (w : World) (s : ByteArray) (t : TypeId) : RowS (some ⟨w.heap.size, 0, none⟩) [s] (w.alloc (.cells #[.string s] t)) := by
  intro i hi
  obtain rfl : i = 0 := by simpa using hi
  exact ⟨_, 0, rfl, by simp, by simp [go_sem, sAt]⟩
set_option maxRecDepth 100000 in
set_option maxHeartbeats 12800000 in
theorem w_stream (v1 v2 : Value) (len1 len2 : Nat) (w : World) (hby1 : BytesAt w.heap.size w v1 len1) (hby2 : BytesAt w.heap.size w v2 len2) :
    Calls Try.prog 12 #[v1, v2] w fun e w' => e = .returned (.bool true) ∧ Below w.heap.size w w' := by
  have hA := hide (fun w' (k : Below w.heap.size w w') => bytes_to5 hby1 k k.size)
  have hM := hide (fun w' (k : Below w.heap.size w w') => bytes_to5 hby2 k k.size)
  obtain ⟨p1, cap1, rfl, hl1, _⟩ := hby1
  obtain ⟨p2, cap2, rfl, hl2, _⟩ := hby2
  unfold maxLen at hl1 hl2
  have sD := hide (fun w h => d_feedAll (.slice p1 len1 cap1) len1 w h)
  have sC := hide (fun w h => d_cutAll (.slice p2 len2 cap2) len2 w h)
  have d0 : Below w.heap.size w w := Below.refl _ _
  go_enter Try.func12, Try.ntmps12
  go_wp2_with fail
  · go_ret
    exact ⟨rfl, d0⟩
  clear hl1 hl2
  refine (sD.out _ (hA.out _ d0)).mono ?_
  rintro e W1 ⟨la, lc, ss, rfl, hl, hs, hrow, bb⟩
  have d1 := d0.trans (bb.mono d0.size)
  have y1 := bb.size
  clear bb
  obtain ⟨X, K, B, f, hX, hK, hT, kS, kI⟩ := fa_ans ss hl hs
  have hcat := hide (cat_size hs)
  have hsh := hide hs
  have cS := hide kS
  have cI := hide kI
  have hT := hide hT
  have E := hide (fun a a' cap cap' w hR hR' => w_sameReaders X B a a' cap cap' K w (by omega) hR hR')
  have G := hide (fun a cap w hR => i_goodReader X a cap K B w (by omega) (by omega) hR)
  have k0 : (f != f) = false := by simp
  clear kS kI hs sD hA
  go_wp2_with fail
  refine (cI.out _ _ _ hrow).mono ?_
  rintro e W2 ⟨_, rfl, an⟩
  obtain ⟨adg, cpg, bg, rfl, hg, Og, bb⟩ := an
  have d2 := d1.trans (bb.mono d1.size)
  have y2 := bb.size
  have hrow := hrow.below bb
  clear bb
  go_wp2_with fail
  have bb : Below W2.heap.size W2 (W2.alloc (.cells #[.string X, .slice adg K.length cpg, .int .i64 B] 48)) := below_box (Below.refl _ _)
  have BG := Mut.new W2 #[.string X, .slice adg K.length cpg, .int .i64 B] 48
  have lBG : W2.heap.size < (W2.alloc (.cells #[.string X, .slice adg K.length cpg, .int .i64 B] 48)).heap.size := by simp
  have d3 := d2.trans (bb.mono d2.size)
  have y3 := bb.size
  have hrow := hrow.below bb
  have Og := Og.below bb
  clear bb
  generalize hWW : W2.alloc (.cells #[.string X, .slice adg K.length cpg, .int .i64 B] 48) = W3 at *
  clear hWW
  refine (cS.out _ _ _ hrow).mono ?_
  rintro e W4 ⟨_, rfl, an⟩
  obtain ⟨ads, cps, bs, rfl, hs, Os, bb⟩ := an
  have d4 := d3.trans (bb.mono d3.size)
  have y4 := bb.size
  have hrow := hrow.below bb
  have Og := Og.below bb
  have BG := BG.below bb
  clear bb
  have v0 := ((BG.alloc (.cells #[.string X, .slice ads K.length cps, .int .i64 B] 48))).2.1 0 _ rfl
  have v1 := ((BG.alloc (.cells #[.string X, .slice ads K.length cps, .int .i64 B] 48))).2.1 1 _ rfl
  have v2 := ((BG.alloc (.cells #[.string X, .slice ads K.length cps, .int .i64 B] 48))).2.1 2 _ rfl
  go_wp2_with fail
  clear v0 v1 v2
  have bb : Below W4.heap.size W4 (W4.alloc (.cells #[.string X, .slice ads K.length cps, .int .i64 B] 48)) := below_box (Below.refl _ _)
  have BS := Mut.new W4 #[.string X, .slice ads K.length cps, .int .i64 B] 48
  have lBS : W4.heap.size < (W4.alloc (.cells #[.string X, .slice ads K.length cps, .int .i64 B] 48)).heap.size := by simp
  have d5 := d4.trans (bb.mono d4.size)
  have y5 := bb.size
  have hrow := hrow.below bb
  have Og := Og.below bb
  have BG := BG.below bb
  have Os := Os.below bb
  clear bb
  generalize hWW : W4.alloc (.cells #[.string X, .slice ads K.length cps, .int .i64 B] 48) = W5 at *
  clear hWW
  refine (E.out _ _ _ _ _ Og.row Os.row).mono ?_
  rintro e W6 ⟨rfl, bb⟩
  have d6 := d5.trans (bb.mono d5.size)
  have y6 := bb.size
  have hrow := hrow.below bb
  have Og := Og.below bb
  have BG := BG.below bb
  have Os := Os.below bb
  have BS := BS.below bb
  clear bb
  clear Os BS cS
  cases f
  · clear hT hcat hsh E G cI hrow Og BG
    go_wp2_with fail
    refine (sC.out _ (hM.out _ d6)).mono ?_
    rintro e W7 ⟨st, hst, rfl, bb⟩
    have d7 := d6.trans (bb.mono d6.size)
    have y7 := bb.size
    clear bb
    obtain ⟨CL, CR, CC, CF, hcl, kI2, kS2⟩ := ca_ans st hst
    have i2 := hide kI2
    have s2 := hide kS2
    have E2 := hide (fun a a' cap cap' w hR hR' => w_sameReaders ⟨#[]⟩ 0 a a' cap cap' CL w (by omega) hR hR')
    have q2 : (CC == CC) = true := by simp
    clear hcl hst kI2 kS2
    go_wp2_with fail
    refine (i2.out _).mono ?_
    rintro e W8 ⟨vi, rfl, oi, bb⟩
    obtain ⟨ai, ci, bi, rfl, _, Oi⟩ := WrM.own oi
    clear oi
    have d8 := d7.trans (bb.mono d7.size)
    have y8 := bb.size
    clear bb
    go_wp2_with fail
    refine (s2.out _).mono ?_
    rintro e W9 ⟨vj, rfl, oj, bb⟩
    obtain ⟨aj, cj, bj, rfl, _, Oj⟩ := WrM.own oj
    clear oj
    have d9 := d8.trans (bb.mono d8.size)
    have y9 := bb.size
    have Oi := Oi.below bb
    clear bb
    cases CF
    · go_wp2_with fail
      refine (E2.out _ _ _ _ _ Oi.row Oj.row).mono ?_
      rintro e W10 ⟨rfl, bb⟩
      have d10 := d9.trans (bb.mono d9.size)
      have y10 := bb.size
      have Oi := Oi.below bb
      have Oj := Oj.below bb
      clear bb
      go_wp2_with fail
      go_ret
      exact ⟨rfl, d10⟩
    · go_wp2_with fail
      refine (E2.out _ _ _ _ _ Oi.row Oj.row).mono ?_
      rintro e W10 ⟨rfl, bb⟩
      have d10 := d9.trans (bb.mono d9.size)
      have y10 := bb.size
      have Oi := Oi.below bb
      have Oj := Oj.below bb
      clear bb
      go_wp2_with fail
      go_ret
      exact ⟨rfl, d10⟩
  · obtain ⟨hg, kO⟩ := hT.out rfl
    rw [hg] at G
    have cO := hide kO
    clear kO hT cI
    go_wp2_with fail
    go_loopw [10, 54] (fun aa i wr => ∃ q : Nat, q ≤ ss.length ∧ aa = .string (cat (ss.take q)) ∧ i = .int .i64 q ∧ wr = W6) (fun _ i _ => ss.length - (intOf i).toNat)
    case atStart => exact ⟨0, Nat.zero_le _, rfl, rfl, rfl⟩
    case round =>
      obtain ⟨q, hq, rfl, rfl, rfl⟩ := hrel
      have hcq := hcat.out q hq
      by_cases hlt : q < ss.length
      · obtain ⟨b, off, rfl, hbw, x0⟩ := hrow q hlt
        have hlt' : (q : Int) < (ss.length : Int) := by omega
        have hsq : (sAt ss q).size ≤ 1302 := by
          have e : sAt ss q = ss[q] := by unfold sAt; rw [List.getD_eq_getElem?_getD, List.getElem?_eq_getElem hlt]; rfl
          rw [e]
          exact hsh.out _ (List.getElem_mem hlt)
        have hadd := fun (w : World) => run_string_add_sum (P := Try.prog) w (cat (ss.take q)) (sAt ss q) (by omega)
        rw [← cat_next hlt] at hadd
        clear hrow Og BG
        go_wp2_with fail
        exact ⟨⟨q + 1, by omega, rfl, by go_num, trivial⟩, by simp [intOf]; omega⟩
      · have hq' : q = ss.length := by omega
        subst hq'
        rw [List.take_length] at hcq ⊢
        clear hcat hsh hrow
        have u0 := BG.2.1 0 _ rfl
        have u1 := BG.2.1 1 _ rfl
        have u2 := BG.2.1 2 _ rfl
        go_wp2_with fail
        clear u0 u1 u2
        refine (G.out _ _ _ Og.row).mono ?_
        rintro e W7 ⟨rfl, bb⟩
        have d7 := d6.trans (bb.mono d6.size)
        have y7 := bb.size
        have Og := Og.below bb
        have BG := BG.below bb
        clear bb
        by_cases h3 : ((cat ss).size : Int) ≤ 300
        · generalize hCC : cat ss = CA at *
          have h3n : CA.size ≤ 300 := by omega
          have hro := RowS.one W7 CA 9
          have bb : Below W7.heap.size W7 (W7.alloc (.cells #[.string CA] 9)) := below_box (Below.refl _ _)
          have OgA := Og.below bb
          have BGA := BG.below bb
          have dA := d7.trans (bb.mono d7.size)
          clear bb Og BG
          go_wp2_with fail
          generalize hWW : W7.alloc (.cells #[.string CA] 9) = WA at *
          clear hWW
          refine (cO.out _ _ _ h3n hro).mono ?_
          rintro e W8 ⟨_, rfl, an⟩
          obtain ⟨adx, cpx, bx, rfl, hx, Ox, bb⟩ := an
          have d8 := dA.trans (bb.mono dA.size)
          have Og := OgA.below bb
          have BG := BGA.below bb
          clear bb OgA BGA
          have v0 := ((BG.alloc (.cells #[.string X, .slice adx K.length cpx, .int .i64 B] 48))).2.1 0 _ rfl
          have v1 := ((BG.alloc (.cells #[.string X, .slice adx K.length cpx, .int .i64 B] 48))).2.1 1 _ rfl
          have v2 := ((BG.alloc (.cells #[.string X, .slice adx K.length cpx, .int .i64 B] 48))).2.1 2 _ rfl
          go_wp2_with fail
          clear v0 v1 v2
          have bb : Below W8.heap.size W8 (W8.alloc (.cells #[.string X, .slice adx K.length cpx, .int .i64 B] 48)) := below_box (Below.refl _ _)
          have y8 := bb.size
          have d9 := d8.trans (bb.mono d8.size)
          have y9 := bb.size
          have Og := Og.below bb
          have BG := BG.below bb
          have Ox := Ox.below bb
          clear bb
          generalize hWW : W8.alloc (.cells #[.string X, .slice adx K.length cpx, .int .i64 B] 48) = W9 at *
          clear hWW
          refine (E.out _ _ _ _ _ Ox.row Og.row).mono ?_
          rintro e W10 ⟨rfl, bb⟩
          have d10 := d9.trans (bb.mono d9.size)
          have y10 := bb.size
          have Og := Og.below bb
          have BG := BG.below bb
          have Ox := Ox.below bb
          clear bb
          clear Ox Og BG cO G E hro
          go_wp2_with fail
          refine (sC.out _ (hM.out _ d10)).mono ?_
          rintro e W11 ⟨st, hst, rfl, bb⟩
          have d11 := d10.trans (bb.mono d10.size)
          have y11 := bb.size
          clear bb
          obtain ⟨CL, CR, CC, CF, hcl, kI2, kS2⟩ := ca_ans st hst
          have i2 := hide kI2
          have s2 := hide kS2
          have E2 := hide (fun a a' cap cap' w hR hR' => w_sameReaders ⟨#[]⟩ 0 a a' cap cap' CL w (by omega) hR hR')
          have q2 : (CC == CC) = true := by simp
          clear hcl hst kI2 kS2
          go_wp2_with fail
          refine (i2.out _).mono ?_
          rintro e W12 ⟨vi, rfl, oi, bb⟩
          obtain ⟨ai, ci, bi, rfl, _, Oi⟩ := WrM.own oi
          clear oi
          have d12 := d11.trans (bb.mono d11.size)
          have y12 := bb.size
          clear bb
          go_wp2_with fail
          refine (s2.out _).mono ?_
          rintro e W13 ⟨vj, rfl, oj, bb⟩
          obtain ⟨aj, cj, bj, rfl, _, Oj⟩ := WrM.own oj
          clear oj
          have d13 := d12.trans (bb.mono d12.size)
          have y13 := bb.size
          have Oi := Oi.below bb
          clear bb
          cases CF
          · go_wp2_with fail
            refine (E2.out _ _ _ _ _ Oi.row Oj.row).mono ?_
            rintro e W14 ⟨rfl, bb⟩
            have d14 := d13.trans (bb.mono d13.size)
            have y14 := bb.size
            have Oi := Oi.below bb
            have Oj := Oj.below bb
            clear bb
            go_wp2_with fail
            go_ret
            exact ⟨rfl, d14⟩
          · go_wp2_with fail
            refine (E2.out _ _ _ _ _ Oi.row Oj.row).mono ?_
            rintro e W14 ⟨rfl, bb⟩
            have d14 := d13.trans (bb.mono d13.size)
            have y14 := bb.size
            have Oi := Oi.below bb
            have Oj := Oj.below bb
            clear bb
            go_wp2_with fail
            go_ret
            exact ⟨rfl, d14⟩
        · clear cO G E Og BG
          go_wp2_with fail
          refine (sC.out _ (hM.out _ d7)).mono ?_
          rintro e W8 ⟨st, hst, rfl, bb⟩
          have d8 := d7.trans (bb.mono d7.size)
          have y8 := bb.size
          clear bb
          obtain ⟨CL, CR, CC, CF, hcl, kI2, kS2⟩ := ca_ans st hst
          have i2 := hide kI2
          have s2 := hide kS2
          have E2 := hide (fun a a' cap cap' w hR hR' => w_sameReaders ⟨#[]⟩ 0 a a' cap cap' CL w (by omega) hR hR')
          have q2 : (CC == CC) = true := by simp
          clear hcl hst kI2 kS2
          go_wp2_with fail
          refine (i2.out _).mono ?_
          rintro e W9 ⟨vi, rfl, oi, bb⟩
          obtain ⟨ai, ci, bi, rfl, _, Oi⟩ := WrM.own oi
          clear oi
          have d9 := d8.trans (bb.mono d8.size)
          have y9 := bb.size
          clear bb
          go_wp2_with fail
          refine (s2.out _).mono ?_
          rintro e W10 ⟨vj, rfl, oj, bb⟩
          obtain ⟨aj, cj, bj, rfl, _, Oj⟩ := WrM.own oj
          clear oj
          have d10 := d9.trans (bb.mono d9.size)
          have y10 := bb.size
          have Oi := Oi.below bb
          clear bb
          cases CF
          · go_wp2_with fail
            refine (E2.out _ _ _ _ _ Oi.row Oj.row).mono ?_
            rintro e W11 ⟨rfl, bb⟩
            have d11 := d10.trans (bb.mono d10.size)
            have y11 := bb.size
            have Oi := Oi.below bb
            have Oj := Oj.below bb
            clear bb
            go_wp2_with fail
            go_ret
            exact ⟨rfl, d11⟩
          · go_wp2_with fail
            refine (E2.out _ _ _ _ _ Oi.row Oj.row).mono ?_
            rintro e W11 ⟨rfl, bb⟩
            have d11 := d10.trans (bb.mono d10.size)
            have y11 := bb.size
            have Oi := Oi.below bb
            have Oj := Oj.below bb
            clear bb
            go_wp2_with fail
            go_ret
            exact ⟨rfl, d11⟩
end Go.Proofs.Ytoeephmdklmpfaa
