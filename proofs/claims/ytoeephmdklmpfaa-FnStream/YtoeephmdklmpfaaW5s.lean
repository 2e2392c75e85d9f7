/- The law on FeedAll: the program answers as the specification. -/
import Derived.Test.YtoeephmdklmpfaaI5a
import Derived.Test.YtoeephmdklmpfaaLaw5r
import Derived.Test.YtoeephmdklmpfaaLaw5s
namespace Go.Proofs.Ytoeephmdklmpfaa
open Go.RowKit

theorem w_toS (a0 : Option Addr) (n cp0 : Nat) (f : Nat → ByteArray) (w : World) (hl : n ≤ 1048576) (hR : RowStr a0 n f w) :
    Calls Try.prog 44 #[.slice a0 n cp0] w fun e w' => ∃ x, e = .returned (.slice (some ⟨x, 0, none⟩) n n) ∧ w.heap.size ≤ x ∧ x < w'.heap.size ∧ OutStr x n n f w' ∧ Below w.heap.size w w' := by
  refine (w_toStringS a0 n cp0 f w hl hR).mono ?_
  rintro e w' ⟨rfl, hb, hO⟩
  exact ⟨_, rfl, Nat.le_refl _, hO.1, hO, hb⟩
set_option maxRecDepth 100000 in
set_option maxHeartbeats 12800000 in
theorem w_feedAll_law (a0 : Option Addr) (n cp0 : Nat) (f : Nat → ByteArray) (X : ByteArray) (L : List Ms) (B : Int) (r : Bool) (w : World) (hn : n ≤ maxLen) (R0 : RowStr a0 n f w) (hbd : ∀ i, i < n → (f i).size ≤ maxLen) (hL : L.length ≤ 1048576)
    (SS : Hid (n ≤ 1048576 → (∀ i, i < n → (f i).size ≤ 1048576) → ∀ (c : Nat) (w : World), RowStr (some ⟨c, 0, none⟩) n f w → Calls Try.prog 43 #[.slice (some ⟨c, 0, none⟩) n n] w fun e w' => ∃ v, e = .returned (.tuple #[v, .bool r]) ∧ AnsR X L B w v w'))
    (II : Hid (n ≤ 1048576 → (∀ i, i < n → (f i).size ≤ 1048576) → ∀ (c : Nat) (w : World), RowStr (some ⟨c, 0, none⟩) n f w → Calls Try.prog 45 #[.slice (some ⟨c, 0, none⟩) n n] w fun e w' => ∃ v, e = .returned (.tuple #[v, .bool r]) ∧ AnsR X L B w v w')) :
    Calls Try.prog 10 #[.slice a0 n cp0] w fun e w' => e = .returned (.bool true) ∧ Below w.heap.size w w' := by
  have k0 : (r != r) = false := by simp
  have SZ := hide (fun w hR => w_szStringS a0 n cp0 f 1048576 w hn (by omega) (by omega) hR hbd)
  have d0 : Below w.heap.size w w := Below.refl _ _
  clear hn hbd
  go_enter Try.func10, Try.ntmps10
  go_wp2_with fail
  refine (SZ.out _ (R0.below d0)).mono ?_
  rintro e W1 ⟨sz, rfl, hsz, bb⟩
  have d1 := d0.trans (bb.mono d0.size)
  have y1 := bb.size
  clear bb
  rcases hsz with rfl | ⟨sz0, sz1, hN, hS⟩
  · go_wp2_with fail
    go_ret
    exact ⟨rfl, d1⟩
  have szn : ¬ (sz < 0) := by omega
  have T := hide (fun w hR => w_toS a0 n cp0 f w hN hR)
  have E0 := hide (fun a a' cap cap' w hR hR' => w_eqStringS a a' n cap cap' f w (by omega) hR hR')
  have MX := hide (fun c w h => w_markStringS c n n f 1 w (by omega) (by omega) (by omega) h)
  have S := hide (SS.out hN hS)
  have I := hide (II.out hN hS)
  have k6 : ¬ (1 + (n : Int) < 0) := by omega
  clear SZ sz0 sz1 SS II hS
  have E := hide (fun a a' cap cap' w hR hR' => w_eqReader X B a a' cap cap' L w (by omega) hR hR')
  have M := hide (fun a c cap w h => w_markReader X B a c cap L w (by omega) h)
  have HD := hide (fun a cap w h => w_heldReader X B a cap L.length w (by omega) h)
  have k2 : ¬ (1 + 2 * (L.length : Int) < 0) := by omega
  have k3 : ((1 + 2 * (L.length : Int)) != (1 + 2 * (L.length : Int))) = false := by simp
  go_wp2_with fail
  refine (T.out _ (R0.below d1)).mono ?_
  rintro e W2 ⟨q, rfl, hq, lq, Oq, bb⟩
  have yq := d1.size
  have d2 := d1.trans (bb.mono d1.size)
  have y2 := bb.size
  clear bb
  go_wp2_with fail
  refine (S.out _ _ Oq.row).mono ?_
  rintro e W3 ⟨_, rfl, an⟩
  obtain ⟨ads, cps, bs, rfl, hs, Os, bb⟩ := an
  have zs : L ≠ [] → bs < W3.heap.size := fun h => (Os.1 h).2
  have hs0 : L ≠ [] → w.heap.size ≤ bs := fun h => Nat.le_trans d2.size (hs h)
  have d3 := d2.trans (bb.mono d2.size)
  have y3 := bb.size
  have Oq := Oq.below bb
  clear bb
  clear Oq
  go_wp2_with fail
  have bb : Below W3.heap.size W3 (W3.alloc (.cells #[.string X, .slice ads L.length cps, .int .i64 B] 48)) := below_box (Below.refl _ _)
  have BS := Mut.new W3 #[.string X, .slice ads L.length cps, .int .i64 B] 48
  have lBS : W3.heap.size < (W3.alloc (.cells #[.string X, .slice ads L.length cps, .int .i64 B] 48)).heap.size := by simp
  have d4 := d3.trans (bb.mono d3.size)
  have y4 := bb.size
  have Os := Os.below bb
  clear bb
  generalize hWW : W3.alloc (.cells #[.string X, .slice ads L.length cps, .int .i64 B] 48) = W4 at *
  clear hWW
  refine (T.out _ (R0.below d4)).mono ?_
  rintro e W5 ⟨x, rfl, hx, lx, Ox, bb⟩
  have yx := d4.size
  have d5 := d4.trans (bb.mono d4.size)
  have y5 := bb.size
  have Os := Os.below bb
  have BS := BS.below bb
  clear bb
  go_wp2_with fail
  refine (I.out _ _ Ox.row).mono ?_
  rintro e W6 ⟨_, rfl, an⟩
  obtain ⟨adg, cpg, bg, rfl, hg, Og, bb⟩ := an
  have zg : L ≠ [] → bg < W6.heap.size := fun h => (Og.1 h).2
  have hg0 : L ≠ [] → w.heap.size ≤ bg := fun h => Nat.le_trans d5.size (hg h)
  have d6 := d5.trans (bb.mono d5.size)
  have y6 := bb.size
  have Os := Os.below bb
  have BS := BS.below bb
  have Ox := Ox.below bb
  clear bb
  have v0 := ((BS.alloc (.cells #[.string X, .slice adg L.length cpg, .int .i64 B] 48))).2.1 0 _ rfl
  have v1 := ((BS.alloc (.cells #[.string X, .slice adg L.length cpg, .int .i64 B] 48))).2.1 1 _ rfl
  have v2 := ((BS.alloc (.cells #[.string X, .slice adg L.length cpg, .int .i64 B] 48))).2.1 2 _ rfl
  go_wp2_with fail
  clear v0 v1 v2
  have bb : Below W6.heap.size W6 (W6.alloc (.cells #[.string X, .slice adg L.length cpg, .int .i64 B] 48)) := below_box (Below.refl _ _)
  have BG := Mut.new W6 #[.string X, .slice adg L.length cpg, .int .i64 B] 48
  have lBG : W6.heap.size < (W6.alloc (.cells #[.string X, .slice adg L.length cpg, .int .i64 B] 48)).heap.size := by simp
  have d7 := d6.trans (bb.mono d6.size)
  have y7 := bb.size
  have Os := Os.below bb
  have BS := BS.below bb
  have Ox := Ox.below bb
  have Og := Og.below bb
  clear bb
  generalize hWW : W6.alloc (.cells #[.string X, .slice adg L.length cpg, .int .i64 B] 48) = W7 at *
  clear hWW
  refine (E.out _ _ _ _ _ Og.row Os.row).mono ?_
  rintro e W8 ⟨rfl, bb⟩
  have d8 := d7.trans (bb.mono d7.size)
  have y8 := bb.size
  have Os := Os.below bb
  have BS := BS.below bb
  have Ox := Ox.below bb
  have Og := Og.below bb
  have BG := BG.below bb
  clear bb
  go_wp2_with fail
  refine (T.out _ (R0.below d8)).mono ?_
  rintro e W9 ⟨m, rfl, hm, lm, Om, bb⟩
  have ym := d8.size
  have d9 := d8.trans (bb.mono d8.size)
  have y9 := bb.size
  have Os := Os.below bb
  have BS := BS.below bb
  have Ox := Ox.below bb
  have Og := Og.below bb
  have BG := BG.below bb
  clear bb
  go_wp2_with fail
  refine (E0.out _ _ _ _ _ Ox.row Om.row).mono ?_
  rintro e W10 ⟨rfl, bb⟩
  have d10 := d9.trans (bb.mono d9.size)
  have y10 := bb.size
  have Os := Os.below bb
  have BS := BS.below bb
  have Ox := Ox.below bb
  have Og := Og.below bb
  have BG := BG.below bb
  have Om := Om.below bb
  clear bb
  clear Om
  go_wp2_with fail
  refine (MX.out _ _ Ox).mono ?_
  rintro e W11 ⟨rfl, yy⟩
  have bb : Below w.heap.size W10 W11 := (yy.below (Nat.le_of_lt Ox.1)).mono (by omega)
  have d11 := d10.trans bb
  have y11 := bb.size
  clear bb
  have Os := Os.only yy (fun h => by have := zs h; have := hs h; omega)
  have BS := BS.only yy (by omega)
  have Og := Og.only yy (fun h => by have := zg h; have := hg h; omega)
  have BG := BG.only yy (by omega)
  clear yy Ox
  have i0 := BG.2.1 0 _ rfl
  have i1 := BG.2.1 1 _ rfl
  have i2 := BG.2.1 2 _ rfl
  have j0 := BS.2.1 0 _ rfl
  have j1 := BS.2.1 1 _ rfl
  have j2 := BS.2.1 2 _ rfl
  go_wp2_with fail
  clear i0 i1 i2
  clear j0 j1 j2
  refine (E.out _ _ _ _ _ Og.row Os.row).mono ?_
  rintro e W12 ⟨rfl, bb⟩
  have d12 := d11.trans (bb.mono d11.size)
  have y12 := bb.size
  have Os := Os.below bb
  have BS := BS.below bb
  have Og := Og.below bb
  have BG := BG.below bb
  clear bb
  have u0 := BG.2.1 0 _ rfl
  have u1 := BG.2.1 1 _ rfl
  have u2 := BG.2.1 2 _ rfl
  go_wp2_with fail
  clear u0 u1 u2
  refine (M.out _ _ _ _ Og).mono ?_
  rintro e W13 ⟨rfl, yy, Om⟩
  have bb := yy.base (base := w.heap.size) hg0 d12.size
  have d13 := d12.trans bb
  have y13 := bb.size
  clear bb
  have Os := Os.on yy (fun h1 h2 => by have := zs h1; have := hg h2; omega)
  have BS := BS.on yy (fun h => by have := zg h; have := hg h; omega)
  have BG := BG.on yy (fun h => by have := zg h; have := hg h; omega)
  clear yy
  clear Og
  have u0 := BG.2.1 0 _ rfl
  have u1 := BG.2.1 1 _ rfl
  have u2 := BG.2.1 2 _ rfl
  go_wp2_with fail
  clear u0 u1 u2
  refine (HD.out _ _ _ Om.row).mono ?_
  rintro e W14 ⟨rfl, bb⟩
  have d14 := d13.trans (bb.mono d13.size)
  have y14 := bb.size
  have Os := Os.below bb
  have BS := BS.below bb
  have BG := BG.below bb
  have Om := Om.below bb
  clear bb
  go_wp2_with fail
  refine (T.out _ (R0.below d14)).mono ?_
  rintro e W15 ⟨n2, rfl, hn2, ln2, On2, bb⟩
  have yn2 := d14.size
  have d15 := d14.trans (bb.mono d14.size)
  have y15 := bb.size
  have Os := Os.below bb
  have BS := BS.below bb
  have BG := BG.below bb
  have Om := Om.below bb
  clear bb
  go_wp2_with fail
  refine (I.out _ _ On2.row).mono ?_
  rintro e W16 ⟨_, rfl, an⟩
  obtain ⟨adh, cph, bh, rfl, hh, Oh, bb⟩ := an
  have zh : L ≠ [] → bh < W16.heap.size := fun h => (Oh.1 h).2
  have hh0 : L ≠ [] → w.heap.size ≤ bh := fun h => Nat.le_trans d15.size (hh h)
  have d16 := d15.trans (bb.mono d15.size)
  have y16 := bb.size
  have Os := Os.below bb
  have BS := BS.below bb
  have BG := BG.below bb
  have Om := Om.below bb
  have On2 := On2.below bb
  clear bb
  clear On2
  have v0 := ((BS.alloc (.cells #[.string X, .slice adh L.length cph, .int .i64 B] 48))).2.1 0 _ rfl
  have v1 := ((BS.alloc (.cells #[.string X, .slice adh L.length cph, .int .i64 B] 48))).2.1 1 _ rfl
  have v2 := ((BS.alloc (.cells #[.string X, .slice adh L.length cph, .int .i64 B] 48))).2.1 2 _ rfl
  go_wp2_with fail
  clear v0 v1 v2
  have bb : Below W16.heap.size W16 (W16.alloc (.cells #[.string X, .slice adh L.length cph, .int .i64 B] 48)) := below_box (Below.refl _ _)
  have BH := Mut.new W16 #[.string X, .slice adh L.length cph, .int .i64 B] 48
  have lBH : W16.heap.size < (W16.alloc (.cells #[.string X, .slice adh L.length cph, .int .i64 B] 48)).heap.size := by simp
  have d17 := d16.trans (bb.mono d16.size)
  have y17 := bb.size
  have Os := Os.below bb
  have BS := BS.below bb
  have BG := BG.below bb
  have Om := Om.below bb
  have Oh := Oh.below bb
  clear bb
  generalize hWW : W16.alloc (.cells #[.string X, .slice adh L.length cph, .int .i64 B] 48) = W17 at *
  clear hWW
  refine (E.out _ _ _ _ _ Oh.row Os.row).mono ?_
  rintro e W18 ⟨rfl, bb⟩
  have d18 := d17.trans (bb.mono d17.size)
  have y18 := bb.size
  have Os := Os.below bb
  have BS := BS.below bb
  have BG := BG.below bb
  have Om := Om.below bb
  have Oh := Oh.below bb
  have BH := BH.below bb
  clear bb
  have u0 := BG.2.1 0 _ rfl
  have u1 := BG.2.1 1 _ rfl
  have u2 := BG.2.1 2 _ rfl
  go_wp2_with fail
  clear u0 u1 u2
  refine (HD.out _ _ _ Om.row).mono ?_
  rintro e W19 ⟨rfl, bb⟩
  have d19 := d18.trans (bb.mono d18.size)
  have y19 := bb.size
  have Os := Os.below bb
  have BS := BS.below bb
  have BG := BG.below bb
  have Om := Om.below bb
  have Oh := Oh.below bb
  have BH := BH.below bb
  clear bb
  go_wp2_with fail
  go_ret
  exact ⟨rfl, d19⟩
theorem sAt_list {n : Nat} (f : Nat → ByteArray) {i : Nat} (h : i < n) : sAt (listS n f) i = f i := by
  unfold sAt listS
  rw [List.getD_eq_getElem?_getD, List.getElem?_map, List.getElem?_range h]
  rfl
theorem RowS.of {a : Option Addr} {n : Nat} {f : Nat → ByteArray} {w : World} (h : RowStr a n f w) : RowS a (listS n f) w := by
  intro i hi
  rw [listS_len] at hi
  rw [sAt_list f hi]
  exact h i hi
theorem faR_len (ss : List ByteArray) : (faR ss).2.1.length ≤ 40 := (gr_len (faR_good ss)).1
theorem w_feedAll (a : Option Addr) (n cap : Nat) (f : Nat → ByteArray) (w : World) (hn : n ≤ maxLen) (hR : RowStr a n f w) (hb : ∀ i, i < n → (f i).size ≤ maxLen) :
    Calls Try.prog 10 #[.slice a n cap] w fun e w' => e = .returned (.bool true) ∧ Below w.heap.size w w' := by
  have e := listS_len n f
  have hs : (∀ i, i < n → (f i).size ≤ 1048576) → ∀ k, k < (listS n f).length → (sAt (listS n f) k).size ≤ 1048576 := fun h k hk => by
    rw [e] at hk
    rw [sAt_list f hk]
    exact h k hk
  have S := fun (h1 : n ≤ 1048576) h2 c w hR => s_feedAll (some ⟨c, 0, none⟩) n (listS n f) w (by rw [e]; exact h1) (hs h2) (RowS.of hR)
  have I := fun (h1 : n ≤ 1048576) h2 c w hR => i_feedAll (some ⟨c, 0, none⟩) n (listS n f) w (by rw [e]; exact h1) (hs h2) (RowS.of hR)
  rw [e] at S I
  cases ho : faOk (listS n f) with
  | true => exact w_feedAll_law a n cap f (faR (listS n f)).1 (faR (listS n f)).2.1 (faR (listS n f)).2.2 true w hn hR hb (by have := faR_len (listS n f); omega) (fun h1 h2 c w hR => (S h1 h2 c w hR).mono fun _ _ h => h.1 ho) (fun h1 h2 c w hR => (I h1 h2 c w hR).mono fun _ _ h => h.1 ho)
  | false => exact w_feedAll_law a n cap f ByteArray.empty [] 0 false w hn hR hb (by simp) (fun h1 h2 c w hR => (S h1 h2 c w hR).mono fun _ _ h => h.2 ho) (fun h1 h2 c w hR => (I h1 h2 c w hR).mono fun _ _ h => h.2 ho)
end Go.Proofs.Ytoeephmdklmpfaa
