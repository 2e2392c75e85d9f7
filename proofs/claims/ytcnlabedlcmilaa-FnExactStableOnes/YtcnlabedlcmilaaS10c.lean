/- ActivateAll, PlaySpp and SettleSpp of the specification. -/
import Derived.Test.YtcnlabedlcmilaaS10b
import Derived.Test.YtcnlabedlcmilaaPlain10b
namespace Go.Proofs.Ytcnlabedlcmilaa
open Go.RowKit
set_option maxRecDepth 100000 in
set_option maxHeartbeats 1600000 in
theorem s_all10 (a : Option Addr) (N c : Nat) (U : Nat → Pl) (f : Nat → Int) (ga : Option Addr) (gc : Nat) (w : World) (hG : GS N U) (hC : Chs N U f) (hR : RowK3 a N U w) (hP : RowInt ga N f w) :
    Calls Try.prog 79 #[.agg #[.slice a N c], .slice ga N gc] w fun e w' => ∃ g cap, e = .returned (.slice (some ⟨g, 0, none⟩) N cap) ∧ w.heap.size ≤ g ∧ N ≤ cap ∧ OutInt g N N (actN U f N) w' ∧ Below w.heap.size w w' := by
  have h1 := hG.1
  have h5 := hG.2.1
  have hN5 : (N : Int) ≤ 5 := by omega
  obtain ⟨b0, off0, hga, _⟩ := hP 0 (by omega)
  subst hga
  have B := hide (fun f v ga gc w hC hv R P => s_best10 a N c U f v ga gc w hG hC hv R P)
  have dA : Below w.heap.size w ((w.alloc (.cells #[.slice a N c] 27)).alloc (.cells #[] 3)) := below_box2 (Below.refl _ _)
  have MX := (Mut.new w #[.slice a N c] 27).alloc (.cells #[] 3)
  have own0 : OwnN 3 .i64 (w.heap.size + 1) (.slice (some ⟨w.heap.size + 1, 0, none⟩) 0 0) [] ((w.alloc (.cells #[.slice a N c] 27)).alloc (.cells #[] 3)) := by
    have h := ownN_made 3 .i64 (w.alloc (.cells #[.slice a N c] 27)) [] (by simp)
    simpa [ncells] using h
  have hsrc : SrcN .i64 (some ⟨b0, off0, none⟩) (lsI N f) gc ((w.alloc (.cells #[.slice a N c] 27)).alloc (.cells #[] 3)) := ⟨(rowN_of hP).below dA, .inr ⟨b0, off0, rfl⟩⟩
  have hbs : w.heap.size + 1 ≤ ((w.alloc (.cells #[.slice a N c] 27)).alloc (.cells #[] 3)).heap.size := by simp
  have hll9 := hide (lsI_len N f)
  have hLL : Hid (([] : List Int).length + (lsI N f).length ≤ 8589934593) := by show _ ≤ _; rw [hll9.out]; simp; omega
  have hat : Hid (∀ i, i < N → (lsI N f).getD i 0 = f i) := fun i hi => lsI_at hi
  have hne : Hid (lsI N f ≠ []) := by intro e; rw [e] at hll9; have := hll9.out; simp at this; omega
  generalize lsI N f = L at *
  clear hG
  go_enter Try.func79, Try.ntmps79
  go_wp2_with (first | (at_builtin; refine wpList_appN numInt rfl _ _ rfl (w.heap.size + 1) _ [] rfl own0 _ L N gc rfl hll9.out.symm hsrc hLL.out (by decide) hbs ?_; intro v4 w4 own4 b4 _ _; rw [List.nil_append] at own4; obtain ⟨g, cap, hv4, hg, hcap, h3⟩ := own_outI own4 hne.out; rw [hll9.out] at h3 hcap hv4; subst hv4))
  have O4 := h3.congr hat.out
  have D4 := dA.trans (b4.mono (Nat.le_succ _))
  have M4 := MX.base (by omega) b4
  generalize hbs9 : w.heap.size = bs at *
  clear own4 b4 own0 hsrc hbs hLL hat hll9 hne h3 dA MX
  go_loopw [12] (fun y wr => ∃ k : Nat, y = .int .i64 k ∧ k ≤ N ∧ OutInt g N N (actN U f k) wr ∧ Mut wr bs [.slice a N c] ∧ Below bs w wr) (fun y _ => N - (intOf y).toNat)
  case atStart => exact ⟨0, rfl, Nat.zero_le _, O4, M4, D4⟩
  case round =>
    obtain ⟨k, rfl, hk, hO, MX, hD⟩ := hrel
    have c0 := MX.2.1 0 _ rfl
    have hdW := hide (hbs9 ▸ hD)
    by_cases hlt : k < N
    · have hlt' : (k : Int) < (N : Int) := by omega
      obtain ⟨⟨y0, i0, _⟩, z0⟩ := hO.2 k hlt
      have BK := hide (fun w R P => B.out (actN U f k) k (some ⟨g, 0, none⟩) cap w (hC.act k) hlt R P)
      have RY := hide (hR.below hdW.out)
      have PY := hide hO.row
      have hP := hide (fun (w3 : World) (h : OutInt g N N (actN U f k) w3) => h.put hlt (bst U (actN U f k) k))
      have hnext : Hid ((fun j => if j = k then bst U (actN U f k) k else actN U f k j) = actN U f (k + 1)) := rfl
      generalize bst U (actN U f k) k = x at *
      go_wp2_with fail
      refine (BK.out _ RY.out PY.out).mono ?_
      rintro e w3 ⟨rfl, b3⟩
      have M3 := MX.below b3
      have O3 := hO.below b3
      obtain ⟨⟨y3, i3, _⟩, z3⟩ := O3.2 k hlt
      have ON := hide (hP.out _ O3)
      rw [hnext.out] at ON
      have D3 := hD.trans (b3.mono (hbs9 ▸ hD.size))
      clear b3 i0 z0 c0 O3 hO hP
      go_wp2_with fail
      exact ⟨⟨k + 1, by go_num, by omega, ON.out, M3.other (by omega) _ _, D3.setCell (show bs ≤ g by omega) _⟩, by simp [intOf]; omega⟩
    · have hlt' : ¬ (k : Int) < (N : Int) := by omega
      obtain rfl : k = N := by omega
      clear c0
      go_wp2_with fail
      go_ret
      exact ⟨g, cap, rfl, by omega, hcap, hO, hbs9 ▸ hD⟩
set_option maxRecDepth 100000 in
set_option maxHeartbeats 1600000 in
theorem s_activateAllE (a : Option Addr) (N c : Nat) (U : Nat → Pl) (gn : Nat) (gf : Nat → Int) (ga : Option Addr) (gc : Nat) (w : World) (hN : N ≤ 1048576) (hl : LowS N U) (hR : RowK3 a N U w) (hP : RowInt ga gn gf w) :
    Calls Try.prog 26 #[.agg #[.slice a N c], .slice ga gn gc] w fun e w' => ∃ v, e = .returned (.tuple #[v, .bool (chB N U ⟨gn, gf⟩)]) ∧ AnsL w.heap.size v (aaR N U gn gf) w' ∧ Below w.heap.size w w' := by
  have MX := Mut.new w #[.slice a N c] 27
  have dX : Below w.heap.size w (w.alloc (.cells #[.slice a N c] 27)) := below_box (Below.refl _ _)
  have c0 := MX.2.1 0 _ rfl
  have SG := hide (fun w R => s_goodSpp a N c U w hN hl R)
  have SC := hide (fun w R P => s_chosen10 a N c U gn gf ga gc w hN R P)
  by_cases hG : GS N U
  · rw [show gsB N U = true from pB_t hG] at SG
    by_cases hC : ChOk N U ⟨gn, gf⟩
    · rw [pB_t hC] at SC
      have hgn : gn = N := hC.1
      subst hgn
      have SB := hide (fun w R P => s_all10 a gn c U gf ga gc w hG hC.2 R P)
      have e1 : chB gn U ⟨gn, gf⟩ = true := pB_t ⟨hG, hC⟩
      have e0 : Hid (aaR gn U gn gf = lsI gn (actN U gf gn)) := by show _ = _; unfold aaR; rw [e1]; rfl
      rw [e1]
      clear hG hC e1
      go_enter Try.func26, Try.ntmps26
      go_wp2_with fail
      refine (SG.out _ (hR.below dX)).mono ?_
      rintro e w1 ⟨rfl, b⟩
      replace dX := dX.trans (b.mono dX.size)
      replace MX := MX.below b
      have c0 := MX.2.1 0 _ rfl
      clear b
      go_wp2_with fail
      refine (SC.out _ (hR.below dX) (hP.below dX)).mono ?_
      rintro e w2 ⟨rfl, b⟩
      replace dX := dX.trans (b.mono dX.size)
      replace MX := MX.below b
      have c0 := MX.2.1 0 _ rfl
      clear b
      go_wp2_with fail
      have hsz := dX.size
      refine (SB.out _ (hR.below dX) (hP.below dX)).mono ?_
      rintro e w3 ⟨g, cap, rfl, hg, hcap, hO, b3⟩
      replace dX := dX.trans (b3.mono dX.size)
      clear b3 c0
      go_wp2_with fail
      go_ret2
      refine ⟨_, rfl, ?_, dX⟩
      rw [e0.out]
      exact ansL_out (by omega) hO
    · rw [pB_f hC] at SC
      have e1 : chB N U ⟨gn, gf⟩ = false := pB_f (fun h => hC h.2)
      have e0 : Hid (aaR N U gn gf = []) := by show _ = _; unfold aaR; rw [e1]; rfl
      rw [e1]
      clear hG hC e1
      go_enter Try.func26, Try.ntmps26
      go_wp2_with fail
      refine (SG.out _ (hR.below dX)).mono ?_
      rintro e w1 ⟨rfl, b⟩
      replace dX := dX.trans (b.mono dX.size)
      replace MX := MX.below b
      have c0 := MX.2.1 0 _ rfl
      clear b
      go_wp2_with fail
      refine (SC.out _ (hR.below dX) (hP.below dX)).mono ?_
      rintro e w2 ⟨rfl, b⟩
      replace dX := dX.trans (b.mono dX.size)
      clear b
      go_wp2_with fail
      go_ret2
      refine ⟨_, rfl, ?_, dX⟩
      rw [e0.out]
      exact ansL_nil _ _
  · rw [show gsB N U = false from pB_f hG] at SG
    have e1 : chB N U ⟨gn, gf⟩ = false := pB_f (fun h => hG h.1)
    have e0 : Hid (aaR N U gn gf = []) := by show _ = _; unfold aaR; rw [e1]; rfl
    rw [e1]
    clear hG SC e1
    go_enter Try.func26, Try.ntmps26
    go_wp2_with fail
    refine (SG.out _ (hR.below dX)).mono ?_
    rintro e w1 ⟨rfl, b⟩
    replace dX := dX.trans (b.mono dX.size)
    clear b
    go_wp2_with fail
    go_ret2
    refine ⟨_, rfl, ?_, dX⟩
    rw [e0.out]
    exact ansL_nil _ _
theorem srcI1 (w : World) (v : Int) (t : TypeId) : SrcN .i64 (some ⟨w.heap.size, 0, none⟩) [v] 1 (w.alloc (.cells #[.int .i64 v] t)) :=
  ⟨fun i hi => by
    have : i = 0 := by simpa using hi
    subst this
    exact ⟨w.heap.size, 0, rfl, by simp, by simp [go_sem]⟩, .inr ⟨_, _, rfl⟩⟩
theorem repI_getD {n i : Nat} {x d : Int} (h : i < n) : (List.replicate n x).getD i d = x := by
  rw [List.getD_eq_getElem?_getD, List.getElem?_replicate, if_pos h]
  rfl
set_option maxRecDepth 100000 in
set_option maxHeartbeats 1600000 in
theorem s_none10 (a : Option Addr) (N c : Nat) (w : World) (h1 : 1 ≤ N) (h5 : N ≤ 5) :
    Calls Try.prog 83 #[.agg #[.slice a N c]] w fun e w' => ∃ g cap, e = .returned (.slice (some ⟨g, 0, none⟩) N cap) ∧ w.heap.size ≤ g ∧ N ≤ cap ∧ OutInt g N N (fun _ => -1) w' ∧ Below w.heap.size w w' := by
  have MX := Mut.new w #[.slice a N c] 27
  have dX : Below w.heap.size w (w.alloc (.cells #[.slice a N c] 27)) := below_box (Below.refl _ _)
  have c0 := MX.2.1 0 _ rfl
  have hN5 : (N : Int) ≤ 5 := by omega
  go_enter Try.func83, Try.ntmps83
  go_wp2_with fail
  generalize w.alloc (.cells #[.slice a N c] 27) = wx at *
  have hx1 : w.heap.size < wx.heap.size := MX.1
  generalize hb0 : w.heap.size = b0 at *
  clear c0
  go_loopw [3, 7] (fun t x wr => ∃ k : Nat, k ≤ N ∧ x = .int .i64 k ∧ OwnN 3 .i64 (b0 + 1) t (List.replicate k (-1)) wr ∧ Below b0 w wr ∧ b0 + 1 ≤ wr.heap.size) (fun _ x _ => N - (intOf x).toNat)
  case atStart => exact ⟨0, by omega, rfl, ownN_nil _ _ _ _, dX, hx1⟩
  case round =>
    clear dX MX hx1
    obtain ⟨k, hk, rfl, own, dX, hsz⟩ := hrel
    by_cases hlt : k < N
    · have hlt' : (k : Int) < (N : Int) := by omega
      have dA : Below wr.heap.size wr (wr.alloc (.cells #[.int .i64 (-1)] 3)) := below_box (Below.refl _ _)
      have ownA := ownN_below own dA
      have hsrc := srcI1 wr (-1) 3
      have hbs : b0 + 1 ≤ (wr.alloc (.cells #[.int .i64 (-1)] 3)).heap.size := Nat.le_trans hsz dA.size
      have hLL : Hid ((List.replicate k (-1 : Int)).length + [(-1 : Int)].length ≤ 8589934593) := by show _ ≤ _; simp; omega
      have d1 := dX.trans (dA.mono (by omega))
      generalize hL : List.replicate k (-1 : Int) = L at *
      have hL9 := hide hL
      clear hL own dA
      go_wp2_with (first | (at_builtin; refine wpList_appN numInt rfl _ _ rfl (b0 + 1) _ L rfl ownA _ [-1] 1 1 rfl rfl hsrc hLL.out (by decide) hbs ?_; intro v4 w4 own4 b4 _ _))
      have d4 := d1.trans (b4.mono (by omega))
      exact ⟨⟨k + 1, by omega, by go_num, by rw [List.replicate_succ', hL9.out]; exact own4, d4, Nat.le_trans hbs b4.size⟩, by simp [intOf]; omega⟩
    · obtain rfl : k = N := by omega
      have hlt' : ¬ ((k : Int) < (k : Int)) := by omega
      obtain ⟨q, cap, rfl, hq, hc, hO⟩ := own_outI own (by intro e; have := congrArg List.length e; simp at this; omega)
      rw [List.length_replicate] at hc hO
      have hO' := hO.congr (g := fun _ => -1) (fun i hi => repI_getD hi)
      go_wp2_with fail
      go_ret
      exact ⟨q, cap, rfl, by omega, hc, hO', dX⟩
set_option maxRecDepth 100000 in
set_option maxHeartbeats 3200000 in
theorem s_playSppE (a : Option Addr) (N c : Nat) (U : Nat → Pl) (ln : Nat) (lf : Nat → Int) (la : Option Addr) (lc : Nat) (w : World) (hN : N ≤ 1048576) (hl : LowS N U) (hR : RowK3 a N U w) (hP : RowInt la ln lf w) :
    Calls Try.prog 31 #[.agg #[.slice a N c], .slice la ln lc] w fun e w' => ∃ v, e = .returned (.tuple #[v, .bool (plB N U ln lf)]) ∧ AnsL w.heap.size v (plR N U ln lf) w' ∧ Below w.heap.size w w' := by
  have MX := Mut.new w #[.slice a N c] 27
  have dX : Below w.heap.size w (w.alloc (.cells #[.slice a N c] 27)) := below_box (Below.refl _ _)
  have c0 := MX.2.1 0 _ rfl
  have SG := hide (fun w R => s_goodSpp a N c U w hN hl R)
  have hno : Hid (¬ PlOk N U ln lf → plR N U ln lf = [] ∧ plB N U ln lf = false) := pl_no
  have hyes : Hid (PlOk N U ln lf → plR N U ln lf = lsI N (plN U lf ln) ∧ plB N U ln lf = true) := pl_yes
  generalize plR N U ln lf = r0 at *
  generalize plB N U ln lf = r1 at *
  by_cases hG : GS N U
  · rw [show gsB N U = true from pB_t hG] at SG
    by_cases h40 : ln ≤ 40
    · have h40' : ¬ ((ln : Int) > 40) := by omega
      have hln40 : (ln : Int) ≤ 40 := by omega
      have hY : Hid ((∀ k, k < ln → 1 ≤ lf k ∧ lf k ≤ (N : Int)) → r0 = lsI N (plN U lf ln) ∧ r1 = true) := fun h => hyes.out ⟨⟨hG, h40⟩, h⟩
      have hBad : Hid (∀ k, k < ln → ¬ (1 ≤ lf k ∧ lf k ≤ (N : Int)) → r0 = [] ∧ r1 = false) := fun k hk h => hno.out (fun q => h (q.2 k hk))
      have NO := hide (fun w => s_none10 a N c w hG.1 hG.2.1)
      have B := hide (fun f v ga gc w hC hv R P => s_best10 a N c U f v ga gc w hG hC hv R P)
      have hC := hide (plN_ok N U lf)
      have hN5 : (N : Int) ≤ 5 := by have := hG.2.1; omega
      clear hno hyes hG hl
      go_enter Try.func31, Try.ntmps31
      go_wp2_with fail
      refine (SG.out _ (hR.below dX)).mono ?_
      rintro e w1 ⟨rfl, b⟩
      replace dX := dX.trans (b.mono dX.size)
      replace MX := MX.below b
      have c0 := MX.2.1 0 _ rfl
      clear b
      go_wp2_with fail
      have hsz := dX.size
      have MX0 := MX
      have d1s := dX.size
      refine (NO.out _).mono ?_
      rintro e w2 ⟨g, cap, rfl, hg, hcap, hO, b2⟩
      replace dX := dX.trans (b2.mono dX.size)
      replace MX := MX.below b2
      have hgb : w.heap.size < g := Nat.lt_of_lt_of_le (by have := MX0.1; have h2 := d1s; omega) hg
      clear b2 c0 SG NO
      go_wp2_with fail
      have hszw : w.heap.size ≤ w2.heap.size := dX.size
      go_loopw [21] (fun y wr => ∃ k : Nat, y = .int .i64 k ∧ k ≤ ln ∧ Hid (∀ j, j < k → 1 ≤ lf j ∧ lf j ≤ (N : Int)) ∧ OutInt g N N (plN U lf k) wr ∧ Mut wr w.heap.size [.slice a N c] ∧ Below w.heap.size w wr) (fun y _ => ln - (intOf y).toNat)
      case atStart => exact ⟨0, rfl, Nat.zero_le _, fun j hj => absurd hj (by omega), hO, MX, dX⟩
      case round =>
        clear hO MX dX
        obtain ⟨k, rfl, hk, hall, hO, MY, dY⟩ := hrel
        have c0 := MY.2.1 0 _ rfl
        have hb := dY
        by_cases hlt : k < ln
        · have hlt' : (k : Int) < (ln : Int) := by omega
          obtain ⟨b1, off1, rfl, hb1, u1⟩ := (hP.below dY) k hlt
          have RY := hide (hR.below dY)
          have PY := hide hO.row
          by_cases g0 : lf k < 1
          · obtain ⟨rfl, rfl⟩ := hBad.out k hlt (fun h => by have := h.1; omega)
            clear hBad hY hall hO hC B
            generalize lf k = z at *
            go_wp2_with fail
            go_ret2
            exact ⟨_, rfl, ansL_nil _ _, dY⟩
          · by_cases g1 : lf k > (N : Int)
            · obtain ⟨rfl, rfl⟩ := hBad.out k hlt (fun h => by have := h.2; omega)
              clear hBad hY hall hO hC B
              generalize lf k = z at *
              go_wp2_with fail
              go_ret2
              exact ⟨_, rfl, ansL_nil _ _, dY⟩
            · have hN : Hid (∀ j, j < k + 1 → 1 ≤ lf j ∧ lf j ≤ (N : Int)) := fun j hj => by
                by_cases e : j = k
                · subst e; exact ⟨by omega, by omega⟩
                · exact hall.out j (by omega)
              have hv : (lf k).toNat - 1 < N := by omega
              have BK := hide (fun w R P => B.out (plN U lf k) ((lf k).toNat - 1) (some ⟨g, 0, none⟩) cap w (hC.out k) hv R P)
              rw [show (((lf k).toNat - 1 : Nat) : Int) + 1 = lf k by omega] at BK
              have hPut := hide (fun (w3 : World) (h : OutInt g N N (plN U lf k) w3) => h.put hv (bst U (plN U lf k) ((lf k).toNat - 1)))
              have hnext : Hid ((fun j => if j = (lf k).toNat - 1 then bst U (plN U lf k) ((lf k).toNat - 1) else plN U lf k j) = plN U lf (k + 1)) := rfl
              have hvi : lf k - 1 = (((lf k).toNat - 1 : Nat) : Int) := by omega
              have hvN : (((lf k).toNat - 1 : Nat) : Int) < (N : Int) := by omega
              generalize bst U (plN U lf k) ((lf k).toNat - 1) = x at *
              generalize hvv : (lf k).toNat - 1 = v at *
              clear hBad hY hall B hvv
              generalize lf k = z at *
              go_wp2_with fail
              refine (BK.out _ RY.out PY.out).mono ?_
              rintro e w3 ⟨rfl, b3⟩
              have M3 := MY.below b3
              have O3 := hO.below b3
              obtain ⟨⟨y3, i3, _⟩, z3⟩ := O3.2 v hv
              have ON := hide (hPut.out _ O3)
              rw [hnext.out] at ON
              have D3 := hb.trans (b3.mono hb.size)
              clear b3 c0 O3 hO hPut
              go_wp2_with fail
              exact ⟨⟨k + 1, by go_num, by omega, hN, ON.out, M3.other (by omega) _ _, D3.setCell (show w.heap.size ≤ g by omega) _⟩, by simp [intOf]; omega⟩
        · have hlt' : ¬ (k : Int) < (ln : Int) := by omega
          obtain rfl : k = ln := by omega
          obtain ⟨rfl, rfl⟩ := hY.out hall.out
          clear c0 hall hY hBad B
          go_wp2_with fail
          go_ret2
          exact ⟨_, rfl, ansL_out (by omega) hO, dY⟩
    · have h40' : (ln : Int) > 40 := by omega
      obtain ⟨rfl, rfl⟩ := hno.out (fun h => h40 h.1.2)
      clear hno hyes hG hl
      go_enter Try.func31, Try.ntmps31
      go_wp2_with fail
      refine (SG.out _ (hR.below dX)).mono ?_
      rintro e w1 ⟨rfl, b⟩
      replace dX := dX.trans (b.mono dX.size)
      clear b
      go_wp2_with fail
      go_ret2
      exact ⟨_, rfl, ansL_nil _ _, dX⟩
  · rw [show gsB N U = false from pB_f hG] at SG
    obtain ⟨rfl, rfl⟩ := hno.out (fun h => hG h.1.1)
    clear hno hyes hG hl
    go_enter Try.func31, Try.ntmps31
    go_wp2_with fail
    refine (SG.out _ (hR.below dX)).mono ?_
    rintro e w1 ⟨rfl, b⟩
    replace dX := dX.trans (b.mono dX.size)
    clear b
    go_wp2_with fail
    go_ret2
    exact ⟨_, rfl, ansL_nil _ _, dX⟩
set_option maxRecDepth 100000 in
set_option maxHeartbeats 3200000 in
theorem s_settleSppE (a : Option Addr) (N c : Nat) (U : Nat → Pl) (w : World) (hN : N ≤ 1048576) (hl : LowS N U) (hR : RowK3 a N U w) :
    Calls Try.prog 40 #[.agg #[.slice a N c]] w fun e w' => ∃ v, e = .returned (.tuple #[v, .int .i64 (seN N U), .bool (seB N U)]) ∧ AnsL w.heap.size v (seR N U) w' ∧ Below w.heap.size w w' := by
  have MX := Mut.new w #[.slice a N c] 27
  have dX : Below w.heap.size w (w.alloc (.cells #[.slice a N c] 27)) := below_box (Below.refl _ _)
  have c0 := MX.2.1 0 _ rfl
  have SG := hide (fun w R => s_goodSpp a N c U w hN hl R)
  have hno : Hid (¬ SeOk N U → seR N U = [] ∧ seN N U = 0 ∧ seB N U = false) := se_no
  have hyes : Hid (∀ k, GS N U → k ≤ 40 → Stb N U (itr N U k) → (∀ j, j < k → ¬ Stb N U (itr N U j)) → seR N U = lsI N (itr N U k) ∧ seN N U = (k : Int) ∧ seB N U = true) := fun k h h1 h2 h3 => se_yes h h1 h2 h3
  generalize seR N U = r0 at *
  generalize seN N U = r1 at *
  generalize seB N U = r2 at *
  by_cases hG : GS N U
  · rw [show gsB N U = true from pB_t hG] at SG
    have hNever : Hid ((∀ j, j < 41 → ¬ Stb N U (itr N U j)) → r0 = [] ∧ r1 = 0 ∧ r2 = false) := fun h => hno.out (se_never h)
    have hYes : Hid (∀ k, k ≤ 40 → Stb N U (itr N U k) → (∀ j, j < k → ¬ Stb N U (itr N U j)) → r0 = lsI N (itr N U k) ∧ r1 = (k : Int) ∧ r2 = true) := fun k h1 h2 h3 => hyes.out k hG h1 h2 h3
    have NO := hide (fun w => s_none10 a N c w hG.1 hG.2.1)
    have ST := hide (fun f ga gc w hC R P => s_stable10 a N c U f ga gc w hG hC R P)
    have AL := hide (fun f ga gc w hC R P => s_all10 a N c U f ga gc w hG hC R P)
    have hC := hide (itr_ok N U)
    have hN5 : (N : Int) ≤ 5 := by have := hG.2.1; omega
    have hN1 := hG.1
    clear hno hyes hG hl
    go_enter Try.func40, Try.ntmps40
    go_wp2_with fail
    refine (SG.out _ (hR.below dX)).mono ?_
    rintro e w1 ⟨rfl, b⟩
    replace dX := dX.trans (b.mono dX.size)
    replace MX := MX.below b
    have c0 := MX.2.1 0 _ rfl
    clear b
    go_wp2_with fail
    have MX0 := MX
    have d1s := dX.size
    refine (NO.out _).mono ?_
    rintro e w2 ⟨g, cap, rfl, hg, hcap, hO, b2⟩
    replace dX := dX.trans (b2.mono dX.size)
    replace MX := MX.below b2
    have hgb : w.heap.size < g := Nat.lt_of_lt_of_le (by have := MX0.1; omega) hg
    clear b2 c0 SG NO MX0
    go_wp2_with fail
    go_loopw [5, 6] (fun x y wr => ∃ (k g cap : Nat), x = .slice (some ⟨g, 0, none⟩) N cap ∧ y = .int .i64 k ∧ k ≤ 40 ∧ w.heap.size < g ∧ Hid (∀ j, j < k → ¬ Stb N U (itr N U j)) ∧ OutInt g N N (itr N U k) wr ∧ Mut wr w.heap.size [.slice a N c] ∧ Below w.heap.size w wr) (fun _ y _ => 40 - (intOf y).toNat)
    case atStart => exact ⟨0, g, cap, rfl, rfl, Nat.zero_le _, hgb, fun j hj => absurd hj (by omega), hO, MX, dX⟩
    case round =>
      clear hO MX dX hgb hg hcap
      obtain ⟨k, g, cap, rfl, rfl, hk, hgb, hall, hO, MY, dY⟩ := hrel
      have c0 := MY.2.1 0 _ rfl
      by_cases hlt : k < 40
      · have hlt' : (k : Int) < 40 := by omega
        have RY := hide (hR.below dY)
        have PY := hide hO.row
        have AK := hide (fun w R P => AL.out (itr N U k) (some ⟨g, 0, none⟩) cap w (hC.out k) R P)
        have hit : Hid (actN U (itr N U k) N = itr N U (k + 1)) := rfl
        have SM : Hid (∀ (ga : Option Addr) (gc : Nat) (w : World), RowInt ga N (actN U (itr N U k) N) w → RowInt (some ⟨g, 0, none⟩) N (itr N U k) w → Calls Try.prog 89 #[.slice ga N gc, .slice (some ⟨g, 0, none⟩) N cap] w fun e w' => e = .returned (.bool (pB (Stb N U (itr N U k)))) ∧ Below w.heap.size w w') := fun ga gc w R P => by
          rw [← pB_congr (same_stb (N := N) (U := U) (f := itr N U k))]
          exact s_same ga (some ⟨g, 0, none⟩) gc cap ⟨N, actN U (itr N U k) N⟩ ⟨N, itr N U k⟩ w (by show N ≤ _; omega) (by show N ≤ _; omega) R P
        have ST1 := hide (fun w R P => ST.out (itr N U k) (some ⟨g, 0, none⟩) cap w (hC.out k) R P)
        have MY0 := MY
        by_cases hs : Stb N U (itr N U k)
        · rw [pB_t hs] at SM ST1
          obtain ⟨rfl, rfl, rfl⟩ := hYes.out k (by omega) hs hall.out
          clear hYes hNever hall hs AL ST
          go_wp2_with fail
          refine (AK.out _ RY.out PY.out).mono ?_
          rintro e w3 ⟨g3, cap3, rfl, hg3, hcap3, hO3, b3⟩
          replace hO := hO.below b3
          replace MY := MY.below b3
          have d3 := dY.trans (b3.mono dY.size)
          have c0 := MY.2.1 0 _ rfl
          clear b3
          go_wp2_with fail
          refine (SM.out _ _ _ hO3.row hO.row).mono ?_
          rintro e w4 ⟨rfl, b4⟩
          replace hO := hO.below b4
          replace MY := MY.below b4
          have dZ := d3.trans (b4.mono d3.size)
          have c0 := MY.2.1 0 _ rfl
          clear b4
          go_wp2_with fail
          have ST2 := ST1
          have RW := hide (hR.below dZ)
          have PW := hide hO.row
          refine (ST2.out _ RW.out PW.out).mono ?_
          rintro e w5 ⟨rfl, b5⟩
          have d5 := dZ.trans (b5.mono dZ.size)
          replace hO := hO.below b5
          clear b5
          go_wp2_with fail
          go_ret3
          exact ⟨_, rfl, ansL_out (by omega) hO, d5⟩
        · rw [pB_f hs] at SM
          have hN : Hid (∀ j, j < k + 1 → ¬ Stb N U (itr N U j)) := fun j hj => by
            by_cases e : j = k
            · subst e; exact hs
            · exact hall.out j (by omega)
          clear hYes hNever hall hs AL ST ST1
          go_wp2_with fail
          refine (AK.out _ RY.out PY.out).mono ?_
          rintro e w3 ⟨g3, cap3, rfl, hg3, hcap3, hO3, b3⟩
          have hl3 := dY.size
          replace hO := hO.below b3
          replace MY := MY.below b3
          have d3 := dY.trans (b3.mono dY.size)
          have hlt3 := Nat.lt_of_lt_of_le MY0.1 hg3
          clear b3 c0
          go_wp2_with fail
          refine (SM.out _ _ _ hO3.row hO.row).mono ?_
          rintro e w4 ⟨rfl, b4⟩
          replace hO3 := hO3.below b4
          replace MY := MY.below b4
          have d4 := d3.trans (b4.mono d3.size)
          rw [hit.out] at hO3
          clear b4
          go_wp2_with fail
          exact ⟨⟨k + 1, g3, cap3, rfl, by go_num, by omega, hlt3, hN, hO3, MY, d4⟩, by simp [intOf]; omega⟩
      · have hlt' : ¬ (k : Int) < 40 := by omega
        obtain rfl : k = 40 := by omega
        have ST2 := hide (fun w R P => ST.out (itr N U 40) (some ⟨g, 0, none⟩) cap w (hC.out 40) R P)
        have RW := hide (hR.below dY)
        have PW := hide hO.row
        have dZ := dY
        by_cases hs : Stb N U (itr N U 40)
        · rw [pB_t hs] at ST2
          obtain ⟨rfl, rfl, rfl⟩ := hYes.out 40 (by omega) hs hall.out
          clear hYes hNever hall hs AL ST
          go_wp2_with fail
          refine (ST2.out _ RW.out PW.out).mono ?_
          rintro e w5 ⟨rfl, b5⟩
          have d5 := dZ.trans (b5.mono dZ.size)
          replace hO := hO.below b5
          clear b5
          go_wp2_with fail
          go_ret3
          exact ⟨_, rfl, ansL_out (by omega) hO, d5⟩
        · rw [pB_f hs] at ST2
          obtain ⟨rfl, rfl, rfl⟩ := hNever.out (fun j hj => by
            by_cases e : j = 40
            · subst e; exact hs
            · exact hall.out j (by omega))
          clear hYes hNever hall hs AL ST
          go_wp2_with fail
          refine (ST2.out _ RW.out PW.out).mono ?_
          rintro e w5 ⟨rfl, b5⟩
          have d5 := dZ.trans (b5.mono dZ.size)
          replace hO := hO.below b5
          clear b5
          go_wp2_with fail
          go_ret3
          exact ⟨_, rfl, ansL_nil _ _, d5⟩
  · rw [show gsB N U = false from pB_f hG] at SG
    obtain ⟨rfl, rfl, rfl⟩ := hno.out (fun h => hG h.1)
    clear hno hyes hG hl
    go_enter Try.func40, Try.ntmps40
    go_wp2_with fail
    refine (SG.out _ (hR.below dX)).mono ?_
    rintro e w1 ⟨rfl, b⟩
    replace dX := dX.trans (b.mono dX.size)
    clear b
    go_wp2_with fail
    go_ret3
    exact ⟨_, rfl, ansL_nil _ _, dX⟩
end Go.Proofs.Ytcnlabedlcmilaa
