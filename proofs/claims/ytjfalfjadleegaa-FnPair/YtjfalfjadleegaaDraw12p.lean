/- What the cursor draws as a pair: two holds, and a row of steps. -/
import Derived.Test.YtjfalfjadleegaaDraw12s
import Derived.Test.YtjfalfjadleegaaFlatInt
namespace Go.Proofs.Ytjfalfjadleegaa
open Go.RowKit

theorem aggI12 : AggT Try.prog 23 3 (.int .i64 0) 1 8 := ⟨Try.underlying23, by kernel_rfl, rfl, by decide⟩
/-- A list of numbers that is drawn. -/
def InL (e : TypeId) (base : Nat) (l : Value) (ln : Nat) (w : World) : Prop := ∃ xs, OwnW e 1 base l ln xs w ∧ IntD xs
theorem InL.only {e : TypeId} {base ln c : Nat} {l : Value} {w w' : World} (h : InL e base l ln w) (k : Only c w w') (hc : c < base) : InL e base l ln w' := by
  obtain ⟨xs, h1, h2⟩ := h
  exact ⟨xs, own_only12 h1 k hc, h2⟩
theorem InL.below {e : TypeId} {base ln : Nat} {l : Value} {w w' : World} (h : InL e base l ln w) (k : Below w.heap.size w w') : InL e base l ln w' := by
  obtain ⟨xs, h1, h2⟩ := h
  exact ⟨xs, ownW_below h1 k, h2⟩
theorem IntD.one1 (x : Int) : IntD [.int .i64 x] := fun u hu => ⟨x, by simpa using hu⟩
theorem InL.row {e : TypeId} {base ln : Nat} {l : Value} {w : World} (h : InL e base l ln w) : ∃ a cap f, l = .slice a ln cap ∧ RowInt a ln f w ∧ (0 < ln → ∃ g, a = some ⟨g, 0, none⟩ ∧ base ≤ g ∧ g < w.heap.size ∧ w.frozen? ⟨g, 0, none⟩ = false) := by
  obtain ⟨xs, h1, h2⟩ := h
  obtain ⟨a, cap, e, hR, hs⟩ := ownW_row h1
  have hl : xs.length = ln * 1 := h1.1
  refine ⟨a, cap, nAt xs, e, fun i hi => ?_, fun h0 => ?_⟩
  · obtain ⟨b, off, ha, hb, c0⟩ := hR i _ (h2.at (by omega))
    exact ⟨b, off, ha, hb, c0⟩
  · rcases hs with ⟨_, _, h3⟩ | ⟨g, h3, h4, h5, _, h6⟩
    · omega
    · exact ⟨g, h3, h4, h5, h6 0⟩
theorem RowInt.away12 {a : Option Addr} {n : Nat} {f : Nat → Int} {w w' : World} {c : Nat} (h : RowInt a n f w) (k : Only c w w') (hc : ∀ b off, a = some ⟨b, off, none⟩ → 0 < n → b ≠ c) : RowInt a n f w' := by
  intro i hi
  obtain ⟨b, off, ha, hb, c0⟩ := h i hi
  exact ⟨b, off, ha, Nat.lt_of_lt_of_le hb k.2.2.2.1, (k.cell hb (hc b off ha (by omega))).trans c0⟩
theorem RowInt.set0 {g n : Nat} {f : Nat → Int} {w : World} (h : RowInt (some ⟨g, 0, none⟩) n f w) (hn : 0 < n) (x : Int) : RowInt (some ⟨g, 0, none⟩) n (fun i => if i = 0 then x else f i) (w.setCell ⟨g, 0, none⟩ (.int .i64 x)) := by
  intro i hi
  obtain ⟨b, off, ha, hb, c0⟩ := h i hi
  obtain ⟨b', off', ha', hb', c0'⟩ := h 0 hn
  simp only [Option.some.injEq, Addr.mk.injEq, and_true] at ha ha'
  obtain ⟨rfl, rfl⟩ := ha
  obtain ⟨_, rfl⟩ := ha'
  refine ⟨g, 0, rfl, by simpa using hb, ?_⟩
  by_cases e : i = 0
  · subst e
    simp only [Nat.add_zero] at c0
    simp [go_sem, c0]
  · rw [World.cell?_setCell_other _ _ _ _ (by simp <;> omega)]
    simpa [e] using c0
set_option maxRecDepth 100000 in
set_option maxHeartbeats 6400000 in
theorem d_playPair (v : Value) (len : Nat) (w : World) (hby : BytesAt w.heap.size w v len) :
    Calls Try.prog 4 #[v] w fun e w' => ∃ (h1 h2 : Int) (a : Option Addr) (ln cap : Nat) (f : Nat → Int), e = .returned (.tuple #[.int .i64 h1, .int .i64 h2, .slice a ln cap]) ∧ ln ≤ 101 ∧ RowInt a ln f w' ∧ Below w.heap.size w w' := by
  obtain ⟨p, cap, rfl, hl, hj⟩ := hby
  have dd : Below w.heap.size w (w.alloc (.cells #[.slice p len cap, .int .i64 0, .int .u64 0] 35)) := below_box (Below.refl _ _)
  have hcu := cur_new12 w (.slice p len cap) 35
  have hbt := bytes_to12 (B := w.heap.size) ⟨p, cap, rfl, hl, hj⟩ dd (Nat.le_refl _)
  have cw : w.heap.size < (w.alloc (.cells #[.slice p len cap, .int .i64 0, .int .u64 0] 35)).heap.size := by simp
  go_enter Try.func4, Try.ntmps4
  go_upto_region 2 with fail
  generalize w.alloc (.cells #[.slice p len cap, .int .i64 0, .int .u64 0] 35) = wC at *
  have s1 := hide (fun k m x hk hm hc hb => d_one w.heap.size (.slice p len cap) len m k x hm hk hc hb)
  have s2 := hide (fun k m x hk hm hc hb => d_pick w.heap.size (.slice p len cap) len m k x hm hk hc hb)
  have s3 := hide (fun L k cp m x hm h1 h2 hc hb hL hLc => d_among w.heap.size (.slice p len cap) len m L 0 k cp (fun _ => True) x hm h1 h2 hc hb hL hLc)
  have hB := hide (fun (x : World) (k : Only w.heap.size wC x) => hbt.only k (Nat.le_refl _))
  have hD := hide (fun (x : World) (k : Only w.heap.size wC x) => below_only12 dd k (Nat.le_refl _))
  clear hbt dd hj hl
  go_wp2_with fail
  refine (s2.out _ _ _ (by omega) (by omega) hcu (hB.out _ (Only.refl _ _))).mono ?_
  rintro e w1 ⟨qa, hqa0, hqa1, rfl, hc1, ho1⟩
  clear hcu
  go_wp2_with fail
  refine (s1.out _ _ _ (by omega) (by omega) hc1 (hB.out _ ho1)).mono ?_
  rintro e w2 ⟨r, rfl, hc2, ho2⟩
  replace ho2 := ho1.trans ho2
  clear hc1 ho1
  cases r with
  | false =>
    obtain ⟨N, hN⟩ : ∃ N : Nat, qa = (N : Int) := ⟨qa.toNat, by omega⟩
    subst hN
    have hN9 : N ≤ 101 := by omega
    go_wp2_with fail
    go_loopw [6, 7] (fun l i wr => ∃ (k lm : Nat), i = .int .i64 k ∧ k ≤ N ∧ lm + k ≤ 101 ∧ InL 3 wC.heap.size l lm wr ∧ Cur w.heap.size (.slice p len cap) (8 + 2 * (N - k)) wr ∧ Only w.heap.size wC wr) (fun _ i _ => (intOf i).toNat)
    case atStart => exact ⟨N, 0, by first | rfl | (simp only [hN]), Nat.le_refl _, by omega, ⟨[], ownW_nil _ _ _ _, IntD.nil⟩, cur_up hc2 (by omega), ho2⟩
    case round =>
      obtain ⟨k, lm, rfl, hk, hlm, hEr, hcr, hor⟩ := hrel
      clear hc2 ho2
      by_cases hk0 : 0 < k
      · have hk0' : (k : Int) > 0 := by omega
        have hk9 : (k : Int) ≤ 101 := by omega
        have hNm := nums12_5 wr 3 0 1 1 2 2
        have bN : Below wr.heap.size wr (wr.alloc (.cells #[.int .i64 0, .int .i64 1, .int .i64 1, .int .i64 2, .int .i64 2] 3)) := below_box (Below.refl _ _)
        have hsr := hor.2.2.2.1
        have hcN := cur_below hcr bN
        have hoN := only_base12 hor (bN.mono hsr)
        have hEN := hEr.below bN
        have hrc : wr.heap.size ≠ w.heap.size := by omega
        clear bN hEr hcr
        go_wp2_with fail
        refine (s3.out _ _ _ _ _ (by omega) (by omega) (by omega) hcN (hB.out _ hoN) hNm hrc).mono ?_
        rintro e we ⟨kd, _, rfl, hce, hoe⟩
        have hEe := hEN.only hoe cw
        replace hoe := hoN.trans hoe
        clear hEN hcN hoN hNm hor
        obtain ⟨xs9, own9, I9⟩ := hEe
        have hs9 := hoe.2.2.2.1
        have RA := RowW.mut (Mut.new we #[.int .i64 kd] 3)
        have hIa := IntD.one1 kd
        have h1c := hide hIa.one'
        have bA : Below we.heap.size we (we.alloc (.cells #[.int .i64 kd] 3)) := below_box (Below.refl _ _)
        have hownA := ownW_below own9 bA
        have hbA : wC.heap.size ≤ (we.alloc (.cells #[.int .i64 kd] 3)).heap.size := by simp; omega
        have hl9 : Hid (lm + 1 ≤ 8589934593) := by show _ ≤ _; omega
        go_wp2_with (first | (at_builtin; refine wpList_appW aggI12 rfl _ _ rfl wC.heap.size _ lm xs9 rfl hownA we.heap.size 0 1 1 [.int .i64 kd] rfl rfl RA h1c.out hl9.out (by decide) hbA ?_; intro v6 w6 own6 b6 g6 _))
        exact ⟨⟨k - 1, lm + 1, by congr 1; omega, by omega, by omega, ⟨_, own6, I9.app hIa⟩, cur_grown12 (cur_below (cur_up hce (by omega)) bA) hownA cw g6, only_base12 (hoe.trans (Only.of_below (c := w.heap.size) bA)) b6⟩, by simp [intOf]; omega⟩
      · have hk0' : ¬ (k : Int) > 0 := by omega
        obtain ⟨la, lc, lf, rfl, hRl, hgl⟩ := hEr.row
        have hlmi : (lm : Int) ≤ 101 := by omega
        by_cases hl0 : lm = 0
        · subst hl0
          have hac : ∀ b off, la = some ⟨b, off, none⟩ → (0 : Nat) < 0 → b ≠ w.heap.size := fun _ _ _ h => absurd h (Nat.lt_irrefl _)
          go_upto_region 11 with fail
          have hcW := hcr
          have hoW := hor
          have hRW := hRl
          clear hcr hor hRl hEr
          generalize wr = W at *
          have hNm := nums12_5 W 3 3 9 30 90 2
          have bN : Below W.heap.size W (W.alloc (.cells #[.int .i64 3, .int .i64 9, .int .i64 30, .int .i64 90, .int .i64 2] 3)) := below_box (Below.refl _ _)
          have hs9 := hoW.2.2.2.1
          have hcN := cur_below hcW bN
          have hoN := only_base12 hoW (bN.mono hs9)
          have hRN := hRW.below bN
          have hWc : W.heap.size ≠ w.heap.size := by omega
          clear bN hcW hRW
          go_wp2_with fail
          refine (s3.out _ _ _ _ _ (by omega) (by omega) (by omega) hcN (hB.out _ hoN) hNm hWc).mono ?_
          rintro e wm ⟨ra, _, rfl, hcm, hom⟩
          have hRm := hRN.away12 hom hac
          replace hom := hoN.trans hom
          have hNm2 := nums12_4 wm 3 3 9 30 90
          have bM : Below wm.heap.size wm (wm.alloc (.cells #[.int .i64 3, .int .i64 9, .int .i64 30, .int .i64 90] 3)) := below_box (Below.refl _ _)
          have hsm := hom.2.2.2.1
          have hcM := cur_below hcm bM
          have hoM := only_base12 hom (bM.mono hsm)
          have hRM := hRm.below bM
          have hmc : wm.heap.size ≠ w.heap.size := by omega
          clear bM hcm hRm hcN hoN hRN hNm
          go_wp2_with fail
          refine (s3.out _ _ _ _ _ (by omega) (by omega) (by omega) hcM (hB.out _ hoM) hNm2 hmc).mono ?_
          rintro e wn ⟨rb, _, rfl, hcn, hon⟩
          have hRn := hRM.away12 hon hac
          replace hon := hoM.trans hon
          go_wp2_with fail
          exact bodyPost_ret (v := .tuple #[.int .i64 ra, .int .i64 rb, .slice la 0 lc]) (by simp [results, Try.results4, go_sem]) rfl ⟨ra, rb, _, _, _, _, rfl, by omega, hRn, hD.out _ hon⟩
        · have hlp : 0 < lm := by omega
          have hlp' : (lm : Int) > 0 := by omega
          obtain ⟨g, rfl, hgb, hgw, hgf⟩ := hgl hlp
          have hac : ∀ b off, (some ⟨g, 0, none⟩ : Option Addr) = some ⟨b, off, none⟩ → 0 < lm → b ≠ w.heap.size := fun b off h _ => by simp only [Option.some.injEq, Addr.mk.injEq] at h; omega
          go_wp2_with fail
          refine (s1.out _ _ _ (by omega) (by omega) hcr (hB.out _ hor)).mono ?_
          rintro e wo ⟨ro, rfl, hco, hoo⟩
          have hRo := hRl.away12 hoo hac
          have hgf' : wo.frozen? ⟨g, 0, none⟩ = false := (hoo.frozen hgw (by omega)).trans hgf
          replace hoo := hor.trans hoo
          clear hcr hor hRl hEr hgf
          cases ro with
          | false =>
            go_upto_region 11 with fail
            have hcW := hco
            have hoW := hoo
            have hRW := hRo
            clear hco hoo hRo
            generalize wo = W at *
            have hNm := nums12_5 W 3 3 9 30 90 2
            have bN : Below W.heap.size W (W.alloc (.cells #[.int .i64 3, .int .i64 9, .int .i64 30, .int .i64 90, .int .i64 2] 3)) := below_box (Below.refl _ _)
            have hs9 := hoW.2.2.2.1
            have hcN := cur_below hcW bN
            have hoN := only_base12 hoW (bN.mono hs9)
            have hRN := hRW.below bN
            have hWc : W.heap.size ≠ w.heap.size := by omega
            clear bN hcW hRW
            go_wp2_with fail
            refine (s3.out _ _ _ _ _ (by omega) (by omega) (by omega) hcN (hB.out _ hoN) hNm hWc).mono ?_
            rintro e wm ⟨ra, _, rfl, hcm, hom⟩
            have hRm := hRN.away12 hom hac
            replace hom := hoN.trans hom
            have hNm2 := nums12_4 wm 3 3 9 30 90
            have bM : Below wm.heap.size wm (wm.alloc (.cells #[.int .i64 3, .int .i64 9, .int .i64 30, .int .i64 90] 3)) := below_box (Below.refl _ _)
            have hsm := hom.2.2.2.1
            have hcM := cur_below hcm bM
            have hoM := only_base12 hom (bM.mono hsm)
            have hRM := hRm.below bM
            have hmc : wm.heap.size ≠ w.heap.size := by omega
            clear bM hcm hRm hcN hoN hRN hNm
            go_wp2_with fail
            refine (s3.out _ _ _ _ _ (by omega) (by omega) (by omega) hcM (hB.out _ hoM) hNm2 hmc).mono ?_
            rintro e wn ⟨rb, _, rfl, hcn, hon⟩
            have hRn := hRM.away12 hon hac
            replace hon := hoM.trans hon
            go_wp2_with fail
            exact bodyPost_ret (v := .tuple #[.int .i64 ra, .int .i64 rb, .slice (some ⟨g, 0, none⟩) lm lc]) (by simp [results, Try.results4, go_sem]) rfl ⟨ra, rb, _, _, _, _, rfl, by omega, hRn, hD.out _ hon⟩
          | true =>
            obtain ⟨b0, o0, e0, _, c00⟩ := hRo 0 hlp
            simp only [Option.some.injEq, Addr.mk.injEq, and_true] at e0
            obtain ⟨rfl, rfl⟩ := e0
            simp only [Nat.add_zero] at c00
            have hRW := hRo.set0 hlp 3
            have hcW := cur_only hco ((Only.refl g wo).setCell 0 (.int .i64 3)) (by omega)
            have hoW : Only w.heap.size wC (wo.setCell ⟨g, 0, none⟩ (.int .i64 3)) := hoo.setNew hgb 0 _
            go_upto_region 11 with fail
            clear c00 hco hoo hRo hgf'
            generalize wo.setCell ⟨g, 0, none⟩ (.int .i64 3) = W at *
            have hNm := nums12_5 W 3 3 9 30 90 2
            have bN : Below W.heap.size W (W.alloc (.cells #[.int .i64 3, .int .i64 9, .int .i64 30, .int .i64 90, .int .i64 2] 3)) := below_box (Below.refl _ _)
            have hs9 := hoW.2.2.2.1
            have hcN := cur_below hcW bN
            have hoN := only_base12 hoW (bN.mono hs9)
            have hRN := hRW.below bN
            have hWc : W.heap.size ≠ w.heap.size := by omega
            clear bN hcW hRW
            go_wp2_with fail
            refine (s3.out _ _ _ _ _ (by omega) (by omega) (by omega) hcN (hB.out _ hoN) hNm hWc).mono ?_
            rintro e wm ⟨ra, _, rfl, hcm, hom⟩
            have hRm := hRN.away12 hom hac
            replace hom := hoN.trans hom
            have hNm2 := nums12_4 wm 3 3 9 30 90
            have bM : Below wm.heap.size wm (wm.alloc (.cells #[.int .i64 3, .int .i64 9, .int .i64 30, .int .i64 90] 3)) := below_box (Below.refl _ _)
            have hsm := hom.2.2.2.1
            have hcM := cur_below hcm bM
            have hoM := only_base12 hom (bM.mono hsm)
            have hRM := hRm.below bM
            have hmc : wm.heap.size ≠ w.heap.size := by omega
            clear bM hcm hRm hcN hoN hRN hNm
            go_wp2_with fail
            refine (s3.out _ _ _ _ _ (by omega) (by omega) (by omega) hcM (hB.out _ hoM) hNm2 hmc).mono ?_
            rintro e wn ⟨rb, _, rfl, hcn, hon⟩
            have hRn := hRM.away12 hon hac
            replace hon := hoM.trans hon
            go_wp2_with fail
            exact bodyPost_ret (v := .tuple #[.int .i64 ra, .int .i64 rb, .slice (some ⟨g, 0, none⟩) lm lc]) (by simp [results, Try.results4, go_sem]) rfl ⟨ra, rb, _, _, _, _, rfl, by omega, hRn, hD.out _ hon⟩
  | true =>
    go_wp2_with fail
    refine (s2.out _ _ _ (by omega) (by omega) hc2 (hB.out _ ho2)).mono ?_
    rintro e w3 ⟨qd, hqd0, hqd1, rfl, hc3, ho3⟩
    replace ho3 := ho2.trans ho3
    clear hc2 ho2
    obtain ⟨N, hN⟩ : ∃ N : Nat, 100 + qd = (N : Int) := ⟨(100 + qd).toNat, by omega⟩
    have hN9 : N ≤ 101 := by omega
    clear hqa0 hqa1
    go_wp2_with fail
    go_loopw [6, 7] (fun l i wr => ∃ (k lm : Nat), i = .int .i64 k ∧ k ≤ N ∧ lm + k ≤ 101 ∧ InL 3 wC.heap.size l lm wr ∧ Cur w.heap.size (.slice p len cap) (8 + 2 * (N - k)) wr ∧ Only w.heap.size wC wr) (fun _ i _ => (intOf i).toNat)
    case atStart => exact ⟨N, 0, by first | rfl | (simp only [hN]), Nat.le_refl _, by omega, ⟨[], ownW_nil _ _ _ _, IntD.nil⟩, cur_up hc3 (by omega), ho3⟩
    case round =>
      obtain ⟨k, lm, rfl, hk, hlm, hEr, hcr, hor⟩ := hrel
      clear hc3 ho3
      by_cases hk0 : 0 < k
      · have hk0' : (k : Int) > 0 := by omega
        have hk9 : (k : Int) ≤ 101 := by omega
        have hNm := nums12_5 wr 3 0 1 1 2 2
        have bN : Below wr.heap.size wr (wr.alloc (.cells #[.int .i64 0, .int .i64 1, .int .i64 1, .int .i64 2, .int .i64 2] 3)) := below_box (Below.refl _ _)
        have hsr := hor.2.2.2.1
        have hcN := cur_below hcr bN
        have hoN := only_base12 hor (bN.mono hsr)
        have hEN := hEr.below bN
        have hrc : wr.heap.size ≠ w.heap.size := by omega
        clear bN hEr hcr
        go_wp2_with fail
        refine (s3.out _ _ _ _ _ (by omega) (by omega) (by omega) hcN (hB.out _ hoN) hNm hrc).mono ?_
        rintro e we ⟨kd, _, rfl, hce, hoe⟩
        have hEe := hEN.only hoe cw
        replace hoe := hoN.trans hoe
        clear hEN hcN hoN hNm hor
        obtain ⟨xs9, own9, I9⟩ := hEe
        have hs9 := hoe.2.2.2.1
        have RA := RowW.mut (Mut.new we #[.int .i64 kd] 3)
        have hIa := IntD.one1 kd
        have h1c := hide hIa.one'
        have bA : Below we.heap.size we (we.alloc (.cells #[.int .i64 kd] 3)) := below_box (Below.refl _ _)
        have hownA := ownW_below own9 bA
        have hbA : wC.heap.size ≤ (we.alloc (.cells #[.int .i64 kd] 3)).heap.size := by simp; omega
        have hl9 : Hid (lm + 1 ≤ 8589934593) := by show _ ≤ _; omega
        go_wp2_with (first | (at_builtin; refine wpList_appW aggI12 rfl _ _ rfl wC.heap.size _ lm xs9 rfl hownA we.heap.size 0 1 1 [.int .i64 kd] rfl rfl RA h1c.out hl9.out (by decide) hbA ?_; intro v6 w6 own6 b6 g6 _))
        exact ⟨⟨k - 1, lm + 1, by congr 1; omega, by omega, by omega, ⟨_, own6, I9.app hIa⟩, cur_grown12 (cur_below (cur_up hce (by omega)) bA) hownA cw g6, only_base12 (hoe.trans (Only.of_below (c := w.heap.size) bA)) b6⟩, by simp [intOf]; omega⟩
      · have hk0' : ¬ (k : Int) > 0 := by omega
        obtain ⟨la, lc, lf, rfl, hRl, hgl⟩ := hEr.row
        have hlmi : (lm : Int) ≤ 101 := by omega
        by_cases hl0 : lm = 0
        · subst hl0
          have hac : ∀ b off, la = some ⟨b, off, none⟩ → (0 : Nat) < 0 → b ≠ w.heap.size := fun _ _ _ h => absurd h (Nat.lt_irrefl _)
          go_upto_region 11 with fail
          have hcW := hcr
          have hoW := hor
          have hRW := hRl
          clear hcr hor hRl hEr
          generalize wr = W at *
          have hNm := nums12_5 W 3 3 9 30 90 2
          have bN : Below W.heap.size W (W.alloc (.cells #[.int .i64 3, .int .i64 9, .int .i64 30, .int .i64 90, .int .i64 2] 3)) := below_box (Below.refl _ _)
          have hs9 := hoW.2.2.2.1
          have hcN := cur_below hcW bN
          have hoN := only_base12 hoW (bN.mono hs9)
          have hRN := hRW.below bN
          have hWc : W.heap.size ≠ w.heap.size := by omega
          clear bN hcW hRW
          go_wp2_with fail
          refine (s3.out _ _ _ _ _ (by omega) (by omega) (by omega) hcN (hB.out _ hoN) hNm hWc).mono ?_
          rintro e wm ⟨ra, _, rfl, hcm, hom⟩
          have hRm := hRN.away12 hom hac
          replace hom := hoN.trans hom
          have hNm2 := nums12_4 wm 3 3 9 30 90
          have bM : Below wm.heap.size wm (wm.alloc (.cells #[.int .i64 3, .int .i64 9, .int .i64 30, .int .i64 90] 3)) := below_box (Below.refl _ _)
          have hsm := hom.2.2.2.1
          have hcM := cur_below hcm bM
          have hoM := only_base12 hom (bM.mono hsm)
          have hRM := hRm.below bM
          have hmc : wm.heap.size ≠ w.heap.size := by omega
          clear bM hcm hRm hcN hoN hRN hNm
          go_wp2_with fail
          refine (s3.out _ _ _ _ _ (by omega) (by omega) (by omega) hcM (hB.out _ hoM) hNm2 hmc).mono ?_
          rintro e wn ⟨rb, _, rfl, hcn, hon⟩
          have hRn := hRM.away12 hon hac
          replace hon := hoM.trans hon
          go_wp2_with fail
          exact bodyPost_ret (v := .tuple #[.int .i64 ra, .int .i64 rb, .slice la 0 lc]) (by simp [results, Try.results4, go_sem]) rfl ⟨ra, rb, _, _, _, _, rfl, by omega, hRn, hD.out _ hon⟩
        · have hlp : 0 < lm := by omega
          have hlp' : (lm : Int) > 0 := by omega
          obtain ⟨g, rfl, hgb, hgw, hgf⟩ := hgl hlp
          have hac : ∀ b off, (some ⟨g, 0, none⟩ : Option Addr) = some ⟨b, off, none⟩ → 0 < lm → b ≠ w.heap.size := fun b off h _ => by simp only [Option.some.injEq, Addr.mk.injEq] at h; omega
          go_wp2_with fail
          refine (s1.out _ _ _ (by omega) (by omega) hcr (hB.out _ hor)).mono ?_
          rintro e wo ⟨ro, rfl, hco, hoo⟩
          have hRo := hRl.away12 hoo hac
          have hgf' : wo.frozen? ⟨g, 0, none⟩ = false := (hoo.frozen hgw (by omega)).trans hgf
          replace hoo := hor.trans hoo
          clear hcr hor hRl hEr hgf
          cases ro with
          | false =>
            go_upto_region 11 with fail
            have hcW := hco
            have hoW := hoo
            have hRW := hRo
            clear hco hoo hRo
            generalize wo = W at *
            have hNm := nums12_5 W 3 3 9 30 90 2
            have bN : Below W.heap.size W (W.alloc (.cells #[.int .i64 3, .int .i64 9, .int .i64 30, .int .i64 90, .int .i64 2] 3)) := below_box (Below.refl _ _)
            have hs9 := hoW.2.2.2.1
            have hcN := cur_below hcW bN
            have hoN := only_base12 hoW (bN.mono hs9)
            have hRN := hRW.below bN
            have hWc : W.heap.size ≠ w.heap.size := by omega
            clear bN hcW hRW
            go_wp2_with fail
            refine (s3.out _ _ _ _ _ (by omega) (by omega) (by omega) hcN (hB.out _ hoN) hNm hWc).mono ?_
            rintro e wm ⟨ra, _, rfl, hcm, hom⟩
            have hRm := hRN.away12 hom hac
            replace hom := hoN.trans hom
            have hNm2 := nums12_4 wm 3 3 9 30 90
            have bM : Below wm.heap.size wm (wm.alloc (.cells #[.int .i64 3, .int .i64 9, .int .i64 30, .int .i64 90] 3)) := below_box (Below.refl _ _)
            have hsm := hom.2.2.2.1
            have hcM := cur_below hcm bM
            have hoM := only_base12 hom (bM.mono hsm)
            have hRM := hRm.below bM
            have hmc : wm.heap.size ≠ w.heap.size := by omega
            clear bM hcm hRm hcN hoN hRN hNm
            go_wp2_with fail
            refine (s3.out _ _ _ _ _ (by omega) (by omega) (by omega) hcM (hB.out _ hoM) hNm2 hmc).mono ?_
            rintro e wn ⟨rb, _, rfl, hcn, hon⟩
            have hRn := hRM.away12 hon hac
            replace hon := hoM.trans hon
            go_wp2_with fail
            exact bodyPost_ret (v := .tuple #[.int .i64 ra, .int .i64 rb, .slice (some ⟨g, 0, none⟩) lm lc]) (by simp [results, Try.results4, go_sem]) rfl ⟨ra, rb, _, _, _, _, rfl, by omega, hRn, hD.out _ hon⟩
          | true =>
            obtain ⟨b0, o0, e0, _, c00⟩ := hRo 0 hlp
            simp only [Option.some.injEq, Addr.mk.injEq, and_true] at e0
            obtain ⟨rfl, rfl⟩ := e0
            simp only [Nat.add_zero] at c00
            have hRW := hRo.set0 hlp 3
            have hcW := cur_only hco ((Only.refl g wo).setCell 0 (.int .i64 3)) (by omega)
            have hoW : Only w.heap.size wC (wo.setCell ⟨g, 0, none⟩ (.int .i64 3)) := hoo.setNew hgb 0 _
            go_upto_region 11 with fail
            clear c00 hco hoo hRo hgf'
            generalize wo.setCell ⟨g, 0, none⟩ (.int .i64 3) = W at *
            have hNm := nums12_5 W 3 3 9 30 90 2
            have bN : Below W.heap.size W (W.alloc (.cells #[.int .i64 3, .int .i64 9, .int .i64 30, .int .i64 90, .int .i64 2] 3)) := below_box (Below.refl _ _)
            have hs9 := hoW.2.2.2.1
            have hcN := cur_below hcW bN
            have hoN := only_base12 hoW (bN.mono hs9)
            have hRN := hRW.below bN
            have hWc : W.heap.size ≠ w.heap.size := by omega
            clear bN hcW hRW
            go_wp2_with fail
            refine (s3.out _ _ _ _ _ (by omega) (by omega) (by omega) hcN (hB.out _ hoN) hNm hWc).mono ?_
            rintro e wm ⟨ra, _, rfl, hcm, hom⟩
            have hRm := hRN.away12 hom hac
            replace hom := hoN.trans hom
            have hNm2 := nums12_4 wm 3 3 9 30 90
            have bM : Below wm.heap.size wm (wm.alloc (.cells #[.int .i64 3, .int .i64 9, .int .i64 30, .int .i64 90] 3)) := below_box (Below.refl _ _)
            have hsm := hom.2.2.2.1
            have hcM := cur_below hcm bM
            have hoM := only_base12 hom (bM.mono hsm)
            have hRM := hRm.below bM
            have hmc : wm.heap.size ≠ w.heap.size := by omega
            clear bM hcm hRm hcN hoN hRN hNm
            go_wp2_with fail
            refine (s3.out _ _ _ _ _ (by omega) (by omega) (by omega) hcM (hB.out _ hoM) hNm2 hmc).mono ?_
            rintro e wn ⟨rb, _, rfl, hcn, hon⟩
            have hRn := hRM.away12 hon hac
            replace hon := hoM.trans hon
            go_wp2_with fail
            exact bodyPost_ret (v := .tuple #[.int .i64 ra, .int .i64 rb, .slice (some ⟨g, 0, none⟩) lm lc]) (by simp [results, Try.results4, go_sem]) rfl ⟨ra, rb, _, _, _, _, rfl, by omega, hRn, hD.out _ hon⟩
end Go.Proofs.Ytjfalfjadleegaa
