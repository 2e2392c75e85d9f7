/- What the specification's cursor draws as sessions. -/
import Derived.Test.YtencpplhlciffaaDraw12
import Derived.Test.YtencpplhlciffaaS12p
namespace Go.Proofs.Ytencpplhlciffaa
open Go.RowKit

theorem Only.newOnly {c d : Nat} {w x y : World} (h : Only c w x) (k : Only d x y) (hd : w.heap.size ≤ d) : Only c w y :=
  ⟨k.1.trans h.1, k.2.1.trans h.2.1, k.2.2.1.trans h.2.2.1, Nat.le_trans h.2.2.2.1 k.2.2.2.1, fun i hi hn => (k.2.2.2.2 i (Nat.lt_of_lt_of_le hi h.2.2.2.1) (by omega)).trans (h.2.2.2.2 i hi hn)⟩
theorem RowEvent.onlyC {a : Option Addr} {n : Nat} {f0 f1 : Nat → Int} {w w' : World} {c : Nat} (h : RowEvent a n f0 f1 w) (k : Only c w w') (hc : ∀ b off, a = some ⟨b, off, none⟩ → b ≠ c) : RowEvent a n f0 f1 w' := by
  intro i hi
  obtain ⟨b, off, ha, hb, c0, c1⟩ := h i hi
  exact ⟨b, off, ha, Nat.lt_of_lt_of_le hb k.2.2.2.1, (k.cell hb (hc b off ha)).trans c0, (k.cell hb (hc b off ha)).trans c1⟩
theorem RowEvent.less {a : Option Addr} {n m : Nat} {f0 f1 : Nat → Int} {w : World} (h : RowEvent a n f0 f1 w) (hm : m ≤ n) : RowEvent a m f0 f1 w := fun i hi => h i (by omega)
set_option maxRecDepth 100000 in
set_option maxHeartbeats 6400000 in
theorem d_session (c : Nat) (v : Value) (len n : Nat) (w : World) (hn : n ≤ 10000) (hcur : Cur c v n w) (hby : BytesAt c w v len) :
    Calls Try.prog 24 #[.pointer (some ⟨c, 0, none⟩)] w fun e w' =>
      ∃ s : Se, e = .returned s.v ∧ Cur c v (n + 1100) w' ∧ Only c w w' := by
  have hcw : c < w.heap.size := by obtain ⟨p, s, h0, h1, hc, _⟩ := hcur; exact hc
  have s0 := hide (fun m w hm hc hb => d_events c v len m w hm hc hb)
  have s2 := hide (fun k m w hk hm hc hb => d_pick c v len m k w hm hk hc hb)
  have s3 := hide (fun L k cap m w hm h1 h2 hc hb hL hLc => d_among c v len m L 0 k cap (fun _ => True) w hm h1 h2 hc hb hL hLc)
  have s4 := hide (fun h ra n rc f0 f1 w hn hR => s_playEvents h ra n rc f0 f1 w hn hR)
  have s5 := hide (fun w => s_new 9 w)
  rw [(new_t (h := 9) (by omega)).1, (new_t (h := 9) (by omega)).2] at s5
  have hB := hide (fun (w' : World) (k : Only c w w') => hby.only k (Nat.le_refl _))
  have MR := Mut.zeros5 w 27
  have bR : Below w.heap.size w (w.alloc (.cells #[.int .i64 0, .int .i64 0, .int .i64 0, .int .i64 0, .int .i64 0] 27)) := below_box (Below.refl _ _)
  have hc0 := cur_below hcur bR
  have ho0 : Only c w (w.alloc (.cells #[.int .i64 0, .int .i64 0, .int .i64 0, .int .i64 0, .int .i64 0] 27)) := Only.of_below bR
  have hRc : w.heap.size ≠ c := by omega
  clear hby hcur bR
  go_enter Try.func24, Try.ntmps24
  go_wp2_with fail
  generalize w.alloc (.cells #[.int .i64 0, .int .i64 0, .int .i64 0, .int .i64 0, .int .i64 0] 27) = wz at *
  refine (s0.out _ _ (by omega) hc0 (hB.out _ ho0)).mono ?_
  rintro e w1 ⟨lv, ln, rfl, hln, hE1, hc1, ho1⟩
  replace MR := MR.only ho1 hRc
  obtain ⟨xs, own1, I1⟩ := hE1
  obtain ⟨ra, rc, f0, f1, rfl, hrc, hR1⟩ := own_event own1 I1
  have hcE : ∀ b off, ra = some ⟨b, off, none⟩ → b ≠ c := by
    intro b off e
    subst e
    obtain ⟨a', cap', e', _, hs⟩ := ownW_row own1
    simp only [Value.slice.injEq] at e'
    obtain ⟨e1, _, _⟩ := e'
    have hzc : w.heap.size ≤ wz.heap.size := ho0.2.2.2.1
    rcases hs with ⟨h, _⟩ | ⟨g, h, hb, _⟩
    · rw [h] at e1; simp at e1
    · rw [h] at e1; simp only [Option.some.injEq, Addr.mk.injEq] at e1; omega
  replace ho1 := ho0.trans ho1
  have hlni : (ln : Int) ≤ 104 := by omega
  have hrci : (ln : Int) ≤ (rc : Int) := by omega
  clear own1 I1 hc0 ho0
  by_cases hl6 : ln > 60
  · have hl6' : (ln : Int) > 60 := by omega
    obtain ⟨b, off, rfl, hbw, _⟩ := hR1 0 (by omega)
    have hR6 := hR1.less (m := 60) (by omega)
    have h60 : 60 ≤ rc := by omega
    clear hR1 hbw
    go_wp2_with fail
    refine (s2.out _ _ _ (by omega) (by omega) hc1 (hB.out _ ho1)).mono ?_
    rintro e w2 ⟨qa, hqa0, hqa1, rfl, hc2, ho2⟩
    replace MR := MR.only ho2 hRc
    have hR2 : RowEvent _ _ f0 f1 w2 := hR6.onlyC ho2 hcE
    replace ho2 := ho1.trans ho2
    have hqa2 : qa ≤ 20 := by omega
    clear hc1 ho1
    go_wp2_with fail
    refine (s4.out _ _ _ _ _ _ _ (by omega) hR2).mono ?_
    rintro e w3 ⟨lv3, rfl, _, b3⟩
    generalize peS _ _ f0 f1 = Y at *
    generalize peB _ _ f0 f1 = g at *
    obtain ⟨y0, y1, y2, y3, y4⟩ := Y
    replace MR := MR.below b3
    have hc3 := cur_below hc2 b3
    have ho3 := ho2.trans (Only.of_below (c := c) b3)
    clear b3 hc2 ho2 hR2
    have MS := Mut.new w3 #[.int .i64 y0, .int .i64 y1, .int .i64 y2, .int .i64 y3, .int .i64 y4] 27
    have bS : Below w3.heap.size w3 (w3.alloc (.cells #[.int .i64 y0, .int .i64 y1, .int .i64 y2, .int .i64 y3, .int .i64 y4] 27)) := below_box (Below.refl _ _)
    have hRS : w.heap.size < w3.heap.size := MR.1
    replace MR := MR.below bS
    have hc4 := cur_below hc3 bS
    have ho4 := ho3.trans (Only.of_below (c := c) bS)
    have hs3 : w.heap.size ≤ w3.heap.size := ho3.2.2.2.1
    have hSc : w3.heap.size ≠ c := by omega
    clear bS hc3 ho3
    cases g with
    | true =>
      go_wp2_with fail
      generalize w3.alloc (.cells #[.int .i64 y0, .int .i64 y1, .int .i64 y2, .int .i64 y3, .int .i64 y4] 27) = X at *
      generalize w3.heap.size = b4 at *
      refine (s2.out _ _ _ (by omega) (by omega) hc4 (hB.out _ ho4)).mono ?_
      rintro e w6 ⟨qb, hqb0, hqb1, rfl, hc6, ho6⟩
      replace MR := MR.only ho6 hRc
      replace MS := MS.only ho6 hSc
      replace ho6 := ho4.trans ho6
      clear hc4 ho4
      by_cases k0 : qb = 0
      · subst k0
        go_wp2_with fail
        refine (s2.out _ _ _ (by omega) (by omega) hc6 (hB.out _ ho6)).mono ?_
        rintro e w7 ⟨qc, hqc0, hqc1, rfl, hc7, ho7⟩
        replace MR := MR.only ho7 hRc
        replace MS := MS.only ho7 hSc
        replace ho7 := ho6.trans ho7
        have zz := MS.2.1 0 _ rfl
        have zzf := MS.2.2 0 (by simp)
        have MS9 := MS.set 0 (.int .i64 qc)
        simp only [List.set_cons_zero] at MS9
        have MR9 := MR.other (c := b4) (by omega) 0 (.int .i64 qc)
        have hcE9 := cur_only hc7 ((Only.refl b4 w7).setCell 0 (.int .i64 qc)) (Ne.symm hSc)
        have hoE9 : Only c w (w7.setCell ⟨b4, 0, none⟩ (.int .i64 qc)) := ho7.setNew hs3 0 _
        clear MS MR hc6 ho6 hc7 ho7
        go_upto_region 12 with fail
        clear zz zzf
        generalize w7.setCell ⟨b4, 0, none⟩ (.int .i64 qc) = W at *
        have z0 := MS9.2.1 0 _ rfl
        have z1 := MS9.2.1 1 _ rfl
        have z2 := MS9.2.1 2 _ rfl
        have z3 := MS9.2.1 3 _ rfl
        have z4 := MS9.2.1 4 _ rfl
        have u0 := MR9.2.1 0 _ rfl
        have u1 := MR9.2.1 1 _ rfl
        have u2 := MR9.2.1 2 _ rfl
        have u3 := MR9.2.1 3 _ rfl
        have u4 := MR9.2.1 4 _ rfl
        have uf0 := MR9.2.2 0 (by simp)
        have uf1 := MR9.2.2 1 (by simp)
        have uf2 := MR9.2.2 2 (by simp)
        have uf3 := MR9.2.2 3 (by simp)
        have uf4 := MR9.2.2 4 (by simp)
        have hcz := cur_only hcE9 (((((Only.refl w.heap.size W).setCell 0 (.int .i64 qc)).setCell 1 (.int .i64 y1)).setCell 2 (.int .i64 y2)).setCell 3 (.int .i64 y3) |>.setCell 4 (.int .i64 y4)) (Ne.symm hRc)
        have hoz := ((((hoE9.setNew (b := w.heap.size) (Nat.le_refl _) 0 (.int .i64 qc)).setNew (b := w.heap.size) (Nat.le_refl _) 1 (.int .i64 y1)).setNew (b := w.heap.size) (Nat.le_refl _) 2 (.int .i64 y2)).setNew (b := w.heap.size) (Nat.le_refl _) 3 (.int .i64 y3)).setNew (b := w.heap.size) (Nat.le_refl _) 4 (.int .i64 y4)
        go_wp2_with fail
        exact bodyPost_ret (v := (⟨qc, y1, y2, y3, y4⟩ : Se).v) (by simp [results, Try.results24, go_sem, u0, u1, u2, u3, u4]) rfl ⟨⟨qc, y1, y2, y3, y4⟩, rfl, cur_up hcz (by omega), hoz⟩
      · have k0' : (qb == 0) = false := by simp [k0]
        by_cases k1 : qb = 1
        · subst k1
          have hNm := nums12_3 w6 3 0 1 91
          have bN : Below w6.heap.size w6 (w6.alloc (.cells #[.int .i64 0, .int .i64 1, .int .i64 91] 3)) := below_box (Below.refl _ _)
          have hcN := cur_below hc6 bN
          have hs6 := ho6.2.2.2.1
          have hoN := only_base12 ho6 (bN.mono hs6)
          have MRN := MR.below bN
          have MSN := MS.below bN
          have h6c : w6.heap.size ≠ c := by omega
          clear bN hc6 ho6 MR MS
          go_wp2_with fail
          refine (s3.out _ _ _ _ _ (by omega) (by omega) (by omega) hcN (hB.out _ hoN) hNm h6c).mono ?_
          rintro e w7 ⟨qc, _, rfl, hc7, ho7⟩
          have MR := MRN.only ho7 hRc
          have MS := MSN.only ho7 hSc
          replace ho7 := hoN.trans ho7
          have zz := MS.2.1 2 _ rfl
          have zzf := MS.2.2 2 (by simp)
          have MS9 := MS.set 2 (.int .i64 qc)
          simp only [List.set_cons_zero, List.set_cons_succ] at MS9
          have MR9 := MR.other (c := b4) (by omega) 2 (.int .i64 qc)
          have hcE9 := cur_only hc7 ((Only.refl b4 w7).setCell 2 (.int .i64 qc)) (Ne.symm hSc)
          have hoE9 : Only c w (w7.setCell ⟨b4, 2, none⟩ (.int .i64 qc)) := ho7.setNew hs3 2 _
          clear MS MR hc7 ho7 MRN MSN hcN hoN hNm
          go_upto_region 12 with fail
          clear zz zzf
          generalize w7.setCell ⟨b4, 2, none⟩ (.int .i64 qc) = W at *
          have z0 := MS9.2.1 0 _ rfl
          have z1 := MS9.2.1 1 _ rfl
          have z2 := MS9.2.1 2 _ rfl
          have z3 := MS9.2.1 3 _ rfl
          have z4 := MS9.2.1 4 _ rfl
          have u0 := MR9.2.1 0 _ rfl
          have u1 := MR9.2.1 1 _ rfl
          have u2 := MR9.2.1 2 _ rfl
          have u3 := MR9.2.1 3 _ rfl
          have u4 := MR9.2.1 4 _ rfl
          have uf0 := MR9.2.2 0 (by simp)
          have uf1 := MR9.2.2 1 (by simp)
          have uf2 := MR9.2.2 2 (by simp)
          have uf3 := MR9.2.2 3 (by simp)
          have uf4 := MR9.2.2 4 (by simp)
          have hcz := cur_only hcE9 (((((Only.refl w.heap.size W).setCell 0 (.int .i64 y0)).setCell 1 (.int .i64 y1)).setCell 2 (.int .i64 qc)).setCell 3 (.int .i64 y3) |>.setCell 4 (.int .i64 y4)) (Ne.symm hRc)
          have hoz := ((((hoE9.setNew (b := w.heap.size) (Nat.le_refl _) 0 (.int .i64 y0)).setNew (b := w.heap.size) (Nat.le_refl _) 1 (.int .i64 y1)).setNew (b := w.heap.size) (Nat.le_refl _) 2 (.int .i64 qc)).setNew (b := w.heap.size) (Nat.le_refl _) 3 (.int .i64 y3)).setNew (b := w.heap.size) (Nat.le_refl _) 4 (.int .i64 y4)
          go_wp2_with fail
          exact bodyPost_ret (v := (⟨y0, y1, qc, y3, y4⟩ : Se).v) (by simp [results, Try.results24, go_sem, u0, u1, u2, u3, u4]) rfl ⟨⟨y0, y1, qc, y3, y4⟩, rfl, cur_up hcz (by omega), hoz⟩
        · have k1' : (qb == 1) = false := by simp [k1]
          have MS9 := MS
          have MR9 := MR
          have hcE9 := hc6
          have hoE9 := ho6
          have z0 := MS9.2.1 0 _ rfl
          have z1 := MS9.2.1 1 _ rfl
          have z2 := MS9.2.1 2 _ rfl
          have z3 := MS9.2.1 3 _ rfl
          have z4 := MS9.2.1 4 _ rfl
          have u0 := MR9.2.1 0 _ rfl
          have u1 := MR9.2.1 1 _ rfl
          have u2 := MR9.2.1 2 _ rfl
          have u3 := MR9.2.1 3 _ rfl
          have u4 := MR9.2.1 4 _ rfl
          have uf0 := MR9.2.2 0 (by simp)
          have uf1 := MR9.2.2 1 (by simp)
          have uf2 := MR9.2.2 2 (by simp)
          have uf3 := MR9.2.2 3 (by simp)
          have uf4 := MR9.2.2 4 (by simp)
          have hcz := cur_only hcE9 (((((Only.refl w.heap.size w6).setCell 0 (.int .i64 y0)).setCell 1 (.int .i64 y1)).setCell 2 (.int .i64 y2)).setCell 3 (.int .i64 y3) |>.setCell 4 (.int .i64 y4)) (Ne.symm hRc)
          have hoz := ((((hoE9.setNew (b := w.heap.size) (Nat.le_refl _) 0 (.int .i64 y0)).setNew (b := w.heap.size) (Nat.le_refl _) 1 (.int .i64 y1)).setNew (b := w.heap.size) (Nat.le_refl _) 2 (.int .i64 y2)).setNew (b := w.heap.size) (Nat.le_refl _) 3 (.int .i64 y3)).setNew (b := w.heap.size) (Nat.le_refl _) 4 (.int .i64 y4)
          go_wp2_with fail
          exact bodyPost_ret (v := (⟨y0, y1, y2, y3, y4⟩ : Se).v) (by simp [results, Try.results24, go_sem, u0, u1, u2, u3, u4]) rfl ⟨⟨y0, y1, y2, y3, y4⟩, rfl, cur_up hcz (by omega), hoz⟩
    | false =>
      go_wp2_with fail
      generalize w3.alloc (.cells #[.int .i64 y0, .int .i64 y1, .int .i64 y2, .int .i64 y3, .int .i64 y4] 27) = wx at *
      generalize w3.heap.size = b4 at *
      refine (s5.out _).mono ?_
      rintro e w5 ⟨rfl, b5⟩
      replace MR := MR.below b5
      replace MS := MS.below b5
      replace hc4 := cur_below hc4 b5
      replace ho4 := ho4.trans (Only.of_below (c := c) b5)
      have hMS := hide MS
      have hone := hide (Se.one ⟨0, 9, 0, 0, 0⟩)
      clear b5 MS
      go_wp2_with (refine wpList_storeM rfl rfl rfl rfl hMS.out rfl hone.out (by kernel_rfl) ?_; intro X M5 o5)
      have MS := M5
      replace MR := MR.only o5 (by omega)
      replace hc4 := cur_only hc4 o5 (Ne.symm hSc)
      replace ho4 : Only c w X := ho4.newOnly o5 hs3
      clear hMS hone M5 o5
      refine (s2.out _ _ _ (by omega) (by omega) hc4 (hB.out _ ho4)).mono ?_
      rintro e w6 ⟨qb, hqb0, hqb1, rfl, hc6, ho6⟩
      replace MR := MR.only ho6 hRc
      replace MS := MS.only ho6 hSc
      replace ho6 := ho4.trans ho6
      clear hc4 ho4
      by_cases k0 : qb = 0
      · subst k0
        go_wp2_with fail
        refine (s2.out _ _ _ (by omega) (by omega) hc6 (hB.out _ ho6)).mono ?_
        rintro e w7 ⟨qc, hqc0, hqc1, rfl, hc7, ho7⟩
        replace MR := MR.only ho7 hRc
        replace MS := MS.only ho7 hSc
        replace ho7 := ho6.trans ho7
        have zz := MS.2.1 0 _ rfl
        have zzf := MS.2.2 0 (by simp)
        have MS9 := MS.set 0 (.int .i64 qc)
        simp only [List.set_cons_zero] at MS9
        have MR9 := MR.other (c := b4) (by omega) 0 (.int .i64 qc)
        have hcE9 := cur_only hc7 ((Only.refl b4 w7).setCell 0 (.int .i64 qc)) (Ne.symm hSc)
        have hoE9 : Only c w (w7.setCell ⟨b4, 0, none⟩ (.int .i64 qc)) := ho7.setNew hs3 0 _
        clear MS MR hc6 ho6 hc7 ho7
        go_upto_region 12 with fail
        clear zz zzf
        generalize w7.setCell ⟨b4, 0, none⟩ (.int .i64 qc) = W at *
        have z0 := MS9.2.1 0 _ rfl
        have z1 := MS9.2.1 1 _ rfl
        have z2 := MS9.2.1 2 _ rfl
        have z3 := MS9.2.1 3 _ rfl
        have z4 := MS9.2.1 4 _ rfl
        have u0 := MR9.2.1 0 _ rfl
        have u1 := MR9.2.1 1 _ rfl
        have u2 := MR9.2.1 2 _ rfl
        have u3 := MR9.2.1 3 _ rfl
        have u4 := MR9.2.1 4 _ rfl
        have uf0 := MR9.2.2 0 (by simp)
        have uf1 := MR9.2.2 1 (by simp)
        have uf2 := MR9.2.2 2 (by simp)
        have uf3 := MR9.2.2 3 (by simp)
        have uf4 := MR9.2.2 4 (by simp)
        have hcz := cur_only hcE9 (((((Only.refl w.heap.size W).setCell 0 (.int .i64 qc)).setCell 1 (.int .i64 9)).setCell 2 (.int .i64 0)).setCell 3 (.int .i64 0) |>.setCell 4 (.int .i64 0)) (Ne.symm hRc)
        have hoz := ((((hoE9.setNew (b := w.heap.size) (Nat.le_refl _) 0 (.int .i64 qc)).setNew (b := w.heap.size) (Nat.le_refl _) 1 (.int .i64 9)).setNew (b := w.heap.size) (Nat.le_refl _) 2 (.int .i64 0)).setNew (b := w.heap.size) (Nat.le_refl _) 3 (.int .i64 0)).setNew (b := w.heap.size) (Nat.le_refl _) 4 (.int .i64 0)
        go_wp2_with fail
        exact bodyPost_ret (v := (⟨qc, 9, 0, 0, 0⟩ : Se).v) (by simp [results, Try.results24, go_sem, u0, u1, u2, u3, u4]) rfl ⟨⟨qc, 9, 0, 0, 0⟩, rfl, cur_up hcz (by omega), hoz⟩
      · have k0' : (qb == 0) = false := by simp [k0]
        by_cases k1 : qb = 1
        · subst k1
          have hNm := nums12_3 w6 3 0 1 91
          have bN : Below w6.heap.size w6 (w6.alloc (.cells #[.int .i64 0, .int .i64 1, .int .i64 91] 3)) := below_box (Below.refl _ _)
          have hcN := cur_below hc6 bN
          have hs6 := ho6.2.2.2.1
          have hoN := only_base12 ho6 (bN.mono hs6)
          have MRN := MR.below bN
          have MSN := MS.below bN
          have h6c : w6.heap.size ≠ c := by omega
          clear bN hc6 ho6 MR MS
          go_wp2_with fail
          refine (s3.out _ _ _ _ _ (by omega) (by omega) (by omega) hcN (hB.out _ hoN) hNm h6c).mono ?_
          rintro e w7 ⟨qc, _, rfl, hc7, ho7⟩
          have MR := MRN.only ho7 hRc
          have MS := MSN.only ho7 hSc
          replace ho7 := hoN.trans ho7
          have zz := MS.2.1 2 _ rfl
          have zzf := MS.2.2 2 (by simp)
          have MS9 := MS.set 2 (.int .i64 qc)
          simp only [List.set_cons_zero, List.set_cons_succ] at MS9
          have MR9 := MR.other (c := b4) (by omega) 2 (.int .i64 qc)
          have hcE9 := cur_only hc7 ((Only.refl b4 w7).setCell 2 (.int .i64 qc)) (Ne.symm hSc)
          have hoE9 : Only c w (w7.setCell ⟨b4, 2, none⟩ (.int .i64 qc)) := ho7.setNew hs3 2 _
          clear MS MR hc7 ho7 MRN MSN hcN hoN hNm
          go_upto_region 12 with fail
          clear zz zzf
          generalize w7.setCell ⟨b4, 2, none⟩ (.int .i64 qc) = W at *
          have z0 := MS9.2.1 0 _ rfl
          have z1 := MS9.2.1 1 _ rfl
          have z2 := MS9.2.1 2 _ rfl
          have z3 := MS9.2.1 3 _ rfl
          have z4 := MS9.2.1 4 _ rfl
          have u0 := MR9.2.1 0 _ rfl
          have u1 := MR9.2.1 1 _ rfl
          have u2 := MR9.2.1 2 _ rfl
          have u3 := MR9.2.1 3 _ rfl
          have u4 := MR9.2.1 4 _ rfl
          have uf0 := MR9.2.2 0 (by simp)
          have uf1 := MR9.2.2 1 (by simp)
          have uf2 := MR9.2.2 2 (by simp)
          have uf3 := MR9.2.2 3 (by simp)
          have uf4 := MR9.2.2 4 (by simp)
          have hcz := cur_only hcE9 (((((Only.refl w.heap.size W).setCell 0 (.int .i64 0)).setCell 1 (.int .i64 9)).setCell 2 (.int .i64 qc)).setCell 3 (.int .i64 0) |>.setCell 4 (.int .i64 0)) (Ne.symm hRc)
          have hoz := ((((hoE9.setNew (b := w.heap.size) (Nat.le_refl _) 0 (.int .i64 0)).setNew (b := w.heap.size) (Nat.le_refl _) 1 (.int .i64 9)).setNew (b := w.heap.size) (Nat.le_refl _) 2 (.int .i64 qc)).setNew (b := w.heap.size) (Nat.le_refl _) 3 (.int .i64 0)).setNew (b := w.heap.size) (Nat.le_refl _) 4 (.int .i64 0)
          go_wp2_with fail
          exact bodyPost_ret (v := (⟨0, 9, qc, 0, 0⟩ : Se).v) (by simp [results, Try.results24, go_sem, u0, u1, u2, u3, u4]) rfl ⟨⟨0, 9, qc, 0, 0⟩, rfl, cur_up hcz (by omega), hoz⟩
        · have k1' : (qb == 1) = false := by simp [k1]
          have MS9 := MS
          have MR9 := MR
          have hcE9 := hc6
          have hoE9 := ho6
          have z0 := MS9.2.1 0 _ rfl
          have z1 := MS9.2.1 1 _ rfl
          have z2 := MS9.2.1 2 _ rfl
          have z3 := MS9.2.1 3 _ rfl
          have z4 := MS9.2.1 4 _ rfl
          have u0 := MR9.2.1 0 _ rfl
          have u1 := MR9.2.1 1 _ rfl
          have u2 := MR9.2.1 2 _ rfl
          have u3 := MR9.2.1 3 _ rfl
          have u4 := MR9.2.1 4 _ rfl
          have uf0 := MR9.2.2 0 (by simp)
          have uf1 := MR9.2.2 1 (by simp)
          have uf2 := MR9.2.2 2 (by simp)
          have uf3 := MR9.2.2 3 (by simp)
          have uf4 := MR9.2.2 4 (by simp)
          have hcz := cur_only hcE9 (((((Only.refl w.heap.size w6).setCell 0 (.int .i64 0)).setCell 1 (.int .i64 9)).setCell 2 (.int .i64 0)).setCell 3 (.int .i64 0) |>.setCell 4 (.int .i64 0)) (Ne.symm hRc)
          have hoz := ((((hoE9.setNew (b := w.heap.size) (Nat.le_refl _) 0 (.int .i64 0)).setNew (b := w.heap.size) (Nat.le_refl _) 1 (.int .i64 9)).setNew (b := w.heap.size) (Nat.le_refl _) 2 (.int .i64 0)).setNew (b := w.heap.size) (Nat.le_refl _) 3 (.int .i64 0)).setNew (b := w.heap.size) (Nat.le_refl _) 4 (.int .i64 0)
          go_wp2_with fail
          exact bodyPost_ret (v := (⟨0, 9, 0, 0, 0⟩ : Se).v) (by simp [results, Try.results24, go_sem, u0, u1, u2, u3, u4]) rfl ⟨⟨0, 9, 0, 0, 0⟩, rfl, cur_up hcz (by omega), hoz⟩
  · have hl6' : ¬ (ln : Int) > 60 := by omega
    have hR6 := hR1
    clear hR1
    go_wp2_with fail
    refine (s2.out _ _ _ (by omega) (by omega) hc1 (hB.out _ ho1)).mono ?_
    rintro e w2 ⟨qa, hqa0, hqa1, rfl, hc2, ho2⟩
    replace MR := MR.only ho2 hRc
    have hR2 : RowEvent _ _ f0 f1 w2 := hR6.onlyC ho2 hcE
    replace ho2 := ho1.trans ho2
    have hqa2 : qa ≤ 20 := by omega
    clear hc1 ho1
    go_wp2_with fail
    refine (s4.out _ _ _ _ _ _ _ (by omega) hR2).mono ?_
    rintro e w3 ⟨lv3, rfl, _, b3⟩
    generalize peS _ _ f0 f1 = Y at *
    generalize peB _ _ f0 f1 = g at *
    obtain ⟨y0, y1, y2, y3, y4⟩ := Y
    replace MR := MR.below b3
    have hc3 := cur_below hc2 b3
    have ho3 := ho2.trans (Only.of_below (c := c) b3)
    clear b3 hc2 ho2 hR2
    have MS := Mut.new w3 #[.int .i64 y0, .int .i64 y1, .int .i64 y2, .int .i64 y3, .int .i64 y4] 27
    have bS : Below w3.heap.size w3 (w3.alloc (.cells #[.int .i64 y0, .int .i64 y1, .int .i64 y2, .int .i64 y3, .int .i64 y4] 27)) := below_box (Below.refl _ _)
    have hRS : w.heap.size < w3.heap.size := MR.1
    replace MR := MR.below bS
    have hc4 := cur_below hc3 bS
    have ho4 := ho3.trans (Only.of_below (c := c) bS)
    have hs3 : w.heap.size ≤ w3.heap.size := ho3.2.2.2.1
    have hSc : w3.heap.size ≠ c := by omega
    clear bS hc3 ho3
    cases g with
    | true =>
      go_wp2_with fail
      generalize w3.alloc (.cells #[.int .i64 y0, .int .i64 y1, .int .i64 y2, .int .i64 y3, .int .i64 y4] 27) = X at *
      generalize w3.heap.size = b4 at *
      refine (s2.out _ _ _ (by omega) (by omega) hc4 (hB.out _ ho4)).mono ?_
      rintro e w6 ⟨qb, hqb0, hqb1, rfl, hc6, ho6⟩
      replace MR := MR.only ho6 hRc
      replace MS := MS.only ho6 hSc
      replace ho6 := ho4.trans ho6
      clear hc4 ho4
      by_cases k0 : qb = 0
      · subst k0
        go_wp2_with fail
        refine (s2.out _ _ _ (by omega) (by omega) hc6 (hB.out _ ho6)).mono ?_
        rintro e w7 ⟨qc, hqc0, hqc1, rfl, hc7, ho7⟩
        replace MR := MR.only ho7 hRc
        replace MS := MS.only ho7 hSc
        replace ho7 := ho6.trans ho7
        have zz := MS.2.1 0 _ rfl
        have zzf := MS.2.2 0 (by simp)
        have MS9 := MS.set 0 (.int .i64 qc)
        simp only [List.set_cons_zero] at MS9
        have MR9 := MR.other (c := b4) (by omega) 0 (.int .i64 qc)
        have hcE9 := cur_only hc7 ((Only.refl b4 w7).setCell 0 (.int .i64 qc)) (Ne.symm hSc)
        have hoE9 : Only c w (w7.setCell ⟨b4, 0, none⟩ (.int .i64 qc)) := ho7.setNew hs3 0 _
        clear MS MR hc6 ho6 hc7 ho7
        go_upto_region 12 with fail
        clear zz zzf
        generalize w7.setCell ⟨b4, 0, none⟩ (.int .i64 qc) = W at *
        have z0 := MS9.2.1 0 _ rfl
        have z1 := MS9.2.1 1 _ rfl
        have z2 := MS9.2.1 2 _ rfl
        have z3 := MS9.2.1 3 _ rfl
        have z4 := MS9.2.1 4 _ rfl
        have u0 := MR9.2.1 0 _ rfl
        have u1 := MR9.2.1 1 _ rfl
        have u2 := MR9.2.1 2 _ rfl
        have u3 := MR9.2.1 3 _ rfl
        have u4 := MR9.2.1 4 _ rfl
        have uf0 := MR9.2.2 0 (by simp)
        have uf1 := MR9.2.2 1 (by simp)
        have uf2 := MR9.2.2 2 (by simp)
        have uf3 := MR9.2.2 3 (by simp)
        have uf4 := MR9.2.2 4 (by simp)
        have hcz := cur_only hcE9 (((((Only.refl w.heap.size W).setCell 0 (.int .i64 qc)).setCell 1 (.int .i64 y1)).setCell 2 (.int .i64 y2)).setCell 3 (.int .i64 y3) |>.setCell 4 (.int .i64 y4)) (Ne.symm hRc)
        have hoz := ((((hoE9.setNew (b := w.heap.size) (Nat.le_refl _) 0 (.int .i64 qc)).setNew (b := w.heap.size) (Nat.le_refl _) 1 (.int .i64 y1)).setNew (b := w.heap.size) (Nat.le_refl _) 2 (.int .i64 y2)).setNew (b := w.heap.size) (Nat.le_refl _) 3 (.int .i64 y3)).setNew (b := w.heap.size) (Nat.le_refl _) 4 (.int .i64 y4)
        go_wp2_with fail
        exact bodyPost_ret (v := (⟨qc, y1, y2, y3, y4⟩ : Se).v) (by simp [results, Try.results24, go_sem, u0, u1, u2, u3, u4]) rfl ⟨⟨qc, y1, y2, y3, y4⟩, rfl, cur_up hcz (by omega), hoz⟩
      · have k0' : (qb == 0) = false := by simp [k0]
        by_cases k1 : qb = 1
        · subst k1
          have hNm := nums12_3 w6 3 0 1 91
          have bN : Below w6.heap.size w6 (w6.alloc (.cells #[.int .i64 0, .int .i64 1, .int .i64 91] 3)) := below_box (Below.refl _ _)
          have hcN := cur_below hc6 bN
          have hs6 := ho6.2.2.2.1
          have hoN := only_base12 ho6 (bN.mono hs6)
          have MRN := MR.below bN
          have MSN := MS.below bN
          have h6c : w6.heap.size ≠ c := by omega
          clear bN hc6 ho6 MR MS
          go_wp2_with fail
          refine (s3.out _ _ _ _ _ (by omega) (by omega) (by omega) hcN (hB.out _ hoN) hNm h6c).mono ?_
          rintro e w7 ⟨qc, _, rfl, hc7, ho7⟩
          have MR := MRN.only ho7 hRc
          have MS := MSN.only ho7 hSc
          replace ho7 := hoN.trans ho7
          have zz := MS.2.1 2 _ rfl
          have zzf := MS.2.2 2 (by simp)
          have MS9 := MS.set 2 (.int .i64 qc)
          simp only [List.set_cons_zero, List.set_cons_succ] at MS9
          have MR9 := MR.other (c := b4) (by omega) 2 (.int .i64 qc)
          have hcE9 := cur_only hc7 ((Only.refl b4 w7).setCell 2 (.int .i64 qc)) (Ne.symm hSc)
          have hoE9 : Only c w (w7.setCell ⟨b4, 2, none⟩ (.int .i64 qc)) := ho7.setNew hs3 2 _
          clear MS MR hc7 ho7 MRN MSN hcN hoN hNm
          go_upto_region 12 with fail
          clear zz zzf
          generalize w7.setCell ⟨b4, 2, none⟩ (.int .i64 qc) = W at *
          have z0 := MS9.2.1 0 _ rfl
          have z1 := MS9.2.1 1 _ rfl
          have z2 := MS9.2.1 2 _ rfl
          have z3 := MS9.2.1 3 _ rfl
          have z4 := MS9.2.1 4 _ rfl
          have u0 := MR9.2.1 0 _ rfl
          have u1 := MR9.2.1 1 _ rfl
          have u2 := MR9.2.1 2 _ rfl
          have u3 := MR9.2.1 3 _ rfl
          have u4 := MR9.2.1 4 _ rfl
          have uf0 := MR9.2.2 0 (by simp)
          have uf1 := MR9.2.2 1 (by simp)
          have uf2 := MR9.2.2 2 (by simp)
          have uf3 := MR9.2.2 3 (by simp)
          have uf4 := MR9.2.2 4 (by simp)
          have hcz := cur_only hcE9 (((((Only.refl w.heap.size W).setCell 0 (.int .i64 y0)).setCell 1 (.int .i64 y1)).setCell 2 (.int .i64 qc)).setCell 3 (.int .i64 y3) |>.setCell 4 (.int .i64 y4)) (Ne.symm hRc)
          have hoz := ((((hoE9.setNew (b := w.heap.size) (Nat.le_refl _) 0 (.int .i64 y0)).setNew (b := w.heap.size) (Nat.le_refl _) 1 (.int .i64 y1)).setNew (b := w.heap.size) (Nat.le_refl _) 2 (.int .i64 qc)).setNew (b := w.heap.size) (Nat.le_refl _) 3 (.int .i64 y3)).setNew (b := w.heap.size) (Nat.le_refl _) 4 (.int .i64 y4)
          go_wp2_with fail
          exact bodyPost_ret (v := (⟨y0, y1, qc, y3, y4⟩ : Se).v) (by simp [results, Try.results24, go_sem, u0, u1, u2, u3, u4]) rfl ⟨⟨y0, y1, qc, y3, y4⟩, rfl, cur_up hcz (by omega), hoz⟩
        · have k1' : (qb == 1) = false := by simp [k1]
          have MS9 := MS
          have MR9 := MR
          have hcE9 := hc6
          have hoE9 := ho6
          have z0 := MS9.2.1 0 _ rfl
          have z1 := MS9.2.1 1 _ rfl
          have z2 := MS9.2.1 2 _ rfl
          have z3 := MS9.2.1 3 _ rfl
          have z4 := MS9.2.1 4 _ rfl
          have u0 := MR9.2.1 0 _ rfl
          have u1 := MR9.2.1 1 _ rfl
          have u2 := MR9.2.1 2 _ rfl
          have u3 := MR9.2.1 3 _ rfl
          have u4 := MR9.2.1 4 _ rfl
          have uf0 := MR9.2.2 0 (by simp)
          have uf1 := MR9.2.2 1 (by simp)
          have uf2 := MR9.2.2 2 (by simp)
          have uf3 := MR9.2.2 3 (by simp)
          have uf4 := MR9.2.2 4 (by simp)
          have hcz := cur_only hcE9 (((((Only.refl w.heap.size w6).setCell 0 (.int .i64 y0)).setCell 1 (.int .i64 y1)).setCell 2 (.int .i64 y2)).setCell 3 (.int .i64 y3) |>.setCell 4 (.int .i64 y4)) (Ne.symm hRc)
          have hoz := ((((hoE9.setNew (b := w.heap.size) (Nat.le_refl _) 0 (.int .i64 y0)).setNew (b := w.heap.size) (Nat.le_refl _) 1 (.int .i64 y1)).setNew (b := w.heap.size) (Nat.le_refl _) 2 (.int .i64 y2)).setNew (b := w.heap.size) (Nat.le_refl _) 3 (.int .i64 y3)).setNew (b := w.heap.size) (Nat.le_refl _) 4 (.int .i64 y4)
          go_wp2_with fail
          exact bodyPost_ret (v := (⟨y0, y1, y2, y3, y4⟩ : Se).v) (by simp [results, Try.results24, go_sem, u0, u1, u2, u3, u4]) rfl ⟨⟨y0, y1, y2, y3, y4⟩, rfl, cur_up hcz (by omega), hoz⟩
    | false =>
      go_wp2_with fail
      generalize w3.alloc (.cells #[.int .i64 y0, .int .i64 y1, .int .i64 y2, .int .i64 y3, .int .i64 y4] 27) = wx at *
      generalize w3.heap.size = b4 at *
      refine (s5.out _).mono ?_
      rintro e w5 ⟨rfl, b5⟩
      replace MR := MR.below b5
      replace MS := MS.below b5
      replace hc4 := cur_below hc4 b5
      replace ho4 := ho4.trans (Only.of_below (c := c) b5)
      have hMS := hide MS
      have hone := hide (Se.one ⟨0, 9, 0, 0, 0⟩)
      clear b5 MS
      go_wp2_with (refine wpList_storeM rfl rfl rfl rfl hMS.out rfl hone.out (by kernel_rfl) ?_; intro X M5 o5)
      have MS := M5
      replace MR := MR.only o5 (by omega)
      replace hc4 := cur_only hc4 o5 (Ne.symm hSc)
      replace ho4 : Only c w X := ho4.newOnly o5 hs3
      clear hMS hone M5 o5
      refine (s2.out _ _ _ (by omega) (by omega) hc4 (hB.out _ ho4)).mono ?_
      rintro e w6 ⟨qb, hqb0, hqb1, rfl, hc6, ho6⟩
      replace MR := MR.only ho6 hRc
      replace MS := MS.only ho6 hSc
      replace ho6 := ho4.trans ho6
      clear hc4 ho4
      by_cases k0 : qb = 0
      · subst k0
        go_wp2_with fail
        refine (s2.out _ _ _ (by omega) (by omega) hc6 (hB.out _ ho6)).mono ?_
        rintro e w7 ⟨qc, hqc0, hqc1, rfl, hc7, ho7⟩
        replace MR := MR.only ho7 hRc
        replace MS := MS.only ho7 hSc
        replace ho7 := ho6.trans ho7
        have zz := MS.2.1 0 _ rfl
        have zzf := MS.2.2 0 (by simp)
        have MS9 := MS.set 0 (.int .i64 qc)
        simp only [List.set_cons_zero] at MS9
        have MR9 := MR.other (c := b4) (by omega) 0 (.int .i64 qc)
        have hcE9 := cur_only hc7 ((Only.refl b4 w7).setCell 0 (.int .i64 qc)) (Ne.symm hSc)
        have hoE9 : Only c w (w7.setCell ⟨b4, 0, none⟩ (.int .i64 qc)) := ho7.setNew hs3 0 _
        clear MS MR hc6 ho6 hc7 ho7
        go_upto_region 12 with fail
        clear zz zzf
        generalize w7.setCell ⟨b4, 0, none⟩ (.int .i64 qc) = W at *
        have z0 := MS9.2.1 0 _ rfl
        have z1 := MS9.2.1 1 _ rfl
        have z2 := MS9.2.1 2 _ rfl
        have z3 := MS9.2.1 3 _ rfl
        have z4 := MS9.2.1 4 _ rfl
        have u0 := MR9.2.1 0 _ rfl
        have u1 := MR9.2.1 1 _ rfl
        have u2 := MR9.2.1 2 _ rfl
        have u3 := MR9.2.1 3 _ rfl
        have u4 := MR9.2.1 4 _ rfl
        have uf0 := MR9.2.2 0 (by simp)
        have uf1 := MR9.2.2 1 (by simp)
        have uf2 := MR9.2.2 2 (by simp)
        have uf3 := MR9.2.2 3 (by simp)
        have uf4 := MR9.2.2 4 (by simp)
        have hcz := cur_only hcE9 (((((Only.refl w.heap.size W).setCell 0 (.int .i64 qc)).setCell 1 (.int .i64 9)).setCell 2 (.int .i64 0)).setCell 3 (.int .i64 0) |>.setCell 4 (.int .i64 0)) (Ne.symm hRc)
        have hoz := ((((hoE9.setNew (b := w.heap.size) (Nat.le_refl _) 0 (.int .i64 qc)).setNew (b := w.heap.size) (Nat.le_refl _) 1 (.int .i64 9)).setNew (b := w.heap.size) (Nat.le_refl _) 2 (.int .i64 0)).setNew (b := w.heap.size) (Nat.le_refl _) 3 (.int .i64 0)).setNew (b := w.heap.size) (Nat.le_refl _) 4 (.int .i64 0)
        go_wp2_with fail
        exact bodyPost_ret (v := (⟨qc, 9, 0, 0, 0⟩ : Se).v) (by simp [results, Try.results24, go_sem, u0, u1, u2, u3, u4]) rfl ⟨⟨qc, 9, 0, 0, 0⟩, rfl, cur_up hcz (by omega), hoz⟩
      · have k0' : (qb == 0) = false := by simp [k0]
        by_cases k1 : qb = 1
        · subst k1
          have hNm := nums12_3 w6 3 0 1 91
          have bN : Below w6.heap.size w6 (w6.alloc (.cells #[.int .i64 0, .int .i64 1, .int .i64 91] 3)) := below_box (Below.refl _ _)
          have hcN := cur_below hc6 bN
          have hs6 := ho6.2.2.2.1
          have hoN := only_base12 ho6 (bN.mono hs6)
          have MRN := MR.below bN
          have MSN := MS.below bN
          have h6c : w6.heap.size ≠ c := by omega
          clear bN hc6 ho6 MR MS
          go_wp2_with fail
          refine (s3.out _ _ _ _ _ (by omega) (by omega) (by omega) hcN (hB.out _ hoN) hNm h6c).mono ?_
          rintro e w7 ⟨qc, _, rfl, hc7, ho7⟩
          have MR := MRN.only ho7 hRc
          have MS := MSN.only ho7 hSc
          replace ho7 := hoN.trans ho7
          have zz := MS.2.1 2 _ rfl
          have zzf := MS.2.2 2 (by simp)
          have MS9 := MS.set 2 (.int .i64 qc)
          simp only [List.set_cons_zero, List.set_cons_succ] at MS9
          have MR9 := MR.other (c := b4) (by omega) 2 (.int .i64 qc)
          have hcE9 := cur_only hc7 ((Only.refl b4 w7).setCell 2 (.int .i64 qc)) (Ne.symm hSc)
          have hoE9 : Only c w (w7.setCell ⟨b4, 2, none⟩ (.int .i64 qc)) := ho7.setNew hs3 2 _
          clear MS MR hc7 ho7 MRN MSN hcN hoN hNm
          go_upto_region 12 with fail
          clear zz zzf
          generalize w7.setCell ⟨b4, 2, none⟩ (.int .i64 qc) = W at *
          have z0 := MS9.2.1 0 _ rfl
          have z1 := MS9.2.1 1 _ rfl
          have z2 := MS9.2.1 2 _ rfl
          have z3 := MS9.2.1 3 _ rfl
          have z4 := MS9.2.1 4 _ rfl
          have u0 := MR9.2.1 0 _ rfl
          have u1 := MR9.2.1 1 _ rfl
          have u2 := MR9.2.1 2 _ rfl
          have u3 := MR9.2.1 3 _ rfl
          have u4 := MR9.2.1 4 _ rfl
          have uf0 := MR9.2.2 0 (by simp)
          have uf1 := MR9.2.2 1 (by simp)
          have uf2 := MR9.2.2 2 (by simp)
          have uf3 := MR9.2.2 3 (by simp)
          have uf4 := MR9.2.2 4 (by simp)
          have hcz := cur_only hcE9 (((((Only.refl w.heap.size W).setCell 0 (.int .i64 0)).setCell 1 (.int .i64 9)).setCell 2 (.int .i64 qc)).setCell 3 (.int .i64 0) |>.setCell 4 (.int .i64 0)) (Ne.symm hRc)
          have hoz := ((((hoE9.setNew (b := w.heap.size) (Nat.le_refl _) 0 (.int .i64 0)).setNew (b := w.heap.size) (Nat.le_refl _) 1 (.int .i64 9)).setNew (b := w.heap.size) (Nat.le_refl _) 2 (.int .i64 qc)).setNew (b := w.heap.size) (Nat.le_refl _) 3 (.int .i64 0)).setNew (b := w.heap.size) (Nat.le_refl _) 4 (.int .i64 0)
          go_wp2_with fail
          exact bodyPost_ret (v := (⟨0, 9, qc, 0, 0⟩ : Se).v) (by simp [results, Try.results24, go_sem, u0, u1, u2, u3, u4]) rfl ⟨⟨0, 9, qc, 0, 0⟩, rfl, cur_up hcz (by omega), hoz⟩
        · have k1' : (qb == 1) = false := by simp [k1]
          have MS9 := MS
          have MR9 := MR
          have hcE9 := hc6
          have hoE9 := ho6
          have z0 := MS9.2.1 0 _ rfl
          have z1 := MS9.2.1 1 _ rfl
          have z2 := MS9.2.1 2 _ rfl
          have z3 := MS9.2.1 3 _ rfl
          have z4 := MS9.2.1 4 _ rfl
          have u0 := MR9.2.1 0 _ rfl
          have u1 := MR9.2.1 1 _ rfl
          have u2 := MR9.2.1 2 _ rfl
          have u3 := MR9.2.1 3 _ rfl
          have u4 := MR9.2.1 4 _ rfl
          have uf0 := MR9.2.2 0 (by simp)
          have uf1 := MR9.2.2 1 (by simp)
          have uf2 := MR9.2.2 2 (by simp)
          have uf3 := MR9.2.2 3 (by simp)
          have uf4 := MR9.2.2 4 (by simp)
          have hcz := cur_only hcE9 (((((Only.refl w.heap.size w6).setCell 0 (.int .i64 0)).setCell 1 (.int .i64 9)).setCell 2 (.int .i64 0)).setCell 3 (.int .i64 0) |>.setCell 4 (.int .i64 0)) (Ne.symm hRc)
          have hoz := ((((hoE9.setNew (b := w.heap.size) (Nat.le_refl _) 0 (.int .i64 0)).setNew (b := w.heap.size) (Nat.le_refl _) 1 (.int .i64 9)).setNew (b := w.heap.size) (Nat.le_refl _) 2 (.int .i64 0)).setNew (b := w.heap.size) (Nat.le_refl _) 3 (.int .i64 0)).setNew (b := w.heap.size) (Nat.le_refl _) 4 (.int .i64 0)
          go_wp2_with fail
          exact bodyPost_ret (v := (⟨0, 9, 0, 0, 0⟩ : Se).v) (by simp [results, Try.results24, go_sem, u0, u1, u2, u3, u4]) rfl ⟨⟨0, 9, 0, 0, 0⟩, rfl, cur_up hcz (by omega), hoz⟩
theorem bytes_to12 {B : Nat} {w w' : World} {v : Value} {len : Nat} (h : BytesAt w.heap.size w v len) (k : Below w.heap.size w w') (hB : w.heap.size ≤ B) : BytesAt B w' v len := by
  obtain ⟨a, cap, hv, hl, hj⟩ := h
  refine ⟨a, cap, hv, hl, fun j h => ?_⟩
  obtain ⟨b, off, z, ha, hb, hw, hz, h0, h1⟩ := hj j h
  exact ⟨b, off, z, ha, by omega, Nat.lt_of_lt_of_le hw k.size, (k.cell (p := ⟨b, off + j, none⟩) hw).trans hz, h0, h1⟩
theorem cur_new12 (w : World) (v : Value) (t : TypeId) : Cur w.heap.size v 0 (w.alloc (.cells #[v, .int .i64 0, .int .u64 0] t)) :=
  ⟨0, 0, by omega, by omega, by simp, by simp [go_sem], by simp [go_sem], by simp [go_sem], by omega, by simp [go_sem], by simp [go_sem], by simp [go_sem]⟩
theorem below_only12 {b : Nat} {w x y : World} (h : Below w.heap.size w x) (k : Only b x y) (hb : w.heap.size ≤ b) : Below w.heap.size w y :=
  ⟨k.1.trans h.os, k.2.1.trans h.tape, k.2.2.1.trans h.output, Nat.le_trans h.size k.2.2.2.1, fun i hi => (k.2.2.2.2 i (Nat.lt_of_lt_of_le hi h.size) (by omega)).trans (h.block i hi)⟩
set_option maxRecDepth 100000 in
set_option maxHeartbeats 800000 in
theorem d_newSession (v : Value) (len : Nat) (w : World) (hby : BytesAt w.heap.size w v len) :
    Calls Try.prog 13 #[v] w fun e w' => ∃ r : Int, e = .returned (.int .i64 r) ∧ Below w.heap.size w w' := by
  obtain ⟨p, cap, rfl, hl, hj⟩ := hby
  have dB : Below w.heap.size w ((w.alloc (.cells #[.slice p len cap, .int .i64 0, .int .u64 0] 47)).alloc (.cells #[.int .i64 2, .int .i64 3, .int .i64 9, .int .i64 90, .int .i64 91] 3)) := below_box2 (Below.refl _ _)
  have hNm : NumsAt (w.heap.size + 1) 0 5 (fun _ => True) ((w.alloc (.cells #[.slice p len cap, .int .i64 0, .int .u64 0] 47)).alloc (.cells #[.int .i64 2, .int .i64 3, .int .i64 9, .int .i64 90, .int .i64 91] 3)) := by simpa using nums12_5 (w.alloc (.cells #[.slice p len cap, .int .i64 0, .int .u64 0] 47)) 3 2 3 9 90 91
  have hcu := cur_below (cur_new12 w (.slice p len cap) 47) (below_box (o := .cells #[.int .i64 2, .int .i64 3, .int .i64 9, .int .i64 90, .int .i64 91] 3) (Below.refl _ _))
  have hbt := bytes_to12 (B := w.heap.size) ⟨p, cap, rfl, hl, hj⟩ dB (Nat.le_refl _)
  go_enter Try.func13, Try.ntmps13
  go_wp2_with fail
  refine (d_among w.heap.size (.slice p len cap) len 0 (w.heap.size + 1) 0 5 5 (fun _ => True) _ (by omega) (by omega) (by omega) hcu hbt hNm (by omega)).mono ?_
  rintro e w1 ⟨r, _, rfl, hc1, ho1⟩
  go_wp2_with fail
  go_ret
  exact ⟨_, rfl, below_only12 dB ho1 (Nat.le_refl _)⟩
set_option maxRecDepth 100000 in
set_option maxHeartbeats 800000 in
theorem d_playEvents (v : Value) (len : Nat) (w : World) (hby : BytesAt w.heap.size w v len) :
    Calls Try.prog 4 #[v] w fun e w' => ∃ (h : Int) (a : Option Addr) (ln cap : Nat) (f0 f1 : Nat → Int), e = .returned (.tuple #[.int .i64 h, .slice a ln cap]) ∧ ln ≤ 104 ∧ RowEvent a ln f0 f1 w' ∧ Below w.heap.size w w' := by
  obtain ⟨p, cap, rfl, hl, hj⟩ := hby
  have dB : Below w.heap.size w ((w.alloc (.cells #[.slice p len cap, .int .i64 0, .int .u64 0] 47)).alloc (.cells #[.int .i64 2, .int .i64 3, .int .i64 9, .int .i64 9, .int .i64 90] 3)) := below_box2 (Below.refl _ _)
  have hNm : NumsAt (w.heap.size + 1) 0 5 (fun _ => True) ((w.alloc (.cells #[.slice p len cap, .int .i64 0, .int .u64 0] 47)).alloc (.cells #[.int .i64 2, .int .i64 3, .int .i64 9, .int .i64 9, .int .i64 90] 3)) := by simpa using nums12_5 (w.alloc (.cells #[.slice p len cap, .int .i64 0, .int .u64 0] 47)) 3 2 3 9 9 90
  have hcu := cur_below (cur_new12 w (.slice p len cap) 47) (below_box (o := .cells #[.int .i64 2, .int .i64 3, .int .i64 9, .int .i64 9, .int .i64 90] 3) (Below.refl _ _))
  have hbt := bytes_to12 (B := w.heap.size) ⟨p, cap, rfl, hl, hj⟩ dB (Nat.le_refl _)
  go_enter Try.func4, Try.ntmps4
  go_wp2_with fail
  refine (d_among w.heap.size (.slice p len cap) len 0 (w.heap.size + 1) 0 5 5 (fun _ => True) _ (by omega) (by omega) (by omega) hcu hbt hNm (by omega)).mono ?_
  rintro e w1 ⟨r, _, rfl, hc1, ho1⟩
  have hbt1 := hbt.only ho1 (Nat.le_refl _)
  have d1 := below_only12 dB ho1 (Nat.le_refl _)
  clear hcu hNm hbt ho1 dB
  go_wp2_with fail
  refine (d_events w.heap.size (.slice p len cap) len _ _ (by omega) hc1 hbt1).mono ?_
  rintro e w2 ⟨lv, ln, rfl, hln, ⟨xs, own, hI⟩, hc2, ho2⟩
  obtain ⟨a, c', f0, f1, rfl, _, hR⟩ := own_event own hI
  have d2 := below_only12 d1 ho2 (Nat.le_refl _)
  go_wp2_with fail
  go_ret2
  exact ⟨r, a, ln, c', f0, f1, rfl, hln, hR, d2⟩
set_option maxRecDepth 100000 in
set_option maxHeartbeats 1600000 in
theorem d_stepSession (v : Value) (len : Nat) (w : World) (hby : BytesAt w.heap.size w v len) :
    Calls Try.prog 11 #[v] w fun e w' => ∃ (s : Se) (k n : Int), e = .returned (.tuple #[s.v, .agg #[.int .i64 k, .int .i64 n]]) ∧ Below w.heap.size w w' := by
  obtain ⟨p, cap, rfl, hl, hj⟩ := hby
  have MA := (Mut.zeros5 w 27).alloc (.cells #[.int .i64 0, .int .i64 0] 33)
  have MB : Mut ((w.alloc (.cells #[.int .i64 0, .int .i64 0, .int .i64 0, .int .i64 0, .int .i64 0] 27)).alloc (.cells #[.int .i64 0, .int .i64 0] 33)) (w.heap.size + 1) [.int .i64 0, .int .i64 0] := by
    simpa using Mut.new (w.alloc (.cells #[.int .i64 0, .int .i64 0, .int .i64 0, .int .i64 0, .int .i64 0] 27)) #[.int .i64 0, .int .i64 0] 33
  have dA : Below w.heap.size w ((w.alloc (.cells #[.int .i64 0, .int .i64 0, .int .i64 0, .int .i64 0, .int .i64 0] 27)).alloc (.cells #[.int .i64 0, .int .i64 0] 33)) := below_box2 (Below.refl _ _)
  go_enter Try.func11, Try.ntmps11
  go_upto_region 1 with fail
  generalize (w.alloc (.cells #[.int .i64 0, .int .i64 0, .int .i64 0, .int .i64 0, .int .i64 0] 27)).alloc (.cells #[.int .i64 0, .int .i64 0] 33) = wA at *
  have hMB1 := MB.1
  have hcu := cur_new12 wA (.slice p len cap) 47
  have dC : Below wA.heap.size wA (wA.alloc (.cells #[.slice p len cap, .int .i64 0, .int .u64 0] 47)) := below_box (Below.refl _ _)
  have dd := dA.trans (dC.mono dA.size)
  replace MA := MA.below dC
  replace MB := MB.below dC
  have hwA := dA.size
  have hbt := bytes_to12 (B := wA.heap.size) ⟨p, cap, rfl, hl, hj⟩ dd hwA
  have nA : w.heap.size ≠ wA.heap.size := by omega
  have nB : w.heap.size + 1 ≠ wA.heap.size := by omega
  clear dA dC
  go_wp2_with fail
  generalize wA.alloc (.cells #[.slice p len cap, .int .i64 0, .int .u64 0] 47) = wC at *
  generalize wA.heap.size = bc at *
  refine (d_session bc (.slice p len cap) len 0 _ (by omega) hcu hbt).mono ?_
  rintro e w1 ⟨S, rfl, hc1, ho1⟩
  obtain ⟨y0, y1, y2, y3, y4⟩ := S
  replace MA := MA.only ho1 nA
  replace MB := MB.only ho1 nB
  replace hbt := hbt.only ho1 (Nat.le_refl _)
  replace dd := below_only12 dd ho1 hwA
  have hcl : bc < w1.heap.size := by obtain ⟨_, _, _, _, h, _⟩ := hc1; exact h
  have MS := Mut.new w1 #[.int .i64 y0, .int .i64 y1, .int .i64 y2, .int .i64 y3, .int .i64 y4] 27
  have bS : Below w1.heap.size w1 (w1.alloc (.cells #[.int .i64 y0, .int .i64 y1, .int .i64 y2, .int .i64 y3, .int .i64 y4] 27)) := below_box (Below.refl _ _)
  replace MA := MA.below bS
  replace MB := MB.below bS
  replace hbt := hbt.only (Only.of_below (c := bc) bS) (Nat.le_refl _)
  replace hc1 := cur_below hc1 bS
  have hs1 := dd.size
  replace dd := dd.trans (bS.mono dd.size)
  have nS : w1.heap.size ≠ bc := by omega
  clear bS hcu ho1
  go_wp2_with fail
  generalize w1.alloc (.cells #[.int .i64 y0, .int .i64 y1, .int .i64 y2, .int .i64 y3, .int .i64 y4] 27) = wS at *
  generalize w1.heap.size = b5 at *
  refine (d_pick bc (.slice p len cap) len _ 12 _ (by omega) (by omega) hc1 hbt).mono ?_
  rintro e w2 ⟨qa, hq0, hq1, rfl, hc2, ho2⟩
  replace MA := MA.only ho2 nA
  replace MB := MB.only ho2 nB
  replace MS := MS.only ho2 nS
  replace hbt := hbt.only ho2 (Nat.le_refl _)
  replace dd := below_only12 dd ho2 hwA
  have hcl2 : bc < w2.heap.size := by obtain ⟨_, _, _, _, h, _⟩ := hc2; exact h
  have ME := Mut.new w2 #[.int .i64 qa, .int .i64 0] 33
  have bE : Below w2.heap.size w2 (w2.alloc (.cells #[.int .i64 qa, .int .i64 0] 33)) := below_box (Below.refl _ _)
  have l5 : b5 < w2.heap.size := MS.1
  have lA : w.heap.size + 1 < w2.heap.size := MB.1
  replace MA := MA.below bE
  replace MB := MB.below bE
  replace MS := MS.below bE
  replace hbt := hbt.only (Only.of_below (c := bc) bE) (Nat.le_refl _)
  replace hc2 := cur_below hc2 bE
  have hs2 := dd.size
  replace dd := dd.trans (bE.mono dd.size)
  have nE : w2.heap.size ≠ bc := by omega
  clear bE hc1 ho2
  by_cases k5 : qa = 5
  · subst k5
    have e0 := ME.2.1 0 _ rfl
    have hNm := nums12_6 (w2.alloc (.cells #[.int .i64 5, .int .i64 0] 33)) 3 0 2 3 9 100 101
    have bN : Below (w2.alloc (.cells #[.int .i64 5, .int .i64 0] 33)).heap.size (w2.alloc (.cells #[.int .i64 5, .int .i64 0] 33)) ((w2.alloc (.cells #[.int .i64 5, .int .i64 0] 33)).alloc (.cells #[.int .i64 0, .int .i64 2, .int .i64 3, .int .i64 9, .int .i64 100, .int .i64 101] 3)) := below_box (Below.refl _ _)
    replace MA := MA.below bN
    replace MB := MB.below bN
    replace MS := MS.below bN
    replace ME := ME.below bN
    replace hbt := hbt.only (Only.of_below (c := bc) bN) (Nat.le_refl _)
    replace hc2 := cur_below hc2 bN
    replace dd := dd.trans (bN.mono dd.size)
    have nN : (w2.alloc (.cells #[.int .i64 5, .int .i64 0] 33)).heap.size ≠ bc := by simp; omega
    simp only [show (w2.alloc (.cells #[.int .i64 5, .int .i64 0] 33)).heap.size = w2.heap.size + 1 by simp] at hNm nN
    clear bN e0
    go_wp2_with fail
    generalize (w2.alloc (.cells #[.int .i64 5, .int .i64 0] 33)).alloc (.cells #[.int .i64 0, .int .i64 2, .int .i64 3, .int .i64 9, .int .i64 100, .int .i64 101] 3) = wN at *
    generalize w2.heap.size = b6 at *
    refine (d_among bc (.slice p len cap) len _ (b6 + 1) 0 6 6 (fun _ => True) _ (by omega) (by omega) (by omega) hc2 hbt hNm nN).mono ?_
    rintro e w3 ⟨qn, _, rfl, hc3, ho3⟩
    replace MA := MA.only ho3 nA
    replace MB := MB.only ho3 nB
    replace MS := MS.only ho3 nS
    replace ME := ME.only ho3 nE
    replace dd := below_only12 dd ho3 hwA
    have z1 := ME.2.1 1 _ rfl
    have zf1 := ME.2.2 1 (by simp)
    have MA9 := MA.other (c := b6) (by omega) 1 (.int .i64 qn)
    have MB9 := MB.other (c := b6) (by omega) 1 (.int .i64 qn)
    have MS9 := MS.other (c := b6) (by omega) 1 (.int .i64 qn)
    have ME9 := ME.set 1 (.int .i64 qn)
    simp only [List.set_cons_zero, List.set_cons_succ] at ME9
    have d1 : Below w.heap.size w (w3.setCell ⟨b6, 1, none⟩ (.int .i64 qn)) := dd.setCell (by show w.heap.size ≤ b6; omega) _
    clear MA MB MS ME dd hc2 hc3 ho3 hNm hbt
    go_upto_region 6 with fail
    clear z1 zf1
    generalize w3.setCell ⟨b6, 1, none⟩ (.int .i64 qn) = W at *
    have u0 := MA9.2.1 0 _ rfl
    have u1 := MA9.2.1 1 _ rfl
    have u2 := MA9.2.1 2 _ rfl
    have u3 := MA9.2.1 3 _ rfl
    have u4 := MA9.2.1 4 _ rfl
    have uf0 := MA9.2.2 0 (by simp)
    have uf1 := MA9.2.2 1 (by simp)
    have uf2 := MA9.2.2 2 (by simp)
    have uf3 := MA9.2.2 3 (by simp)
    have uf4 := MA9.2.2 4 (by simp)
    have v0 := MB9.2.1 0 _ rfl
    have v1 := MB9.2.1 1 _ rfl
    have vf0 := MB9.2.2 0 (by simp)
    have vf1 := MB9.2.2 1 (by simp)
    have z0 := MS9.2.1 0 _ rfl
    have z1 := MS9.2.1 1 _ rfl
    have z2 := MS9.2.1 2 _ rfl
    have z3 := MS9.2.1 3 _ rfl
    have z4 := MS9.2.1 4 _ rfl
    have g0 := ME9.2.1 0 _ rfl
    have g1 := ME9.2.1 1 _ rfl
    go_region
    all_goals go_wp2_with fail
    all_goals exact bodyPost_ret (v := .tuple #[(⟨y0, y1, y2, y3, y4⟩ : Se).v, .agg #[.int .i64 5, .int .i64 qn]]) (by simp [results, Try.results11, go_sem, u0, u1, u2, u3, u4, v0, v1]) rfl ⟨⟨y0, y1, y2, y3, y4⟩, _, _, rfl, (by (repeat (first | with_reducible exact Below.refl _ _ | with_reducible exact d1 | with_reducible apply Below.setCell | with_reducible apply Below.alloc | with_reducible apply Below.drew | with_reducible refine below_drewN ?_ _)); all_goals (first | (simp; done) | (simp; omega) | omega))⟩
  · have k5' : (qa == 5) = false := by simp [k5]
    have e0 := ME.2.1 0 _ rfl
    go_upto_region 6 with fail
    clear e0
    generalize w2.alloc (.cells #[.int .i64 qa, .int .i64 0] 33) = W at *
    generalize w2.heap.size = b6 at *
    have MA9 := MA
    have MB9 := MB
    have MS9 := MS
    have ME9 := ME
    have d1 := dd
    clear MA MB MS ME dd hc2 hbt
    have u0 := MA9.2.1 0 _ rfl
    have u1 := MA9.2.1 1 _ rfl
    have u2 := MA9.2.1 2 _ rfl
    have u3 := MA9.2.1 3 _ rfl
    have u4 := MA9.2.1 4 _ rfl
    have uf0 := MA9.2.2 0 (by simp)
    have uf1 := MA9.2.2 1 (by simp)
    have uf2 := MA9.2.2 2 (by simp)
    have uf3 := MA9.2.2 3 (by simp)
    have uf4 := MA9.2.2 4 (by simp)
    have v0 := MB9.2.1 0 _ rfl
    have v1 := MB9.2.1 1 _ rfl
    have vf0 := MB9.2.2 0 (by simp)
    have vf1 := MB9.2.2 1 (by simp)
    have z0 := MS9.2.1 0 _ rfl
    have z1 := MS9.2.1 1 _ rfl
    have z2 := MS9.2.1 2 _ rfl
    have z3 := MS9.2.1 3 _ rfl
    have z4 := MS9.2.1 4 _ rfl
    have g0 := ME9.2.1 0 _ rfl
    have g1 := ME9.2.1 1 _ rfl
    go_region
    all_goals go_wp2_with fail
    all_goals exact bodyPost_ret (v := .tuple #[(⟨y0, y1, y2, y3, y4⟩ : Se).v, .agg #[.int .i64 qa, .int .i64 0]]) (by simp [results, Try.results11, go_sem, u0, u1, u2, u3, u4, v0, v1]) rfl ⟨⟨y0, y1, y2, y3, y4⟩, _, _, rfl, (by (repeat (first | with_reducible exact Below.refl _ _ | with_reducible exact d1 | with_reducible apply Below.setCell | with_reducible apply Below.alloc | with_reducible apply Below.drew | with_reducible refine below_drewN ?_ _)); all_goals (first | (simp; done) | (simp; omega) | omega))⟩
end Go.Proofs.Ytencpplhlciffaa
