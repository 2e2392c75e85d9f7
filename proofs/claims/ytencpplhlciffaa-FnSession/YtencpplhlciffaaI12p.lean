/- PlayEvents of the program. -/
import Derived.Test.YtencpplhlciffaaPlain12p
import Derived.Test.YtencpplhlciffaaI12a
import Derived.Test.YtencpplhlciffaaI12d
namespace Go.Proofs.Ytencpplhlciffaa
open Go.RowKit

set_option maxRecDepth 100000 in
set_option maxHeartbeats 6400000 in
theorem i_playEvents (h : Int) (ra : Option Addr) (n rc : Nat) (f0 f1 : Nat → Int) (w : World) (hn : n ≤ 1048576) (hR : RowEvent ra n f0 f1 w) :
    Calls Try.prog 5 #[.int .i64 h, .slice ra n rc] w fun e w' => ∃ v, e = .returned (.tuple #[(peS h n f0 f1).v, v, .bool (peB h n f0 f1)]) ∧ AnsI w.heap.size v (peL h n f0 f1) w' ∧ Below w.heap.size w w' := by
  have s1 := hide (fun w => i_new h w)
  have s2 := hide (fun k n w => i_event k n w)
  have s3 := hide (fun s k n w hG => i_step s k n w hG)
  have MR := Mut.zeros5 w 27
  have dA : Below w.heap.size w (w.alloc (.cells #[.int .i64 0, .int .i64 0, .int .i64 0, .int .i64 0, .int .i64 0] 27)) := below_box (Below.refl _ _)
  by_cases c1 : 3 ≤ h ∧ h ≤ 90
  · rw [(new_t c1).1, (new_t c1).2] at s1
    by_cases c2 : n ≤ 100
    · have c2' : ¬ (n : Int) > 100 := by omega
      go_enter Try.func5, Try.ntmps5
      go_wp2_with fail
      generalize w.alloc (.cells #[.int .i64 0, .int .i64 0, .int .i64 0, .int .i64 0, .int .i64 0] 27) = wz at *
      refine (s1.out _).mono ?_
      rintro e w1 ⟨rfl, b1⟩
      replace MR := MR.below b1
      replace dA := dA.trans (b1.mono dA.size)
      have hbw := dA.size
      have hRS : w.heap.size < w1.heap.size := MR.1
      have MS := Mut.new w1 #[.int .i64 0, .int .i64 h, .int .i64 0, .int .i64 0, .int .i64 0] 27
      have dB : Below w1.heap.size w1 (w1.alloc (.cells #[.int .i64 0, .int .i64 h, .int .i64 0, .int .i64 0, .int .i64 0] 27)) := below_box (Below.refl _ _)
      replace MR := MR.below dB
      replace dA := dA.trans (dB.mono dA.size)
      clear b1 dB
      go_wp2_with fail
      generalize w1.alloc (.cells #[.int .i64 0, .int .i64 h, .int .i64 0, .int .i64 0, .int .i64 0] 27) = wL at *
      generalize w1.heap.size = bS at *
      have hSL : bS < wL.heap.size := MS.1
      have hRSL : w.heap.size < wL.heap.size := MR.1
      go_loopw [9, 29] (fun l i wr => ∃ m : Nat, m ≤ n ∧ i = .int .i64 m ∧ PeR 3 h f0 f1 w.heap.size bS wL.heap.size w m l wr) (fun _ i _ => n - (intOf i).toNat)
      case atStart => exact ⟨0, Nat.zero_le _, rfl, fun i hi => absurd hi (Nat.not_lt_zero _), MS, MR, ownN_nil _ _ _ _, dA, Nat.le_refl _⟩
      case round =>
        obtain ⟨m, hm, rfl, hge, MS, MR, own, dr, hbr⟩ := hrel
        have hGm : GS (plE h f0 f1 m).1 := plE_gs c1 f0 f1 m
        have hlen := plE_len h f0 f1 m
        have hs := plE_succ h f0 f1 m
        have hge' := hide hge
        clear hge
        generalize hT : plE h f0 f1 m = T at *
        obtain ⟨⟨x0, x1, x2, x3, x4⟩, L⟩ := T
        dsimp only at *
        by_cases hlt : m < n
        · obtain ⟨b, off, hra, hb, ev0, ev1⟩ := hR m hlt
          subst hra
          have hlt' : (m : Int) < (n : Int) := by omega
          have hm100 : (m : Int) ≤ 100 := by omega
          replace ev0 := (dr.cell (p := ⟨b, off + m * 2, none⟩) hb).trans ev0
          replace ev1 := (dr.cell (p := ⟨b, off + m * 2 + 1, none⟩) hb).trans ev1
          have s2m := hide (fun w => s2.out (f0 m) (f1 m) w)
          have s3m := hide (fun w => s3.out ⟨x0, x1, x2, x3, x4⟩ (f0 m) (f1 m) w hGm)
          have ME := Mut.new wr #[.int .i64 (f0 m), .int .i64 (f1 m)] 33
          have dE : Below wr.heap.size wr (wr.alloc (.cells #[.int .i64 (f0 m), .int .i64 (f1 m)] 33)) := below_box (Below.refl _ _)
          replace MS := MS.below dE
          replace MR := MR.below dE
          replace own := ownN_below own dE
          replace dr := dr.trans (dE.mono dr.size)
          replace hbr := Nat.le_trans hbr dE.size
          have hSb : bS < wL.heap.size := hSL
          clear dE s2 s3 hGm
          by_cases ge : GE (f0 m) (f1 m)
          · rw [geB_t ge] at s2m
            have hge2 : Hid (∀ i, i < m + 1 → GE (f0 i) (f1 i)) := fun i hi => by
              by_cases e : i = m
              · subst e; exact ge
              · exact hge'.out i (by omega)
            clear hge' ge
            generalize hST : stp ⟨x0, x1, x2, x3, x4⟩ (f0 m) (f1 m) = ST at *
            obtain ⟨⟨y0, y1, y2, y3, y4⟩, t⟩ := ST
            clear hST
            have hs' := hide hs
            clear hs hT
            generalize f0 m = k0 at *
            generalize f1 m = k1 at *
            go_wp2_with fail
            generalize wr.alloc (.cells #[.int .i64 k0, .int .i64 k1] 33) = wE at *
            generalize wr.heap.size = qE at *
            refine (s2m.out _).mono ?_
            rintro e w2 ⟨rfl, b2⟩
            replace MS := MS.below b2
            replace MR := MR.below b2
            replace ME := ME.below b2
            replace own := ownN_below own b2
            replace dr := dr.trans (b2.mono dr.size)
            replace hbr := Nat.le_trans hbr b2.size
            clear b2 ev0 ev1
            have z0 := MS.2.1 0 _ rfl
            have z1 := MS.2.1 1 _ rfl
            have z2 := MS.2.1 2 _ rfl
            have z3 := MS.2.1 3 _ rfl
            have z4 := MS.2.1 4 _ rfl
            have e0 := ME.2.1 0 _ rfl
            have e1 := ME.2.1 1 _ rfl
            go_wp2_with fail
            refine (s3m.out _).mono ?_
            rintro e w3 ⟨v, rfl, T1, b3⟩
            have hb2 : wL.heap.size ≤ w2.heap.size := hbr
            replace MS := MS.below b3
            replace MR := MR.below b3
            replace own := ownN_below own b3
            replace dr := dr.trans (b3.mono dr.size)
            replace hbr := Nat.le_trans hbr b3.size
            clear b3 ME e0 e1 z0 z1 z2 z3 z4
            have dF : Below w3.heap.size w3 (w3.alloc (.cells #[.int .i64 y0, .int .i64 y1, .int .i64 y2, .int .i64 y3, .int .i64 y4] 27)) := below_box (Below.refl _ _)
            have MSa := MS.below dF
            have MRa := MR.below dF
            have owna := ownN_below own dF
            have Ta := T1.below dF
            have dra := dr.trans (dF.mono dr.size)
            have hbra := Nat.le_trans hbr dF.size
            obtain ⟨va, vc, rfl, _⟩ := T1.src
            have ho := hide (Se.one ⟨y0, y1, y2, y3, y4⟩)
            have hMS := hide MSa
            have hrest := hide (And.intro MRa (And.intro owna (And.intro Ta (And.intro dra hbra))))
            have hl9 : Hid (L.length + (tl12 t).length ≤ 8589934593) := by show _ ≤ _; have := tl12_len t; omega
            have hbS2 : bS < w2.heap.size := by omega
            clear MS MR own T1 dr hbr dF MSa MRa owna Ta dra hbra
            go_wp2_with (first | (at_builtin; refine wpList_appN numInt rfl _ _ rfl wL.heap.size _ L rfl own5 _ (tl12 t) _ _ rfl rfl src5.out hl9.out (by decide) hbr5 ?_; intro v6 w6 own6 b6 _ _) | (refine wpList_storeM rfl rfl rfl rfl hMS.out rfl ho.out (by kernel_rfl) ?_; intro w5 M5 o5; obtain ⟨MRa, owna, Ta, dra, hbra⟩ := hrest.out; have MR5 := MRa.only o5 (by omega); have own5 := own12_off owna hSb o5; have T5 := Ta.only o5 hbS2; have dr5 := dra.trans (o5.below (Nat.le_of_lt hMS.out.1) |>.mono hbw); have hbr5 := Nat.le_trans hbra o5.2.2.2.1; have src5 := hide (TB.src_of T5); clear MRa owna Ta dra hbra o5 hrest))
            refine ⟨⟨m + 1, by omega, by go_num, ?_⟩, by simp [intOf]; omega⟩
            unfold PeR
            rw [hs'.out]
            exact ⟨hge2.out, M5.base hSb b6, MR5.base (by omega) b6, own6, dr5.trans (b6.mono (by omega)), Nat.le_trans hbr5 b6.size⟩
          · rw [geB_f ge] at s2m
            have hN : ¬ PeOk h n f0 f1 := fun g => ge (g.2.2 m hlt)
            clear s3m own hs hT
            go_wp2_with fail
            generalize wr.alloc (.cells #[.int .i64 (f0 m), .int .i64 (f1 m)] 33) = wE at *
            refine (s2m.out _).mono ?_
            rintro e w2 ⟨rfl, b2⟩
            replace MR := MR.below b2
            have d1 := dr.trans (b2.mono dr.size)
            have u0 := MR.2.1 0 _ rfl
            have uf0 := MR.2.2 0 (by simp)
            have u1 := MR.2.1 1 _ rfl
            have uf1 := MR.2.2 1 (by simp)
            have u2 := MR.2.1 2 _ rfl
            have uf2 := MR.2.2 2 (by simp)
            have u3 := MR.2.1 3 _ rfl
            have uf3 := MR.2.2 3 (by simp)
            have u4 := MR.2.1 4 _ rfl
            have uf4 := MR.2.2 4 (by simp)
            clear b2 ev0 ev1 MS MR ME dr
            go_wp2_with fail
            refine bodyPost_ret (v := .tuple #[(⟨0, 0, 0, 0, 0⟩ : Se).v, .slice none 0 0, .bool false]) (by simp [results, Try.results5, go_sem, u0, u1, u2, u3, u4]) rfl ?_
            rw [(pe_f hN).1, (pe_f hN).2.1, (pe_f hN).2.2]
            exact ⟨_, rfl, AnsI.nil _ _, (by (repeat (first | with_reducible exact Below.refl _ _ | with_reducible exact d1 | with_reducible apply Below.setCell | with_reducible apply Below.alloc)); all_goals (first | (simp; done) | (simp; omega) | omega))⟩
        · have hlt' : ¬ (m : Int) < (n : Int) := by omega
          have hmn : m = n := by omega
          subst hmn
          have hY : PeOk h m f0 f1 := ⟨c1, c2, hge'.out⟩
          have d1 := dr
          have hA := (AnsI.own (own12_off own hRSL ((Only.refl w.heap.size wr).setCell 0 (.int .i64 x0) |>.setCell 1 (.int .i64 x1) |>.setCell 2 (.int .i64 x2) |>.setCell 3 (.int .i64 x3) |>.setCell 4 (.int .i64 x4)))).base (Nat.le_of_lt hRSL)
          have u0 := MR.2.1 0 _ rfl
          have uf0 := MR.2.2 0 (by simp)
          have u1 := MR.2.1 1 _ rfl
          have uf1 := MR.2.2 1 (by simp)
          have u2 := MR.2.1 2 _ rfl
          have uf2 := MR.2.2 2 (by simp)
          have u3 := MR.2.1 3 _ rfl
          have uf3 := MR.2.2 3 (by simp)
          have u4 := MR.2.1 4 _ rfl
          have uf4 := MR.2.2 4 (by simp)
          have z0 := MS.2.1 0 _ rfl
          have z1 := MS.2.1 1 _ rfl
          have z2 := MS.2.1 2 _ rfl
          have z3 := MS.2.1 3 _ rfl
          have z4 := MS.2.1 4 _ rfl
          clear s2 s3 hGm own hs MS MR dr
          go_wp2_with fail
          refine bodyPost_ret (v := .tuple #[(⟨x0, x1, x2, x3, x4⟩ : Se).v, u9, .bool true]) (by simp [results, Try.results5, go_sem, u0, u1, u2, u3, u4]) rfl ?_
          rw [(pe_t hY).1, (pe_t hY).2.1, (pe_t hY).2.2, hT]
          exact ⟨_, rfl, hA, (by (repeat (first | with_reducible exact Below.refl _ _ | with_reducible exact d1 | with_reducible apply Below.setCell | with_reducible apply Below.alloc)); all_goals (first | (simp; done) | (simp; omega) | omega))⟩
    · have c2' : (n : Int) > 100 := by omega
      have hN : ¬ PeOk h n f0 f1 := fun g => c2 g.2.1
      rw [(pe_f hN).1, (pe_f hN).2.1, (pe_f hN).2.2]
      go_enter Try.func5, Try.ntmps5
      go_wp2_with fail
      generalize w.alloc (.cells #[.int .i64 0, .int .i64 0, .int .i64 0, .int .i64 0, .int .i64 0] 27) = wz at *
      refine (s1.out _).mono ?_
      rintro e w1 ⟨rfl, b1⟩
      replace MR := MR.below b1
      have d1 := dA.trans (b1.mono dA.size)
      have hz := MR.1
      have u0 := MR.2.1 0 _ rfl
      have uf0 := MR.2.2 0 (by simp)
      have u1 := MR.2.1 1 _ rfl
      have uf1 := MR.2.2 1 (by simp)
      have u2 := MR.2.1 2 _ rfl
      have uf2 := MR.2.2 2 (by simp)
      have u3 := MR.2.1 3 _ rfl
      have uf3 := MR.2.2 3 (by simp)
      have u4 := MR.2.1 4 _ rfl
      have uf4 := MR.2.2 4 (by simp)
      have A0 := fun (o : Obj) k => old1 hz o k
      have A1 := fun (o : Obj) k => old1f hz o k
      clear b1 MR dA s2 s3
      go_wp2_with fail
      exact bodyPost_ret (v := .tuple #[(⟨0, 0, 0, 0, 0⟩ : Se).v, .slice none 0 0, .bool false]) (by simp [results, Try.results5, go_sem, u0, u1, u2, u3, u4, old1, hz]) rfl ⟨_, rfl, AnsI.nil _ _, (by (repeat (first | with_reducible exact Below.refl _ _ | with_reducible exact d1 | with_reducible apply Below.setCell | with_reducible apply Below.alloc)); all_goals (first | (simp; done) | (simp; omega) | omega))⟩
  · rw [(new_f c1).1, (new_f c1).2] at s1
    have hN : ¬ PeOk h n f0 f1 := fun g => c1 g.1
    rw [(pe_f hN).1, (pe_f hN).2.1, (pe_f hN).2.2]
    go_enter Try.func5, Try.ntmps5
    go_wp2_with fail
    generalize w.alloc (.cells #[.int .i64 0, .int .i64 0, .int .i64 0, .int .i64 0, .int .i64 0] 27) = wz at *
    refine (s1.out _).mono ?_
    rintro e w1 ⟨rfl, b1⟩
    replace MR := MR.below b1
    have d1 := dA.trans (b1.mono dA.size)
    have hz := MR.1
    have u0 := MR.2.1 0 _ rfl
    have uf0 := MR.2.2 0 (by simp)
    have u1 := MR.2.1 1 _ rfl
    have uf1 := MR.2.2 1 (by simp)
    have u2 := MR.2.1 2 _ rfl
    have uf2 := MR.2.2 2 (by simp)
    have u3 := MR.2.1 3 _ rfl
    have uf3 := MR.2.2 3 (by simp)
    have u4 := MR.2.1 4 _ rfl
    have uf4 := MR.2.2 4 (by simp)
    have A0 := fun (o : Obj) k => old1 hz o k
    have A1 := fun (o : Obj) k => old1f hz o k
    clear b1 MR dA s2 s3
    go_wp2_with fail
    exact bodyPost_ret (v := .tuple #[(⟨0, 0, 0, 0, 0⟩ : Se).v, .slice none 0 0, .bool false]) (by simp [results, Try.results5, go_sem, u0, u1, u2, u3, u4, old1, hz]) rfl ⟨_, rfl, AnsI.nil _ _, (by (repeat (first | with_reducible exact Below.refl _ _ | with_reducible exact d1 | with_reducible apply Below.setCell | with_reducible apply Below.alloc)); all_goals (first | (simp; done) | (simp; omega) | omega))⟩
end Go.Proofs.Ytencpplhlciffaa
