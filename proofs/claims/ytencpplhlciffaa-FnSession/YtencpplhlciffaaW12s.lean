/- The law on sessions, walked out of what the functions answer. -/
import Derived.Test.YtencpplhlciffaaSI12
import Derived.Test.YtencpplhlciffaaI12p
import Derived.Test.YtencpplhlciffaaDraw12s
import Derived.Test.YtencpplhlciffaaPlain12s
import Derived.Lib.QuietBelow
namespace Go.Proofs.Ytencpplhlciffaa
open Go.RowKit

theorem ss_gs {s : Se} {k n : Int} (h : ssB s k n = true) : GS (ssS s k n) := by
  by_cases g : GS s ∧ GE k n
  · rw [(ss_t g.1 g.2).2.1]
    exact stp_gs k n g.1
  · rw [(ss_f g).1] at h
    exact absurd h (by decide)
def tlN2 (t : Int) : Nat := if t = 0 then 0 else 1
theorem tlN2_le (t : Int) : tlN2 t ≤ 1 := by unfold tlN2; split <;> omega
theorem TB.row2 {base : Nat} {v : Value} {t : Int} {w : World} (h : TB base v t w) : ∃ a c, v = .slice a (tlN2 t) c ∧ RowInt a (tlN2 t) (fun _ => t) w := by
  rcases h with ⟨rfl, rfl⟩ | ⟨h0, g, rfl, h2, h3⟩
  · exact ⟨none, 0, rfl, fun _ hi => absurd hi (Nat.not_lt_zero _)⟩
  · have e : tlN2 t = 1 := if_neg h0
    rw [e]
    exact ⟨_, 1, rfl, h3.row⟩
set_option maxRecDepth 100000 in
theorem neqSes_run (a b c d e : Int) (w : World) :
    (binOp .neq 27 (.agg #[.int .i64 a, .int .i64 b, .int .i64 c, .int .i64 d, .int .i64 e]) (.agg #[.int .i64 a, .int .i64 b, .int .i64 c, .int .i64 d, .int .i64 e])).run Try.prog w = .ok (.bool false) w := by
  rw [run_neq_struct, run_equalIn_struct (P := Try.prog) w 9999 27 _ _ (by kernel_rfl) (by kernel_rfl)]
  simp only [Program.fieldsOf, Try.underlying27]
  have e3 : ∀ (x y : Int) (w : World), (Op.equalIn 9999 3 (.int .i64 x) (.int .i64 y)).run Try.prog w = .ok (x == y) w := fun x y w => run_equalIn_int w 9998 3 .i64 .i64 x y Try.underlying3
  generalize 9999 = d at e3 ⊢
  simp [Op.eqFields, go_sem, part, e3]
theorem guardSes : Try.prog.eqGuardType Try.prog.depth 27 = false := by kernel_rfl
theorem eqSes_guard (op : BinOp) (x y : Operand) (xs ys : Array Value) (w : World) : (eqGuard op 27 x y (.agg xs) (.agg ys)).run Try.prog w = .ok () w := run_eqGuard_agg w op 27 x y xs ys guardSes
set_option maxRecDepth 100000 in
set_option maxHeartbeats 800000 in
theorem w_sameInts (a a' : Option Addr) (len cap cap' : Nat) (f : Nat → Int) (w : World) (hl : len ≤ 4294967296) (hR : RowInt a len f w) (hR' : RowInt a' len f w) :
    Calls Try.prog 7 #[.slice a len cap, .slice a' len cap'] w fun e w' => e = .returned (.bool true) ∧ Below w.heap.size w w' := by
  have hne : ((len : Int) != (len : Int)) = false := by simp
  go_enter Try.func7, Try.ntmps7
  go_wp2_with fail
  go_loopw [13] (fun i wr => ∃ k : Nat, k ≤ len ∧ i = .int .i64 k ∧ Below w.heap.size w wr) (fun i _ => len - (intOf i).toNat)
  case atStart => exact ⟨0, Nat.zero_le _, rfl, Below.refl _ _⟩
  case round =>
    obtain ⟨k, hk, rfl, hb⟩ := hrel
    by_cases hlt : k < len
    · obtain ⟨b, off, rfl, hbw, h0⟩ := hR k hlt
      obtain ⟨b', off', rfl, hbw', i0⟩ := hR' k hlt
      have h0 := (hb.cell (p := ⟨b, off + k, none⟩) hbw).trans h0
      have i0 := (hb.cell (p := ⟨b', off' + k, none⟩) hbw').trans i0
      have hlt' : (k : Int) < (len : Int) := by omega
      have hnf : (f k != f k) = false := by simp
      clear hR hR'
      go_wp2_with fail
      go_quiet (fail)
      go_wp2_with fail
      exact ⟨⟨k + 1, by omega, by go_num, below_drewN hb _⟩, by simp [intOf]; omega⟩
    · have hlt' : ¬ (k : Int) < (len : Int) := by omega
      go_wp2_with fail
      go_ret
      exact ⟨rfl, hb⟩
set_option maxRecDepth 100000 in
set_option maxHeartbeats 25600000 in
theorem w_fnSession (v1 v2 : Value) (len1 len2 : Nat) (w : World) (hby1 : BytesAt w.heap.size w v1 len1) (hby2 : BytesAt w.heap.size w v2 len2) :
    Calls Try.prog 3 #[v1, v2] w fun e w' => e = .returned (.bool true) ∧ Below w.heap.size w w' := by
  have hA := hide (fun w' (k : Below w.heap.size w w') => bytes_to12 hby1 k k.size)
  have hM := hide (fun w' (k : Below w.heap.size w w') => bytes_to12 hby2 k k.size)
  obtain ⟨p1, cap1, rfl, hl1, _⟩ := hby1
  obtain ⟨p2, cap2, rfl, hl2, _⟩ := hby2
  unfold maxLen at hl1 hl2
  have sV := hide (fun w h => d_playEvents (.slice p1 len1 cap1) len1 w h)
  have sS := hide (fun w h => d_stepSession (.slice p2 len2 cap2) len2 w h)
  have sN := hide (fun w h => d_newSession (.slice p2 len2 cap2) len2 w h)
  have hguard := eqSes_guard
  have NE := neqSes_run
  have d0 : Below w.heap.size w w := Below.refl _ _
  go_enter Try.func3, Try.ntmps3
  go_wp2_with fail
  · go_ret
    exact ⟨rfl, d0⟩
  clear hl1 hl2
  refine (sV.out _ (hA.out _ d0)).mono ?_
  rintro e w1 ⟨H, a, ln, cap, f0, f1, rfl, hln, hR, d1⟩
  have IG := hide (fun w R => i_playEvents H a ln cap f0 f1 w (by omega) R)
  have SG := hide (fun w R => s_playEvents H a ln cap f0 f1 w (by omega) R)
  have hDl := peL_len H ln f0 f1
  have SI := hide (fun a a' c c' w R Q => w_sameInts a a' (peL H ln f0 f1).length c c' (fun i => (peL H ln f0 f1).getD i 0) w (by omega) R Q)
  generalize peL H ln f0 f1 = D at *
  clear sV hA d0 hDl
  have hlni : (ln : Int) ≤ 104 := by omega
  by_cases hOk : PeOk H ln f0 f1
  · rw [(pe_t hOk).1, (pe_t hOk).2.1] at IG SG
    have hG := hide (plE_gs hOk.1 f0 f1 ln)
    have hU := plE_ups hOk.1 f0 f1 ln
    generalize (plE H f0 f1 ln).1 = Y at *
    obtain ⟨y0, y1, y2, y3, y4⟩ := Y
    obtain ⟨hu1, hu2, hu3, hu4⟩ := hU
    have hu1' : ¬ y4 > (cntE f0 5 ln : Int) := by dsimp only at hu1; split at hu1 <;> omega
    have hu2' : ¬ y4 > (cntE f0 7 ln : Int) := by dsimp only at hu2; omega
    have hu3' := hide hu3
    have hu4' : ¬ y1 > H := by dsimp only at hu4; omega
    clear hu1 hu2 hu3 hu4 hOk
    go_wp2_with fail
    refine (IG.out _ hR).mono ?_
    rintro e w2 ⟨vI, rfl, hI, b2⟩
    obtain ⟨ia, ic, rfl, RI, _⟩ := hI
    replace hR := hR.below b2
    replace d1 := d1.trans (b2.mono d1.size)
    have hw27 := d1.size
    have M7 := Mut.new w2 #[.int .i64 y0, .int .i64 y1, .int .i64 y2, .int .i64 y3, .int .i64 y4] 27
    have bA : Below w2.heap.size w2 (w2.alloc (.cells #[.int .i64 y0, .int .i64 y1, .int .i64 y2, .int .i64 y3, .int .i64 y4] 27)) := below_box (Below.refl _ _)
    replace hR := hR.below bA
    replace RI := RI.below bA
    replace d1 := d1.trans (bA.mono d1.size)
    clear b2 bA
    go_wp2_with fail
    generalize w2.alloc (.cells #[.int .i64 y0, .int .i64 y1, .int .i64 y2, .int .i64 y3, .int .i64 y4] 27) = wA at *
    generalize w2.heap.size = q7 at *
    have hwq0 : w.heap.size ≤ q7 := hw27
    refine (SG.out _ hR).mono ?_
    rintro e w3 ⟨vS, rfl, hS, b3⟩
    obtain ⟨sa, sc, rfl, RS, _⟩ := hS
    replace hR := hR.below b3
    replace RI := RI.below b3
    replace M7 := M7.below b3
    replace d1 := d1.trans (b3.mono d1.size)
    have M10 := Mut.new w3 #[.int .i64 y0, .int .i64 y1, .int .i64 y2, .int .i64 y3, .int .i64 y4] 27
    have bB : Below w3.heap.size w3 (w3.alloc (.cells #[.int .i64 y0, .int .i64 y1, .int .i64 y2, .int .i64 y3, .int .i64 y4] 27)) := below_box (Below.refl _ _)
    replace hR := hR.below bB
    replace RI := RI.below bB
    replace RS := RS.below bB
    replace M7 := M7.below bB
    replace d1 := d1.trans (bB.mono d1.size)
    have ca0 := M7.2.1 0 _ rfl
    have ca1 := M7.2.1 1 _ rfl
    have ca2 := M7.2.1 2 _ rfl
    have ca3 := M7.2.1 3 _ rfl
    have ca4 := M7.2.1 4 _ rfl
    have cb0 := M10.2.1 0 _ rfl
    have cb1 := M10.2.1 1 _ rfl
    have cb2 := M10.2.1 2 _ rfl
    have cb3 := M10.2.1 3 _ rfl
    have cb4 := M10.2.1 4 _ rfl
    clear b3 bB
    go_wp2_with fail
    generalize w3.alloc (.cells #[.int .i64 y0, .int .i64 y1, .int .i64 y2, .int .i64 y3, .int .i64 y4] 27) = wB at *
    generalize w3.heap.size = q10 at *
    refine (SI.out _ _ _ _ _ RI RS).mono ?_
    rintro e w4 ⟨rfl, b4⟩
    replace hR := hR.below b4
    replace M7 := M7.below b4
    replace d1 := d1.trans (b4.mono d1.size)
    clear b4 RI RS M10 ca0 ca1 ca2 ca3 ca4 cb0 cb1 cb2 cb3 cb4 IG SG SI
    have D4 := d1
    have hwq := hwq0
    go_wp2_with fail
    go_loopw [13, 14, 79] (fun op al i wr => ∃ m : Nat, m ≤ ln ∧ i = .int .i64 m ∧ op = .int .i64 (cntE f0 5 m : Int) ∧ al = .int .i64 (cntE f0 7 m : Int) ∧ Below w4.heap.size w4 wr) (fun _ _ i _ => ln - (intOf i).toNat)
    case atStart => exact ⟨0, Nat.zero_le _, rfl, rfl, rfl, Below.refl _ _⟩
    case round =>
      obtain ⟨m, hm, rfl, rfl, rfl, e1⟩ := hrel
      by_cases hlt : m < ln
      · have hlt' : (m : Int) < (ln : Int) := by omega
        have hmi : (m : Int) ≤ 104 := by omega
        obtain ⟨b, off, hab, hbw, c0, c1⟩ := hR m hlt
        subst hab
        replace c0 := (e1.cell (p := ⟨b, off + m * 2, none⟩) hbw).trans c0
        replace c1 := (e1.cell (p := ⟨b, off + m * 2 + 1, none⟩) hbw).trans c1
        have hc5 := cntE_le f0 5 m
        have hc7 := cntE_le f0 7 m
        have h5i : (cntE f0 5 m : Int) ≤ 104 := by omega
        have h7i : (cntE f0 7 m : Int) ≤ 104 := by omega
        have s5 : cntE f0 5 (m + 1) = cntE f0 5 m + if f0 m = 5 then 1 else 0 := rfl
        have s7 : cntE f0 7 (m + 1) = cntE f0 7 m + if f0 m = 7 then 1 else 0 := rfl
        by_cases k5 : f0 m = 5
        · have n7 : ¬ f0 m = 7 := by omega
          rw [if_pos k5] at s5
          rw [if_neg n7] at s7
          have s5' := hide s5
          have s7' := hide s7
          rw [k5] at c0
          clear s5 s7 k5 n7 hc5 hc7
          go_wp2_with fail
          exact ⟨⟨m + 1, by omega, by go_num, by rw [s5'.out]; go_num, by rw [s7'.out]; rfl, e1.alloc e1.size _⟩, by simp [intOf]; omega⟩
        · rw [if_neg k5] at s5
          have k5' : (f0 m == 5) = false := by simp [k5]
          have s5' := hide s5
          by_cases k7 : f0 m = 7
          · rw [if_pos k7] at s7
            have s7' := hide s7
            rw [k7] at c0
            clear s5 s7 k5 k7 k5' hc5 hc7
            go_wp2_with fail
            exact ⟨⟨m + 1, by omega, by go_num, by rw [s5'.out]; rfl, by rw [s7'.out]; go_num, e1.alloc e1.size _⟩, by simp [intOf]; omega⟩
          · rw [if_neg k7] at s7
            have s7' := hide s7
            have k7' : (f0 m == 7) = false := by simp [k7]
            clear s5 s7 hc5 hc7
            go_wp2_with fail
            exact ⟨⟨m + 1, by omega, by go_num, by rw [s5'.out]; rfl, by rw [s7'.out]; rfl, e1.alloc e1.size _⟩, by simp [intOf]; omega⟩
      · have hlt' : ¬ (m : Int) < (ln : Int) := by omega
        have hml : m = ln := by omega
        subst hml
        replace M7 := M7.below e1
        replace D4 := D4.trans (e1.mono D4.size)
        have sU := hide (fun w => i_isUp y0 y1 y2 y3 y4 w)
        have sG := hide (fun w => i_goodS y0 y1 y2 y3 y4 w)
        rw [gsB_t hG.out] at sU sG
        have hu3 : Hid (y0 = 4 → (y4 == 0) = false) := fun h => by have := hu3'.out h; simp; omega
        have ca0 := M7.2.1 0 _ rfl
        have ca1 := M7.2.1 1 _ rfl
        have ca2 := M7.2.1 2 _ rfl
        have ca3 := M7.2.1 3 _ rfl
        have ca4 := M7.2.1 4 _ rfl
        clear e1 hR hlt hlt' hm
        generalize cntE f0 5 m = n5 at *
        generalize cntE f0 7 m = n7 at *
        by_cases up : y0 = 4
        · have hup : (true && y0 == 4) = true := by simp [up]
          have hz4 := hu3.out up
          rw [hup] at sU
          clear up hup
          go_wp2_with fail
          refine (sU.out _).mono ?_
          rintro e u1 ⟨rfl, bu1⟩
          replace M7 := M7.below bu1
          have Du := D4.trans (bu1.mono D4.size)
          clear bu1 ca0 ca1 ca2 ca3 ca4
          have ca0 := M7.2.1 0 _ rfl
          have ca1 := M7.2.1 1 _ rfl
          have ca2 := M7.2.1 2 _ rfl
          have ca3 := M7.2.1 3 _ rfl
          have ca4 := M7.2.1 4 _ rfl
          go_wp2_with fail
          refine (sG.out _).mono ?_
          rintro e u2 ⟨rfl, bu2⟩
          replace M7 := M7.below bu2
          replace Du := Du.trans (bu2.mono Du.size)
          clear bu2 ca0 ca1 ca2 ca3 ca4
          have ca0 := M7.2.1 0 _ rfl
          have ca1 := M7.2.1 1 _ rfl
          have ca2 := M7.2.1 2 _ rfl
          have ca3 := M7.2.1 3 _ rfl
          have ca4 := M7.2.1 4 _ rfl
          have M19 := Mut.new u2 #[.int .i64 y0, .int .i64 y1, .int .i64 y2, .int .i64 y3, .int .i64 y4] 27
          have bC : Below u2.heap.size u2 (u2.alloc (.cells #[.int .i64 y0, .int .i64 y1, .int .i64 y2, .int .i64 y3, .int .i64 y4] 27)) := below_box (Below.refl _ _)
          have h719 : q7 < u2.heap.size := M7.1
          replace M7 := M7.below bC
          replace Du := Du.trans (bC.mono Du.size)
          have hD2 : w.heap.size ≤ u2.heap.size := by have := Du.size; have := D4.size; have h7 := h719; exact Nat.le_trans hwq (Nat.le_of_lt h719)
          have hL : Hid (0 ≤ y2 ∧ y2 ≤ 90) := by
            have := hG.out
            unfold GS at this
            dsimp only at this
            constructor
            · by_cases h : y0 < 2
              · omega
              · omega
            · by_cases h : y0 < 2
              · omega
              · omega
          clear bC sU sG
          go_wp2_with fail
          clear ca0 ca1 ca2 ca3 ca4
          generalize u2.alloc (.cells #[.int .i64 y0, .int .i64 y1, .int .i64 y2, .int .i64 y3, .int .i64 y4] 27) = u3 at *
          generalize u2.heap.size = b19 at *
          go_loopw [20] (fun i wr => ∃ k : Nat, (k : Int) ≤ y2 ∧ i = .int .i64 k ∧ Mut wr b19 (itT ⟨y0, y1, y2, y3, y4⟩ k).cs ∧ Mut wr q7 (⟨y0, y1, y2, y3, y4⟩ : Se).cs ∧ Below w.heap.size w wr) (fun i _ => y2.toNat - (intOf i).toNat)
          case atStart => exact ⟨0, hL.out.1, rfl, M19, M7, Du⟩
          case round =>
            obtain ⟨k, hk, rfl, MX, M7, Du⟩ := hrel
            have hgk := itT_gs hG.out k
            have hsu : itT ⟨y0, y1, y2, y3, y4⟩ (k + 1) = (tick (itT ⟨y0, y1, y2, y3, y4⟩ k)).1 := rfl
            have hlast := fun h2 e => itT_last (s := ⟨y0, y1, y2, y3, y4⟩) hG.out h2 k e
            have y90 := hL.out.2
            have hki : (k : Int) ≤ 90 := by omega
            generalize itT ⟨y0, y1, y2, y3, y4⟩ k = X at *
            obtain ⟨x0, x1, x2, x3, x4⟩ := X
            have z2 := M7.2.1 2 _ rfl
            by_cases hlt : (k : Int) < y2
            · have sT := hide (fun w => i_stepSession x0 x1 x2 x3 x4 10 0 w)
              rw [(ss_t hgk ge_tick).1, (ss_t hgk ge_tick).2.1, (ss_t hgk ge_tick).2.2, show stp ⟨x0, x1, x2, x3, x4⟩ 10 0 = tick ⟨x0, x1, x2, x3, x4⟩ by simp [stp]] at sT
              generalize tick ⟨x0, x1, x2, x3, x4⟩ = T at *
              obtain ⟨⟨t0, t1, t2, t3, t4⟩, tt⟩ := T
              have hsu' := hide hsu
              have x0c := MX.2.1 0 _ rfl
              have x1c := MX.2.1 1 _ rfl
              have x2c := MX.2.1 2 _ rfl
              have x3c := MX.2.1 3 _ rfl
              have x4c := MX.2.1 4 _ rfl
              clear hsu hgk hlast
              go_wp2_with fail
              refine (sT.out _).mono ?_
              rintro e r1 ⟨vt, rfl, _, br1⟩
              replace MX := MX.below br1
              replace M7 := M7.below br1
              replace Du := Du.trans (br1.mono Du.size)
              have bT : Below r1.heap.size r1 (r1.alloc (.cells #[.int .i64 t0, .int .i64 t1, .int .i64 t2, .int .i64 t3, .int .i64 t4] 27)) := below_box (Below.refl _ _)
              replace MX := MX.below bT
              replace M7 := M7.below bT
              replace Du := Du.trans (bT.mono Du.size)
              have hMX := hide MX
              have hone := hide (Se.one ⟨t0, t1, t2, t3, t4⟩)
              clear br1 bT x0c x1c x2c x3c x4c z2 MX
              go_wp2_with (refine wpList_storeM rfl rfl rfl rfl hMX.out rfl hone.out (by kernel_rfl) ?_; intro r2 M9 o9)
              refine ⟨⟨k + 1, by omega, by go_num, by rw [hsu'.out]; exact M9, M7.only o9 (by omega), below_only12 Du o9 hD2⟩, by simp [intOf]; omega⟩
            · have hky : (k : Int) = y2 := by omega
              have zs := M7.2.1 0 _ rfl
              have x0c := MX.2.1 0 _ rfl
              have d1 := Du
              clear hsu
              by_cases h2 : y0 ≥ 2
              · have hx := hlast h2 hky
                dsimp only at hx
                subst hx
                clear hlast hgk hL M7 MX Du D4
                go_wp2_with fail
                refine (sS.out _ (hM.out _ d1)).mono ?_
                rintro e t1 ⟨T, tk, tn, rfl, bt1⟩
                obtain ⟨s0, s1, s2, s3, s4⟩ := T
                have e1 := d1.trans (bt1.mono d1.size)
                have IG2 := hide (fun w => i_stepSession s0 s1 s2 s3 s4 tk tn w)
                have SG2 := hide (fun w => s_stepSession s0 s1 s2 s3 s4 tk tn w)
                have GI := hide (fun w => i_goodS s0 s1 s2 s3 s4 w)
                have GQ := hide (fun w => s_goodS s0 s1 s2 s3 s4 w)
                have hgs := hide (fun h => ss_gs (s := ⟨s0, s1, s2, s3, s4⟩) (k := tk) (n := tn) h)
                generalize ssS ⟨s0, s1, s2, s3, s4⟩ tk tn = R at *
                generalize ssB ⟨s0, s1, s2, s3, s4⟩ tk tn = g2 at *
                generalize ssT ⟨s0, s1, s2, s3, s4⟩ tk tn = tt at *
                generalize gsB ⟨s0, s1, s2, s3, s4⟩ = g3 at *
                obtain ⟨r0, r1, r2, r3, r4⟩ := R
                have hg2 : (g2 != g2) = false := by simp
                have hg3 : (g3 != g3) = false := by simp
                have SI2 := hide (fun a a' c c' w R Q => w_sameInts a a' (tlN2 tt) c c' (fun _ => tt) w (by have := tlN2_le tt; omega) R Q)
                have RT := hide (fun base v w (h : TB base v tt w) => h.row2)
                have hLt := tlN2_le tt
                generalize tlN2 tt = LT at *
                have MT := (Mut.new t1 #[.int .i64 s0, .int .i64 s1, .int .i64 s2, .int .i64 s3, .int .i64 s4] 27).alloc (.cells #[.int .i64 tk, .int .i64 tn] 33)
                have ME : Mut ((t1.alloc (.cells #[.int .i64 s0, .int .i64 s1, .int .i64 s2, .int .i64 s3, .int .i64 s4] 27)).alloc (.cells #[.int .i64 tk, .int .i64 tn] 33)) (t1.heap.size + 1) [.int .i64 tk, .int .i64 tn] := by
                  simpa using Mut.new (t1.alloc (.cells #[.int .i64 s0, .int .i64 s1, .int .i64 s2, .int .i64 s3, .int .i64 s4] 27)) #[.int .i64 tk, .int .i64 tn] 33
                have bT2 : Below t1.heap.size t1 ((t1.alloc (.cells #[.int .i64 s0, .int .i64 s1, .int .i64 s2, .int .i64 s3, .int .i64 s4] 27)).alloc (.cells #[.int .i64 tk, .int .i64 tn] 33)) := below_box2 (Below.refl _ _)
                have e2 := e1.trans (bT2.mono e1.size)
                clear bt1 bT2 d1 e1
                go_upto_region 34 with fail
                generalize (t1.alloc (.cells #[.int .i64 s0, .int .i64 s1, .int .i64 s2, .int .i64 s3, .int .i64 s4] 27)).alloc (.cells #[.int .i64 tk, .int .i64 tn] 33) = t2 at *
                generalize t1.heap.size = q24 at *
                have ca0 := MT.2.1 0 _ rfl
                have ca1 := MT.2.1 1 _ rfl
                have ca2 := MT.2.1 2 _ rfl
                have ca3 := MT.2.1 3 _ rfl
                have ca4 := MT.2.1 4 _ rfl
                have ce0 := ME.2.1 0 _ rfl
                have ce1 := ME.2.1 1 _ rfl
                go_wp2_with fail
                refine (IG2.out _).mono ?_
                rintro e t3 ⟨vI, rfl, TI, b3⟩
                obtain ⟨ia, ic, rfl, RI⟩ := RT.out _ _ _ TI
                have bI : Below t3.heap.size t3 (t3.alloc (.cells #[.int .i64 r0, .int .i64 r1, .int .i64 r2, .int .i64 r3, .int .i64 r4] 27)) := below_box (Below.refl _ _)
                have M26 := Mut.new t3 #[.int .i64 r0, .int .i64 r1, .int .i64 r2, .int .i64 r3, .int .i64 r4] 27
                replace RI := RI.below bI
                replace MT := (MT.below b3).below bI
                replace ME := (ME.below b3).below bI
                have e3 := (e2.trans (b3.mono e2.size)).trans (bI.mono (Nat.le_trans e2.size b3.size))
                clear b3 bI TI e2 ca0 ca1 ca2 ca3 ca4 ce0 ce1
                go_upto_region 35 with fail
                generalize t3.alloc (.cells #[.int .i64 r0, .int .i64 r1, .int .i64 r2, .int .i64 r3, .int .i64 r4] 27) = t4 at *
                generalize t3.heap.size = q26 at *
                have ca0 := MT.2.1 0 _ rfl
                have ca1 := MT.2.1 1 _ rfl
                have ca2 := MT.2.1 2 _ rfl
                have ca3 := MT.2.1 3 _ rfl
                have ca4 := MT.2.1 4 _ rfl
                have ce0 := ME.2.1 0 _ rfl
                have ce1 := ME.2.1 1 _ rfl
                go_wp2_with fail
                refine (SG2.out _).mono ?_
                rintro e t5 ⟨vS, rfl, TS, b5⟩
                obtain ⟨sa, sc, rfl, RS⟩ := RT.out _ _ _ TS
                have bS : Below t5.heap.size t5 (t5.alloc (.cells #[.int .i64 r0, .int .i64 r1, .int .i64 r2, .int .i64 r3, .int .i64 r4] 27)) := below_box (Below.refl _ _)
                have M29 := Mut.new t5 #[.int .i64 r0, .int .i64 r1, .int .i64 r2, .int .i64 r3, .int .i64 r4] 27
                replace RS := RS.below bS
                replace RI := (RI.below b5).below bS
                replace MT := (MT.below b5).below bS
                replace M26 := (M26.below b5).below bS
                have e5 := (e3.trans (b5.mono e3.size)).trans (bS.mono (Nat.le_trans e3.size b5.size))
                clear b5 bS TS e3 ME ca0 ca1 ca2 ca3 ca4 ce0 ce1 IG2 SG2 RT
                go_wp2_with fail
                generalize t5.alloc (.cells #[.int .i64 r0, .int .i64 r1, .int .i64 r2, .int .i64 r3, .int .i64 r4] 27) = t6 at *
                generalize t5.heap.size = q29 at *
                refine (sN.out _ (hM.out _ e5)).mono ?_
                rintro e t7 ⟨hh, rfl, b7⟩
                have IN := hide (fun w => i_new hh w)
                have SN := hide (fun w => s_new hh w)
                generalize newS hh = NN at *
                generalize newB hh = g4 at *
                obtain ⟨n0, n1, n2, n3, n4⟩ := NN
                have hg4 : (g4 != g4) = false := by simp
                replace RS := RS.below b7
                replace RI := RI.below b7
                replace MT := MT.below b7
                replace M26 := M26.below b7
                replace M29 := M29.below b7
                have e7 := e5.trans (b7.mono e5.size)
                clear b7 e5
                go_wp2_with fail
                refine (IN.out _).mono ?_
                rintro e t8 ⟨rfl, b8⟩
                have bN : Below t8.heap.size t8 (t8.alloc (.cells #[.int .i64 n0, .int .i64 n1, .int .i64 n2, .int .i64 n3, .int .i64 n4] 27)) := below_box (Below.refl _ _)
                have M33 := Mut.new t8 #[.int .i64 n0, .int .i64 n1, .int .i64 n2, .int .i64 n3, .int .i64 n4] 27
                replace RS := (RS.below b8).below bN
                replace RI := (RI.below b8).below bN
                replace MT := (MT.below b8).below bN
                replace M26 := (M26.below b8).below bN
                replace M29 := (M29.below b8).below bN
                have e8 := (e7.trans (b8.mono e7.size)).trans (bN.mono (Nat.le_trans e7.size b8.size))
                clear b8 bN e7
                go_wp2_with fail
                generalize t8.alloc (.cells #[.int .i64 n0, .int .i64 n1, .int .i64 n2, .int .i64 n3, .int .i64 n4] 27) = t9 at *
                generalize t8.heap.size = q33 at *
                refine (SN.out _).mono ?_
                rintro e ta ⟨rfl, ba⟩
                have bO : Below ta.heap.size ta (ta.alloc (.cells #[.int .i64 n0, .int .i64 n1, .int .i64 n2, .int .i64 n3, .int .i64 n4] 27)) := below_box (Below.refl _ _)
                have M35 := Mut.new ta #[.int .i64 n0, .int .i64 n1, .int .i64 n2, .int .i64 n3, .int .i64 n4] 27
                replace RS := (RS.below ba).below bO
                replace RI := (RI.below ba).below bO
                replace MT := (MT.below ba).below bO
                replace M26 := (M26.below ba).below bO
                replace M29 := (M29.below ba).below bO
                replace M33 := (M33.below ba).below bO
                have ea := (e8.trans (ba.mono e8.size)).trans (bO.mono (Nat.le_trans e8.size ba.size))
                clear ba bO e8
                go_upto_region 39 with fail
                generalize ta.alloc (.cells #[.int .i64 n0, .int .i64 n1, .int .i64 n2, .int .i64 n3, .int .i64 n4] 27) = tb at *
                generalize ta.heap.size = q35 at *
                have SI3 := hide (fun w (h : Below tb.heap.size tb w) => SI2.out ia sa ic sc w (RI.below h) (RS.below h))
                have ca0 := cell_regrown (MT.2.1 0 _ rfl)
                have ca1 := cell_regrown (MT.2.1 1 _ rfl)
                have ca2 := cell_regrown (MT.2.1 2 _ rfl)
                have ca3 := cell_regrown (MT.2.1 3 _ rfl)
                have ca4 := cell_regrown (MT.2.1 4 _ rfl)
                have cb0 := cell_regrown (M26.2.1 0 _ rfl)
                have cb1 := cell_regrown (M26.2.1 1 _ rfl)
                have cb2 := cell_regrown (M26.2.1 2 _ rfl)
                have cb3 := cell_regrown (M26.2.1 3 _ rfl)
                have cb4 := cell_regrown (M26.2.1 4 _ rfl)
                have cc0 := cell_regrown (M29.2.1 0 _ rfl)
                have cc1 := cell_regrown (M29.2.1 1 _ rfl)
                have cc2 := cell_regrown (M29.2.1 2 _ rfl)
                have cc3 := cell_regrown (M29.2.1 3 _ rfl)
                have cc4 := cell_regrown (M29.2.1 4 _ rfl)
                have cd0 := cell_regrown (M33.2.1 0 _ rfl)
                have cd1 := cell_regrown (M33.2.1 1 _ rfl)
                have cd2 := cell_regrown (M33.2.1 2 _ rfl)
                have cd3 := cell_regrown (M33.2.1 3 _ rfl)
                have cd4 := cell_regrown (M33.2.1 4 _ rfl)
                have ce0 := cell_regrown (M35.2.1 0 _ rfl)
                have ce1 := cell_regrown (M35.2.1 1 _ rfl)
                have ce2 := cell_regrown (M35.2.1 2 _ rfl)
                have ce3 := cell_regrown (M35.2.1 3 _ rfl)
                have ce4 := cell_regrown (M35.2.1 4 _ rfl)
                refine wp_region_quiet_below (by kernel_rfl) (by kernel_rfl) ?_
                repeat (first | go_big_quiet_step ((first | (go_at_call 7; exact Calls.regrown_of (SI3.out _ (below_regrown _ _ _))) | (go_at_call 9; exact Calls.regrown_of (GI.out _)) | (go_at_call 16; exact Calls.regrown_of (GQ.out _)))) | quiet_step ((first | (go_at_call 7; exact Calls.regrown_of (SI3.out _ (below_regrown _ _ _))) | (go_at_call 9; exact Calls.regrown_of (GI.out _)) | (go_at_call 16; exact Calls.regrown_of (GQ.out _)))))
                refine wpQuiet_nil ?_
                intro _ hw'
                obtain ⟨⟨dq, osq⟩, hw''⟩ := hw'
                subst hw''
                have hq := below_regrown tb dq osq
                generalize Go.Sort.grow (redrawn tb dq) osq = wq at hq ⊢
                have ez := ea.trans (hq.mono ea.size)
                have M9 := M26.below hq
                clear hq ca0 ca1 ca2 ca3 ca4 cb0 cb1 cb2 cb3 cb4 cc0 cc1 cc2 cc3 cc4 cd0 cd1 cd2 cd3 cd4 ce0 ce1 ce2 ce3 ce4
                cases g2 with
                | false =>
                  go_wp2_with fail
                  go_ret
                  exact ⟨rfl, ez⟩
                | true =>
                  have sF := hide (fun w => i_goodS r0 r1 r2 r3 r4 w)
                  rw [gsB_t (hgs.out rfl)] at sF
                  have k0 := M9.2.1 0 _ rfl
                  have k1 := M9.2.1 1 _ rfl
                  have k2 := M9.2.1 2 _ rfl
                  have k3 := M9.2.1 3 _ rfl
                  have k4 := M9.2.1 4 _ rfl
                  go_wp2_with fail
                  refine (sF.out _).mono ?_
                  rintro e wr9 ⟨rfl, b9⟩
                  go_wp2_with fail
                  go_ret
                  exact ⟨rfl, ez.trans (b9.mono ez.size)⟩
              · clear hlast hgk hL M7 MX Du D4
                go_wp2_with fail
                refine (sS.out _ (hM.out _ d1)).mono ?_
                rintro e t1 ⟨T, tk, tn, rfl, bt1⟩
                obtain ⟨s0, s1, s2, s3, s4⟩ := T
                have e1 := d1.trans (bt1.mono d1.size)
                have IG2 := hide (fun w => i_stepSession s0 s1 s2 s3 s4 tk tn w)
                have SG2 := hide (fun w => s_stepSession s0 s1 s2 s3 s4 tk tn w)
                have GI := hide (fun w => i_goodS s0 s1 s2 s3 s4 w)
                have GQ := hide (fun w => s_goodS s0 s1 s2 s3 s4 w)
                have hgs := hide (fun h => ss_gs (s := ⟨s0, s1, s2, s3, s4⟩) (k := tk) (n := tn) h)
                generalize ssS ⟨s0, s1, s2, s3, s4⟩ tk tn = R at *
                generalize ssB ⟨s0, s1, s2, s3, s4⟩ tk tn = g2 at *
                generalize ssT ⟨s0, s1, s2, s3, s4⟩ tk tn = tt at *
                generalize gsB ⟨s0, s1, s2, s3, s4⟩ = g3 at *
                obtain ⟨r0, r1, r2, r3, r4⟩ := R
                have hg2 : (g2 != g2) = false := by simp
                have hg3 : (g3 != g3) = false := by simp
                have SI2 := hide (fun a a' c c' w R Q => w_sameInts a a' (tlN2 tt) c c' (fun _ => tt) w (by have := tlN2_le tt; omega) R Q)
                have RT := hide (fun base v w (h : TB base v tt w) => h.row2)
                have hLt := tlN2_le tt
                generalize tlN2 tt = LT at *
                have MT := (Mut.new t1 #[.int .i64 s0, .int .i64 s1, .int .i64 s2, .int .i64 s3, .int .i64 s4] 27).alloc (.cells #[.int .i64 tk, .int .i64 tn] 33)
                have ME : Mut ((t1.alloc (.cells #[.int .i64 s0, .int .i64 s1, .int .i64 s2, .int .i64 s3, .int .i64 s4] 27)).alloc (.cells #[.int .i64 tk, .int .i64 tn] 33)) (t1.heap.size + 1) [.int .i64 tk, .int .i64 tn] := by
                  simpa using Mut.new (t1.alloc (.cells #[.int .i64 s0, .int .i64 s1, .int .i64 s2, .int .i64 s3, .int .i64 s4] 27)) #[.int .i64 tk, .int .i64 tn] 33
                have bT2 : Below t1.heap.size t1 ((t1.alloc (.cells #[.int .i64 s0, .int .i64 s1, .int .i64 s2, .int .i64 s3, .int .i64 s4] 27)).alloc (.cells #[.int .i64 tk, .int .i64 tn] 33)) := below_box2 (Below.refl _ _)
                have e2 := e1.trans (bT2.mono e1.size)
                clear bt1 bT2 d1 e1
                go_upto_region 34 with fail
                generalize (t1.alloc (.cells #[.int .i64 s0, .int .i64 s1, .int .i64 s2, .int .i64 s3, .int .i64 s4] 27)).alloc (.cells #[.int .i64 tk, .int .i64 tn] 33) = t2 at *
                generalize t1.heap.size = q24 at *
                have ca0 := MT.2.1 0 _ rfl
                have ca1 := MT.2.1 1 _ rfl
                have ca2 := MT.2.1 2 _ rfl
                have ca3 := MT.2.1 3 _ rfl
                have ca4 := MT.2.1 4 _ rfl
                have ce0 := ME.2.1 0 _ rfl
                have ce1 := ME.2.1 1 _ rfl
                go_wp2_with fail
                refine (IG2.out _).mono ?_
                rintro e t3 ⟨vI, rfl, TI, b3⟩
                obtain ⟨ia, ic, rfl, RI⟩ := RT.out _ _ _ TI
                have bI : Below t3.heap.size t3 (t3.alloc (.cells #[.int .i64 r0, .int .i64 r1, .int .i64 r2, .int .i64 r3, .int .i64 r4] 27)) := below_box (Below.refl _ _)
                have M26 := Mut.new t3 #[.int .i64 r0, .int .i64 r1, .int .i64 r2, .int .i64 r3, .int .i64 r4] 27
                replace RI := RI.below bI
                replace MT := (MT.below b3).below bI
                replace ME := (ME.below b3).below bI
                have e3 := (e2.trans (b3.mono e2.size)).trans (bI.mono (Nat.le_trans e2.size b3.size))
                clear b3 bI TI e2 ca0 ca1 ca2 ca3 ca4 ce0 ce1
                go_upto_region 35 with fail
                generalize t3.alloc (.cells #[.int .i64 r0, .int .i64 r1, .int .i64 r2, .int .i64 r3, .int .i64 r4] 27) = t4 at *
                generalize t3.heap.size = q26 at *
                have ca0 := MT.2.1 0 _ rfl
                have ca1 := MT.2.1 1 _ rfl
                have ca2 := MT.2.1 2 _ rfl
                have ca3 := MT.2.1 3 _ rfl
                have ca4 := MT.2.1 4 _ rfl
                have ce0 := ME.2.1 0 _ rfl
                have ce1 := ME.2.1 1 _ rfl
                go_wp2_with fail
                refine (SG2.out _).mono ?_
                rintro e t5 ⟨vS, rfl, TS, b5⟩
                obtain ⟨sa, sc, rfl, RS⟩ := RT.out _ _ _ TS
                have bS : Below t5.heap.size t5 (t5.alloc (.cells #[.int .i64 r0, .int .i64 r1, .int .i64 r2, .int .i64 r3, .int .i64 r4] 27)) := below_box (Below.refl _ _)
                have M29 := Mut.new t5 #[.int .i64 r0, .int .i64 r1, .int .i64 r2, .int .i64 r3, .int .i64 r4] 27
                replace RS := RS.below bS
                replace RI := (RI.below b5).below bS
                replace MT := (MT.below b5).below bS
                replace M26 := (M26.below b5).below bS
                have e5 := (e3.trans (b5.mono e3.size)).trans (bS.mono (Nat.le_trans e3.size b5.size))
                clear b5 bS TS e3 ME ca0 ca1 ca2 ca3 ca4 ce0 ce1 IG2 SG2 RT
                go_wp2_with fail
                generalize t5.alloc (.cells #[.int .i64 r0, .int .i64 r1, .int .i64 r2, .int .i64 r3, .int .i64 r4] 27) = t6 at *
                generalize t5.heap.size = q29 at *
                refine (sN.out _ (hM.out _ e5)).mono ?_
                rintro e t7 ⟨hh, rfl, b7⟩
                have IN := hide (fun w => i_new hh w)
                have SN := hide (fun w => s_new hh w)
                generalize newS hh = NN at *
                generalize newB hh = g4 at *
                obtain ⟨n0, n1, n2, n3, n4⟩ := NN
                have hg4 : (g4 != g4) = false := by simp
                replace RS := RS.below b7
                replace RI := RI.below b7
                replace MT := MT.below b7
                replace M26 := M26.below b7
                replace M29 := M29.below b7
                have e7 := e5.trans (b7.mono e5.size)
                clear b7 e5
                go_wp2_with fail
                refine (IN.out _).mono ?_
                rintro e t8 ⟨rfl, b8⟩
                have bN : Below t8.heap.size t8 (t8.alloc (.cells #[.int .i64 n0, .int .i64 n1, .int .i64 n2, .int .i64 n3, .int .i64 n4] 27)) := below_box (Below.refl _ _)
                have M33 := Mut.new t8 #[.int .i64 n0, .int .i64 n1, .int .i64 n2, .int .i64 n3, .int .i64 n4] 27
                replace RS := (RS.below b8).below bN
                replace RI := (RI.below b8).below bN
                replace MT := (MT.below b8).below bN
                replace M26 := (M26.below b8).below bN
                replace M29 := (M29.below b8).below bN
                have e8 := (e7.trans (b8.mono e7.size)).trans (bN.mono (Nat.le_trans e7.size b8.size))
                clear b8 bN e7
                go_wp2_with fail
                generalize t8.alloc (.cells #[.int .i64 n0, .int .i64 n1, .int .i64 n2, .int .i64 n3, .int .i64 n4] 27) = t9 at *
                generalize t8.heap.size = q33 at *
                refine (SN.out _).mono ?_
                rintro e ta ⟨rfl, ba⟩
                have bO : Below ta.heap.size ta (ta.alloc (.cells #[.int .i64 n0, .int .i64 n1, .int .i64 n2, .int .i64 n3, .int .i64 n4] 27)) := below_box (Below.refl _ _)
                have M35 := Mut.new ta #[.int .i64 n0, .int .i64 n1, .int .i64 n2, .int .i64 n3, .int .i64 n4] 27
                replace RS := (RS.below ba).below bO
                replace RI := (RI.below ba).below bO
                replace MT := (MT.below ba).below bO
                replace M26 := (M26.below ba).below bO
                replace M29 := (M29.below ba).below bO
                replace M33 := (M33.below ba).below bO
                have ea := (e8.trans (ba.mono e8.size)).trans (bO.mono (Nat.le_trans e8.size ba.size))
                clear ba bO e8
                go_upto_region 39 with fail
                generalize ta.alloc (.cells #[.int .i64 n0, .int .i64 n1, .int .i64 n2, .int .i64 n3, .int .i64 n4] 27) = tb at *
                generalize ta.heap.size = q35 at *
                have SI3 := hide (fun w (h : Below tb.heap.size tb w) => SI2.out ia sa ic sc w (RI.below h) (RS.below h))
                have ca0 := cell_regrown (MT.2.1 0 _ rfl)
                have ca1 := cell_regrown (MT.2.1 1 _ rfl)
                have ca2 := cell_regrown (MT.2.1 2 _ rfl)
                have ca3 := cell_regrown (MT.2.1 3 _ rfl)
                have ca4 := cell_regrown (MT.2.1 4 _ rfl)
                have cb0 := cell_regrown (M26.2.1 0 _ rfl)
                have cb1 := cell_regrown (M26.2.1 1 _ rfl)
                have cb2 := cell_regrown (M26.2.1 2 _ rfl)
                have cb3 := cell_regrown (M26.2.1 3 _ rfl)
                have cb4 := cell_regrown (M26.2.1 4 _ rfl)
                have cc0 := cell_regrown (M29.2.1 0 _ rfl)
                have cc1 := cell_regrown (M29.2.1 1 _ rfl)
                have cc2 := cell_regrown (M29.2.1 2 _ rfl)
                have cc3 := cell_regrown (M29.2.1 3 _ rfl)
                have cc4 := cell_regrown (M29.2.1 4 _ rfl)
                have cd0 := cell_regrown (M33.2.1 0 _ rfl)
                have cd1 := cell_regrown (M33.2.1 1 _ rfl)
                have cd2 := cell_regrown (M33.2.1 2 _ rfl)
                have cd3 := cell_regrown (M33.2.1 3 _ rfl)
                have cd4 := cell_regrown (M33.2.1 4 _ rfl)
                have ce0 := cell_regrown (M35.2.1 0 _ rfl)
                have ce1 := cell_regrown (M35.2.1 1 _ rfl)
                have ce2 := cell_regrown (M35.2.1 2 _ rfl)
                have ce3 := cell_regrown (M35.2.1 3 _ rfl)
                have ce4 := cell_regrown (M35.2.1 4 _ rfl)
                refine wp_region_quiet_below (by kernel_rfl) (by kernel_rfl) ?_
                repeat (first | go_big_quiet_step ((first | (go_at_call 7; exact Calls.regrown_of (SI3.out _ (below_regrown _ _ _))) | (go_at_call 9; exact Calls.regrown_of (GI.out _)) | (go_at_call 16; exact Calls.regrown_of (GQ.out _)))) | quiet_step ((first | (go_at_call 7; exact Calls.regrown_of (SI3.out _ (below_regrown _ _ _))) | (go_at_call 9; exact Calls.regrown_of (GI.out _)) | (go_at_call 16; exact Calls.regrown_of (GQ.out _)))))
                refine wpQuiet_nil ?_
                intro _ hw'
                obtain ⟨⟨dq, osq⟩, hw''⟩ := hw'
                subst hw''
                have hq := below_regrown tb dq osq
                generalize Go.Sort.grow (redrawn tb dq) osq = wq at hq ⊢
                have ez := ea.trans (hq.mono ea.size)
                have M9 := M26.below hq
                clear hq ca0 ca1 ca2 ca3 ca4 cb0 cb1 cb2 cb3 cb4 cc0 cc1 cc2 cc3 cc4 cd0 cd1 cd2 cd3 cd4 ce0 ce1 ce2 ce3 ce4
                cases g2 with
                | false =>
                  go_wp2_with fail
                  go_ret
                  exact ⟨rfl, ez⟩
                | true =>
                  have sF := hide (fun w => i_goodS r0 r1 r2 r3 r4 w)
                  rw [gsB_t (hgs.out rfl)] at sF
                  have k0 := M9.2.1 0 _ rfl
                  have k1 := M9.2.1 1 _ rfl
                  have k2 := M9.2.1 2 _ rfl
                  have k3 := M9.2.1 3 _ rfl
                  have k4 := M9.2.1 4 _ rfl
                  go_wp2_with fail
                  refine (sF.out _).mono ?_
                  rintro e wr9 ⟨rfl, b9⟩
                  go_wp2_with fail
                  go_ret
                  exact ⟨rfl, ez.trans (b9.mono ez.size)⟩
        · have hup : (true && y0 == 4) = false := by simp [up]
          rw [hup] at sU
          clear up hup
          go_wp2_with fail
          refine (sU.out _).mono ?_
          rintro e u1 ⟨rfl, bu1⟩
          replace M7 := M7.below bu1
          have Du := D4.trans (bu1.mono D4.size)
          clear bu1 ca0 ca1 ca2 ca3 ca4
          have ca0 := M7.2.1 0 _ rfl
          have ca1 := M7.2.1 1 _ rfl
          have ca2 := M7.2.1 2 _ rfl
          have ca3 := M7.2.1 3 _ rfl
          have ca4 := M7.2.1 4 _ rfl
          go_wp2_with fail
          refine (sG.out _).mono ?_
          rintro e u2 ⟨rfl, bu2⟩
          replace M7 := M7.below bu2
          replace Du := Du.trans (bu2.mono Du.size)
          clear bu2 ca0 ca1 ca2 ca3 ca4
          have ca0 := M7.2.1 0 _ rfl
          have ca1 := M7.2.1 1 _ rfl
          have ca2 := M7.2.1 2 _ rfl
          have ca3 := M7.2.1 3 _ rfl
          have ca4 := M7.2.1 4 _ rfl
          have M19 := Mut.new u2 #[.int .i64 y0, .int .i64 y1, .int .i64 y2, .int .i64 y3, .int .i64 y4] 27
          have bC : Below u2.heap.size u2 (u2.alloc (.cells #[.int .i64 y0, .int .i64 y1, .int .i64 y2, .int .i64 y3, .int .i64 y4] 27)) := below_box (Below.refl _ _)
          have h719 : q7 < u2.heap.size := M7.1
          replace M7 := M7.below bC
          replace Du := Du.trans (bC.mono Du.size)
          have hD2 : w.heap.size ≤ u2.heap.size := by have := Du.size; have := D4.size; have h7 := h719; exact Nat.le_trans hwq (Nat.le_of_lt h719)
          have hL : Hid (0 ≤ y2 ∧ y2 ≤ 90) := by
            have := hG.out
            unfold GS at this
            dsimp only at this
            constructor
            · by_cases h : y0 < 2
              · omega
              · omega
            · by_cases h : y0 < 2
              · omega
              · omega
          clear bC sU sG
          go_wp2_with fail
          clear ca0 ca1 ca2 ca3 ca4
          generalize u2.alloc (.cells #[.int .i64 y0, .int .i64 y1, .int .i64 y2, .int .i64 y3, .int .i64 y4] 27) = u3 at *
          generalize u2.heap.size = b19 at *
          go_loopw [20] (fun i wr => ∃ k : Nat, (k : Int) ≤ y2 ∧ i = .int .i64 k ∧ Mut wr b19 (itT ⟨y0, y1, y2, y3, y4⟩ k).cs ∧ Mut wr q7 (⟨y0, y1, y2, y3, y4⟩ : Se).cs ∧ Below w.heap.size w wr) (fun i _ => y2.toNat - (intOf i).toNat)
          case atStart => exact ⟨0, hL.out.1, rfl, M19, M7, Du⟩
          case round =>
            obtain ⟨k, hk, rfl, MX, M7, Du⟩ := hrel
            have hgk := itT_gs hG.out k
            have hsu : itT ⟨y0, y1, y2, y3, y4⟩ (k + 1) = (tick (itT ⟨y0, y1, y2, y3, y4⟩ k)).1 := rfl
            have hlast := fun h2 e => itT_last (s := ⟨y0, y1, y2, y3, y4⟩) hG.out h2 k e
            have y90 := hL.out.2
            have hki : (k : Int) ≤ 90 := by omega
            generalize itT ⟨y0, y1, y2, y3, y4⟩ k = X at *
            obtain ⟨x0, x1, x2, x3, x4⟩ := X
            have z2 := M7.2.1 2 _ rfl
            by_cases hlt : (k : Int) < y2
            · have sT := hide (fun w => i_stepSession x0 x1 x2 x3 x4 10 0 w)
              rw [(ss_t hgk ge_tick).1, (ss_t hgk ge_tick).2.1, (ss_t hgk ge_tick).2.2, show stp ⟨x0, x1, x2, x3, x4⟩ 10 0 = tick ⟨x0, x1, x2, x3, x4⟩ by simp [stp]] at sT
              generalize tick ⟨x0, x1, x2, x3, x4⟩ = T at *
              obtain ⟨⟨t0, t1, t2, t3, t4⟩, tt⟩ := T
              have hsu' := hide hsu
              have x0c := MX.2.1 0 _ rfl
              have x1c := MX.2.1 1 _ rfl
              have x2c := MX.2.1 2 _ rfl
              have x3c := MX.2.1 3 _ rfl
              have x4c := MX.2.1 4 _ rfl
              clear hsu hgk hlast
              go_wp2_with fail
              refine (sT.out _).mono ?_
              rintro e r1 ⟨vt, rfl, _, br1⟩
              replace MX := MX.below br1
              replace M7 := M7.below br1
              replace Du := Du.trans (br1.mono Du.size)
              have bT : Below r1.heap.size r1 (r1.alloc (.cells #[.int .i64 t0, .int .i64 t1, .int .i64 t2, .int .i64 t3, .int .i64 t4] 27)) := below_box (Below.refl _ _)
              replace MX := MX.below bT
              replace M7 := M7.below bT
              replace Du := Du.trans (bT.mono Du.size)
              have hMX := hide MX
              have hone := hide (Se.one ⟨t0, t1, t2, t3, t4⟩)
              clear br1 bT x0c x1c x2c x3c x4c z2 MX
              go_wp2_with (refine wpList_storeM rfl rfl rfl rfl hMX.out rfl hone.out (by kernel_rfl) ?_; intro r2 M9 o9)
              refine ⟨⟨k + 1, by omega, by go_num, by rw [hsu'.out]; exact M9, M7.only o9 (by omega), below_only12 Du o9 hD2⟩, by simp [intOf]; omega⟩
            · have hky : (k : Int) = y2 := by omega
              have zs := M7.2.1 0 _ rfl
              have x0c := MX.2.1 0 _ rfl
              have d1 := Du
              clear hsu
              by_cases h2 : y0 ≥ 2
              · have hx := hlast h2 hky
                dsimp only at hx
                subst hx
                clear hlast hgk hL M7 MX Du D4
                go_wp2_with fail
                refine (sS.out _ (hM.out _ d1)).mono ?_
                rintro e t1 ⟨T, tk, tn, rfl, bt1⟩
                obtain ⟨s0, s1, s2, s3, s4⟩ := T
                have e1 := d1.trans (bt1.mono d1.size)
                have IG2 := hide (fun w => i_stepSession s0 s1 s2 s3 s4 tk tn w)
                have SG2 := hide (fun w => s_stepSession s0 s1 s2 s3 s4 tk tn w)
                have GI := hide (fun w => i_goodS s0 s1 s2 s3 s4 w)
                have GQ := hide (fun w => s_goodS s0 s1 s2 s3 s4 w)
                have hgs := hide (fun h => ss_gs (s := ⟨s0, s1, s2, s3, s4⟩) (k := tk) (n := tn) h)
                generalize ssS ⟨s0, s1, s2, s3, s4⟩ tk tn = R at *
                generalize ssB ⟨s0, s1, s2, s3, s4⟩ tk tn = g2 at *
                generalize ssT ⟨s0, s1, s2, s3, s4⟩ tk tn = tt at *
                generalize gsB ⟨s0, s1, s2, s3, s4⟩ = g3 at *
                obtain ⟨r0, r1, r2, r3, r4⟩ := R
                have hg2 : (g2 != g2) = false := by simp
                have hg3 : (g3 != g3) = false := by simp
                have SI2 := hide (fun a a' c c' w R Q => w_sameInts a a' (tlN2 tt) c c' (fun _ => tt) w (by have := tlN2_le tt; omega) R Q)
                have RT := hide (fun base v w (h : TB base v tt w) => h.row2)
                have hLt := tlN2_le tt
                generalize tlN2 tt = LT at *
                have MT := (Mut.new t1 #[.int .i64 s0, .int .i64 s1, .int .i64 s2, .int .i64 s3, .int .i64 s4] 27).alloc (.cells #[.int .i64 tk, .int .i64 tn] 33)
                have ME : Mut ((t1.alloc (.cells #[.int .i64 s0, .int .i64 s1, .int .i64 s2, .int .i64 s3, .int .i64 s4] 27)).alloc (.cells #[.int .i64 tk, .int .i64 tn] 33)) (t1.heap.size + 1) [.int .i64 tk, .int .i64 tn] := by
                  simpa using Mut.new (t1.alloc (.cells #[.int .i64 s0, .int .i64 s1, .int .i64 s2, .int .i64 s3, .int .i64 s4] 27)) #[.int .i64 tk, .int .i64 tn] 33
                have bT2 : Below t1.heap.size t1 ((t1.alloc (.cells #[.int .i64 s0, .int .i64 s1, .int .i64 s2, .int .i64 s3, .int .i64 s4] 27)).alloc (.cells #[.int .i64 tk, .int .i64 tn] 33)) := below_box2 (Below.refl _ _)
                have e2 := e1.trans (bT2.mono e1.size)
                clear bt1 bT2 d1 e1
                go_upto_region 34 with fail
                generalize (t1.alloc (.cells #[.int .i64 s0, .int .i64 s1, .int .i64 s2, .int .i64 s3, .int .i64 s4] 27)).alloc (.cells #[.int .i64 tk, .int .i64 tn] 33) = t2 at *
                generalize t1.heap.size = q24 at *
                have ca0 := MT.2.1 0 _ rfl
                have ca1 := MT.2.1 1 _ rfl
                have ca2 := MT.2.1 2 _ rfl
                have ca3 := MT.2.1 3 _ rfl
                have ca4 := MT.2.1 4 _ rfl
                have ce0 := ME.2.1 0 _ rfl
                have ce1 := ME.2.1 1 _ rfl
                go_wp2_with fail
                refine (IG2.out _).mono ?_
                rintro e t3 ⟨vI, rfl, TI, b3⟩
                obtain ⟨ia, ic, rfl, RI⟩ := RT.out _ _ _ TI
                have bI : Below t3.heap.size t3 (t3.alloc (.cells #[.int .i64 r0, .int .i64 r1, .int .i64 r2, .int .i64 r3, .int .i64 r4] 27)) := below_box (Below.refl _ _)
                have M26 := Mut.new t3 #[.int .i64 r0, .int .i64 r1, .int .i64 r2, .int .i64 r3, .int .i64 r4] 27
                replace RI := RI.below bI
                replace MT := (MT.below b3).below bI
                replace ME := (ME.below b3).below bI
                have e3 := (e2.trans (b3.mono e2.size)).trans (bI.mono (Nat.le_trans e2.size b3.size))
                clear b3 bI TI e2 ca0 ca1 ca2 ca3 ca4 ce0 ce1
                go_upto_region 35 with fail
                generalize t3.alloc (.cells #[.int .i64 r0, .int .i64 r1, .int .i64 r2, .int .i64 r3, .int .i64 r4] 27) = t4 at *
                generalize t3.heap.size = q26 at *
                have ca0 := MT.2.1 0 _ rfl
                have ca1 := MT.2.1 1 _ rfl
                have ca2 := MT.2.1 2 _ rfl
                have ca3 := MT.2.1 3 _ rfl
                have ca4 := MT.2.1 4 _ rfl
                have ce0 := ME.2.1 0 _ rfl
                have ce1 := ME.2.1 1 _ rfl
                go_wp2_with fail
                refine (SG2.out _).mono ?_
                rintro e t5 ⟨vS, rfl, TS, b5⟩
                obtain ⟨sa, sc, rfl, RS⟩ := RT.out _ _ _ TS
                have bS : Below t5.heap.size t5 (t5.alloc (.cells #[.int .i64 r0, .int .i64 r1, .int .i64 r2, .int .i64 r3, .int .i64 r4] 27)) := below_box (Below.refl _ _)
                have M29 := Mut.new t5 #[.int .i64 r0, .int .i64 r1, .int .i64 r2, .int .i64 r3, .int .i64 r4] 27
                replace RS := RS.below bS
                replace RI := (RI.below b5).below bS
                replace MT := (MT.below b5).below bS
                replace M26 := (M26.below b5).below bS
                have e5 := (e3.trans (b5.mono e3.size)).trans (bS.mono (Nat.le_trans e3.size b5.size))
                clear b5 bS TS e3 ME ca0 ca1 ca2 ca3 ca4 ce0 ce1 IG2 SG2 RT
                go_wp2_with fail
                generalize t5.alloc (.cells #[.int .i64 r0, .int .i64 r1, .int .i64 r2, .int .i64 r3, .int .i64 r4] 27) = t6 at *
                generalize t5.heap.size = q29 at *
                refine (sN.out _ (hM.out _ e5)).mono ?_
                rintro e t7 ⟨hh, rfl, b7⟩
                have IN := hide (fun w => i_new hh w)
                have SN := hide (fun w => s_new hh w)
                generalize newS hh = NN at *
                generalize newB hh = g4 at *
                obtain ⟨n0, n1, n2, n3, n4⟩ := NN
                have hg4 : (g4 != g4) = false := by simp
                replace RS := RS.below b7
                replace RI := RI.below b7
                replace MT := MT.below b7
                replace M26 := M26.below b7
                replace M29 := M29.below b7
                have e7 := e5.trans (b7.mono e5.size)
                clear b7 e5
                go_wp2_with fail
                refine (IN.out _).mono ?_
                rintro e t8 ⟨rfl, b8⟩
                have bN : Below t8.heap.size t8 (t8.alloc (.cells #[.int .i64 n0, .int .i64 n1, .int .i64 n2, .int .i64 n3, .int .i64 n4] 27)) := below_box (Below.refl _ _)
                have M33 := Mut.new t8 #[.int .i64 n0, .int .i64 n1, .int .i64 n2, .int .i64 n3, .int .i64 n4] 27
                replace RS := (RS.below b8).below bN
                replace RI := (RI.below b8).below bN
                replace MT := (MT.below b8).below bN
                replace M26 := (M26.below b8).below bN
                replace M29 := (M29.below b8).below bN
                have e8 := (e7.trans (b8.mono e7.size)).trans (bN.mono (Nat.le_trans e7.size b8.size))
                clear b8 bN e7
                go_wp2_with fail
                generalize t8.alloc (.cells #[.int .i64 n0, .int .i64 n1, .int .i64 n2, .int .i64 n3, .int .i64 n4] 27) = t9 at *
                generalize t8.heap.size = q33 at *
                refine (SN.out _).mono ?_
                rintro e ta ⟨rfl, ba⟩
                have bO : Below ta.heap.size ta (ta.alloc (.cells #[.int .i64 n0, .int .i64 n1, .int .i64 n2, .int .i64 n3, .int .i64 n4] 27)) := below_box (Below.refl _ _)
                have M35 := Mut.new ta #[.int .i64 n0, .int .i64 n1, .int .i64 n2, .int .i64 n3, .int .i64 n4] 27
                replace RS := (RS.below ba).below bO
                replace RI := (RI.below ba).below bO
                replace MT := (MT.below ba).below bO
                replace M26 := (M26.below ba).below bO
                replace M29 := (M29.below ba).below bO
                replace M33 := (M33.below ba).below bO
                have ea := (e8.trans (ba.mono e8.size)).trans (bO.mono (Nat.le_trans e8.size ba.size))
                clear ba bO e8
                go_upto_region 39 with fail
                generalize ta.alloc (.cells #[.int .i64 n0, .int .i64 n1, .int .i64 n2, .int .i64 n3, .int .i64 n4] 27) = tb at *
                generalize ta.heap.size = q35 at *
                have SI3 := hide (fun w (h : Below tb.heap.size tb w) => SI2.out ia sa ic sc w (RI.below h) (RS.below h))
                have ca0 := cell_regrown (MT.2.1 0 _ rfl)
                have ca1 := cell_regrown (MT.2.1 1 _ rfl)
                have ca2 := cell_regrown (MT.2.1 2 _ rfl)
                have ca3 := cell_regrown (MT.2.1 3 _ rfl)
                have ca4 := cell_regrown (MT.2.1 4 _ rfl)
                have cb0 := cell_regrown (M26.2.1 0 _ rfl)
                have cb1 := cell_regrown (M26.2.1 1 _ rfl)
                have cb2 := cell_regrown (M26.2.1 2 _ rfl)
                have cb3 := cell_regrown (M26.2.1 3 _ rfl)
                have cb4 := cell_regrown (M26.2.1 4 _ rfl)
                have cc0 := cell_regrown (M29.2.1 0 _ rfl)
                have cc1 := cell_regrown (M29.2.1 1 _ rfl)
                have cc2 := cell_regrown (M29.2.1 2 _ rfl)
                have cc3 := cell_regrown (M29.2.1 3 _ rfl)
                have cc4 := cell_regrown (M29.2.1 4 _ rfl)
                have cd0 := cell_regrown (M33.2.1 0 _ rfl)
                have cd1 := cell_regrown (M33.2.1 1 _ rfl)
                have cd2 := cell_regrown (M33.2.1 2 _ rfl)
                have cd3 := cell_regrown (M33.2.1 3 _ rfl)
                have cd4 := cell_regrown (M33.2.1 4 _ rfl)
                have ce0 := cell_regrown (M35.2.1 0 _ rfl)
                have ce1 := cell_regrown (M35.2.1 1 _ rfl)
                have ce2 := cell_regrown (M35.2.1 2 _ rfl)
                have ce3 := cell_regrown (M35.2.1 3 _ rfl)
                have ce4 := cell_regrown (M35.2.1 4 _ rfl)
                refine wp_region_quiet_below (by kernel_rfl) (by kernel_rfl) ?_
                repeat (first | go_big_quiet_step ((first | (go_at_call 7; exact Calls.regrown_of (SI3.out _ (below_regrown _ _ _))) | (go_at_call 9; exact Calls.regrown_of (GI.out _)) | (go_at_call 16; exact Calls.regrown_of (GQ.out _)))) | quiet_step ((first | (go_at_call 7; exact Calls.regrown_of (SI3.out _ (below_regrown _ _ _))) | (go_at_call 9; exact Calls.regrown_of (GI.out _)) | (go_at_call 16; exact Calls.regrown_of (GQ.out _)))))
                refine wpQuiet_nil ?_
                intro _ hw'
                obtain ⟨⟨dq, osq⟩, hw''⟩ := hw'
                subst hw''
                have hq := below_regrown tb dq osq
                generalize Go.Sort.grow (redrawn tb dq) osq = wq at hq ⊢
                have ez := ea.trans (hq.mono ea.size)
                have M9 := M26.below hq
                clear hq ca0 ca1 ca2 ca3 ca4 cb0 cb1 cb2 cb3 cb4 cc0 cc1 cc2 cc3 cc4 cd0 cd1 cd2 cd3 cd4 ce0 ce1 ce2 ce3 ce4
                cases g2 with
                | false =>
                  go_wp2_with fail
                  go_ret
                  exact ⟨rfl, ez⟩
                | true =>
                  have sF := hide (fun w => i_goodS r0 r1 r2 r3 r4 w)
                  rw [gsB_t (hgs.out rfl)] at sF
                  have k0 := M9.2.1 0 _ rfl
                  have k1 := M9.2.1 1 _ rfl
                  have k2 := M9.2.1 2 _ rfl
                  have k3 := M9.2.1 3 _ rfl
                  have k4 := M9.2.1 4 _ rfl
                  go_wp2_with fail
                  refine (sF.out _).mono ?_
                  rintro e wr9 ⟨rfl, b9⟩
                  go_wp2_with fail
                  go_ret
                  exact ⟨rfl, ez.trans (b9.mono ez.size)⟩
              · clear hlast hgk hL M7 MX Du D4
                go_wp2_with fail
                refine (sS.out _ (hM.out _ d1)).mono ?_
                rintro e t1 ⟨T, tk, tn, rfl, bt1⟩
                obtain ⟨s0, s1, s2, s3, s4⟩ := T
                have e1 := d1.trans (bt1.mono d1.size)
                have IG2 := hide (fun w => i_stepSession s0 s1 s2 s3 s4 tk tn w)
                have SG2 := hide (fun w => s_stepSession s0 s1 s2 s3 s4 tk tn w)
                have GI := hide (fun w => i_goodS s0 s1 s2 s3 s4 w)
                have GQ := hide (fun w => s_goodS s0 s1 s2 s3 s4 w)
                have hgs := hide (fun h => ss_gs (s := ⟨s0, s1, s2, s3, s4⟩) (k := tk) (n := tn) h)
                generalize ssS ⟨s0, s1, s2, s3, s4⟩ tk tn = R at *
                generalize ssB ⟨s0, s1, s2, s3, s4⟩ tk tn = g2 at *
                generalize ssT ⟨s0, s1, s2, s3, s4⟩ tk tn = tt at *
                generalize gsB ⟨s0, s1, s2, s3, s4⟩ = g3 at *
                obtain ⟨r0, r1, r2, r3, r4⟩ := R
                have hg2 : (g2 != g2) = false := by simp
                have hg3 : (g3 != g3) = false := by simp
                have SI2 := hide (fun a a' c c' w R Q => w_sameInts a a' (tlN2 tt) c c' (fun _ => tt) w (by have := tlN2_le tt; omega) R Q)
                have RT := hide (fun base v w (h : TB base v tt w) => h.row2)
                have hLt := tlN2_le tt
                generalize tlN2 tt = LT at *
                have MT := (Mut.new t1 #[.int .i64 s0, .int .i64 s1, .int .i64 s2, .int .i64 s3, .int .i64 s4] 27).alloc (.cells #[.int .i64 tk, .int .i64 tn] 33)
                have ME : Mut ((t1.alloc (.cells #[.int .i64 s0, .int .i64 s1, .int .i64 s2, .int .i64 s3, .int .i64 s4] 27)).alloc (.cells #[.int .i64 tk, .int .i64 tn] 33)) (t1.heap.size + 1) [.int .i64 tk, .int .i64 tn] := by
                  simpa using Mut.new (t1.alloc (.cells #[.int .i64 s0, .int .i64 s1, .int .i64 s2, .int .i64 s3, .int .i64 s4] 27)) #[.int .i64 tk, .int .i64 tn] 33
                have bT2 : Below t1.heap.size t1 ((t1.alloc (.cells #[.int .i64 s0, .int .i64 s1, .int .i64 s2, .int .i64 s3, .int .i64 s4] 27)).alloc (.cells #[.int .i64 tk, .int .i64 tn] 33)) := below_box2 (Below.refl _ _)
                have e2 := e1.trans (bT2.mono e1.size)
                clear bt1 bT2 d1 e1
                go_upto_region 34 with fail
                generalize (t1.alloc (.cells #[.int .i64 s0, .int .i64 s1, .int .i64 s2, .int .i64 s3, .int .i64 s4] 27)).alloc (.cells #[.int .i64 tk, .int .i64 tn] 33) = t2 at *
                generalize t1.heap.size = q24 at *
                have ca0 := MT.2.1 0 _ rfl
                have ca1 := MT.2.1 1 _ rfl
                have ca2 := MT.2.1 2 _ rfl
                have ca3 := MT.2.1 3 _ rfl
                have ca4 := MT.2.1 4 _ rfl
                have ce0 := ME.2.1 0 _ rfl
                have ce1 := ME.2.1 1 _ rfl
                go_wp2_with fail
                refine (IG2.out _).mono ?_
                rintro e t3 ⟨vI, rfl, TI, b3⟩
                obtain ⟨ia, ic, rfl, RI⟩ := RT.out _ _ _ TI
                have bI : Below t3.heap.size t3 (t3.alloc (.cells #[.int .i64 r0, .int .i64 r1, .int .i64 r2, .int .i64 r3, .int .i64 r4] 27)) := below_box (Below.refl _ _)
                have M26 := Mut.new t3 #[.int .i64 r0, .int .i64 r1, .int .i64 r2, .int .i64 r3, .int .i64 r4] 27
                replace RI := RI.below bI
                replace MT := (MT.below b3).below bI
                replace ME := (ME.below b3).below bI
                have e3 := (e2.trans (b3.mono e2.size)).trans (bI.mono (Nat.le_trans e2.size b3.size))
                clear b3 bI TI e2 ca0 ca1 ca2 ca3 ca4 ce0 ce1
                go_upto_region 35 with fail
                generalize t3.alloc (.cells #[.int .i64 r0, .int .i64 r1, .int .i64 r2, .int .i64 r3, .int .i64 r4] 27) = t4 at *
                generalize t3.heap.size = q26 at *
                have ca0 := MT.2.1 0 _ rfl
                have ca1 := MT.2.1 1 _ rfl
                have ca2 := MT.2.1 2 _ rfl
                have ca3 := MT.2.1 3 _ rfl
                have ca4 := MT.2.1 4 _ rfl
                have ce0 := ME.2.1 0 _ rfl
                have ce1 := ME.2.1 1 _ rfl
                go_wp2_with fail
                refine (SG2.out _).mono ?_
                rintro e t5 ⟨vS, rfl, TS, b5⟩
                obtain ⟨sa, sc, rfl, RS⟩ := RT.out _ _ _ TS
                have bS : Below t5.heap.size t5 (t5.alloc (.cells #[.int .i64 r0, .int .i64 r1, .int .i64 r2, .int .i64 r3, .int .i64 r4] 27)) := below_box (Below.refl _ _)
                have M29 := Mut.new t5 #[.int .i64 r0, .int .i64 r1, .int .i64 r2, .int .i64 r3, .int .i64 r4] 27
                replace RS := RS.below bS
                replace RI := (RI.below b5).below bS
                replace MT := (MT.below b5).below bS
                replace M26 := (M26.below b5).below bS
                have e5 := (e3.trans (b5.mono e3.size)).trans (bS.mono (Nat.le_trans e3.size b5.size))
                clear b5 bS TS e3 ME ca0 ca1 ca2 ca3 ca4 ce0 ce1 IG2 SG2 RT
                go_wp2_with fail
                generalize t5.alloc (.cells #[.int .i64 r0, .int .i64 r1, .int .i64 r2, .int .i64 r3, .int .i64 r4] 27) = t6 at *
                generalize t5.heap.size = q29 at *
                refine (sN.out _ (hM.out _ e5)).mono ?_
                rintro e t7 ⟨hh, rfl, b7⟩
                have IN := hide (fun w => i_new hh w)
                have SN := hide (fun w => s_new hh w)
                generalize newS hh = NN at *
                generalize newB hh = g4 at *
                obtain ⟨n0, n1, n2, n3, n4⟩ := NN
                have hg4 : (g4 != g4) = false := by simp
                replace RS := RS.below b7
                replace RI := RI.below b7
                replace MT := MT.below b7
                replace M26 := M26.below b7
                replace M29 := M29.below b7
                have e7 := e5.trans (b7.mono e5.size)
                clear b7 e5
                go_wp2_with fail
                refine (IN.out _).mono ?_
                rintro e t8 ⟨rfl, b8⟩
                have bN : Below t8.heap.size t8 (t8.alloc (.cells #[.int .i64 n0, .int .i64 n1, .int .i64 n2, .int .i64 n3, .int .i64 n4] 27)) := below_box (Below.refl _ _)
                have M33 := Mut.new t8 #[.int .i64 n0, .int .i64 n1, .int .i64 n2, .int .i64 n3, .int .i64 n4] 27
                replace RS := (RS.below b8).below bN
                replace RI := (RI.below b8).below bN
                replace MT := (MT.below b8).below bN
                replace M26 := (M26.below b8).below bN
                replace M29 := (M29.below b8).below bN
                have e8 := (e7.trans (b8.mono e7.size)).trans (bN.mono (Nat.le_trans e7.size b8.size))
                clear b8 bN e7
                go_wp2_with fail
                generalize t8.alloc (.cells #[.int .i64 n0, .int .i64 n1, .int .i64 n2, .int .i64 n3, .int .i64 n4] 27) = t9 at *
                generalize t8.heap.size = q33 at *
                refine (SN.out _).mono ?_
                rintro e ta ⟨rfl, ba⟩
                have bO : Below ta.heap.size ta (ta.alloc (.cells #[.int .i64 n0, .int .i64 n1, .int .i64 n2, .int .i64 n3, .int .i64 n4] 27)) := below_box (Below.refl _ _)
                have M35 := Mut.new ta #[.int .i64 n0, .int .i64 n1, .int .i64 n2, .int .i64 n3, .int .i64 n4] 27
                replace RS := (RS.below ba).below bO
                replace RI := (RI.below ba).below bO
                replace MT := (MT.below ba).below bO
                replace M26 := (M26.below ba).below bO
                replace M29 := (M29.below ba).below bO
                replace M33 := (M33.below ba).below bO
                have ea := (e8.trans (ba.mono e8.size)).trans (bO.mono (Nat.le_trans e8.size ba.size))
                clear ba bO e8
                go_upto_region 39 with fail
                generalize ta.alloc (.cells #[.int .i64 n0, .int .i64 n1, .int .i64 n2, .int .i64 n3, .int .i64 n4] 27) = tb at *
                generalize ta.heap.size = q35 at *
                have SI3 := hide (fun w (h : Below tb.heap.size tb w) => SI2.out ia sa ic sc w (RI.below h) (RS.below h))
                have ca0 := cell_regrown (MT.2.1 0 _ rfl)
                have ca1 := cell_regrown (MT.2.1 1 _ rfl)
                have ca2 := cell_regrown (MT.2.1 2 _ rfl)
                have ca3 := cell_regrown (MT.2.1 3 _ rfl)
                have ca4 := cell_regrown (MT.2.1 4 _ rfl)
                have cb0 := cell_regrown (M26.2.1 0 _ rfl)
                have cb1 := cell_regrown (M26.2.1 1 _ rfl)
                have cb2 := cell_regrown (M26.2.1 2 _ rfl)
                have cb3 := cell_regrown (M26.2.1 3 _ rfl)
                have cb4 := cell_regrown (M26.2.1 4 _ rfl)
                have cc0 := cell_regrown (M29.2.1 0 _ rfl)
                have cc1 := cell_regrown (M29.2.1 1 _ rfl)
                have cc2 := cell_regrown (M29.2.1 2 _ rfl)
                have cc3 := cell_regrown (M29.2.1 3 _ rfl)
                have cc4 := cell_regrown (M29.2.1 4 _ rfl)
                have cd0 := cell_regrown (M33.2.1 0 _ rfl)
                have cd1 := cell_regrown (M33.2.1 1 _ rfl)
                have cd2 := cell_regrown (M33.2.1 2 _ rfl)
                have cd3 := cell_regrown (M33.2.1 3 _ rfl)
                have cd4 := cell_regrown (M33.2.1 4 _ rfl)
                have ce0 := cell_regrown (M35.2.1 0 _ rfl)
                have ce1 := cell_regrown (M35.2.1 1 _ rfl)
                have ce2 := cell_regrown (M35.2.1 2 _ rfl)
                have ce3 := cell_regrown (M35.2.1 3 _ rfl)
                have ce4 := cell_regrown (M35.2.1 4 _ rfl)
                refine wp_region_quiet_below (by kernel_rfl) (by kernel_rfl) ?_
                repeat (first | go_big_quiet_step ((first | (go_at_call 7; exact Calls.regrown_of (SI3.out _ (below_regrown _ _ _))) | (go_at_call 9; exact Calls.regrown_of (GI.out _)) | (go_at_call 16; exact Calls.regrown_of (GQ.out _)))) | quiet_step ((first | (go_at_call 7; exact Calls.regrown_of (SI3.out _ (below_regrown _ _ _))) | (go_at_call 9; exact Calls.regrown_of (GI.out _)) | (go_at_call 16; exact Calls.regrown_of (GQ.out _)))))
                refine wpQuiet_nil ?_
                intro _ hw'
                obtain ⟨⟨dq, osq⟩, hw''⟩ := hw'
                subst hw''
                have hq := below_regrown tb dq osq
                generalize Go.Sort.grow (redrawn tb dq) osq = wq at hq ⊢
                have ez := ea.trans (hq.mono ea.size)
                have M9 := M26.below hq
                clear hq ca0 ca1 ca2 ca3 ca4 cb0 cb1 cb2 cb3 cb4 cc0 cc1 cc2 cc3 cc4 cd0 cd1 cd2 cd3 cd4 ce0 ce1 ce2 ce3 ce4
                cases g2 with
                | false =>
                  go_wp2_with fail
                  go_ret
                  exact ⟨rfl, ez⟩
                | true =>
                  have sF := hide (fun w => i_goodS r0 r1 r2 r3 r4 w)
                  rw [gsB_t (hgs.out rfl)] at sF
                  have k0 := M9.2.1 0 _ rfl
                  have k1 := M9.2.1 1 _ rfl
                  have k2 := M9.2.1 2 _ rfl
                  have k3 := M9.2.1 3 _ rfl
                  have k4 := M9.2.1 4 _ rfl
                  go_wp2_with fail
                  refine (sF.out _).mono ?_
                  rintro e wr9 ⟨rfl, b9⟩
                  go_wp2_with fail
                  go_ret
                  exact ⟨rfl, ez.trans (b9.mono ez.size)⟩
  · rw [(pe_f hOk).1, (pe_f hOk).2.1] at IG SG
    clear hOk
    obtain ⟨y0, hy0⟩ : ∃ y0 : Int, y0 = 0 := ⟨0, rfl⟩
    rw [← hy0] at IG SG
    obtain ⟨y1, hy1⟩ : ∃ y1 : Int, y1 = y0 := ⟨y0, rfl⟩
    clear hy0
    rw [show (⟨y0, y0, y0, y0, y0⟩ : Se) = ⟨y0, y1, y1, y1, y1⟩ by rw [hy1]] at IG SG
    clear hy1
    generalize hy2 : y1 = y2 at IG SG
    clear hy2 y1
    go_wp2_with fail
    refine (IG.out _ hR).mono ?_
    rintro e w2 ⟨vI, rfl, hI, b2⟩
    obtain ⟨ia, ic, rfl, RI, _⟩ := hI
    replace hR := hR.below b2
    replace d1 := d1.trans (b2.mono d1.size)
    have hw27 := d1.size
    have M7 := Mut.new w2 #[.int .i64 y0, .int .i64 y2, .int .i64 y2, .int .i64 y2, .int .i64 y2] 27
    have bA : Below w2.heap.size w2 (w2.alloc (.cells #[.int .i64 y0, .int .i64 y2, .int .i64 y2, .int .i64 y2, .int .i64 y2] 27)) := below_box (Below.refl _ _)
    replace hR := hR.below bA
    replace RI := RI.below bA
    replace d1 := d1.trans (bA.mono d1.size)
    clear b2 bA
    go_wp2_with fail
    generalize w2.alloc (.cells #[.int .i64 y0, .int .i64 y2, .int .i64 y2, .int .i64 y2, .int .i64 y2] 27) = wA at *
    generalize w2.heap.size = q7 at *
    have hwq0 : w.heap.size ≤ q7 := hw27
    refine (SG.out _ hR).mono ?_
    rintro e w3 ⟨vS, rfl, hS, b3⟩
    obtain ⟨sa, sc, rfl, RS, _⟩ := hS
    replace hR := hR.below b3
    replace RI := RI.below b3
    replace M7 := M7.below b3
    replace d1 := d1.trans (b3.mono d1.size)
    have M10 := Mut.new w3 #[.int .i64 y0, .int .i64 y2, .int .i64 y2, .int .i64 y2, .int .i64 y2] 27
    have bB : Below w3.heap.size w3 (w3.alloc (.cells #[.int .i64 y0, .int .i64 y2, .int .i64 y2, .int .i64 y2, .int .i64 y2] 27)) := below_box (Below.refl _ _)
    replace hR := hR.below bB
    replace RI := RI.below bB
    replace RS := RS.below bB
    replace M7 := M7.below bB
    replace d1 := d1.trans (bB.mono d1.size)
    have ca0 := M7.2.1 0 _ rfl
    have ca1 := M7.2.1 1 _ rfl
    have ca2 := M7.2.1 2 _ rfl
    have ca3 := M7.2.1 3 _ rfl
    have ca4 := M7.2.1 4 _ rfl
    have cb0 := M10.2.1 0 _ rfl
    have cb1 := M10.2.1 1 _ rfl
    have cb2 := M10.2.1 2 _ rfl
    have cb3 := M10.2.1 3 _ rfl
    have cb4 := M10.2.1 4 _ rfl
    clear b3 bB
    go_wp2_with fail
    generalize w3.alloc (.cells #[.int .i64 y0, .int .i64 y2, .int .i64 y2, .int .i64 y2, .int .i64 y2] 27) = wB at *
    generalize w3.heap.size = q10 at *
    refine (SI.out _ _ _ _ _ RI RS).mono ?_
    rintro e w4 ⟨rfl, b4⟩
    replace hR := hR.below b4
    replace M7 := M7.below b4
    replace d1 := d1.trans (b4.mono d1.size)
    clear b4 RI RS M10 ca0 ca1 ca2 ca3 ca4 cb0 cb1 cb2 cb3 cb4 IG SG SI
    go_wp2_with fail
    refine (sS.out _ (hM.out _ d1)).mono ?_
    rintro e t1 ⟨T, tk, tn, rfl, bt1⟩
    obtain ⟨s0, s1, s2, s3, s4⟩ := T
    have e1 := d1.trans (bt1.mono d1.size)
    have IG2 := hide (fun w => i_stepSession s0 s1 s2 s3 s4 tk tn w)
    have SG2 := hide (fun w => s_stepSession s0 s1 s2 s3 s4 tk tn w)
    have GI := hide (fun w => i_goodS s0 s1 s2 s3 s4 w)
    have GQ := hide (fun w => s_goodS s0 s1 s2 s3 s4 w)
    have hgs := hide (fun h => ss_gs (s := ⟨s0, s1, s2, s3, s4⟩) (k := tk) (n := tn) h)
    generalize ssS ⟨s0, s1, s2, s3, s4⟩ tk tn = R at *
    generalize ssB ⟨s0, s1, s2, s3, s4⟩ tk tn = g2 at *
    generalize ssT ⟨s0, s1, s2, s3, s4⟩ tk tn = tt at *
    generalize gsB ⟨s0, s1, s2, s3, s4⟩ = g3 at *
    obtain ⟨r0, r1, r2, r3, r4⟩ := R
    have hg2 : (g2 != g2) = false := by simp
    have hg3 : (g3 != g3) = false := by simp
    have SI2 := hide (fun a a' c c' w R Q => w_sameInts a a' (tlN2 tt) c c' (fun _ => tt) w (by have := tlN2_le tt; omega) R Q)
    have RT := hide (fun base v w (h : TB base v tt w) => h.row2)
    have hLt := tlN2_le tt
    generalize tlN2 tt = LT at *
    have MT := (Mut.new t1 #[.int .i64 s0, .int .i64 s1, .int .i64 s2, .int .i64 s3, .int .i64 s4] 27).alloc (.cells #[.int .i64 tk, .int .i64 tn] 33)
    have ME : Mut ((t1.alloc (.cells #[.int .i64 s0, .int .i64 s1, .int .i64 s2, .int .i64 s3, .int .i64 s4] 27)).alloc (.cells #[.int .i64 tk, .int .i64 tn] 33)) (t1.heap.size + 1) [.int .i64 tk, .int .i64 tn] := by
      simpa using Mut.new (t1.alloc (.cells #[.int .i64 s0, .int .i64 s1, .int .i64 s2, .int .i64 s3, .int .i64 s4] 27)) #[.int .i64 tk, .int .i64 tn] 33
    have bT2 : Below t1.heap.size t1 ((t1.alloc (.cells #[.int .i64 s0, .int .i64 s1, .int .i64 s2, .int .i64 s3, .int .i64 s4] 27)).alloc (.cells #[.int .i64 tk, .int .i64 tn] 33)) := below_box2 (Below.refl _ _)
    have e2 := e1.trans (bT2.mono e1.size)
    clear bt1 bT2 d1 e1
    go_upto_region 34 with fail
    generalize (t1.alloc (.cells #[.int .i64 s0, .int .i64 s1, .int .i64 s2, .int .i64 s3, .int .i64 s4] 27)).alloc (.cells #[.int .i64 tk, .int .i64 tn] 33) = t2 at *
    generalize t1.heap.size = q24 at *
    have ca0 := MT.2.1 0 _ rfl
    have ca1 := MT.2.1 1 _ rfl
    have ca2 := MT.2.1 2 _ rfl
    have ca3 := MT.2.1 3 _ rfl
    have ca4 := MT.2.1 4 _ rfl
    have ce0 := ME.2.1 0 _ rfl
    have ce1 := ME.2.1 1 _ rfl
    go_wp2_with fail
    refine (IG2.out _).mono ?_
    rintro e t3 ⟨vI, rfl, TI, b3⟩
    obtain ⟨ia, ic, rfl, RI⟩ := RT.out _ _ _ TI
    have bI : Below t3.heap.size t3 (t3.alloc (.cells #[.int .i64 r0, .int .i64 r1, .int .i64 r2, .int .i64 r3, .int .i64 r4] 27)) := below_box (Below.refl _ _)
    have M26 := Mut.new t3 #[.int .i64 r0, .int .i64 r1, .int .i64 r2, .int .i64 r3, .int .i64 r4] 27
    replace RI := RI.below bI
    replace MT := (MT.below b3).below bI
    replace ME := (ME.below b3).below bI
    have e3 := (e2.trans (b3.mono e2.size)).trans (bI.mono (Nat.le_trans e2.size b3.size))
    clear b3 bI TI e2 ca0 ca1 ca2 ca3 ca4 ce0 ce1
    go_upto_region 35 with fail
    generalize t3.alloc (.cells #[.int .i64 r0, .int .i64 r1, .int .i64 r2, .int .i64 r3, .int .i64 r4] 27) = t4 at *
    generalize t3.heap.size = q26 at *
    have ca0 := MT.2.1 0 _ rfl
    have ca1 := MT.2.1 1 _ rfl
    have ca2 := MT.2.1 2 _ rfl
    have ca3 := MT.2.1 3 _ rfl
    have ca4 := MT.2.1 4 _ rfl
    have ce0 := ME.2.1 0 _ rfl
    have ce1 := ME.2.1 1 _ rfl
    go_wp2_with fail
    refine (SG2.out _).mono ?_
    rintro e t5 ⟨vS, rfl, TS, b5⟩
    obtain ⟨sa, sc, rfl, RS⟩ := RT.out _ _ _ TS
    have bS : Below t5.heap.size t5 (t5.alloc (.cells #[.int .i64 r0, .int .i64 r1, .int .i64 r2, .int .i64 r3, .int .i64 r4] 27)) := below_box (Below.refl _ _)
    have M29 := Mut.new t5 #[.int .i64 r0, .int .i64 r1, .int .i64 r2, .int .i64 r3, .int .i64 r4] 27
    replace RS := RS.below bS
    replace RI := (RI.below b5).below bS
    replace MT := (MT.below b5).below bS
    replace M26 := (M26.below b5).below bS
    have e5 := (e3.trans (b5.mono e3.size)).trans (bS.mono (Nat.le_trans e3.size b5.size))
    clear b5 bS TS e3 ME ca0 ca1 ca2 ca3 ca4 ce0 ce1 IG2 SG2 RT
    go_wp2_with fail
    generalize t5.alloc (.cells #[.int .i64 r0, .int .i64 r1, .int .i64 r2, .int .i64 r3, .int .i64 r4] 27) = t6 at *
    generalize t5.heap.size = q29 at *
    refine (sN.out _ (hM.out _ e5)).mono ?_
    rintro e t7 ⟨hh, rfl, b7⟩
    have IN := hide (fun w => i_new hh w)
    have SN := hide (fun w => s_new hh w)
    generalize newS hh = NN at *
    generalize newB hh = g4 at *
    obtain ⟨n0, n1, n2, n3, n4⟩ := NN
    have hg4 : (g4 != g4) = false := by simp
    replace RS := RS.below b7
    replace RI := RI.below b7
    replace MT := MT.below b7
    replace M26 := M26.below b7
    replace M29 := M29.below b7
    have e7 := e5.trans (b7.mono e5.size)
    clear b7 e5
    go_wp2_with fail
    refine (IN.out _).mono ?_
    rintro e t8 ⟨rfl, b8⟩
    have bN : Below t8.heap.size t8 (t8.alloc (.cells #[.int .i64 n0, .int .i64 n1, .int .i64 n2, .int .i64 n3, .int .i64 n4] 27)) := below_box (Below.refl _ _)
    have M33 := Mut.new t8 #[.int .i64 n0, .int .i64 n1, .int .i64 n2, .int .i64 n3, .int .i64 n4] 27
    replace RS := (RS.below b8).below bN
    replace RI := (RI.below b8).below bN
    replace MT := (MT.below b8).below bN
    replace M26 := (M26.below b8).below bN
    replace M29 := (M29.below b8).below bN
    have e8 := (e7.trans (b8.mono e7.size)).trans (bN.mono (Nat.le_trans e7.size b8.size))
    clear b8 bN e7
    go_wp2_with fail
    generalize t8.alloc (.cells #[.int .i64 n0, .int .i64 n1, .int .i64 n2, .int .i64 n3, .int .i64 n4] 27) = t9 at *
    generalize t8.heap.size = q33 at *
    refine (SN.out _).mono ?_
    rintro e ta ⟨rfl, ba⟩
    have bO : Below ta.heap.size ta (ta.alloc (.cells #[.int .i64 n0, .int .i64 n1, .int .i64 n2, .int .i64 n3, .int .i64 n4] 27)) := below_box (Below.refl _ _)
    have M35 := Mut.new ta #[.int .i64 n0, .int .i64 n1, .int .i64 n2, .int .i64 n3, .int .i64 n4] 27
    replace RS := (RS.below ba).below bO
    replace RI := (RI.below ba).below bO
    replace MT := (MT.below ba).below bO
    replace M26 := (M26.below ba).below bO
    replace M29 := (M29.below ba).below bO
    replace M33 := (M33.below ba).below bO
    have ea := (e8.trans (ba.mono e8.size)).trans (bO.mono (Nat.le_trans e8.size ba.size))
    clear ba bO e8
    go_upto_region 39 with fail
    generalize ta.alloc (.cells #[.int .i64 n0, .int .i64 n1, .int .i64 n2, .int .i64 n3, .int .i64 n4] 27) = tb at *
    generalize ta.heap.size = q35 at *
    have SI3 := hide (fun w (h : Below tb.heap.size tb w) => SI2.out ia sa ic sc w (RI.below h) (RS.below h))
    have ca0 := cell_regrown (MT.2.1 0 _ rfl)
    have ca1 := cell_regrown (MT.2.1 1 _ rfl)
    have ca2 := cell_regrown (MT.2.1 2 _ rfl)
    have ca3 := cell_regrown (MT.2.1 3 _ rfl)
    have ca4 := cell_regrown (MT.2.1 4 _ rfl)
    have cb0 := cell_regrown (M26.2.1 0 _ rfl)
    have cb1 := cell_regrown (M26.2.1 1 _ rfl)
    have cb2 := cell_regrown (M26.2.1 2 _ rfl)
    have cb3 := cell_regrown (M26.2.1 3 _ rfl)
    have cb4 := cell_regrown (M26.2.1 4 _ rfl)
    have cc0 := cell_regrown (M29.2.1 0 _ rfl)
    have cc1 := cell_regrown (M29.2.1 1 _ rfl)
    have cc2 := cell_regrown (M29.2.1 2 _ rfl)
    have cc3 := cell_regrown (M29.2.1 3 _ rfl)
    have cc4 := cell_regrown (M29.2.1 4 _ rfl)
    have cd0 := cell_regrown (M33.2.1 0 _ rfl)
    have cd1 := cell_regrown (M33.2.1 1 _ rfl)
    have cd2 := cell_regrown (M33.2.1 2 _ rfl)
    have cd3 := cell_regrown (M33.2.1 3 _ rfl)
    have cd4 := cell_regrown (M33.2.1 4 _ rfl)
    have ce0 := cell_regrown (M35.2.1 0 _ rfl)
    have ce1 := cell_regrown (M35.2.1 1 _ rfl)
    have ce2 := cell_regrown (M35.2.1 2 _ rfl)
    have ce3 := cell_regrown (M35.2.1 3 _ rfl)
    have ce4 := cell_regrown (M35.2.1 4 _ rfl)
    refine wp_region_quiet_below (by kernel_rfl) (by kernel_rfl) ?_
    repeat (first | go_big_quiet_step ((first | (go_at_call 7; exact Calls.regrown_of (SI3.out _ (below_regrown _ _ _))) | (go_at_call 9; exact Calls.regrown_of (GI.out _)) | (go_at_call 16; exact Calls.regrown_of (GQ.out _)))) | quiet_step ((first | (go_at_call 7; exact Calls.regrown_of (SI3.out _ (below_regrown _ _ _))) | (go_at_call 9; exact Calls.regrown_of (GI.out _)) | (go_at_call 16; exact Calls.regrown_of (GQ.out _)))))
    refine wpQuiet_nil ?_
    intro _ hw'
    obtain ⟨⟨dq, osq⟩, hw''⟩ := hw'
    subst hw''
    have hq := below_regrown tb dq osq
    generalize Go.Sort.grow (redrawn tb dq) osq = wq at hq ⊢
    have ez := ea.trans (hq.mono ea.size)
    have M9 := M26.below hq
    clear hq ca0 ca1 ca2 ca3 ca4 cb0 cb1 cb2 cb3 cb4 cc0 cc1 cc2 cc3 cc4 cd0 cd1 cd2 cd3 cd4 ce0 ce1 ce2 ce3 ce4
    cases g2 with
    | false =>
      go_wp2_with fail
      go_ret
      exact ⟨rfl, ez⟩
    | true =>
      have sF := hide (fun w => i_goodS r0 r1 r2 r3 r4 w)
      rw [gsB_t (hgs.out rfl)] at sF
      have k0 := M9.2.1 0 _ rfl
      have k1 := M9.2.1 1 _ rfl
      have k2 := M9.2.1 2 _ rfl
      have k3 := M9.2.1 3 _ rfl
      have k4 := M9.2.1 4 _ rfl
      go_wp2_with fail
      refine (sF.out _).mono ?_
      rintro e wr9 ⟨rfl, b9⟩
      go_wp2_with fail
      go_ret
      exact ⟨rfl, ez.trans (b9.mono ez.size)⟩
end Go.Proofs.Ytencpplhlciffaa
