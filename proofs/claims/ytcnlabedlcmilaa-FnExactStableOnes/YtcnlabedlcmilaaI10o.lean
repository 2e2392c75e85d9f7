/- StableOnes of the program. -/
import Derived.Test.YtcnlabedlcmilaaI10c
import Derived.Test.YtcnlabedlcmilaaLsL10
import Derived.WalkMore
namespace Go.Proofs.Ytcnlabedlcmilaa
open Go.RowKit

/-- The number in a cell. -/
def valAt (w : World) (g v : Nat) : Int := match w.cell? ⟨g, v, none⟩ with
  | some (.int _ x) => x
  | _ => 0
/-- How many are to come. -/
def hrn (U : Nat → Pl) (f : Nat → Int) : Nat → Nat
  | 0 => 0
  | p + 1 => hrn U f p * ((U p).n + 1) + (((U p).n : Int) - 1 - f p).toNat
theorem hrn_congr {U : Nat → Pl} {f g : Nat → Int} : ∀ {n : Nat}, (∀ v, v < n → f v = g v) → hrn U f n = hrn U g n
  | 0, _ => rfl
  | n + 1, e => by
    show hrn U f n * ((U n).n + 1) + _ = hrn U g n * ((U n).n + 1) + _
    rw [hrn_congr (fun v hv => e v (by omega)), e n (by omega)]
theorem hrn_step {U : Nat → Pl} {f : Nat → Int} {i : Nat} (hm : f i + 1 < ((U i).n : Int)) : ∀ {n : Nat}, i < n → (∀ j, i < j → j < n → f j + 1 = ((U j).n : Int)) → hrn U (nxV f i) n < hrn U f n
  | 0, h, _ => absurd h (Nat.not_lt_zero _)
  | n + 1, h, hx => by
    show hrn U (nxV f i) n * ((U n).n + 1) + (((U n).n : Int) - 1 - nxV f i n).toNat < hrn U f n * ((U n).n + 1) + (((U n).n : Int) - 1 - f n).toNat
    by_cases e : i = n
    · subst e
      rw [nxV_at, hrn_congr (g := f) (fun v hv => nxV_lt hv)]
      omega
    · have ih := hrn_step hm (n := n) (by omega) (fun j h1 h2 => hx j h1 (by omega))
      rw [nxV_gt (by omega)]
      have h1 := hx n (by omega) (by omega)
      have h2 : (hrn U (nxV f i) n + 1) * ((U n).n + 1) ≤ hrn U f n * ((U n).n + 1) := Nat.mul_le_mul_right _ ih
      rw [Nat.add_mul, Nat.one_mul] at h2
      have h3 : (((U n).n : Int) - 1 - -1).toNat = (U n).n := by omega
      rw [h3]
      omega
theorem valAt_out {g N : Nat} {f : Nat → Int} {w : World} (h : OutInt g N N f w) {v : Nat} (hv : v < N) : valAt w g v = f v := by
  obtain ⟨⟨x, h0, hx⟩, _⟩ := h.2 v hv
  unfold valAt
  rw [h0, hx hv]
theorem oneR_t {N : Nat} {U : Nat → Pl} (hG : GS N U) {f : Nat → Int} (h : Stb N U f) : oneR N U (lsI N f) = [lsI N f] := by rw [oneR_lsI hG, pB_t h]; rfl
theorem oneR_f {N : Nat} {U : Nat → Pl} (hG : GS N U) {f : Nat → Int} (h : ¬ Stb N U f) : oneR N U (lsI N f) = [] := by rw [oneR_lsI hG, pB_f h]; rfl
/-- The vectors of a list of lists. -/
def vcs (N : Nat) (L : List El) : List (List Int) := L.map (fun e => lsI N e.f)
theorem vcs_app (N : Nat) (L : List El) (e : El) : vcs N (L ++ [e]) = vcs N L ++ [lsI N e.f] := by simp [vcs]
/-- What is there and what is to come are all. -/
def Fwd (N : Nat) (U : Nat → Pl) (L : List El) (f : Nat → Int) : Prop := (∀ i, i < N → -1 ≤ f i → f i + 1 < ((U i).n : Int) → (∀ j, i < j → j < N → f j + 1 = ((U j).n : Int)) → vcs N L ++ frm N U (nxV f i) N = onesR N U N []) ∧ ((∀ j, j < N → f j + 1 = ((U j).n : Int)) → vcs N L = onesR N U N [])
theorem fwd_of {N : Nat} {U : Nat → Pl} {L : List El} {f : Nat → Int} {R : List (List Int)} (h : vcs N L ++ frm N U f N = onesR N U N []) (hR : oneR N U (lsI N f) = R) {L' : List El} (hL : vcs N L' = vcs N L ++ R) : Fwd N U L' f := by
  refine ⟨fun i hi hl hm hx => ?_, fun hx => ?_⟩
  · rw [frm_step hi hl hm hx N (by omega) (Nat.le_refl _), hR, ← List.append_assoc, ← hL] at h
    exact h
  · rw [frm_max N (Nat.le_refl _) (fun j _ h2 => hx j h2), hR, ← hL] at h
    exact h

set_option maxRecDepth 100000 in
set_option maxHeartbeats 6400000 in
theorem i_stableOnesE (a : Option Addr) (N c : Nat) (U : Nat → Pl) (w : World) (hN : N ≤ 1048576) (hl : LowS N U) (hR : RowK3 a N U w) :
    Calls Try.prog 34 #[.agg #[.slice a N c]] w fun e w' => ∃ v L, e = .returned (.tuple #[v, .bool (gsB N U)]) ∧ vcs N L = soR N U ∧ LsL N w.heap.size v L w' ∧ Below w.heap.size w w' := by
  have MX := Mut.new w #[.slice a N c] 27
  have dX : Below w.heap.size w (w.alloc (.cells #[.slice a N c] 27)) := below_box (Below.refl _ _)
  have c0 := MX.2.1 0 _ rfl
  have SG := hide (fun w R => i_goodSpp a N c U w hN hl R)
  by_cases hG : GS N U
  · have eG : gsB N U = true := pB_t hG
    have eS : soR N U = onesR N U N [] := by unfold soR; rw [eG]; rfl
    rw [eG] at SG ⊢
    rw [eS]
    have hN5 : (N : Int) ≤ 5 := by have := hG.2.1; omega
    have hNN : N ≤ 5 := hG.2.1
    have hN1 : 1 ≤ N := hG.1
    have hG9 := hide hG
    have hLow := hide hG.low
    have NO := hide (fun w => i_none10 a N c w hG.1 hG.2.1)
    have ST := hide (fun f ga gc w hC R P => i_stable10 a N c U f ga gc w hG hC R P)
    have CL := hide (fun g cap f w P => i_cloneI g 0 N cap f w (by omega) (by omega) P)
    clear eG eS hG hl
    go_enter Try.func34, Try.ntmps34
    go_wp2_with fail
    go_step3
    go_wp2_with fail
    refine (SG.out _ (hR.below dX)).mono ?_
    rintro e w1 ⟨rfl, b⟩
    replace dX := dX.trans (b.mono dX.size)
    replace MX := MX.below b
    have c0 := MX.2.1 0 _ rfl
    clear b
    go_wp2_with fail
    have hsz1 := MX.1
    refine (NO.out _).mono ?_
    rintro e w2 ⟨g, cap, rfl, hg, hcap, hO, b2⟩
    replace dX := dX.trans (b2.mono dX.size)
    replace MX := MX.below b2
    have hgb : w.heap.size < g := Nat.lt_of_lt_of_le hsz1 hg
    clear b2 c0 SG NO
    go_wp2_with fail
    go_step3
    go_wp2_with fail
    go_loopw [5] (fun x wr => ∃ (f : Nat → Int) (L : List El), Hid (Chs N U f) ∧ OutInt g N N f wr ∧ LsL N (g + 1) x L wr ∧ Hid (vcs N L ++ frm N U f N = onesR N U N []) ∧ Mut wr w.heap.size [.slice a N c] ∧ Below w.heap.size w wr) (fun _ wr => hrn U (valAt wr g) N)
    case atStart => exact ⟨fun _ => -1, [], Chs.none N U, hO, lsL_nil _ _ _, by show _ = _; rw [so_start]; rfl, MX, dX⟩
    case round =>
      clear hO MX dX
      obtain ⟨f, L, hC, hO, hL, hfw0, MY, dY⟩ := hrel
      have hm0 : Hid (hrn U (valAt wr g) N = hrn U f N) := hrn_congr (fun v hv => valAt_out hO hv)
      have hmF : Hid (∀ i, i < N → f i + 1 < ((U i).n : Int) → (∀ j, i < j → j < N → f j + 1 = ((U j).n : Int)) → ∀ w3 : World, OutInt g N N (nxV f i) w3 → hrn U (valAt w3 g) N < hrn U (valAt wr g) N) := fun i hi h1 h2 w3 h => by
        rw [hm0.out, hrn_congr (fun v hv => valAt_out h hv)]
        exact hrn_step h1 hi h2
      have c0 := MY.2.1 0 _ rfl
      have SF := hide (fun w R P => ST.out f (some ⟨g, 0, none⟩) cap w hC.out R P)
      have RY := hide (hR.below dY)
      have PY := hide hO.row
      clear hm0
      by_cases hs : Stb N U f
      · rw [pB_t hs] at SF
        have hone := oneR_t hG9.out hs
        have CF := hide (fun w P => CL.out g cap f w P)
        go_wp2_with fail
        refine (SF.out _ RY.out PY.out).mono ?_
        rintro e w3 ⟨rfl, b3⟩
        replace hO := hO.below b3
        replace hL := hL.below b3
        replace MY := MY.below b3
        replace dY := dY.trans (b3.mono dY.size)
        have hs3 := hO.1
        clear b3 c0
        go_wp2_with fail
        refine (CF.out _ hO.row).mono ?_
        rintro e w4 ⟨x, xc, rfl, hx, hxc, hOx, b4⟩
        replace hO := hO.below b4
        have hLx := hide (fun e he => (hL.2.1 e he).2.1)
        have hLv := hide (fun b hb => (ownW_lt hL.1 (k := b) hb).2)
        replace hL := hL.below b4
        replace MY := MY.below b4
        replace dY := dY.trans (b4.mono dY.size)
        clear b4
        have dA : Below w4.heap.size w4 (w4.alloc (.cells #[.slice (some ⟨x, 0, none⟩) N xc] 31)) := below_box (Below.refl _ _)
        have hLA := hL.below dA
        have hOxA := hOx.below dA
        have hOA := hO.below dA
        have MYA := MY.below dA
        have dYA := dY.trans (dA.mono dY.size)
        have RA := RowW.mut (Mut.new w4 #[.slice (some ⟨x, 0, none⟩) N xc] 31)
        have hbA : g + 1 ≤ (w4.alloc (.cells #[.slice (some ⟨x, 0, none⟩) N xc] 31)).heap.size := Nat.le_trans (by have := hO.1; omega) dA.size
        have h1c : Hid (∀ u ∈ [Value.slice (some ⟨x, 0, none⟩) N xc], u.oneCell' = true) := fun u hu => by rw [List.mem_singleton.1 hu]; rfl
        have hlen9 : Hid (L.length + 1 ≤ 8589934593) := by
          have h1 := congrArg List.length hfw0.out
          have h2 := onesR_all hG9.out
          rw [List.length_append] at h1
          have h3 : (vcs N L).length = L.length := by simp [vcs]
          show _ ≤ _
          omega
        have hfw : Hid (Fwd N U (L ++ [⟨x, xc, f⟩]) f) := fwd_of hfw0.out hone (vcs_app N L _)
        have hps : Hid (∀ v9 w9, OwnW 31 1 (g + 1) v9 (L.length + 1) (L.map (elc N) ++ [.slice (some ⟨x, 0, none⟩) N xc]) w9 → (w4.alloc (.cells #[.slice (some ⟨x, 0, none⟩) N xc] 31)).grownBy w9 u5.ownBlock → (v9.ownBlock = u5.ownBlock ∨ v9.ownBlock = some (w4.alloc (.cells #[.slice (some ⟨x, 0, none⟩) N xc] 31)).heap.size) → LsL N (g + 1) v9 (L ++ [⟨x, xc, f⟩]) w9) := fun v9 w9 h1 h2 h3 => hLA.push (by omega) hOxA (fun e he => by have := hLx.out e he; omega) (fun e => by have := hLv.out x e; omega) h1 h2 h3
        clear hfw0 hone hL hO hOx MY dY dA
        have ownA := hLA.1
        generalize hLn : L.length = n at *
        generalize hLm : L.map (elc N) = lm at *
        go_wp2_with (first | (at_builtin; refine wpList_appW aggLst rfl _ _ rfl (g + 1) u5 n lm rfl ownA w4.heap.size 0 1 1 [.slice (some ⟨x, 0, none⟩) N xc] rfl rfl RA h1c.out hlen9.out (by decide) hbA ?_; intro v9 w9 own9 b9 gr9 ob9))
        have hL := hps.out v9 w9 own9 gr9 ob9
        have on9 : OnlyS (fun k => u5.ownBlock = some k) _ w9 := ⟨gr9.os, gr9.tape, gr9.output, gr9.size, fun k hk hc => gr9.block k hk (fun e => hc e.symm)⟩
        have hO := hOA.onlyS on9 (fun e => by have := (ownW_lt ownA e).1; omega)
        have MY := MYA.base (show w.heap.size < g + 1 by omega) b9
        have dY := dYA.trans (b9.mono (show w.heap.size ≤ g + 1 by omega))
        clear hps own9 gr9 ob9 on9 hOA MYA dYA ownA hLA RA b9 hOxA
        generalize L ++ [⟨x, xc, f⟩] = L2 at *
        generalize v9 = xs at *
        have hsz4 := hO.1
        go_wp2_with fail
        go_loopw [6] (fun y wq => ∃ k : Nat, y = .int .i64 ((k : Int) - 1) ∧ k ≤ N ∧ OutInt g N N (fun j => if j < k then f j else -1) wq ∧ Hid (∀ j, k ≤ j → j < N → f j + 1 = ((U j).n : Int)) ∧ LsL N (g + 1) xs L2 wq ∧ Mut wq w.heap.size [.slice a N c] ∧ Below w.heap.size w wq) (fun y _ => (intOf y + 1).toNat)
        case atStart => exact ⟨N, rfl, Nat.le_refl _, hO.congr (fun i hi => by rw [if_pos hi]), fun j h1 h2 => by omega, hL, MY, dY⟩
        case round =>
          clear hO hL MY dY
          obtain ⟨k, rfl, hk, hO, hmx, hL, MY, dY⟩ := hrel
          by_cases hk0 : k = 0
          · subst hk0
            have hE := hide (hfw.out.2 (fun j hj => hmx.out j (Nat.zero_le _) hj))
            clear hfw hmx
            go_wp2_with fail
            (try rw [Exit.noGoto_ret])
            go_ret2
            exact ⟨_, L2, rfl, hE.out, hL.base (by omega), dY⟩
          · obtain ⟨i, rfl⟩ : ∃ i, k = i + 1 := ⟨k - 1, by omega⟩
            have e1 : (((i + 1 : Nat) : Int) - 1) = (i : Int) := by omega
            rw [e1]
            have hi : i < N := by omega
            have hi' : (i : Int) < (N : Int) := by omega
            have hge : (i : Int) ≥ 0 := by omega
            obtain ⟨⟨y0, i0, hy0⟩, z0⟩ := hO.2 i hi
            have hy9 : Hid (y0 = f i) := (hy0 hi).trans (if_pos (by omega))
            clear hy0
            obtain ⟨b1, off1, a1, c1, hab, hb1, u1, _, _⟩ := hR i hi
            subst hab
            replace u1 := (dY.cell (p := ⟨b1, off1 + i, none⟩) hb1).trans u1
            have hnb : b1 ≠ g := by omega
            have hc9 : -1 ≤ y0 ∧ y0 < ((U i).n : Int) := by rw [hy9.out]; exact hC.out i hi
            have hPut := hO.put hi (y0 + 1)
            have hlow := (hLow.out i hi).1
            have hfl : -1 ≤ y0 := hc9.1
            have hfh : y0 ≤ 6 := by omega
            have hL1 := hL.set (g := g) (by omega) i (.int .i64 (y0 + 1))
            have MY1 := MY.other (c := g) (by omega) i (.int .i64 (y0 + 1))
            have dY1 := dY.setCell (p := ⟨g, i, none⟩) (show w.heap.size ≤ g by omega) (.int .i64 (y0 + 1))
            have u2 : (wr.setCell ⟨g, i, none⟩ (.int .i64 (y0 + 1))).cell? ⟨b1, off1 + i, none⟩ = some (.slice a1 (U i).n c1) := by
              rw [World.cell?_setCell_other _ _ _ _ (by simp <;> omega)]; exact u1
            have c0 := MY1.2.1 0 _ rfl
            have p0 : (wr.setCell ⟨g, i, none⟩ (.int .i64 (y0 + 1))).cell? ⟨g, i, none⟩ = some (.int .i64 (y0 + 1)) := by
              obtain ⟨⟨x, h0, hx⟩, _⟩ := hPut.2 i hi
              rw [h0, hx hi]; simp
            have k0 := cell_regrown c0
            have k1 := cell_regrown p0
            have k2 := cell_regrown u2
            by_cases hlt : y0 + 1 < ((U i).n : Int)
            · have hN := hide (hfw.out.1 i hi (by rw [← hy9.out]; omega) (by rw [← hy9.out]; exact hlt) (fun j h1 h2 => hmx.out j (by omega) h2))
              have hms := hide (hmF.out i hi (by rw [← hy9.out]; exact hlt) (fun j h1 h2 => hmx.out j (by omega) h2))
              have hCN : Hid (Chs N U (nxV f i)) := fun j hj => by
                by_cases e : j < i
                · rw [nxV_lt e]; exact hC.out j hj
                · by_cases e2 : j = i
                  · subst e2; rw [nxV_at, ← hy9.out]; exact ⟨by omega, hlt⟩
                  · rw [nxV_gt (by omega)]; exact ⟨by omega, by omega⟩
              have hON := hPut.congr (g := nxV f i) (fun j hj => by
                by_cases e2 : j = i
                · subst e2; rw [nxV_at, if_pos rfl, ← hy9.out]
                · rw [if_neg e2]
                  by_cases e : j < i
                  · rw [nxV_lt e, if_pos (by omega)]
                  · rw [nxV_gt (by omega), if_neg (by omega)])
              clear hfw hmx hC hO hL MY dY u1 c0 p0 u2 hmF hc9 hy9
              generalize (U i).n = m at *
              go_wp2_with fail
              generalize wr.setCell ⟨g, i, none⟩ (.int .i64 (y0 + 1)) = ws at *
              refine wp_region_quiet_below (by kernel_rfl) (by kernel_rfl) ?_
              repeat (first | go_big_quiet_step (fail) | quiet_step (fail))
              refine wpQuiet_nil ?_
              intro _ hw'
              obtain ⟨⟨dq_, osq_⟩, hw''⟩ := hw'
              subst hw''
              have hq_ := below_regrown ws dq_ osq_
              generalize Go.Sort.grow (redrawn ws dq_) osq_ = wdq at hq_ ⊢
              have dz := hq_
              have dq := dY1.trans (hq_.mono dY1.size)
              clear hq_ k0 k1 k2
              go_wp2_with fail
              exact ⟨⟨nxV f i, L2, hCN, hON.below dz, hL1.below dz, hN, MY1.below dz, dq⟩, hms.out _ (hON.below dz)⟩
            · have hmN : Hid (∀ j, i ≤ j → j < N → f j + 1 = ((U j).n : Int)) := fun j h1 h2 => by
                by_cases e : j = i
                · subst e; rw [← hy9.out]; omega
                · exact hmx.out j (by omega) h2
              have hP2 : Hid (∀ w3 : World, OutInt g N N (fun j => if j = i then y0 + 1 else if j < i + 1 then f j else -1) w3 → OutInt g N N (fun j => if j < i then f j else -1) (w3.setCell ⟨g, i, none⟩ (.int .i64 (-1)))) := fun w3 h => (h.put hi (-1)).congr (fun j hj => by
                by_cases e : j = i
                · subst e; rw [if_pos rfl, if_neg (by omega)]
                · rw [if_neg e, if_neg e]
                  by_cases e2 : j < i
                  · rw [if_pos (by omega), if_pos e2]
                  · rw [if_neg (by omega), if_neg e2])
              clear hfw hmx hC hO hL MY dY u1 c0 p0 u2 hmF hc9 hy9
              generalize (U i).n = m at *
              go_wp2_with fail
              generalize wr.setCell ⟨g, i, none⟩ (.int .i64 (y0 + 1)) = ws at *
              refine wp_region_quiet_below (by kernel_rfl) (by kernel_rfl) ?_
              repeat (first | go_big_quiet_step (fail) | quiet_step (fail))
              refine wpQuiet_nil ?_
              intro _ hw'
              obtain ⟨⟨dq_, osq_⟩, hw''⟩ := hw'
              subst hw''
              have hq_ := below_regrown ws dq_ osq_
              generalize Go.Sort.grow (redrawn ws dq_) osq_ = wdq at hq_ ⊢
              have dz := hq_
              have dq := dY1.trans (hq_.mono dY1.size)
              clear hq_ k0 k1 k2
              have hPq := hPut.below dz
              have hLq := hL1.below dz
              have MYq := MY1.below dz
              obtain ⟨⟨y5, i5, _⟩, z5⟩ := hPq.2 i hi
              have hON := hide (hP2.out _ hPq)
              go_wp2_with fail
              exact ⟨⟨i, by first | rfl | (congr 1; omega), by omega, hON.out, hmN, hLq.set (by omega) _ _, MYq.other (by omega) _ _, dq.setCell (show w.heap.size ≤ g by omega) _⟩, by simp [intOf]⟩
      · rw [pB_f hs] at SF
        have hone := oneR_f hG9.out hs
        go_wp2_with fail
        refine (SF.out _ RY.out PY.out).mono ?_
        rintro e w3 ⟨rfl, b3⟩
        replace hO := hO.below b3
        replace hL := hL.below b3
        replace MY := MY.below b3
        replace dY := dY.trans (b3.mono dY.size)
        have hfw : Hid (Fwd N U L f) := fwd_of hfw0.out hone (by rw [List.append_nil])
        clear b3 c0 hfw0 hone
        generalize u5 = xs at *
        have hsz4 := hO.1
        go_wp2_with fail
        go_loopw [6] (fun y wq => ∃ k : Nat, y = .int .i64 ((k : Int) - 1) ∧ k ≤ N ∧ OutInt g N N (fun j => if j < k then f j else -1) wq ∧ Hid (∀ j, k ≤ j → j < N → f j + 1 = ((U j).n : Int)) ∧ LsL N (g + 1) xs L wq ∧ Mut wq w.heap.size [.slice a N c] ∧ Below w.heap.size w wq) (fun y _ => (intOf y + 1).toNat)
        case atStart => exact ⟨N, rfl, Nat.le_refl _, hO.congr (fun i hi => by rw [if_pos hi]), fun j h1 h2 => by omega, hL, MY, dY⟩
        case round =>
          clear hO hL MY dY
          obtain ⟨k, rfl, hk, hO, hmx, hL, MY, dY⟩ := hrel
          by_cases hk0 : k = 0
          · subst hk0
            have hE := hide (hfw.out.2 (fun j hj => hmx.out j (Nat.zero_le _) hj))
            clear hfw hmx
            go_wp2_with fail
            (try rw [Exit.noGoto_ret])
            go_ret2
            exact ⟨_, L, rfl, hE.out, hL.base (by omega), dY⟩
          · obtain ⟨i, rfl⟩ : ∃ i, k = i + 1 := ⟨k - 1, by omega⟩
            have e1 : (((i + 1 : Nat) : Int) - 1) = (i : Int) := by omega
            rw [e1]
            have hi : i < N := by omega
            have hi' : (i : Int) < (N : Int) := by omega
            have hge : (i : Int) ≥ 0 := by omega
            obtain ⟨⟨y0, i0, hy0⟩, z0⟩ := hO.2 i hi
            have hy9 : Hid (y0 = f i) := (hy0 hi).trans (if_pos (by omega))
            clear hy0
            obtain ⟨b1, off1, a1, c1, hab, hb1, u1, _, _⟩ := hR i hi
            subst hab
            replace u1 := (dY.cell (p := ⟨b1, off1 + i, none⟩) hb1).trans u1
            have hnb : b1 ≠ g := by omega
            have hc9 : -1 ≤ y0 ∧ y0 < ((U i).n : Int) := by rw [hy9.out]; exact hC.out i hi
            have hPut := hO.put hi (y0 + 1)
            have hlow := (hLow.out i hi).1
            have hfl : -1 ≤ y0 := hc9.1
            have hfh : y0 ≤ 6 := by omega
            have hL1 := hL.set (g := g) (by omega) i (.int .i64 (y0 + 1))
            have MY1 := MY.other (c := g) (by omega) i (.int .i64 (y0 + 1))
            have dY1 := dY.setCell (p := ⟨g, i, none⟩) (show w.heap.size ≤ g by omega) (.int .i64 (y0 + 1))
            have u2 : (wr.setCell ⟨g, i, none⟩ (.int .i64 (y0 + 1))).cell? ⟨b1, off1 + i, none⟩ = some (.slice a1 (U i).n c1) := by
              rw [World.cell?_setCell_other _ _ _ _ (by simp <;> omega)]; exact u1
            have c0 := MY1.2.1 0 _ rfl
            have p0 : (wr.setCell ⟨g, i, none⟩ (.int .i64 (y0 + 1))).cell? ⟨g, i, none⟩ = some (.int .i64 (y0 + 1)) := by
              obtain ⟨⟨x, h0, hx⟩, _⟩ := hPut.2 i hi
              rw [h0, hx hi]; simp
            have k0 := cell_regrown c0
            have k1 := cell_regrown p0
            have k2 := cell_regrown u2
            by_cases hlt : y0 + 1 < ((U i).n : Int)
            · have hN := hide (hfw.out.1 i hi (by rw [← hy9.out]; omega) (by rw [← hy9.out]; exact hlt) (fun j h1 h2 => hmx.out j (by omega) h2))
              have hms := hide (hmF.out i hi (by rw [← hy9.out]; exact hlt) (fun j h1 h2 => hmx.out j (by omega) h2))
              have hCN : Hid (Chs N U (nxV f i)) := fun j hj => by
                by_cases e : j < i
                · rw [nxV_lt e]; exact hC.out j hj
                · by_cases e2 : j = i
                  · subst e2; rw [nxV_at, ← hy9.out]; exact ⟨by omega, hlt⟩
                  · rw [nxV_gt (by omega)]; exact ⟨by omega, by omega⟩
              have hON := hPut.congr (g := nxV f i) (fun j hj => by
                by_cases e2 : j = i
                · subst e2; rw [nxV_at, if_pos rfl, ← hy9.out]
                · rw [if_neg e2]
                  by_cases e : j < i
                  · rw [nxV_lt e, if_pos (by omega)]
                  · rw [nxV_gt (by omega), if_neg (by omega)])
              clear hfw hmx hC hO hL MY dY u1 c0 p0 u2 hmF hc9 hy9
              generalize (U i).n = m at *
              go_wp2_with fail
              generalize wr.setCell ⟨g, i, none⟩ (.int .i64 (y0 + 1)) = ws at *
              refine wp_region_quiet_below (by kernel_rfl) (by kernel_rfl) ?_
              repeat (first | go_big_quiet_step (fail) | quiet_step (fail))
              refine wpQuiet_nil ?_
              intro _ hw'
              obtain ⟨⟨dq_, osq_⟩, hw''⟩ := hw'
              subst hw''
              have hq_ := below_regrown ws dq_ osq_
              generalize Go.Sort.grow (redrawn ws dq_) osq_ = wdq at hq_ ⊢
              have dz := hq_
              have dq := dY1.trans (hq_.mono dY1.size)
              clear hq_ k0 k1 k2
              go_wp2_with fail
              exact ⟨⟨nxV f i, L, hCN, hON.below dz, hL1.below dz, hN, MY1.below dz, dq⟩, hms.out _ (hON.below dz)⟩
            · have hmN : Hid (∀ j, i ≤ j → j < N → f j + 1 = ((U j).n : Int)) := fun j h1 h2 => by
                by_cases e : j = i
                · subst e; rw [← hy9.out]; omega
                · exact hmx.out j (by omega) h2
              have hP2 : Hid (∀ w3 : World, OutInt g N N (fun j => if j = i then y0 + 1 else if j < i + 1 then f j else -1) w3 → OutInt g N N (fun j => if j < i then f j else -1) (w3.setCell ⟨g, i, none⟩ (.int .i64 (-1)))) := fun w3 h => (h.put hi (-1)).congr (fun j hj => by
                by_cases e : j = i
                · subst e; rw [if_pos rfl, if_neg (by omega)]
                · rw [if_neg e, if_neg e]
                  by_cases e2 : j < i
                  · rw [if_pos (by omega), if_pos e2]
                  · rw [if_neg (by omega), if_neg e2])
              clear hfw hmx hC hO hL MY dY u1 c0 p0 u2 hmF hc9 hy9
              generalize (U i).n = m at *
              go_wp2_with fail
              generalize wr.setCell ⟨g, i, none⟩ (.int .i64 (y0 + 1)) = ws at *
              refine wp_region_quiet_below (by kernel_rfl) (by kernel_rfl) ?_
              repeat (first | go_big_quiet_step (fail) | quiet_step (fail))
              refine wpQuiet_nil ?_
              intro _ hw'
              obtain ⟨⟨dq_, osq_⟩, hw''⟩ := hw'
              subst hw''
              have hq_ := below_regrown ws dq_ osq_
              generalize Go.Sort.grow (redrawn ws dq_) osq_ = wdq at hq_ ⊢
              have dz := hq_
              have dq := dY1.trans (hq_.mono dY1.size)
              clear hq_ k0 k1 k2
              have hPq := hPut.below dz
              have hLq := hL1.below dz
              have MYq := MY1.below dz
              obtain ⟨⟨y5, i5, _⟩, z5⟩ := hPq.2 i hi
              have hON := hide (hP2.out _ hPq)
              go_wp2_with fail
              exact ⟨⟨i, by first | rfl | (congr 1; omega), by omega, hON.out, hmN, hLq.set (by omega) _ _, MYq.other (by omega) _ _, dq.setCell (show w.heap.size ≤ g by omega) _⟩, by simp [intOf]⟩
  · have eG : gsB N U = false := pB_f hG
    have eS : soR N U = [] := by unfold soR; rw [eG]; rfl
    rw [eG] at SG ⊢
    rw [eS]
    clear hG hl eG eS
    go_enter Try.func34, Try.ntmps34
    go_wp2_with fail
    go_step3
    go_wp2_with fail
    refine (SG.out _ (hR.below dX)).mono ?_
    rintro e w1 ⟨rfl, b⟩
    replace dX := dX.trans (b.mono dX.size)
    clear b
    go_wp2_with fail
    (try rw [Exit.noGoto_ret])
    go_ret2
    exact ⟨_, [], rfl, rfl, lsL_nil _ _ _, dX⟩
end Go.Proofs.Ytcnlabedlcmilaa
