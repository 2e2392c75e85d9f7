/- What the program's entriesFrom answers. -/
import Derived.Test.YtjmflkheaioboabS2h
import Derived.Test.YtjmflkheaioboabI1c
namespace Go.Proofs.Ytjmflkheaioboab
open Go.RowKit

set_option maxRecDepth 100000 in
set_option maxHeartbeats 25600000 in
theorem i_ents (a0 : Option Addr) (len cap : Nat) (T : Nat → Nd) (d : Nat → Int) (hD : Deep len T d) (hnn : ∀ k, k < len → 0 ≤ (T k).z ∧ 0 ≤ (T k).o) (hnd : ∀ k, k < len → ndOk T k = true) (f : Nat) :
    ∀ (q : Nat) (a l : Int) (w : World), RowT a0 len T w → q < len → d q = l → l + f = 33 → goodB a l = true →
    Calls Try.prog 62 #[.slice a0 len cap, .int .i64 q, .agg #[.int .i64 a, .int .i64 l]] w fun e w' => ∃ v', e = .returned v' ∧ OwnE w.heap.size v' (entsFrom T f q a l) w' ∧ Below w.heap.size w w' := by
  induction f with
  | zero => intro q a l w _ _ hd hf; have := hD.bd q; omega
  | succ f ih =>
    intro q a l w hE hq hd hf hg
    obtain ⟨i0, hi, hz0, hz1, hz2⟩ := info_parts infoEntry
    obtain ⟨b, off, rfl, hbw, c0, c1, c2, c3⟩ := hE q hq
    have hql : (q : Int) < (len : Int) := by omega
    have hf32 : f ≤ 32 := by have := hD.bd q; omega
    have hp3 : 2 ^ f ≤ 2 ^ 32 := Nat.pow_le_pow_right (by decide) hf32
    have IH := hide ih
    clear ih
    have hdq := hD.bd q
    obtain ⟨_, ⟨ha0, ha1⟩, _⟩ := goodB_iff.1 hg
    have hlf := hide (fun h32 : d q = 32 => hD.leaf hq h32)
    have hnz := hide (hD.zero q hq)
    have hno := hide (hD.one q hq)
    have hHF := hide (fun h32 : l < 32 => half_facts hg h32)
    have hEN := hide (fun f q a l => ents_len T f q a l)
    have hNE := hide (fun q a l hq h0 hl hf => ents_ne hD hnd f q a l hq h0 hl hf)
    have s1 := hide (fun (h : l < 32) w => i_halves_yes a l w hg h)
    have s2 := hide (fun (h : l = 32) w => i_halves_no a l w (.inr h))
    have hen : Hid (entsFrom T (f + 1) q a l = (if (T q).h then [(a, l, (T q).v)] else []) ++ ((if (T q).z ≠ 0 then entsFrom T f (T q).z.toNat a (l + 1) else []) ++ (if (T q).o ≠ 0 then entsFrom T f (T q).o.toNat (a + pw (l + 1)) (l + 1) else []))) := rfl
    obtain ⟨hzb, hob⟩ : 0 ≤ (T q).z ∧ 0 ≤ (T q).o := hnn q hq
    obtain ⟨es, hes⟩ : ∃ es : List En, es = [] := ⟨_, rfl⟩
    have hO0 : OwnE w.heap.size (.slice none 0 0) es w := by rw [hes]; exact ownE_nil _ _
    have hesB : es.length ≤ 1 := by rw [hes]; exact Nat.zero_le _
    have hesH := hide hes
    clear hes
    cases hh : (T q).h with
    | false =>
      rw [hh] at c2
      have n0 : ¬ b = w.heap.size := by omega
      go_enter Try.func62, Try.ntmps62
      have hB := Blk.new w #[.int .i64 a, .int .i64 l] 30
      have hO1 := ownE_below hO0 (below_box (o := .cells #[.int .i64 a, .int .i64 l] 30) (Below.refl _ _))
      have hd1 := below_box (o := .cells #[.int .i64 a, .int .i64 l] 30) (Below.refl _ (w.alloc (.cells #[.int .i64 a, .int .i64 l] 30)))
      have hs1 : (w.alloc (.cells #[.int .i64 a, .int .i64 l] 30)).heap.size = w.heap.size + 1 := by simp
      have C0 := ((bcell hd1).1 b _ hbw).trans c0
      have C1 := ((bcell hd1).1 b _ hbw).trans c1
      have C2 := ((bcell hd1).1 b _ hbw).trans c2
      have C3 := ((bcell hd1).1 b _ hbw).trans c3
      have P0 := (hB.cell 0).trans (show _ = some (.int .i64 a) from rfl)
      have P1 := (hB.cell 1).trans (show _ = some (.int .i64 l) from rfl)
      have hE1 := hE.below hd1
      have hk1 := KeptE.of_below hd1
      clear hO0 hE c0 c1 c2 c3
      have hdX := hd1
      have hkX := hk1
      have hEX := hE1
      have D0 := C0
      have D1 := C1
      have hBX := hB
      have Q0 := P0
      have Q1 := P1
      have hOX := hO1
      clear hd1 hk1 hE1 C0 C1 C3 P0 P1 hB hO1
      have hXs : w.heap.size < (w.alloc (.cells #[.int .i64 a, .int .i64 l] 30)).heap.size := by omega
      clear hs1
      by_cases h32 : l = 32
      · obtain ⟨z0, o0⟩ := hlf.out (by omega)
        have hen1 := hen.out
        rw [hh, if_neg (by decide), z0, o0] at hen1
        have hen1 := hide hen1
        have s2 := hide (s2.out h32)
        rw [z0] at D0
        rw [o0] at D1
        clear hen hlf hnz hno hHF hEN s1 IH h32 hNE z0 o0
        go_wp2_with fail
        refine (s2.out _).mono ?_
        rintro e Y ⟨rfl, hbY⟩
        have hOY := ownE_below hOX hbY
        have hdY := hdX.trans (hbY.mono (by omega))
        have D0 := ((bcell hbY).1 b _ (by omega)).trans D0
        have D1 := ((bcell hbY).1 b _ (by omega)).trans D1
        have hXY := hbY.size
        obtain ⟨o2, _⟩ := old2 (show b < Y.heap.size by omega)
        clear hbY hOX hEX hdX hkX Q0 Q1 hBX
        go_wp2_with fail
        go_ret
        refine ⟨_, rfl, ?_, hdY.trans ((below_box2 (Below.refl _ _)).mono (by omega))⟩
        rw [hen1.out]
        have := ownE_below hOY (below_box2 (o := .cells #[.int .i64 0, .int .i64 0] 30) (o' := .cells #[.int .i64 0, .int .i64 0] 30) (Below.refl _ _))
        simpa [hesH.out] using this
      · have hl32 : l < 32 := by omega
        have s1 := hide (s1.out hl32)
        have hHF := hHF.out hl32
        have ghl := hHF.lo
        have ghh := hHF.hi
        clear hHF hlf s2
        by_cases hz : (T q).z = 0
        · have zz : ((T q).z != 0) = false := by simpa using hz
          by_cases ho : (T q).o = 0
          · have zo : ((T q).o != 0) = false := by simpa using ho
            have hen1 := hen.out
            rw [hh, if_neg (by decide), if_neg (fun h => h hz), if_neg (fun h => h ho)] at hen1
            clear hen
            rw [hz] at D0 zz
            have hen2 := hen1
            clear hen1
            rw [ho] at D1 zo
            clear hnz hno hEN IH hz ho ghl ghh hNE
            generalize a + pw (l + 1) = r at *
            generalize hl1 : l + 1 = l1 at *
            have hen3 := hide hen2
            clear hen2
            go_wp2_with fail
            refine (s1.out _).mono ?_
            rintro e Y ⟨rfl, hbY⟩
            have hOY := ownE_below hOX hbY
            have hEY := hEX.below hbY
            have hdY := hdX.trans (hbY.mono (by have := hdX.size; omega))
            have D0 := ((bcell hbY).1 b _ (by omega)).trans D0
            have D1 := ((bcell hbY).1 b _ (by omega)).trans D1
            have hXY := hbY.size
            obtain ⟨o2, _⟩ := old2 (show b < Y.heap.size by omega)
            clear hbY hOX hEX hdX hkX Q0 Q1 hBX
            go_wp2_with fail
            go_ret
            refine ⟨_, rfl, ?_, hdY.trans ((below_box2 (Below.refl _ _)).mono (by omega))⟩
            rw [hen3.out]
            have := ownE_below hOY (below_box2 (o := .cells #[.int .i64 a, .int .i64 l1] 30) (o' := .cells #[.int .i64 r, .int .i64 l1] 30) (Below.refl _ _))
            simpa [hesH.out] using this
          · have zo : ((T q).o != 0) = true := by simpa using ho
            have hen1 := hen.out
            rw [hh, if_neg (by decide), if_neg (fun h => h hz), if_pos ho] at hen1
            clear hen
            obtain ⟨do1, lo1⟩ := hno.out ho
            obtain ⟨oq, hoq⟩ := Int.eq_ofNat_of_zero_le hob
            have bo := hEN.out f oq (a + pw (l + 1)) (l + 1)
            rw [hoq, Int.toNat_natCast] at do1 lo1
            rw [hoq] at D1 zo
            rw [hoq, Int.toNat_natCast] at hen1
            have neo := hNE.out oq (a + pw (l + 1)) (l + 1) lo1 (by omega) (by omega) (by omega)
            have IO := hide (fun w hr => IH.out oq (a + pw (l + 1)) (l + 1) w hr lo1 (by omega) (by omega) ghh)
            rw [hz] at D0 zz
            have hen2 := hen1
            clear hen1
            clear hnz hno hEN IH hz ho ghl ghh hNE hoq
            generalize a + pw (l + 1) = r at *
            generalize hl1 : l + 1 = l1 at *
            generalize hLo : entsFrom T f oq r l1 = Lo at *
            clear hLo
            have hen3 := hide hen2
            clear hen2
            go_wp2_with fail
            refine (s1.out _).mono ?_
            rintro e Y ⟨rfl, hbY⟩
            have hOY := ownE_below hOX hbY
            have hEY := hEX.below hbY
            have hdY := hdX.trans (hbY.mono (by have := hdX.size; omega))
            have D0 := ((bcell hbY).1 b _ (by omega)).trans D0
            have D1 := ((bcell hbY).1 b _ (by omega)).trans D1
            have hXY := hbY.size
            obtain ⟨o2, _⟩ := old2 (show b < Y.heap.size by omega)
            clear hbY hOX hEX hdX hkX Q0 Q1 hBX
            go_wp2_with fail
            have hZd : Below Y.heap.size Y ((Y.alloc (.cells #[.int .i64 a, .int .i64 l1] 30)).alloc (.cells #[.int .i64 r, .int .i64 l1] 30)) := below_box2 (Below.refl _ _)
            have hLo : Blk ((Y.alloc (.cells #[.int .i64 a, .int .i64 l1] 30)).alloc (.cells #[.int .i64 r, .int .i64 l1] 30)) Y.heap.size #[.int .i64 a, .int .i64 l1] 30 := (Blk.new Y _ _).below (below_box (Below.refl _ _))
            have hHi : Blk ((Y.alloc (.cells #[.int .i64 a, .int .i64 l1] 30)).alloc (.cells #[.int .i64 r, .int .i64 l1] 30)) (Y.heap.size + 1) #[.int .i64 r, .int .i64 l1] 30 := by have := Blk.new (Y.alloc (.cells #[.int .i64 a, .int .i64 l1] 30)) #[.int .i64 r, .int .i64 l1] 30; simpa using this
            have hOZ := ownE_below hOY hZd
            have hEZ := hEY.below hZd
            have hdZ := hdY.trans (hZd.mono (by omega))
            have D0 := ((bcell hZd).1 b _ (by omega)).trans D0
            have D1 := ((bcell hZd).1 b _ (by omega)).trans D1
            have hYZ : Y.heap.size + 1 < ((Y.alloc (.cells #[.int .i64 a, .int .i64 l1] 30)).alloc (.cells #[.int .i64 r, .int .i64 l1] 30)).heap.size := by simp
            clear hZd hOY hEY hdY o2
            generalize ((Y.alloc (.cells #[.int .i64 a, .int .i64 l1] 30)).alloc (.cells #[.int .i64 r, .int .i64 l1] 30)) = Z at *
            clear hLo
            have R0 := (hHi.cell 0).trans (show _ = some (.int .i64 r) from rfl)
            have R1 := (hHi.cell 1).trans (show _ = some (.int .i64 l1) from rfl)
            have hmm : 0 < Lo.length := List.length_pos_iff.2 neo
            have hEl : es.length ≤ 8589934592 := by first | omega | (simp only [List.length_append]; omega)
            go_region_held3 (fun w' => w'.cell? ⟨Y.heap.size + 1, 0, none⟩ = some (.int .i64 r) ∧ w'.cell? ⟨Y.heap.size + 1, 1, none⟩ = some (.int .i64 l1) ∧ w'.cell? ⟨b, off + q * 4 + 1, none⟩ = some (.int .i64 (oq : Int)))
              (first
                | go_keep
                | exact ⟨(((hk3.block _ _ _ (by decide) hH3).below (Below.refl _ _).drew).cell 0).trans rfl, (((hk3.block _ _ _ (by decide) hH3).below (Below.refl _ _).drew).cell 1).trans rfl, (hb3.drew.cell (p := ⟨b, off + q * 4 + 1, none⟩) hbw).trans D1⟩
                | exact ⟨((hk3.block _ _ _ (by decide) hH3).cell 0).trans rfl, ((hk3.block _ _ _ (by decide) hH3).cell 1).trans rfl, (hb3.cell (p := ⟨b, off + q * 4 + 1, none⟩) hbw).trans D1⟩
                | exact ⟨(hbN.drew.cell (p := ⟨Y.heap.size + 1, 0, none⟩) (by simp only; omega)).trans R0, (hbN.drew.cell (p := ⟨Y.heap.size + 1, 1, none⟩) (by simp only; omega)).trans R1, (hbN.drew.cell (p := ⟨b, off + q * 4 + 1, none⟩) (by simp only; omega)).trans D1⟩
                | exact ⟨(hbN.cell (p := ⟨Y.heap.size + 1, 0, none⟩) (by simp only; omega)).trans R0, (hbN.cell (p := ⟨Y.heap.size + 1, 1, none⟩) (by simp only; omega)).trans R1, (hbN.cell (p := ⟨b, off + q * 4 + 1, none⟩) (by simp only; omega)).trans D1⟩)
              ((first
                | (go_at_call 62; refine (IO.out _ (by first | exact hEZ | exact hEZ.below (Below.refl _ _).drew)).mono ?_; rintro e N ⟨vN, rfl, hON0, hbN0⟩; obtain ⟨gN, cN, rfl, _, hgN⟩ := ownE_shape hON0 neo; have hbN : Below Z.heap.size Z N := (by first | exact hbN0 | exact (Below.refl _ _).drew.trans hbN0); have hN1 : ∀ n, OwnE w.heap.size (.slice none 0 0) es (N.drewN n) := (fun n => ownE_below (ownE_below hOZ hbN) (below_drewN (Below.refl _ _) n)); have hN2 : ∀ n, ∀ j u, (ecells Lo)[j]? = some u → (N.drewN n).cell? ((⟨gN, 0, none⟩ : Addr).add j) = some u := (fun n => ownE_cells (ownE_below hON0 (below_drewN (Below.refl _ _) n))); have hNs := hbN.size; clear hbN0)
                | (refine step_append_lies _ (by rfl) _ _ _ (by rfl) w.heap.size 32 i0 _ 3 24 Try.underlying25 hi hz0 hz1 hz2 rfl (by omega) (.slice none 0 0) es.length (ecells es) (by rfl) (by first | exact hN1 0 | exact hN1 1) ⟨gN, 0, none⟩ Lo.length cN (ecells Lo) (by rfl) (ec_len _) (by first | exact hN2 0 | exact hN2 1) (ec_oneCell _) hmm (by unfold maxLen; omega) (by omega) (by first | omega | (simp; omega)) N.heap.size (by first | rfl | simp) ?_; intro go c1go w3go hown1 hgrow _ hlt3; have hT3 : OwnE w.heap.size (.slice (some ⟨go, 0, none⟩) (es.length + Lo.length) c1go) (es ++ Lo) w3go := (by unfold OwnE; rw [ec_app, show (es ++ Lo).length = es.length + Lo.length from List.length_append]; exact hown1); have hbg : Below w.heap.size N w3go := (by first | exact grown_belowE (hN1 0) hgrow (by omega) | exact ((Below.refl _ _).drew.mono (by omega)).trans (grown_belowE (hN1 1) hgrow (by first | omega | (simp; omega)))); have hk3 : KeptE N w3go := (by first | exact KeptE.grown (hN1 0) hgrow | exact (KeptE.of_below (Below.refl _ _).drew).trans (KeptE.grown (hN1 1) hgrow)); have hH3 := hHi.below hbN; have hb3 : Below w.heap.size Z w3go := (hbN.mono (by omega)).trans hbg)))
            have hdN := hdZ.trans hb3
            clear hOZ hEZ hdZ hHi R0 R1 D1 IO hN1 hN2 hown1 hgrow hON0
            go_wp2_with fail
            go_ret
            refine ⟨_, rfl, ?_, hdN⟩
            rw [hen3.out]
            simpa [hesH.out] using hT3
        · have zz : ((T q).z != 0) = true := by simpa using hz
          by_cases ho : (T q).o = 0
          · have zo : ((T q).o != 0) = false := by simpa using ho
            have hen1 := hen.out
            rw [hh, if_neg (by decide), if_pos hz, if_neg (fun h => h ho)] at hen1
            clear hen
            obtain ⟨dz, lz⟩ := hnz.out hz
            obtain ⟨zq, hzq⟩ := Int.eq_ofNat_of_zero_le hzb
            have bz := hEN.out f zq a (l + 1)
            rw [hzq, Int.toNat_natCast] at dz lz
            rw [hzq] at D0 zz
            rw [hzq, Int.toNat_natCast] at hen1
            have nez := hNE.out zq a (l + 1) lz (by omega) (by omega) (by omega)
            have IZ := hide (fun w hr => IH.out zq a (l + 1) w hr lz (by omega) (by omega) ghl)
            have hen2 := hen1
            clear hen1
            rw [ho] at D1 zo
            clear hnz hno hEN IH hz ho ghl ghh hNE hzq
            generalize a + pw (l + 1) = r at *
            generalize hl1 : l + 1 = l1 at *
            generalize hLz : entsFrom T f zq a l1 = Lz at *
            clear hLz
            have hen3 := hide hen2
            clear hen2
            go_wp2_with fail
            refine (s1.out _).mono ?_
            rintro e Y ⟨rfl, hbY⟩
            have hOY := ownE_below hOX hbY
            have hEY := hEX.below hbY
            have hdY := hdX.trans (hbY.mono (by have := hdX.size; omega))
            have D0 := ((bcell hbY).1 b _ (by omega)).trans D0
            have D1 := ((bcell hbY).1 b _ (by omega)).trans D1
            have hXY := hbY.size
            obtain ⟨o2, _⟩ := old2 (show b < Y.heap.size by omega)
            clear hbY hOX hEX hdX hkX Q0 Q1 hBX
            go_wp2_with fail
            have hZd : Below Y.heap.size Y ((Y.alloc (.cells #[.int .i64 a, .int .i64 l1] 30)).alloc (.cells #[.int .i64 r, .int .i64 l1] 30)) := below_box2 (Below.refl _ _)
            have hLo : Blk ((Y.alloc (.cells #[.int .i64 a, .int .i64 l1] 30)).alloc (.cells #[.int .i64 r, .int .i64 l1] 30)) Y.heap.size #[.int .i64 a, .int .i64 l1] 30 := (Blk.new Y _ _).below (below_box (Below.refl _ _))
            have hHi : Blk ((Y.alloc (.cells #[.int .i64 a, .int .i64 l1] 30)).alloc (.cells #[.int .i64 r, .int .i64 l1] 30)) (Y.heap.size + 1) #[.int .i64 r, .int .i64 l1] 30 := by have := Blk.new (Y.alloc (.cells #[.int .i64 a, .int .i64 l1] 30)) #[.int .i64 r, .int .i64 l1] 30; simpa using this
            have hOZ := ownE_below hOY hZd
            have hEZ := hEY.below hZd
            have hdZ := hdY.trans (hZd.mono (by omega))
            have D0 := ((bcell hZd).1 b _ (by omega)).trans D0
            have D1 := ((bcell hZd).1 b _ (by omega)).trans D1
            have hYZ : Y.heap.size + 1 < ((Y.alloc (.cells #[.int .i64 a, .int .i64 l1] 30)).alloc (.cells #[.int .i64 r, .int .i64 l1] 30)).heap.size := by simp
            clear hZd hOY hEY hdY o2
            generalize ((Y.alloc (.cells #[.int .i64 a, .int .i64 l1] 30)).alloc (.cells #[.int .i64 r, .int .i64 l1] 30)) = Z at *
            have R0 := (hLo.cell 0).trans (show _ = some (.int .i64 a) from rfl)
            have R1 := (hLo.cell 1).trans (show _ = some (.int .i64 l1) from rfl)
            have hmm : 0 < Lz.length := List.length_pos_iff.2 nez
            have hEl : es.length ≤ 8589934592 := by first | omega | (simp only [List.length_append]; omega)
            go_region_held3 (fun w' => w'.cell? ⟨Y.heap.size, 0, none⟩ = some (.int .i64 a) ∧ w'.cell? ⟨Y.heap.size, 1, none⟩ = some (.int .i64 l1) ∧ w'.cell? ⟨b, off + q * 4, none⟩ = some (.int .i64 (zq : Int)))
              (first
                | go_keep
                | exact ⟨(((hk3.block _ _ _ (by decide) hH3).below (Below.refl _ _).drew).cell 0).trans rfl, (((hk3.block _ _ _ (by decide) hH3).below (Below.refl _ _).drew).cell 1).trans rfl, (hb3.drew.cell (p := ⟨b, off + q * 4, none⟩) hbw).trans D0⟩
                | exact ⟨((hk3.block _ _ _ (by decide) hH3).cell 0).trans rfl, ((hk3.block _ _ _ (by decide) hH3).cell 1).trans rfl, (hb3.cell (p := ⟨b, off + q * 4, none⟩) hbw).trans D0⟩
                | exact ⟨(hbN.drew.cell (p := ⟨Y.heap.size, 0, none⟩) (by simp only; omega)).trans R0, (hbN.drew.cell (p := ⟨Y.heap.size, 1, none⟩) (by simp only; omega)).trans R1, (hbN.drew.cell (p := ⟨b, off + q * 4, none⟩) (by simp only; omega)).trans D0⟩
                | exact ⟨(hbN.cell (p := ⟨Y.heap.size, 0, none⟩) (by simp only; omega)).trans R0, (hbN.cell (p := ⟨Y.heap.size, 1, none⟩) (by simp only; omega)).trans R1, (hbN.cell (p := ⟨b, off + q * 4, none⟩) (by simp only; omega)).trans D0⟩)
              ((first
                | (go_at_call 62; refine (IZ.out _ (by first | exact hEZ | exact hEZ.below (Below.refl _ _).drew)).mono ?_; rintro e N ⟨vN, rfl, hON0, hbN0⟩; obtain ⟨gN, cN, rfl, _, hgN⟩ := ownE_shape hON0 nez; have hbN : Below Z.heap.size Z N := (by first | exact hbN0 | exact (Below.refl _ _).drew.trans hbN0); have hN1 : ∀ n, OwnE w.heap.size (.slice none 0 0) es (N.drewN n) := (fun n => ownE_below (ownE_below hOZ hbN) (below_drewN (Below.refl _ _) n)); have hN2 : ∀ n, ∀ j u, (ecells Lz)[j]? = some u → (N.drewN n).cell? ((⟨gN, 0, none⟩ : Addr).add j) = some u := (fun n => ownE_cells (ownE_below hON0 (below_drewN (Below.refl _ _) n))); have hNs := hbN.size; clear hbN0)
                | (refine step_append_lies _ (by rfl) _ _ _ (by rfl) w.heap.size 32 i0 _ 3 24 Try.underlying25 hi hz0 hz1 hz2 rfl (by omega) (.slice none 0 0) es.length (ecells es) (by rfl) (by first | exact hN1 0 | exact hN1 1) ⟨gN, 0, none⟩ Lz.length cN (ecells Lz) (by rfl) (ec_len _) (by first | exact hN2 0 | exact hN2 1) (ec_oneCell _) hmm (by unfold maxLen; omega) (by omega) (by first | omega | (simp; omega)) N.heap.size (by first | rfl | simp) ?_; intro gz c1gz w3gz hown1 hgrow _ hlt3; have hT3 : OwnE w.heap.size (.slice (some ⟨gz, 0, none⟩) (es.length + Lz.length) c1gz) (es ++ Lz) w3gz := (by unfold OwnE; rw [ec_app, show (es ++ Lz).length = es.length + Lz.length from List.length_append]; exact hown1); have hbg : Below w.heap.size N w3gz := (by first | exact grown_belowE (hN1 0) hgrow (by omega) | exact ((Below.refl _ _).drew.mono (by omega)).trans (grown_belowE (hN1 1) hgrow (by first | omega | (simp; omega)))); have hk3 : KeptE N w3gz := (by first | exact KeptE.grown (hN1 0) hgrow | exact (KeptE.of_below (Below.refl _ _).drew).trans (KeptE.grown (hN1 1) hgrow)); have hH3 := hLo.below hbN; have hb3 : Below w.heap.size Z w3gz := (hbN.mono (by omega)).trans hbg)))
            have hdN := hdZ.trans hb3
            have D1 := (hb3.cell (p := ⟨b, off + q * 4 + 1, none⟩) hbw).trans D1
            clear hOZ hEZ hdZ hLo hHi R0 R1 D0 IZ hN1 hN2 hown1 hgrow hON0
            go_wp2_with fail
            go_ret
            refine ⟨_, rfl, ?_, hdN⟩
            rw [hen3.out]
            simpa [hesH.out] using hT3
          · have zo : ((T q).o != 0) = true := by simpa using ho
            have hen1 := hen.out
            rw [hh, if_neg (by decide), if_pos hz, if_pos ho] at hen1
            clear hen
            obtain ⟨dz, lz⟩ := hnz.out hz
            obtain ⟨zq, hzq⟩ := Int.eq_ofNat_of_zero_le hzb
            have bz := hEN.out f zq a (l + 1)
            rw [hzq, Int.toNat_natCast] at dz lz
            rw [hzq] at D0 zz
            rw [hzq, Int.toNat_natCast] at hen1
            have nez := hNE.out zq a (l + 1) lz (by omega) (by omega) (by omega)
            have IZ := hide (fun w hr => IH.out zq a (l + 1) w hr lz (by omega) (by omega) ghl)
            obtain ⟨do1, lo1⟩ := hno.out ho
            obtain ⟨oq, hoq⟩ := Int.eq_ofNat_of_zero_le hob
            have bo := hEN.out f oq (a + pw (l + 1)) (l + 1)
            rw [hoq, Int.toNat_natCast] at do1 lo1
            rw [hoq] at D1 zo
            rw [hoq, Int.toNat_natCast] at hen1
            have neo := hNE.out oq (a + pw (l + 1)) (l + 1) lo1 (by omega) (by omega) (by omega)
            have IO := hide (fun w hr => IH.out oq (a + pw (l + 1)) (l + 1) w hr lo1 (by omega) (by omega) ghh)
            have hen2 := hen1
            clear hen1
            clear hnz hno hEN IH hz ho ghl ghh hNE hzq hoq
            generalize a + pw (l + 1) = r at *
            generalize hl1 : l + 1 = l1 at *
            generalize hLz : entsFrom T f zq a l1 = Lz at *
            clear hLz
            generalize hLo : entsFrom T f oq r l1 = Lo at *
            clear hLo
            have hen3 := hide hen2
            clear hen2
            go_wp2_with fail
            refine (s1.out _).mono ?_
            rintro e Y ⟨rfl, hbY⟩
            have hOY := ownE_below hOX hbY
            have hEY := hEX.below hbY
            have hdY := hdX.trans (hbY.mono (by have := hdX.size; omega))
            have D0 := ((bcell hbY).1 b _ (by omega)).trans D0
            have D1 := ((bcell hbY).1 b _ (by omega)).trans D1
            have hXY := hbY.size
            obtain ⟨o2, _⟩ := old2 (show b < Y.heap.size by omega)
            clear hbY hOX hEX hdX hkX Q0 Q1 hBX
            go_wp2_with fail
            have hZd : Below Y.heap.size Y ((Y.alloc (.cells #[.int .i64 a, .int .i64 l1] 30)).alloc (.cells #[.int .i64 r, .int .i64 l1] 30)) := below_box2 (Below.refl _ _)
            have hLo : Blk ((Y.alloc (.cells #[.int .i64 a, .int .i64 l1] 30)).alloc (.cells #[.int .i64 r, .int .i64 l1] 30)) Y.heap.size #[.int .i64 a, .int .i64 l1] 30 := (Blk.new Y _ _).below (below_box (Below.refl _ _))
            have hHi : Blk ((Y.alloc (.cells #[.int .i64 a, .int .i64 l1] 30)).alloc (.cells #[.int .i64 r, .int .i64 l1] 30)) (Y.heap.size + 1) #[.int .i64 r, .int .i64 l1] 30 := by have := Blk.new (Y.alloc (.cells #[.int .i64 a, .int .i64 l1] 30)) #[.int .i64 r, .int .i64 l1] 30; simpa using this
            have hOZ := ownE_below hOY hZd
            have hEZ := hEY.below hZd
            have hdZ := hdY.trans (hZd.mono (by omega))
            have D0 := ((bcell hZd).1 b _ (by omega)).trans D0
            have D1 := ((bcell hZd).1 b _ (by omega)).trans D1
            have hYZ : Y.heap.size + 1 < ((Y.alloc (.cells #[.int .i64 a, .int .i64 l1] 30)).alloc (.cells #[.int .i64 r, .int .i64 l1] 30)).heap.size := by simp
            clear hZd hOY hEY hdY o2
            generalize ((Y.alloc (.cells #[.int .i64 a, .int .i64 l1] 30)).alloc (.cells #[.int .i64 r, .int .i64 l1] 30)) = Z at *
            have R0 := (hLo.cell 0).trans (show _ = some (.int .i64 a) from rfl)
            have R1 := (hLo.cell 1).trans (show _ = some (.int .i64 l1) from rfl)
            have hmm : 0 < Lz.length := List.length_pos_iff.2 nez
            have hEl : es.length ≤ 8589934592 := by first | omega | (simp only [List.length_append]; omega)
            go_region_held3 (fun w' => w'.cell? ⟨Y.heap.size, 0, none⟩ = some (.int .i64 a) ∧ w'.cell? ⟨Y.heap.size, 1, none⟩ = some (.int .i64 l1) ∧ w'.cell? ⟨b, off + q * 4, none⟩ = some (.int .i64 (zq : Int)))
              (first
                | go_keep
                | exact ⟨(((hk3.block _ _ _ (by decide) hH3).below (Below.refl _ _).drew).cell 0).trans rfl, (((hk3.block _ _ _ (by decide) hH3).below (Below.refl _ _).drew).cell 1).trans rfl, (hb3.drew.cell (p := ⟨b, off + q * 4, none⟩) hbw).trans D0⟩
                | exact ⟨((hk3.block _ _ _ (by decide) hH3).cell 0).trans rfl, ((hk3.block _ _ _ (by decide) hH3).cell 1).trans rfl, (hb3.cell (p := ⟨b, off + q * 4, none⟩) hbw).trans D0⟩
                | exact ⟨(hbN.drew.cell (p := ⟨Y.heap.size, 0, none⟩) (by simp only; omega)).trans R0, (hbN.drew.cell (p := ⟨Y.heap.size, 1, none⟩) (by simp only; omega)).trans R1, (hbN.drew.cell (p := ⟨b, off + q * 4, none⟩) (by simp only; omega)).trans D0⟩
                | exact ⟨(hbN.cell (p := ⟨Y.heap.size, 0, none⟩) (by simp only; omega)).trans R0, (hbN.cell (p := ⟨Y.heap.size, 1, none⟩) (by simp only; omega)).trans R1, (hbN.cell (p := ⟨b, off + q * 4, none⟩) (by simp only; omega)).trans D0⟩)
              ((first
                | (go_at_call 62; refine (IZ.out _ (by first | exact hEZ | exact hEZ.below (Below.refl _ _).drew)).mono ?_; rintro e N ⟨vN, rfl, hON0, hbN0⟩; obtain ⟨gN, cN, rfl, _, hgN⟩ := ownE_shape hON0 nez; have hbN : Below Z.heap.size Z N := (by first | exact hbN0 | exact (Below.refl _ _).drew.trans hbN0); have hN1 : ∀ n, OwnE w.heap.size (.slice none 0 0) es (N.drewN n) := (fun n => ownE_below (ownE_below hOZ hbN) (below_drewN (Below.refl _ _) n)); have hN2 : ∀ n, ∀ j u, (ecells Lz)[j]? = some u → (N.drewN n).cell? ((⟨gN, 0, none⟩ : Addr).add j) = some u := (fun n => ownE_cells (ownE_below hON0 (below_drewN (Below.refl _ _) n))); have hNs := hbN.size; clear hbN0)
                | (refine step_append_lies _ (by rfl) _ _ _ (by rfl) w.heap.size 32 i0 _ 3 24 Try.underlying25 hi hz0 hz1 hz2 rfl (by omega) (.slice none 0 0) es.length (ecells es) (by rfl) (by first | exact hN1 0 | exact hN1 1) ⟨gN, 0, none⟩ Lz.length cN (ecells Lz) (by rfl) (ec_len _) (by first | exact hN2 0 | exact hN2 1) (ec_oneCell _) hmm (by unfold maxLen; omega) (by omega) (by first | omega | (simp; omega)) N.heap.size (by first | rfl | simp) ?_; intro gz c1gz w3gz hown1 hgrow _ hlt3; have hT3 : OwnE w.heap.size (.slice (some ⟨gz, 0, none⟩) (es.length + Lz.length) c1gz) (es ++ Lz) w3gz := (by unfold OwnE; rw [ec_app, show (es ++ Lz).length = es.length + Lz.length from List.length_append]; exact hown1); have hbg : Below w.heap.size N w3gz := (by first | exact grown_belowE (hN1 0) hgrow (by omega) | exact ((Below.refl _ _).drew.mono (by omega)).trans (grown_belowE (hN1 1) hgrow (by first | omega | (simp; omega)))); have hk3 : KeptE N w3gz := (by first | exact KeptE.grown (hN1 0) hgrow | exact (KeptE.of_below (Below.refl _ _).drew).trans (KeptE.grown (hN1 1) hgrow)); have hH3 := hLo.below hbN; have hb3 : Below w.heap.size Z w3gz := (hbN.mono (by omega)).trans hbg)))
            have hdN := hdZ.trans hb3
            have hHi2 := hk3.block _ _ _ (by decide) (hHi.below hbN)
            have D1 := (hb3.cell (p := ⟨b, off + q * 4 + 1, none⟩) hbw).trans D1
            have hEN2 := hEZ.base (base := w.heap.size) (by intro b' off' e; simp at e; omega) hb3
            have hYZ2 : Y.heap.size + 1 < w3gz.heap.size := hHi2.lt
            clear hOZ hEZ hdZ hLo R0 R1 D0 IZ hN1 hN2 hown1 hgrow hON0 hb3 hk3 hbg hbN hHi hYZ hNs hmm hEl hH3
            go_wp2_with fail
            have hOZ := hT3
            have hEZ := hEN2
            have hdZ := hdN
            have hHi := hHi2
            have hYZ := hYZ2
            clear hT3 hEN2 hdN hHi2 hYZ2
            generalize w3gz = Z at *
            have R0 := (hHi.cell 0).trans (show _ = some (.int .i64 r) from rfl)
            have R1 := (hHi.cell 1).trans (show _ = some (.int .i64 l1) from rfl)
            have hmm : 0 < Lo.length := List.length_pos_iff.2 neo
            have hEl : (es ++ Lz).length ≤ 8589934592 := by first | omega | (simp only [List.length_append]; omega)
            go_region_held3 (fun w' => w'.cell? ⟨Y.heap.size + 1, 0, none⟩ = some (.int .i64 r) ∧ w'.cell? ⟨Y.heap.size + 1, 1, none⟩ = some (.int .i64 l1) ∧ w'.cell? ⟨b, off + q * 4 + 1, none⟩ = some (.int .i64 (oq : Int)))
              (first
                | go_keep
                | exact ⟨(((hk3.block _ _ _ (by decide) hH3).below (Below.refl _ _).drew).cell 0).trans rfl, (((hk3.block _ _ _ (by decide) hH3).below (Below.refl _ _).drew).cell 1).trans rfl, (hb3.drew.cell (p := ⟨b, off + q * 4 + 1, none⟩) hbw).trans D1⟩
                | exact ⟨((hk3.block _ _ _ (by decide) hH3).cell 0).trans rfl, ((hk3.block _ _ _ (by decide) hH3).cell 1).trans rfl, (hb3.cell (p := ⟨b, off + q * 4 + 1, none⟩) hbw).trans D1⟩
                | exact ⟨(hbN.drew.cell (p := ⟨Y.heap.size + 1, 0, none⟩) (by simp only; omega)).trans R0, (hbN.drew.cell (p := ⟨Y.heap.size + 1, 1, none⟩) (by simp only; omega)).trans R1, (hbN.drew.cell (p := ⟨b, off + q * 4 + 1, none⟩) (by simp only; omega)).trans D1⟩
                | exact ⟨(hbN.cell (p := ⟨Y.heap.size + 1, 0, none⟩) (by simp only; omega)).trans R0, (hbN.cell (p := ⟨Y.heap.size + 1, 1, none⟩) (by simp only; omega)).trans R1, (hbN.cell (p := ⟨b, off + q * 4 + 1, none⟩) (by simp only; omega)).trans D1⟩)
              ((first
                | (go_at_call 62; refine (IO.out _ (by first | exact hEZ | exact hEZ.below (Below.refl _ _).drew)).mono ?_; rintro e N ⟨vN, rfl, hON0, hbN0⟩; obtain ⟨gN, cN, rfl, _, hgN⟩ := ownE_shape hON0 neo; have hbN : Below Z.heap.size Z N := (by first | exact hbN0 | exact (Below.refl _ _).drew.trans hbN0); have hN1 : ∀ n, OwnE w.heap.size (.slice (some ⟨gz, 0, none⟩) (es.length + Lz.length) c1gz) (es ++ Lz) (N.drewN n) := (fun n => ownE_below (ownE_below hOZ hbN) (below_drewN (Below.refl _ _) n)); have hN2 : ∀ n, ∀ j u, (ecells Lo)[j]? = some u → (N.drewN n).cell? ((⟨gN, 0, none⟩ : Addr).add j) = some u := (fun n => ownE_cells (ownE_below hON0 (below_drewN (Below.refl _ _) n))); have hNs := hbN.size; clear hbN0)
                | (refine step_append_lies _ (by rfl) _ _ _ (by rfl) w.heap.size 32 i0 _ 3 24 Try.underlying25 hi hz0 hz1 hz2 rfl (by omega) (.slice (some ⟨gz, 0, none⟩) (es.length + Lz.length) c1gz) (es ++ Lz).length (ecells (es ++ Lz)) (by rfl) (by first | exact hN1 0 | exact hN1 1) ⟨gN, 0, none⟩ Lo.length cN (ecells Lo) (by rfl) (ec_len _) (by first | exact hN2 0 | exact hN2 1) (ec_oneCell _) hmm (by unfold maxLen; omega) (by omega) (by first | omega | (simp; omega)) N.heap.size (by first | rfl | simp) ?_; intro go c1go w3go hown1 hgrow _ hlt3; have hT3 : OwnE w.heap.size (.slice (some ⟨go, 0, none⟩) ((es ++ Lz).length + Lo.length) c1go) ((es ++ Lz) ++ Lo) w3go := (by unfold OwnE; rw [ec_app, show ((es ++ Lz) ++ Lo).length = (es ++ Lz).length + Lo.length from List.length_append]; exact hown1); have hbg : Below w.heap.size N w3go := (by first | exact grown_belowE (hN1 0) hgrow (by omega) | exact ((Below.refl _ _).drew.mono (by omega)).trans (grown_belowE (hN1 1) hgrow (by first | omega | (simp; omega)))); have hk3 : KeptE N w3go := (by first | exact KeptE.grown (hN1 0) hgrow | exact (KeptE.of_below (Below.refl _ _).drew).trans (KeptE.grown (hN1 1) hgrow)); have hH3 := hHi.below hbN; have hb3 : Below w.heap.size Z w3go := (hbN.mono (by omega)).trans hbg)))
            have hdN := hdZ.trans hb3
            clear hOZ hEZ hdZ hHi R0 R1 D1 IO hN1 hN2 hown1 hgrow hON0
            go_wp2_with fail
            go_ret
            refine ⟨_, rfl, ?_, hdN⟩
            rw [hen3.out]
            simpa [hesH.out] using hT3
    | true =>
      rw [hh] at c2
      have n0 : ¬ b = w.heap.size := by omega
      go_enter Try.func62, Try.ntmps62
      have hB := Blk.new w #[.int .i64 a, .int .i64 l] 30
      have hO1 := ownE_below hO0 (below_box (o := .cells #[.int .i64 a, .int .i64 l] 30) (Below.refl _ _))
      have hd1 := below_box (o := .cells #[.int .i64 a, .int .i64 l] 30) (Below.refl _ (w.alloc (.cells #[.int .i64 a, .int .i64 l] 30)))
      have hs1 : (w.alloc (.cells #[.int .i64 a, .int .i64 l] 30)).heap.size = w.heap.size + 1 := by simp
      have C0 := ((bcell hd1).1 b _ hbw).trans c0
      have C1 := ((bcell hd1).1 b _ hbw).trans c1
      have C2 := ((bcell hd1).1 b _ hbw).trans c2
      have C3 := ((bcell hd1).1 b _ hbw).trans c3
      have P0 := (hB.cell 0).trans (show _ = some (.int .i64 a) from rfl)
      have P1 := (hB.cell 1).trans (show _ = some (.int .i64 l) from rfl)
      have hE1 := hE.below hd1
      have hk1 := KeptE.of_below hd1
      clear hO0 hE c0 c1 c2 c3
      go_wp2_with fail
      generalize w.alloc (.cells #[.int .i64 a, .int .i64 l] 30) = W1 at *
      have hbW : w.heap.size ≤ W1.heap.size := by omega
      go_region_held3 (fun w' => w'.cell? ⟨w.heap.size, 0, none⟩ = some (.int .i64 a) ∧ w'.cell? ⟨w.heap.size, 1, none⟩ = some (.int .i64 l) ∧ w'.cell? ⟨b, off + q * 4 + 3, none⟩ = some (.int .i64 (T q).v))
        (first
          | go_keep
          | exact ⟨((hB3.below (Below.refl _ _).drew).cell 0).trans rfl, ((hB3.below (Below.refl _ _).drew).cell 1).trans rfl, (hb3.drew.cell (p := ⟨b, off + q * 4 + 3, none⟩) hbw).trans C3⟩
          | exact ⟨(hB3.cell 0).trans rfl, (hB3.cell 1).trans rfl, (hb3.cell (p := ⟨b, off + q * 4 + 3, none⟩) hbw).trans C3⟩)
        ((first
          | (refine step_append_lies _ (by rfl) _ _ _ (by rfl) w.heap.size 32 i0 _ 3 24 Try.underlying25 hi hz0 hz1 hz2 rfl (by omega) (.slice none 0 0) es.length (ecells es) (by rfl) (by first | exact World.ownsRow.alloc hO1 _ | exact World.ownsRow.drew (World.ownsRow.alloc hO1 _)) ⟨w.heap.size + 1, 0, none⟩ 1 1 (enc (a, l, (T q).v)) (by rfl) rfl (by intro j u hj; (match j, hj with | 0, hj => simp [enc] at hj; subst hj; simp [Addr.add, go_sem, ← hs1] | 1, hj => simp [enc] at hj; subst hj; simp [Addr.add, go_sem, ← hs1] | 2, hj => simp [enc] at hj; subst hj; simp [Addr.add, go_sem, ← hs1])) (by intro u hu; simp [enc] at hu; rcases hu with rfl | rfl | rfl <;> rfl) (by omega) (by unfold maxLen; omega) (by omega) (by simp; omega) (W1.heap.size + 1) (by simp) ?_; intro g1 c1 w3 hown1 hgrow _ hlt3; have hOal := ownE_below hO1 ((below_box (o := .cells #[.int .i64 a, .int .i64 l, .int .i64 (T q).v] 32) (Below.refl _ _)).drew); have hT3 : OwnE w.heap.size (.slice (some ⟨g1, 0, none⟩) (es.length + 1) c1) (es ++ [(a, l, (T q).v)]) w3 := (by unfold OwnE; rw [ec_app, ec_one]; simpa using hown1); have hb3 : Below w.heap.size W1 w3 := ((below_box (Below.refl _ _)).drew.mono hbW).trans (grown_belowE hOal hgrow (by simp; omega)); have hk3 : KeptE W1 w3 := (KeptE.of_below ((below_box (Below.refl _ _)).drew)).trans (KeptE.grown hOal hgrow); have hB3 := hk3.block _ _ _ (by decide) hB)))
      have hdX := hd1.trans hb3
      have hkX := hk1.trans hk3
      have hEX := hE1.base (base := w.heap.size) (by intro b' off' e; simp at e; omega) hb3
      have D0 := (hb3.cell (p := ⟨b, off + q * 4, none⟩) hbw).trans C0
      have D1 := (hb3.cell (p := ⟨b, off + q * 4 + 1, none⟩) hbw).trans C1
      have hBX := hB3
      have Q0 := (hBX.cell 0).trans (show _ = some (.int .i64 a) from rfl)
      have Q1 := (hBX.cell 1).trans (show _ = some (.int .i64 l) from rfl)
      obtain ⟨E, hEE⟩ : ∃ E, E = es ++ [(a, l, (T q).v)] := ⟨_, rfl⟩
      have hOX : OwnE w.heap.size (.slice (some ⟨g1, 0, none⟩) (es.length + 1) c1) E w3 := by rw [hEE]; exact hT3
      have hEB : E.length ≤ 2 := by rw [hEE]; simp only [List.length_append, List.length_cons, List.length_nil]; omega
      have hEH := hide hEE
      clear hEE
      clear hown1 hgrow hOal hB hO1 hd1 hk1 hb3 hk3 hE1 C0 C1 C2 C3 P0 P1 hT3 hB3 hbW hs1
      have hXs : w.heap.size < w3.heap.size := hBX.lt
      by_cases h32 : l = 32
      · obtain ⟨z0, o0⟩ := hlf.out (by omega)
        have hen1 := hen.out
        rw [hh, if_pos rfl, z0, o0] at hen1
        have hen1 := hide hen1
        have s2 := hide (s2.out h32)
        rw [z0] at D0
        rw [o0] at D1
        clear hen hlf hnz hno hHF hEN s1 IH h32 hNE z0 o0
        go_wp2_with fail
        refine (s2.out _).mono ?_
        rintro e Y ⟨rfl, hbY⟩
        have hOY := ownE_below hOX hbY
        have hdY := hdX.trans (hbY.mono (by omega))
        have D0 := ((bcell hbY).1 b _ (by omega)).trans D0
        have D1 := ((bcell hbY).1 b _ (by omega)).trans D1
        have hXY := hbY.size
        obtain ⟨o2, _⟩ := old2 (show b < Y.heap.size by omega)
        clear hbY hOX hEX hdX hkX Q0 Q1 hBX
        go_wp2_with fail
        go_ret
        refine ⟨_, rfl, ?_, hdY.trans ((below_box2 (Below.refl _ _)).mono (by omega))⟩
        rw [hen1.out]
        have := ownE_below hOY (below_box2 (o := .cells #[.int .i64 0, .int .i64 0] 30) (o' := .cells #[.int .i64 0, .int .i64 0] 30) (Below.refl _ _))
        simpa [hesH.out, hEH.out] using this
      · have hl32 : l < 32 := by omega
        have s1 := hide (s1.out hl32)
        have hHF := hHF.out hl32
        have ghl := hHF.lo
        have ghh := hHF.hi
        clear hHF hlf s2
        by_cases hz : (T q).z = 0
        · have zz : ((T q).z != 0) = false := by simpa using hz
          by_cases ho : (T q).o = 0
          · have zo : ((T q).o != 0) = false := by simpa using ho
            have hen1 := hen.out
            rw [hh, if_pos rfl, if_neg (fun h => h hz), if_neg (fun h => h ho)] at hen1
            clear hen
            rw [hz] at D0 zz
            have hen2 := hen1
            clear hen1
            rw [ho] at D1 zo
            clear hnz hno hEN IH hz ho ghl ghh hNE
            generalize a + pw (l + 1) = r at *
            generalize hl1 : l + 1 = l1 at *
            have hen3 := hide hen2
            clear hen2
            go_wp2_with fail
            refine (s1.out _).mono ?_
            rintro e Y ⟨rfl, hbY⟩
            have hOY := ownE_below hOX hbY
            have hEY := hEX.below hbY
            have hdY := hdX.trans (hbY.mono (by have := hdX.size; omega))
            have D0 := ((bcell hbY).1 b _ (by omega)).trans D0
            have D1 := ((bcell hbY).1 b _ (by omega)).trans D1
            have hXY := hbY.size
            obtain ⟨o2, _⟩ := old2 (show b < Y.heap.size by omega)
            clear hbY hOX hEX hdX hkX Q0 Q1 hBX
            go_wp2_with fail
            go_ret
            refine ⟨_, rfl, ?_, hdY.trans ((below_box2 (Below.refl _ _)).mono (by omega))⟩
            rw [hen3.out]
            have := ownE_below hOY (below_box2 (o := .cells #[.int .i64 a, .int .i64 l1] 30) (o' := .cells #[.int .i64 r, .int .i64 l1] 30) (Below.refl _ _))
            simpa [hesH.out, hEH.out] using this
          · have zo : ((T q).o != 0) = true := by simpa using ho
            have hen1 := hen.out
            rw [hh, if_pos rfl, if_neg (fun h => h hz), if_pos ho] at hen1
            clear hen
            obtain ⟨do1, lo1⟩ := hno.out ho
            obtain ⟨oq, hoq⟩ := Int.eq_ofNat_of_zero_le hob
            have bo := hEN.out f oq (a + pw (l + 1)) (l + 1)
            rw [hoq, Int.toNat_natCast] at do1 lo1
            rw [hoq] at D1 zo
            rw [hoq, Int.toNat_natCast] at hen1
            have neo := hNE.out oq (a + pw (l + 1)) (l + 1) lo1 (by omega) (by omega) (by omega)
            have IO := hide (fun w hr => IH.out oq (a + pw (l + 1)) (l + 1) w hr lo1 (by omega) (by omega) ghh)
            rw [hz] at D0 zz
            have hen2 := hen1
            clear hen1
            clear hnz hno hEN IH hz ho ghl ghh hNE hoq
            generalize a + pw (l + 1) = r at *
            generalize hl1 : l + 1 = l1 at *
            generalize hLo : entsFrom T f oq r l1 = Lo at *
            clear hLo
            have hen3 := hide hen2
            clear hen2
            go_wp2_with fail
            refine (s1.out _).mono ?_
            rintro e Y ⟨rfl, hbY⟩
            have hOY := ownE_below hOX hbY
            have hEY := hEX.below hbY
            have hdY := hdX.trans (hbY.mono (by have := hdX.size; omega))
            have D0 := ((bcell hbY).1 b _ (by omega)).trans D0
            have D1 := ((bcell hbY).1 b _ (by omega)).trans D1
            have hXY := hbY.size
            obtain ⟨o2, _⟩ := old2 (show b < Y.heap.size by omega)
            clear hbY hOX hEX hdX hkX Q0 Q1 hBX
            go_wp2_with fail
            have hZd : Below Y.heap.size Y ((Y.alloc (.cells #[.int .i64 a, .int .i64 l1] 30)).alloc (.cells #[.int .i64 r, .int .i64 l1] 30)) := below_box2 (Below.refl _ _)
            have hLo : Blk ((Y.alloc (.cells #[.int .i64 a, .int .i64 l1] 30)).alloc (.cells #[.int .i64 r, .int .i64 l1] 30)) Y.heap.size #[.int .i64 a, .int .i64 l1] 30 := (Blk.new Y _ _).below (below_box (Below.refl _ _))
            have hHi : Blk ((Y.alloc (.cells #[.int .i64 a, .int .i64 l1] 30)).alloc (.cells #[.int .i64 r, .int .i64 l1] 30)) (Y.heap.size + 1) #[.int .i64 r, .int .i64 l1] 30 := by have := Blk.new (Y.alloc (.cells #[.int .i64 a, .int .i64 l1] 30)) #[.int .i64 r, .int .i64 l1] 30; simpa using this
            have hOZ := ownE_below hOY hZd
            have hEZ := hEY.below hZd
            have hdZ := hdY.trans (hZd.mono (by omega))
            have D0 := ((bcell hZd).1 b _ (by omega)).trans D0
            have D1 := ((bcell hZd).1 b _ (by omega)).trans D1
            have hYZ : Y.heap.size + 1 < ((Y.alloc (.cells #[.int .i64 a, .int .i64 l1] 30)).alloc (.cells #[.int .i64 r, .int .i64 l1] 30)).heap.size := by simp
            clear hZd hOY hEY hdY o2
            generalize ((Y.alloc (.cells #[.int .i64 a, .int .i64 l1] 30)).alloc (.cells #[.int .i64 r, .int .i64 l1] 30)) = Z at *
            clear hLo
            have R0 := (hHi.cell 0).trans (show _ = some (.int .i64 r) from rfl)
            have R1 := (hHi.cell 1).trans (show _ = some (.int .i64 l1) from rfl)
            have hmm : 0 < Lo.length := List.length_pos_iff.2 neo
            have hEl : E.length ≤ 8589934592 := by first | omega | (simp only [List.length_append]; omega)
            go_region_held3 (fun w' => w'.cell? ⟨Y.heap.size + 1, 0, none⟩ = some (.int .i64 r) ∧ w'.cell? ⟨Y.heap.size + 1, 1, none⟩ = some (.int .i64 l1) ∧ w'.cell? ⟨b, off + q * 4 + 1, none⟩ = some (.int .i64 (oq : Int)))
              (first
                | go_keep
                | exact ⟨(((hk3.block _ _ _ (by decide) hH3).below (Below.refl _ _).drew).cell 0).trans rfl, (((hk3.block _ _ _ (by decide) hH3).below (Below.refl _ _).drew).cell 1).trans rfl, (hb3.drew.cell (p := ⟨b, off + q * 4 + 1, none⟩) hbw).trans D1⟩
                | exact ⟨((hk3.block _ _ _ (by decide) hH3).cell 0).trans rfl, ((hk3.block _ _ _ (by decide) hH3).cell 1).trans rfl, (hb3.cell (p := ⟨b, off + q * 4 + 1, none⟩) hbw).trans D1⟩
                | exact ⟨(hbN.drew.cell (p := ⟨Y.heap.size + 1, 0, none⟩) (by simp only; omega)).trans R0, (hbN.drew.cell (p := ⟨Y.heap.size + 1, 1, none⟩) (by simp only; omega)).trans R1, (hbN.drew.cell (p := ⟨b, off + q * 4 + 1, none⟩) (by simp only; omega)).trans D1⟩
                | exact ⟨(hbN.cell (p := ⟨Y.heap.size + 1, 0, none⟩) (by simp only; omega)).trans R0, (hbN.cell (p := ⟨Y.heap.size + 1, 1, none⟩) (by simp only; omega)).trans R1, (hbN.cell (p := ⟨b, off + q * 4 + 1, none⟩) (by simp only; omega)).trans D1⟩)
              ((first
                | (go_at_call 62; refine (IO.out _ (by first | exact hEZ | exact hEZ.below (Below.refl _ _).drew)).mono ?_; rintro e N ⟨vN, rfl, hON0, hbN0⟩; obtain ⟨gN, cN, rfl, _, hgN⟩ := ownE_shape hON0 neo; have hbN : Below Z.heap.size Z N := (by first | exact hbN0 | exact (Below.refl _ _).drew.trans hbN0); have hN1 : ∀ n, OwnE w.heap.size (.slice (some ⟨g1, 0, none⟩) (es.length + 1) c1) E (N.drewN n) := (fun n => ownE_below (ownE_below hOZ hbN) (below_drewN (Below.refl _ _) n)); have hN2 : ∀ n, ∀ j u, (ecells Lo)[j]? = some u → (N.drewN n).cell? ((⟨gN, 0, none⟩ : Addr).add j) = some u := (fun n => ownE_cells (ownE_below hON0 (below_drewN (Below.refl _ _) n))); have hNs := hbN.size; clear hbN0)
                | (refine step_append_lies _ (by rfl) _ _ _ (by rfl) w.heap.size 32 i0 _ 3 24 Try.underlying25 hi hz0 hz1 hz2 rfl (by omega) (.slice (some ⟨g1, 0, none⟩) (es.length + 1) c1) E.length (ecells E) (by rfl) (by first | exact hN1 0 | exact hN1 1) ⟨gN, 0, none⟩ Lo.length cN (ecells Lo) (by rfl) (ec_len _) (by first | exact hN2 0 | exact hN2 1) (ec_oneCell _) hmm (by unfold maxLen; omega) (by omega) (by first | omega | (simp; omega)) N.heap.size (by first | rfl | simp) ?_; intro go c1go w3go hown1 hgrow _ hlt3; have hT3 : OwnE w.heap.size (.slice (some ⟨go, 0, none⟩) (E.length + Lo.length) c1go) (E ++ Lo) w3go := (by unfold OwnE; rw [ec_app, show (E ++ Lo).length = E.length + Lo.length from List.length_append]; exact hown1); have hbg : Below w.heap.size N w3go := (by first | exact grown_belowE (hN1 0) hgrow (by omega) | exact ((Below.refl _ _).drew.mono (by omega)).trans (grown_belowE (hN1 1) hgrow (by first | omega | (simp; omega)))); have hk3 : KeptE N w3go := (by first | exact KeptE.grown (hN1 0) hgrow | exact (KeptE.of_below (Below.refl _ _).drew).trans (KeptE.grown (hN1 1) hgrow)); have hH3 := hHi.below hbN; have hb3 : Below w.heap.size Z w3go := (hbN.mono (by omega)).trans hbg)))
            have hdN := hdZ.trans hb3
            clear hOZ hEZ hdZ hHi R0 R1 D1 IO hN1 hN2 hown1 hgrow hON0
            go_wp2_with fail
            go_ret
            refine ⟨_, rfl, ?_, hdN⟩
            rw [hen3.out]
            simpa [hesH.out, hEH.out] using hT3
        · have zz : ((T q).z != 0) = true := by simpa using hz
          by_cases ho : (T q).o = 0
          · have zo : ((T q).o != 0) = false := by simpa using ho
            have hen1 := hen.out
            rw [hh, if_pos rfl, if_pos hz, if_neg (fun h => h ho)] at hen1
            clear hen
            obtain ⟨dz, lz⟩ := hnz.out hz
            obtain ⟨zq, hzq⟩ := Int.eq_ofNat_of_zero_le hzb
            have bz := hEN.out f zq a (l + 1)
            rw [hzq, Int.toNat_natCast] at dz lz
            rw [hzq] at D0 zz
            rw [hzq, Int.toNat_natCast] at hen1
            have nez := hNE.out zq a (l + 1) lz (by omega) (by omega) (by omega)
            have IZ := hide (fun w hr => IH.out zq a (l + 1) w hr lz (by omega) (by omega) ghl)
            have hen2 := hen1
            clear hen1
            rw [ho] at D1 zo
            clear hnz hno hEN IH hz ho ghl ghh hNE hzq
            generalize a + pw (l + 1) = r at *
            generalize hl1 : l + 1 = l1 at *
            generalize hLz : entsFrom T f zq a l1 = Lz at *
            clear hLz
            have hen3 := hide hen2
            clear hen2
            go_wp2_with fail
            refine (s1.out _).mono ?_
            rintro e Y ⟨rfl, hbY⟩
            have hOY := ownE_below hOX hbY
            have hEY := hEX.below hbY
            have hdY := hdX.trans (hbY.mono (by have := hdX.size; omega))
            have D0 := ((bcell hbY).1 b _ (by omega)).trans D0
            have D1 := ((bcell hbY).1 b _ (by omega)).trans D1
            have hXY := hbY.size
            obtain ⟨o2, _⟩ := old2 (show b < Y.heap.size by omega)
            clear hbY hOX hEX hdX hkX Q0 Q1 hBX
            go_wp2_with fail
            have hZd : Below Y.heap.size Y ((Y.alloc (.cells #[.int .i64 a, .int .i64 l1] 30)).alloc (.cells #[.int .i64 r, .int .i64 l1] 30)) := below_box2 (Below.refl _ _)
            have hLo : Blk ((Y.alloc (.cells #[.int .i64 a, .int .i64 l1] 30)).alloc (.cells #[.int .i64 r, .int .i64 l1] 30)) Y.heap.size #[.int .i64 a, .int .i64 l1] 30 := (Blk.new Y _ _).below (below_box (Below.refl _ _))
            have hHi : Blk ((Y.alloc (.cells #[.int .i64 a, .int .i64 l1] 30)).alloc (.cells #[.int .i64 r, .int .i64 l1] 30)) (Y.heap.size + 1) #[.int .i64 r, .int .i64 l1] 30 := by have := Blk.new (Y.alloc (.cells #[.int .i64 a, .int .i64 l1] 30)) #[.int .i64 r, .int .i64 l1] 30; simpa using this
            have hOZ := ownE_below hOY hZd
            have hEZ := hEY.below hZd
            have hdZ := hdY.trans (hZd.mono (by omega))
            have D0 := ((bcell hZd).1 b _ (by omega)).trans D0
            have D1 := ((bcell hZd).1 b _ (by omega)).trans D1
            have hYZ : Y.heap.size + 1 < ((Y.alloc (.cells #[.int .i64 a, .int .i64 l1] 30)).alloc (.cells #[.int .i64 r, .int .i64 l1] 30)).heap.size := by simp
            clear hZd hOY hEY hdY o2
            generalize ((Y.alloc (.cells #[.int .i64 a, .int .i64 l1] 30)).alloc (.cells #[.int .i64 r, .int .i64 l1] 30)) = Z at *
            have R0 := (hLo.cell 0).trans (show _ = some (.int .i64 a) from rfl)
            have R1 := (hLo.cell 1).trans (show _ = some (.int .i64 l1) from rfl)
            have hmm : 0 < Lz.length := List.length_pos_iff.2 nez
            have hEl : E.length ≤ 8589934592 := by first | omega | (simp only [List.length_append]; omega)
            go_region_held3 (fun w' => w'.cell? ⟨Y.heap.size, 0, none⟩ = some (.int .i64 a) ∧ w'.cell? ⟨Y.heap.size, 1, none⟩ = some (.int .i64 l1) ∧ w'.cell? ⟨b, off + q * 4, none⟩ = some (.int .i64 (zq : Int)))
              (first
                | go_keep
                | exact ⟨(((hk3.block _ _ _ (by decide) hH3).below (Below.refl _ _).drew).cell 0).trans rfl, (((hk3.block _ _ _ (by decide) hH3).below (Below.refl _ _).drew).cell 1).trans rfl, (hb3.drew.cell (p := ⟨b, off + q * 4, none⟩) hbw).trans D0⟩
                | exact ⟨((hk3.block _ _ _ (by decide) hH3).cell 0).trans rfl, ((hk3.block _ _ _ (by decide) hH3).cell 1).trans rfl, (hb3.cell (p := ⟨b, off + q * 4, none⟩) hbw).trans D0⟩
                | exact ⟨(hbN.drew.cell (p := ⟨Y.heap.size, 0, none⟩) (by simp only; omega)).trans R0, (hbN.drew.cell (p := ⟨Y.heap.size, 1, none⟩) (by simp only; omega)).trans R1, (hbN.drew.cell (p := ⟨b, off + q * 4, none⟩) (by simp only; omega)).trans D0⟩
                | exact ⟨(hbN.cell (p := ⟨Y.heap.size, 0, none⟩) (by simp only; omega)).trans R0, (hbN.cell (p := ⟨Y.heap.size, 1, none⟩) (by simp only; omega)).trans R1, (hbN.cell (p := ⟨b, off + q * 4, none⟩) (by simp only; omega)).trans D0⟩)
              ((first
                | (go_at_call 62; refine (IZ.out _ (by first | exact hEZ | exact hEZ.below (Below.refl _ _).drew)).mono ?_; rintro e N ⟨vN, rfl, hON0, hbN0⟩; obtain ⟨gN, cN, rfl, _, hgN⟩ := ownE_shape hON0 nez; have hbN : Below Z.heap.size Z N := (by first | exact hbN0 | exact (Below.refl _ _).drew.trans hbN0); have hN1 : ∀ n, OwnE w.heap.size (.slice (some ⟨g1, 0, none⟩) (es.length + 1) c1) E (N.drewN n) := (fun n => ownE_below (ownE_below hOZ hbN) (below_drewN (Below.refl _ _) n)); have hN2 : ∀ n, ∀ j u, (ecells Lz)[j]? = some u → (N.drewN n).cell? ((⟨gN, 0, none⟩ : Addr).add j) = some u := (fun n => ownE_cells (ownE_below hON0 (below_drewN (Below.refl _ _) n))); have hNs := hbN.size; clear hbN0)
                | (refine step_append_lies _ (by rfl) _ _ _ (by rfl) w.heap.size 32 i0 _ 3 24 Try.underlying25 hi hz0 hz1 hz2 rfl (by omega) (.slice (some ⟨g1, 0, none⟩) (es.length + 1) c1) E.length (ecells E) (by rfl) (by first | exact hN1 0 | exact hN1 1) ⟨gN, 0, none⟩ Lz.length cN (ecells Lz) (by rfl) (ec_len _) (by first | exact hN2 0 | exact hN2 1) (ec_oneCell _) hmm (by unfold maxLen; omega) (by omega) (by first | omega | (simp; omega)) N.heap.size (by first | rfl | simp) ?_; intro gz c1gz w3gz hown1 hgrow _ hlt3; have hT3 : OwnE w.heap.size (.slice (some ⟨gz, 0, none⟩) (E.length + Lz.length) c1gz) (E ++ Lz) w3gz := (by unfold OwnE; rw [ec_app, show (E ++ Lz).length = E.length + Lz.length from List.length_append]; exact hown1); have hbg : Below w.heap.size N w3gz := (by first | exact grown_belowE (hN1 0) hgrow (by omega) | exact ((Below.refl _ _).drew.mono (by omega)).trans (grown_belowE (hN1 1) hgrow (by first | omega | (simp; omega)))); have hk3 : KeptE N w3gz := (by first | exact KeptE.grown (hN1 0) hgrow | exact (KeptE.of_below (Below.refl _ _).drew).trans (KeptE.grown (hN1 1) hgrow)); have hH3 := hLo.below hbN; have hb3 : Below w.heap.size Z w3gz := (hbN.mono (by omega)).trans hbg)))
            have hdN := hdZ.trans hb3
            have D1 := (hb3.cell (p := ⟨b, off + q * 4 + 1, none⟩) hbw).trans D1
            clear hOZ hEZ hdZ hLo hHi R0 R1 D0 IZ hN1 hN2 hown1 hgrow hON0
            go_wp2_with fail
            go_ret
            refine ⟨_, rfl, ?_, hdN⟩
            rw [hen3.out]
            simpa [hesH.out, hEH.out] using hT3
          · have zo : ((T q).o != 0) = true := by simpa using ho
            have hen1 := hen.out
            rw [hh, if_pos rfl, if_pos hz, if_pos ho] at hen1
            clear hen
            obtain ⟨dz, lz⟩ := hnz.out hz
            obtain ⟨zq, hzq⟩ := Int.eq_ofNat_of_zero_le hzb
            have bz := hEN.out f zq a (l + 1)
            rw [hzq, Int.toNat_natCast] at dz lz
            rw [hzq] at D0 zz
            rw [hzq, Int.toNat_natCast] at hen1
            have nez := hNE.out zq a (l + 1) lz (by omega) (by omega) (by omega)
            have IZ := hide (fun w hr => IH.out zq a (l + 1) w hr lz (by omega) (by omega) ghl)
            obtain ⟨do1, lo1⟩ := hno.out ho
            obtain ⟨oq, hoq⟩ := Int.eq_ofNat_of_zero_le hob
            have bo := hEN.out f oq (a + pw (l + 1)) (l + 1)
            rw [hoq, Int.toNat_natCast] at do1 lo1
            rw [hoq] at D1 zo
            rw [hoq, Int.toNat_natCast] at hen1
            have neo := hNE.out oq (a + pw (l + 1)) (l + 1) lo1 (by omega) (by omega) (by omega)
            have IO := hide (fun w hr => IH.out oq (a + pw (l + 1)) (l + 1) w hr lo1 (by omega) (by omega) ghh)
            have hen2 := hen1
            clear hen1
            clear hnz hno hEN IH hz ho ghl ghh hNE hzq hoq
            generalize a + pw (l + 1) = r at *
            generalize hl1 : l + 1 = l1 at *
            generalize hLz : entsFrom T f zq a l1 = Lz at *
            clear hLz
            generalize hLo : entsFrom T f oq r l1 = Lo at *
            clear hLo
            have hen3 := hide hen2
            clear hen2
            go_wp2_with fail
            refine (s1.out _).mono ?_
            rintro e Y ⟨rfl, hbY⟩
            have hOY := ownE_below hOX hbY
            have hEY := hEX.below hbY
            have hdY := hdX.trans (hbY.mono (by have := hdX.size; omega))
            have D0 := ((bcell hbY).1 b _ (by omega)).trans D0
            have D1 := ((bcell hbY).1 b _ (by omega)).trans D1
            have hXY := hbY.size
            obtain ⟨o2, _⟩ := old2 (show b < Y.heap.size by omega)
            clear hbY hOX hEX hdX hkX Q0 Q1 hBX
            go_wp2_with fail
            have hZd : Below Y.heap.size Y ((Y.alloc (.cells #[.int .i64 a, .int .i64 l1] 30)).alloc (.cells #[.int .i64 r, .int .i64 l1] 30)) := below_box2 (Below.refl _ _)
            have hLo : Blk ((Y.alloc (.cells #[.int .i64 a, .int .i64 l1] 30)).alloc (.cells #[.int .i64 r, .int .i64 l1] 30)) Y.heap.size #[.int .i64 a, .int .i64 l1] 30 := (Blk.new Y _ _).below (below_box (Below.refl _ _))
            have hHi : Blk ((Y.alloc (.cells #[.int .i64 a, .int .i64 l1] 30)).alloc (.cells #[.int .i64 r, .int .i64 l1] 30)) (Y.heap.size + 1) #[.int .i64 r, .int .i64 l1] 30 := by have := Blk.new (Y.alloc (.cells #[.int .i64 a, .int .i64 l1] 30)) #[.int .i64 r, .int .i64 l1] 30; simpa using this
            have hOZ := ownE_below hOY hZd
            have hEZ := hEY.below hZd
            have hdZ := hdY.trans (hZd.mono (by omega))
            have D0 := ((bcell hZd).1 b _ (by omega)).trans D0
            have D1 := ((bcell hZd).1 b _ (by omega)).trans D1
            have hYZ : Y.heap.size + 1 < ((Y.alloc (.cells #[.int .i64 a, .int .i64 l1] 30)).alloc (.cells #[.int .i64 r, .int .i64 l1] 30)).heap.size := by simp
            clear hZd hOY hEY hdY o2
            generalize ((Y.alloc (.cells #[.int .i64 a, .int .i64 l1] 30)).alloc (.cells #[.int .i64 r, .int .i64 l1] 30)) = Z at *
            have R0 := (hLo.cell 0).trans (show _ = some (.int .i64 a) from rfl)
            have R1 := (hLo.cell 1).trans (show _ = some (.int .i64 l1) from rfl)
            have hmm : 0 < Lz.length := List.length_pos_iff.2 nez
            have hEl : E.length ≤ 8589934592 := by first | omega | (simp only [List.length_append]; omega)
            go_region_held3 (fun w' => w'.cell? ⟨Y.heap.size, 0, none⟩ = some (.int .i64 a) ∧ w'.cell? ⟨Y.heap.size, 1, none⟩ = some (.int .i64 l1) ∧ w'.cell? ⟨b, off + q * 4, none⟩ = some (.int .i64 (zq : Int)))
              (first
                | go_keep
                | exact ⟨(((hk3.block _ _ _ (by decide) hH3).below (Below.refl _ _).drew).cell 0).trans rfl, (((hk3.block _ _ _ (by decide) hH3).below (Below.refl _ _).drew).cell 1).trans rfl, (hb3.drew.cell (p := ⟨b, off + q * 4, none⟩) hbw).trans D0⟩
                | exact ⟨((hk3.block _ _ _ (by decide) hH3).cell 0).trans rfl, ((hk3.block _ _ _ (by decide) hH3).cell 1).trans rfl, (hb3.cell (p := ⟨b, off + q * 4, none⟩) hbw).trans D0⟩
                | exact ⟨(hbN.drew.cell (p := ⟨Y.heap.size, 0, none⟩) (by simp only; omega)).trans R0, (hbN.drew.cell (p := ⟨Y.heap.size, 1, none⟩) (by simp only; omega)).trans R1, (hbN.drew.cell (p := ⟨b, off + q * 4, none⟩) (by simp only; omega)).trans D0⟩
                | exact ⟨(hbN.cell (p := ⟨Y.heap.size, 0, none⟩) (by simp only; omega)).trans R0, (hbN.cell (p := ⟨Y.heap.size, 1, none⟩) (by simp only; omega)).trans R1, (hbN.cell (p := ⟨b, off + q * 4, none⟩) (by simp only; omega)).trans D0⟩)
              ((first
                | (go_at_call 62; refine (IZ.out _ (by first | exact hEZ | exact hEZ.below (Below.refl _ _).drew)).mono ?_; rintro e N ⟨vN, rfl, hON0, hbN0⟩; obtain ⟨gN, cN, rfl, _, hgN⟩ := ownE_shape hON0 nez; have hbN : Below Z.heap.size Z N := (by first | exact hbN0 | exact (Below.refl _ _).drew.trans hbN0); have hN1 : ∀ n, OwnE w.heap.size (.slice (some ⟨g1, 0, none⟩) (es.length + 1) c1) E (N.drewN n) := (fun n => ownE_below (ownE_below hOZ hbN) (below_drewN (Below.refl _ _) n)); have hN2 : ∀ n, ∀ j u, (ecells Lz)[j]? = some u → (N.drewN n).cell? ((⟨gN, 0, none⟩ : Addr).add j) = some u := (fun n => ownE_cells (ownE_below hON0 (below_drewN (Below.refl _ _) n))); have hNs := hbN.size; clear hbN0)
                | (refine step_append_lies _ (by rfl) _ _ _ (by rfl) w.heap.size 32 i0 _ 3 24 Try.underlying25 hi hz0 hz1 hz2 rfl (by omega) (.slice (some ⟨g1, 0, none⟩) (es.length + 1) c1) E.length (ecells E) (by rfl) (by first | exact hN1 0 | exact hN1 1) ⟨gN, 0, none⟩ Lz.length cN (ecells Lz) (by rfl) (ec_len _) (by first | exact hN2 0 | exact hN2 1) (ec_oneCell _) hmm (by unfold maxLen; omega) (by omega) (by first | omega | (simp; omega)) N.heap.size (by first | rfl | simp) ?_; intro gz c1gz w3gz hown1 hgrow _ hlt3; have hT3 : OwnE w.heap.size (.slice (some ⟨gz, 0, none⟩) (E.length + Lz.length) c1gz) (E ++ Lz) w3gz := (by unfold OwnE; rw [ec_app, show (E ++ Lz).length = E.length + Lz.length from List.length_append]; exact hown1); have hbg : Below w.heap.size N w3gz := (by first | exact grown_belowE (hN1 0) hgrow (by omega) | exact ((Below.refl _ _).drew.mono (by omega)).trans (grown_belowE (hN1 1) hgrow (by first | omega | (simp; omega)))); have hk3 : KeptE N w3gz := (by first | exact KeptE.grown (hN1 0) hgrow | exact (KeptE.of_below (Below.refl _ _).drew).trans (KeptE.grown (hN1 1) hgrow)); have hH3 := hLo.below hbN; have hb3 : Below w.heap.size Z w3gz := (hbN.mono (by omega)).trans hbg)))
            have hdN := hdZ.trans hb3
            have hHi2 := hk3.block _ _ _ (by decide) (hHi.below hbN)
            have D1 := (hb3.cell (p := ⟨b, off + q * 4 + 1, none⟩) hbw).trans D1
            have hEN2 := hEZ.base (base := w.heap.size) (by intro b' off' e; simp at e; omega) hb3
            have hYZ2 : Y.heap.size + 1 < w3gz.heap.size := hHi2.lt
            clear hOZ hEZ hdZ hLo R0 R1 D0 IZ hN1 hN2 hown1 hgrow hON0 hb3 hk3 hbg hbN hHi hYZ hNs hmm hEl hH3
            go_wp2_with fail
            have hOZ := hT3
            have hEZ := hEN2
            have hdZ := hdN
            have hHi := hHi2
            have hYZ := hYZ2
            clear hT3 hEN2 hdN hHi2 hYZ2
            generalize w3gz = Z at *
            have R0 := (hHi.cell 0).trans (show _ = some (.int .i64 r) from rfl)
            have R1 := (hHi.cell 1).trans (show _ = some (.int .i64 l1) from rfl)
            have hmm : 0 < Lo.length := List.length_pos_iff.2 neo
            have hEl : (E ++ Lz).length ≤ 8589934592 := by first | omega | (simp only [List.length_append]; omega)
            go_region_held3 (fun w' => w'.cell? ⟨Y.heap.size + 1, 0, none⟩ = some (.int .i64 r) ∧ w'.cell? ⟨Y.heap.size + 1, 1, none⟩ = some (.int .i64 l1) ∧ w'.cell? ⟨b, off + q * 4 + 1, none⟩ = some (.int .i64 (oq : Int)))
              (first
                | go_keep
                | exact ⟨(((hk3.block _ _ _ (by decide) hH3).below (Below.refl _ _).drew).cell 0).trans rfl, (((hk3.block _ _ _ (by decide) hH3).below (Below.refl _ _).drew).cell 1).trans rfl, (hb3.drew.cell (p := ⟨b, off + q * 4 + 1, none⟩) hbw).trans D1⟩
                | exact ⟨((hk3.block _ _ _ (by decide) hH3).cell 0).trans rfl, ((hk3.block _ _ _ (by decide) hH3).cell 1).trans rfl, (hb3.cell (p := ⟨b, off + q * 4 + 1, none⟩) hbw).trans D1⟩
                | exact ⟨(hbN.drew.cell (p := ⟨Y.heap.size + 1, 0, none⟩) (by simp only; omega)).trans R0, (hbN.drew.cell (p := ⟨Y.heap.size + 1, 1, none⟩) (by simp only; omega)).trans R1, (hbN.drew.cell (p := ⟨b, off + q * 4 + 1, none⟩) (by simp only; omega)).trans D1⟩
                | exact ⟨(hbN.cell (p := ⟨Y.heap.size + 1, 0, none⟩) (by simp only; omega)).trans R0, (hbN.cell (p := ⟨Y.heap.size + 1, 1, none⟩) (by simp only; omega)).trans R1, (hbN.cell (p := ⟨b, off + q * 4 + 1, none⟩) (by simp only; omega)).trans D1⟩)
              ((first
                | (go_at_call 62; refine (IO.out _ (by first | exact hEZ | exact hEZ.below (Below.refl _ _).drew)).mono ?_; rintro e N ⟨vN, rfl, hON0, hbN0⟩; obtain ⟨gN, cN, rfl, _, hgN⟩ := ownE_shape hON0 neo; have hbN : Below Z.heap.size Z N := (by first | exact hbN0 | exact (Below.refl _ _).drew.trans hbN0); have hN1 : ∀ n, OwnE w.heap.size (.slice (some ⟨gz, 0, none⟩) (E.length + Lz.length) c1gz) (E ++ Lz) (N.drewN n) := (fun n => ownE_below (ownE_below hOZ hbN) (below_drewN (Below.refl _ _) n)); have hN2 : ∀ n, ∀ j u, (ecells Lo)[j]? = some u → (N.drewN n).cell? ((⟨gN, 0, none⟩ : Addr).add j) = some u := (fun n => ownE_cells (ownE_below hON0 (below_drewN (Below.refl _ _) n))); have hNs := hbN.size; clear hbN0)
                | (refine step_append_lies _ (by rfl) _ _ _ (by rfl) w.heap.size 32 i0 _ 3 24 Try.underlying25 hi hz0 hz1 hz2 rfl (by omega) (.slice (some ⟨gz, 0, none⟩) (E.length + Lz.length) c1gz) (E ++ Lz).length (ecells (E ++ Lz)) (by rfl) (by first | exact hN1 0 | exact hN1 1) ⟨gN, 0, none⟩ Lo.length cN (ecells Lo) (by rfl) (ec_len _) (by first | exact hN2 0 | exact hN2 1) (ec_oneCell _) hmm (by unfold maxLen; omega) (by omega) (by first | omega | (simp; omega)) N.heap.size (by first | rfl | simp) ?_; intro go c1go w3go hown1 hgrow _ hlt3; have hT3 : OwnE w.heap.size (.slice (some ⟨go, 0, none⟩) ((E ++ Lz).length + Lo.length) c1go) ((E ++ Lz) ++ Lo) w3go := (by unfold OwnE; rw [ec_app, show ((E ++ Lz) ++ Lo).length = (E ++ Lz).length + Lo.length from List.length_append]; exact hown1); have hbg : Below w.heap.size N w3go := (by first | exact grown_belowE (hN1 0) hgrow (by omega) | exact ((Below.refl _ _).drew.mono (by omega)).trans (grown_belowE (hN1 1) hgrow (by first | omega | (simp; omega)))); have hk3 : KeptE N w3go := (by first | exact KeptE.grown (hN1 0) hgrow | exact (KeptE.of_below (Below.refl _ _).drew).trans (KeptE.grown (hN1 1) hgrow)); have hH3 := hHi.below hbN; have hb3 : Below w.heap.size Z w3go := (hbN.mono (by omega)).trans hbg)))
            have hdN := hdZ.trans hb3
            clear hOZ hEZ hdZ hHi R0 R1 D1 IO hN1 hN2 hown1 hgrow hON0
            go_wp2_with fail
            go_ret
            refine ⟨_, rfl, ?_, hdN⟩
            rw [hen3.out]
            simpa [hesH.out, hEH.out, Nat.add_comm, Nat.add_left_comm] using hT3
end Go.Proofs.Ytjmflkheaioboab
