/- What the specification's l2Walk and TrieEntries answer. -/
import Derived.Test.YtjmflkheaioboabEnt2
import Derived.Deep.RegionHeld3
import Derived.Deep.AppendLies
namespace Go.Proofs.Ytjmflkheaioboab
open Go.RowKit

/-- Blocks that hold no entries stay as they are. -/
structure KeptE (w w' : World) : Prop where
  size : w.heap.size ≤ w'.heap.size
  block : ∀ b arr e, e ≠ 32 → Blk w b arr e → Blk w' b arr e
theorem KeptE.refl (w : World) : KeptE w w := ⟨Nat.le_refl _, fun _ _ _ _ h => h⟩
theorem KeptE.trans {w w1 w2 : World} (h : KeptE w w1) (k : KeptE w1 w2) : KeptE w w2 := ⟨Nat.le_trans h.size k.size, fun b arr e he hb => k.block b arr e he (h.block b arr e he hb)⟩
theorem KeptE.of_below {w w' : World} (h : Below w.heap.size w w') : KeptE w w' := ⟨h.size, fun _ _ _ _ hb => hb.below h⟩
theorem ownE_ne {w : World} {base g cap : Nat} {es : List En} (h : OwnE base (.slice (some ⟨g, 0, none⟩) es.length cap) es w) {b : Nat} {arr : Array Value} {e : TypeId} (hb : Blk w b arr e) (he : e ≠ 32) : b ≠ g := by
  rintro rfl
  rcases h.2 with ⟨h1, _⟩ | ⟨g', c', cur, h1, _, hg, _⟩
  · simp at h1
  · simp only [Value.slice.injEq, Option.some.injEq, Addr.mk.injEq, and_true, true_and] at h1
    obtain ⟨rfl, rfl⟩ := h1
    rw [hb] at hg
    simp at hg
    exact he hg.2
theorem ownE_own {w : World} {base : Nat} {v : Value} {es : List En} (h : OwnE base v es w) : v = .slice none 0 0 ∧ es = [] ∨ ∃ g cap, v = .slice (some ⟨g, 0, none⟩) es.length cap ∧ base ≤ g ∧ g < w.heap.size := by
  rcases h.2 with ⟨h1, h2⟩ | ⟨g, cap, cur, rfl, hb, hg, _⟩
  · exact .inl ⟨h1, List.eq_nil_of_length_eq_zero h2⟩
  · exact .inr ⟨g, cap, rfl, hb, (Array.getElem?_eq_some_iff.1 hg).1⟩
theorem KeptE.grown {w w' : World} {base : Nat} {v : Value} {es : List En} (h : OwnE base v es w) (k : w.grownBy w' v.ownBlock) : KeptE w w' := by
  refine ⟨k.size, fun b arr e he hb => hb.grown k ?_⟩
  rcases ownE_own h with ⟨rfl, _⟩ | ⟨g, cap, rfl, _, _⟩
  · simp [Value.ownBlock]
  · simp only [Value.ownBlock, ne_eq, Option.some.injEq]
    exact ownE_ne h hb he
theorem grown_belowE {w w' : World} {base : Nat} {v : Value} {es : List En} (h : OwnE base v es w) (k : w.grownBy w' v.ownBlock) (hb : base ≤ w.heap.size) : Below base w w' := by
  refine grown_belowT k ?_ hb
  intro x hx
  rcases ownE_own h with ⟨rfl, _⟩ | ⟨g, cap, rfl, h1, _⟩
  · simp [Value.ownBlock] at hx
  · simp only [Value.ownBlock, Option.some.injEq] at hx; omega

theorem infoEntry : (Try.prog.info? 32).map (fun i => (i.zero, i.size, i.bytes)) = some (some (.agg #[.int .i64 0, .int .i64 0, .int .i64 0]), 3, 24) := by kernel_rfl

set_option maxRecDepth 100000 in
set_option maxHeartbeats 12800000 in
theorem s_walk (a0 : Option Addr) (len cap : Nat) (T : Nat → Nd) (d : Nat → Int) (base : Nat) (hab : ∀ b off, a0 = some ⟨b, off, none⟩ → b < base) (hD : Deep len T d) (hnn : ∀ k, k < len → 0 ≤ (T k).z ∧ 0 ≤ (T k).o) (f : Nat) :
    ∀ (q : Nat) (a l : Int) (es : List En) (v : Value) (w : World), base ≤ w.heap.size → OwnE base v es w → RowT a0 len T w → q < len → d q = l → l + f = 33 → goodB a l = true → es.length + 2 ^ f ≤ 17179869184 →
    Calls Try.prog 61 #[.slice a0 len cap, .int .i64 q, .agg #[.int .i64 a, .int .i64 l], v] w fun e w' => ∃ v', e = .returned v' ∧ OwnE base v' (es ++ entsFrom T f q a l) w' ∧ Below base w w' ∧ KeptE w w' := by
  induction f with
  | zero => intro q a l es v w _ _ _ _ hd hf; have := hD.bd q; omega
  | succ f ih =>
    intro q a l es v w hb0 hown hE hq hd hf hg hlen
    obtain ⟨i0, hi, hz0, hz1, hz2⟩ := info_parts infoEntry
    obtain ⟨b, off, rfl, hbw, c0, c1, c2, c3⟩ := hE q hq
    have hbb := hab b off rfl
    have hql : (q : Int) < (len : Int) := by omega
    have hp2 : 1 ≤ 2 ^ f := Nat.one_le_two_pow
    have hpp : 2 ^ (f + 1) = 2 ^ f + 2 ^ f := by rw [Nat.pow_succ]; omega
    have IH := hide ih
    clear ih
    have hdq := hD.bd q
    obtain ⟨_, ⟨ha0, ha1⟩, _⟩ := goodB_iff.1 hg
    have hlf := hide (fun h32 : d q = 32 => hD.leaf hq h32)
    have hnz := hide (hD.zero q hq)
    have hno := hide (hD.one q hq)
    have hHF := hide (fun h32 : l < 32 => half_facts hg h32)
    have hEN := hide (fun f q a l => ents_len T f q a l)
    have s1 := hide (fun (h : l < 32) w => s_halves1 a l w (by omega) h ha0 ha1)
    have hen : Hid (entsFrom T (f + 1) q a l = (if (T q).h then [(a, l, (T q).v)] else []) ++ ((if (T q).z ≠ 0 then entsFrom T f (T q).z.toNat a (l + 1) else []) ++ (if (T q).o ≠ 0 then entsFrom T f (T q).o.toNat (a + pw (l + 1)) (l + 1) else []))) := rfl
    obtain ⟨hzb, hob⟩ : 0 ≤ (T q).z ∧ 0 ≤ (T q).o := hnn q hq
    cases hh : (T q).h with
    | false =>
      rw [hh] at c2
      have n0 : ¬ b = w.heap.size := by omega
      go_enter Try.func61, Try.ntmps61
      have hB := Blk.new w #[.int .i64 a, .int .i64 l] 30
      have hO1 := ownE_below hown (below_box (o := .cells #[.int .i64 a, .int .i64 l] 30) (Below.refl _ _))
      have hd1 := below_box (o := .cells #[.int .i64 a, .int .i64 l] 30) (Below.refl _ (w.alloc (.cells #[.int .i64 a, .int .i64 l] 30)))
      have hs1 : (w.alloc (.cells #[.int .i64 a, .int .i64 l] 30)).heap.size = w.heap.size + 1 := by simp
      have C0 := ((bcell hd1).1 b _ hbw).trans c0
      have C1 := ((bcell hd1).1 b _ hbw).trans c1
      have C2 := ((bcell hd1).1 b _ hbw).trans c2
      have C3 := ((bcell hd1).1 b _ hbw).trans c3
      have P0 := (hB.cell 0).trans (show _ = some (.int .i64 a) from rfl)
      have P1 := (hB.cell 1).trans (show _ = some (.int .i64 l) from rfl)
      have hE1 := hE.below hd1
      have hk1 := KeptE.of_below hd1
      have hd1 := hd1.mono hb0
      clear hown hE c0 c1 c2 c3
      have hdX := hd1
      have hkX := hk1
      have hEX := hE1
      have D0 := C0
      have D1 := C1
      have hBX := hB
      have Q0 := P0
      have Q1 := P1
      have hOX := hO1
      clear hd1 hk1 hE1 C0 C1 C3 P0 P1 hB hO1
      have hXs : w.heap.size < (w.alloc (.cells #[.int .i64 a, .int .i64 l] 30)).heap.size := by omega
      clear hs1
      by_cases h32 : l = 32
      · obtain ⟨z0, o0⟩ := hlf.out (by omega)
        have z32 : (l == 32) = true := by simpa using h32
        have hen1 := hen.out
        rw [hh, if_neg (by decide), z0, o0] at hen1
        have hen1 := hide hen1
        clear hen hlf hnz hno hHF hEN s1 IH h32
        go_wp2_with fail
        go_ret
        refine ⟨_, rfl, ?_, hdX, hkX⟩
        rw [hen1.out]
        simpa using hOX
      · have z32 : (l == 32) = false := by simpa using h32
        have hl32 : l < 32 := by omega
        have s1 := hide (s1.out hl32)
        have hHF := hHF.out hl32
        have ghl := hHF.lo
        have ghh := hHF.hi
        clear hHF hlf
        by_cases hz : (T q).z = 0
        · have zz : ((T q).z != 0) = false := by simpa using hz
          by_cases ho : (T q).o = 0
          · have zo : ((T q).o != 0) = false := by simpa using ho
            have hen1 := hen.out
            rw [hh, if_neg (by decide), if_neg (fun h => h hz), if_neg (fun h => h ho)] at hen1
            have hen2 := hide hen1
            clear hen hen1
            rw [hz] at D0 zz
            rw [ho] at D1 zo
            clear hnz hno hEN IH hz ho ghl ghh
            generalize a + pw (l + 1) = r at *
            generalize hl1 : l + 1 = l1 at *
            go_wp2_with fail
            refine (s1.out _).mono ?_
            rintro e Y ⟨rfl, hbY⟩
            have hOY := ownE_below hOX hbY
            have hEY := hEX.below hbY
            have hdY := hdX.trans (hbY.mono (by have := hdX.size; omega))
            have hkY := hkX.trans (KeptE.of_below hbY)
            have D0 := ((bcell hbY).1 b _ (by omega)).trans D0
            have D1 := ((bcell hbY).1 b _ (by omega)).trans D1
            have hXY := hbY.size
            obtain ⟨o2, _⟩ := old2 (show b < Y.heap.size by omega)
            clear hbY hOX hEX hdX hkX Q0 Q1 hBX
            go_wp2_with fail
            go_ret
            refine ⟨_, rfl, ?_, hdY.trans ((below_box2 (Below.refl _ _)).mono (by omega)), hkY.trans (KeptE.of_below (below_box2 (Below.refl _ _)))⟩
            rw [hen2.out]
            simpa using ownE_below hOY (below_box2 (Below.refl _ _))
          · have zo : ((T q).o != 0) = true := by simpa using ho
            have hen1 := hen.out
            rw [hh, if_neg (by decide), if_neg (fun h => h hz), if_pos ho] at hen1
            have hen2 := hide hen1
            clear hen hen1
            obtain ⟨do1, lo1⟩ := hno.out ho
            obtain ⟨oq, hoq⟩ := Int.eq_ofNat_of_zero_le hob
            rw [hoq, Int.toNat_natCast] at do1 lo1
            rw [hoq] at D1 zo
            have hoq := hide hoq
            have IO := hide (fun V E w hb ho hr hlen => IH.out oq (a + pw (l + 1)) (l + 1) E V w hb ho hr lo1 (by omega) (by omega) ghh hlen)
            rw [hz] at D0 zz
            clear hnz hno hEN IH hz ho ghl ghh
            generalize a + pw (l + 1) = r at *
            generalize hl1 : l + 1 = l1 at *
            go_wp2_with fail
            refine (s1.out _).mono ?_
            rintro e Y ⟨rfl, hbY⟩
            have hOY := ownE_below hOX hbY
            have hEY := hEX.below hbY
            have hdY := hdX.trans (hbY.mono (by have := hdX.size; omega))
            have hkY := hkX.trans (KeptE.of_below hbY)
            have D0 := ((bcell hbY).1 b _ (by omega)).trans D0
            have D1 := ((bcell hbY).1 b _ (by omega)).trans D1
            have hXY := hbY.size
            obtain ⟨o2, _⟩ := old2 (show b < Y.heap.size by omega)
            clear hbY hOX hEX hdX hkX Q0 Q1 hBX
            go_wp2_with fail
            have hZd : Below Y.heap.size Y ((Y.alloc (.cells #[.int .i64 a, .int .i64 l1] 30)).alloc (.cells #[.int .i64 r, .int .i64 l1] 30)) := below_box2 (Below.refl _ _)
            have hLo : Blk ((Y.alloc (.cells #[.int .i64 a, .int .i64 l1] 30)).alloc (.cells #[.int .i64 r, .int .i64 l1] 30)) Y.heap.size #[.int .i64 a, .int .i64 l1] 30 := (Blk.new Y _ _).below (below_box (Below.refl _ _))
            have hHi : Blk ((Y.alloc (.cells #[.int .i64 a, .int .i64 l1] 30)).alloc (.cells #[.int .i64 r, .int .i64 l1] 30)) (Y.heap.size + 1) #[.int .i64 r, .int .i64 l1] 30 := by have := Blk.new (Y.alloc (.cells #[.int .i64 a, .int .i64 l1] 30)) #[.int .i64 r, .int .i64 l1] 30; simpa using this
            have hOZ := ownE_below hOY hZd
            have hEZ := hEY.below hZd
            have hdZ := hdY.trans (hZd.mono (by omega))
            have hkZ := hkY.trans (KeptE.of_below hZd)
            have D0 := ((bcell hZd).1 b _ (by omega)).trans D0
            have D1 := ((bcell hZd).1 b _ (by omega)).trans D1
            have hYZ := hZd.size
            have hYb : base ≤ Y.heap.size := by omega
            clear hZd hOY hEY hdY hkY o2
            generalize ((Y.alloc (.cells #[.int .i64 a, .int .i64 l1] 30)).alloc (.cells #[.int .i64 r, .int .i64 l1] 30)) = Z at *
            clear hLo
            have R0 := (hHi.cell 0).trans (show _ = some (.int .i64 r) from rfl)
            have R1 := (hHi.cell 1).trans (show _ = some (.int .i64 l1) from rfl)
            go_region_held3 (fun w' => w'.cell? ⟨Y.heap.size + 1, 0, none⟩ = some (.int .i64 r) ∧ w'.cell? ⟨Y.heap.size + 1, 1, none⟩ = some (.int .i64 l1) ∧ w'.cell? ⟨b, off + q * 4 + 1, none⟩ = some (.int .i64 (oq : Int)))
              (first
                | go_keep
                | exact ⟨(((hkN.block _ _ _ (by decide) hHi).below (Below.refl _ _).drew).cell 0).trans rfl, (((hkN.block _ _ _ (by decide) hHi).below (Below.refl _ _).drew).cell 1).trans rfl, (hbN.drew.cell (p := ⟨b, off + q * 4 + 1, none⟩) hbb).trans D1⟩
                | exact ⟨((hkN.block _ _ _ (by decide) hHi).cell 0).trans rfl, ((hkN.block _ _ _ (by decide) hHi).cell 1).trans rfl, (hbN.cell (p := ⟨b, off + q * 4 + 1, none⟩) hbb).trans D1⟩)
              ((go_at_call 61; refine (IO.out _ _ _ (by first | exact (by omega) | (simp; omega)) (by first | exact hOZ | exact ownE_below hOZ (Below.refl _ _).drew) (by first | exact hEZ | exact hEZ.below (Below.refl _ _).drew) (by first | omega | (simp only [List.length_append]; omega) | (simp only [List.length_append, List.length_cons, List.length_nil]; omega))).mono ?_; rintro e N2 ⟨vN, rfl, hON, hbN0, hkN0⟩; have hbN : Below base Z N2 := (by first | exact hbN0 | exact (((Below.refl _ _).drew).mono (by omega)).trans hbN0); have hkN : KeptE Z N2 := (by first | exact hkN0 | exact (KeptE.of_below ((Below.refl _ _).drew)).trans hkN0); clear hbN0 hkN0))
            have hdN := hdZ.trans hbN
            have hkN2 := hkZ.trans hkN
            clear hOZ hEZ hdZ hkZ hHi R0 R1 D1 IO
            go_wp2_with fail
            go_ret
            refine ⟨_, rfl, ?_, hdN, hkN2⟩
            rw [hen2.out, hoq.out, Int.toNat_natCast]
            simpa using hON
        · have zz : ((T q).z != 0) = true := by simpa using hz
          by_cases ho : (T q).o = 0
          · have zo : ((T q).o != 0) = false := by simpa using ho
            have hen1 := hen.out
            rw [hh, if_neg (by decide), if_pos hz, if_neg (fun h => h ho)] at hen1
            have hen2 := hide hen1
            clear hen hen1
            obtain ⟨dz, lz⟩ := hnz.out hz
            have bz := hEN.out f (T q).z.toNat a (l + 1)
            obtain ⟨zq, hzq⟩ := Int.eq_ofNat_of_zero_le hzb
            rw [hzq, Int.toNat_natCast] at dz lz bz
            rw [hzq] at D0 zz
            have hzq := hide hzq
            have IZ := hide (fun V E w hb ho hr hlen => IH.out zq a (l + 1) E V w hb ho hr lz (by omega) (by omega) ghl hlen)
            rw [ho] at D1 zo
            clear hnz hno hEN IH hz ho ghl ghh
            generalize a + pw (l + 1) = r at *
            generalize hl1 : l + 1 = l1 at *
            go_wp2_with fail
            refine (s1.out _).mono ?_
            rintro e Y ⟨rfl, hbY⟩
            have hOY := ownE_below hOX hbY
            have hEY := hEX.below hbY
            have hdY := hdX.trans (hbY.mono (by have := hdX.size; omega))
            have hkY := hkX.trans (KeptE.of_below hbY)
            have D0 := ((bcell hbY).1 b _ (by omega)).trans D0
            have D1 := ((bcell hbY).1 b _ (by omega)).trans D1
            have hXY := hbY.size
            obtain ⟨o2, _⟩ := old2 (show b < Y.heap.size by omega)
            clear hbY hOX hEX hdX hkX Q0 Q1 hBX
            go_wp2_with fail
            have hZd : Below Y.heap.size Y ((Y.alloc (.cells #[.int .i64 a, .int .i64 l1] 30)).alloc (.cells #[.int .i64 r, .int .i64 l1] 30)) := below_box2 (Below.refl _ _)
            have hLo : Blk ((Y.alloc (.cells #[.int .i64 a, .int .i64 l1] 30)).alloc (.cells #[.int .i64 r, .int .i64 l1] 30)) Y.heap.size #[.int .i64 a, .int .i64 l1] 30 := (Blk.new Y _ _).below (below_box (Below.refl _ _))
            have hHi : Blk ((Y.alloc (.cells #[.int .i64 a, .int .i64 l1] 30)).alloc (.cells #[.int .i64 r, .int .i64 l1] 30)) (Y.heap.size + 1) #[.int .i64 r, .int .i64 l1] 30 := by have := Blk.new (Y.alloc (.cells #[.int .i64 a, .int .i64 l1] 30)) #[.int .i64 r, .int .i64 l1] 30; simpa using this
            have hOZ := ownE_below hOY hZd
            have hEZ := hEY.below hZd
            have hdZ := hdY.trans (hZd.mono (by omega))
            have hkZ := hkY.trans (KeptE.of_below hZd)
            have D0 := ((bcell hZd).1 b _ (by omega)).trans D0
            have D1 := ((bcell hZd).1 b _ (by omega)).trans D1
            have hYZ := hZd.size
            have hYb : base ≤ Y.heap.size := by omega
            clear hZd hOY hEY hdY hkY o2
            generalize ((Y.alloc (.cells #[.int .i64 a, .int .i64 l1] 30)).alloc (.cells #[.int .i64 r, .int .i64 l1] 30)) = Z at *
            have R0 := (hLo.cell 0).trans (show _ = some (.int .i64 a) from rfl)
            have R1 := (hLo.cell 1).trans (show _ = some (.int .i64 l1) from rfl)
            go_region_held3 (fun w' => w'.cell? ⟨Y.heap.size, 0, none⟩ = some (.int .i64 a) ∧ w'.cell? ⟨Y.heap.size, 1, none⟩ = some (.int .i64 l1) ∧ w'.cell? ⟨b, off + q * 4, none⟩ = some (.int .i64 (zq : Int)))
              (first
                | go_keep
                | exact ⟨(((hkN.block _ _ _ (by decide) hLo).below (Below.refl _ _).drew).cell 0).trans rfl, (((hkN.block _ _ _ (by decide) hLo).below (Below.refl _ _).drew).cell 1).trans rfl, (hbN.drew.cell (p := ⟨b, off + q * 4, none⟩) hbb).trans D0⟩
                | exact ⟨((hkN.block _ _ _ (by decide) hLo).cell 0).trans rfl, ((hkN.block _ _ _ (by decide) hLo).cell 1).trans rfl, (hbN.cell (p := ⟨b, off + q * 4, none⟩) hbb).trans D0⟩)
              ((go_at_call 61; refine (IZ.out _ _ _ (by first | exact (by omega) | (simp; omega)) (by first | exact hOZ | exact ownE_below hOZ (Below.refl _ _).drew) (by first | exact hEZ | exact hEZ.below (Below.refl _ _).drew) (by first | omega | (simp only [List.length_append]; omega) | (simp only [List.length_append, List.length_cons, List.length_nil]; omega))).mono ?_; rintro e N1 ⟨vN, rfl, hON, hbN0, hkN0⟩; have hbN : Below base Z N1 := (by first | exact hbN0 | exact (((Below.refl _ _).drew).mono (by omega)).trans hbN0); have hkN : KeptE Z N1 := (by first | exact hkN0 | exact (KeptE.of_below ((Below.refl _ _).drew)).trans hkN0); clear hbN0 hkN0))
            have hdN := hdZ.trans hbN
            have hkN2 := hkZ.trans hkN
            have D1 := (hbN.cell (p := ⟨b, off + q * 4 + 1, none⟩) hbb).trans D1
            clear hOZ hEZ hdZ hkZ hLo hHi R0 R1 D0 IZ
            go_wp2_with fail
            go_ret
            refine ⟨_, rfl, ?_, hdN, hkN2⟩
            rw [hen2.out, hzq.out, Int.toNat_natCast]
            simpa using hON
          · have zo : ((T q).o != 0) = true := by simpa using ho
            have hen1 := hen.out
            rw [hh, if_neg (by decide), if_pos hz, if_pos ho] at hen1
            have hen2 := hide hen1
            clear hen hen1
            obtain ⟨dz, lz⟩ := hnz.out hz
            have bz := hEN.out f (T q).z.toNat a (l + 1)
            obtain ⟨zq, hzq⟩ := Int.eq_ofNat_of_zero_le hzb
            rw [hzq, Int.toNat_natCast] at dz lz bz
            rw [hzq] at D0 zz
            have hzq := hide hzq
            have IZ := hide (fun V E w hb ho hr hlen => IH.out zq a (l + 1) E V w hb ho hr lz (by omega) (by omega) ghl hlen)
            obtain ⟨do1, lo1⟩ := hno.out ho
            obtain ⟨oq, hoq⟩ := Int.eq_ofNat_of_zero_le hob
            rw [hoq, Int.toNat_natCast] at do1 lo1
            rw [hoq] at D1 zo
            have hoq := hide hoq
            have IO := hide (fun V E w hb ho hr hlen => IH.out oq (a + pw (l + 1)) (l + 1) E V w hb ho hr lo1 (by omega) (by omega) ghh hlen)
            clear hnz hno hEN IH hz ho ghl ghh
            generalize a + pw (l + 1) = r at *
            generalize hl1 : l + 1 = l1 at *
            go_wp2_with fail
            refine (s1.out _).mono ?_
            rintro e Y ⟨rfl, hbY⟩
            have hOY := ownE_below hOX hbY
            have hEY := hEX.below hbY
            have hdY := hdX.trans (hbY.mono (by have := hdX.size; omega))
            have hkY := hkX.trans (KeptE.of_below hbY)
            have D0 := ((bcell hbY).1 b _ (by omega)).trans D0
            have D1 := ((bcell hbY).1 b _ (by omega)).trans D1
            have hXY := hbY.size
            obtain ⟨o2, _⟩ := old2 (show b < Y.heap.size by omega)
            clear hbY hOX hEX hdX hkX Q0 Q1 hBX
            go_wp2_with fail
            have hZd : Below Y.heap.size Y ((Y.alloc (.cells #[.int .i64 a, .int .i64 l1] 30)).alloc (.cells #[.int .i64 r, .int .i64 l1] 30)) := below_box2 (Below.refl _ _)
            have hLo : Blk ((Y.alloc (.cells #[.int .i64 a, .int .i64 l1] 30)).alloc (.cells #[.int .i64 r, .int .i64 l1] 30)) Y.heap.size #[.int .i64 a, .int .i64 l1] 30 := (Blk.new Y _ _).below (below_box (Below.refl _ _))
            have hHi : Blk ((Y.alloc (.cells #[.int .i64 a, .int .i64 l1] 30)).alloc (.cells #[.int .i64 r, .int .i64 l1] 30)) (Y.heap.size + 1) #[.int .i64 r, .int .i64 l1] 30 := by have := Blk.new (Y.alloc (.cells #[.int .i64 a, .int .i64 l1] 30)) #[.int .i64 r, .int .i64 l1] 30; simpa using this
            have hOZ := ownE_below hOY hZd
            have hEZ := hEY.below hZd
            have hdZ := hdY.trans (hZd.mono (by omega))
            have hkZ := hkY.trans (KeptE.of_below hZd)
            have D0 := ((bcell hZd).1 b _ (by omega)).trans D0
            have D1 := ((bcell hZd).1 b _ (by omega)).trans D1
            have hYZ := hZd.size
            have hYb : base ≤ Y.heap.size := by omega
            clear hZd hOY hEY hdY hkY o2
            generalize ((Y.alloc (.cells #[.int .i64 a, .int .i64 l1] 30)).alloc (.cells #[.int .i64 r, .int .i64 l1] 30)) = Z at *
            have R0 := (hLo.cell 0).trans (show _ = some (.int .i64 a) from rfl)
            have R1 := (hLo.cell 1).trans (show _ = some (.int .i64 l1) from rfl)
            go_region_held3 (fun w' => w'.cell? ⟨Y.heap.size, 0, none⟩ = some (.int .i64 a) ∧ w'.cell? ⟨Y.heap.size, 1, none⟩ = some (.int .i64 l1) ∧ w'.cell? ⟨b, off + q * 4, none⟩ = some (.int .i64 (zq : Int)))
              (first
                | go_keep
                | exact ⟨(((hkN.block _ _ _ (by decide) hLo).below (Below.refl _ _).drew).cell 0).trans rfl, (((hkN.block _ _ _ (by decide) hLo).below (Below.refl _ _).drew).cell 1).trans rfl, (hbN.drew.cell (p := ⟨b, off + q * 4, none⟩) hbb).trans D0⟩
                | exact ⟨((hkN.block _ _ _ (by decide) hLo).cell 0).trans rfl, ((hkN.block _ _ _ (by decide) hLo).cell 1).trans rfl, (hbN.cell (p := ⟨b, off + q * 4, none⟩) hbb).trans D0⟩)
              ((go_at_call 61; refine (IZ.out _ _ _ (by first | exact (by omega) | (simp; omega)) (by first | exact hOZ | exact ownE_below hOZ (Below.refl _ _).drew) (by first | exact hEZ | exact hEZ.below (Below.refl _ _).drew) (by first | omega | (simp only [List.length_append]; omega) | (simp only [List.length_append, List.length_cons, List.length_nil]; omega))).mono ?_; rintro e N1 ⟨vN, rfl, hON, hbN0, hkN0⟩; have hbN : Below base Z N1 := (by first | exact hbN0 | exact (((Below.refl _ _).drew).mono (by omega)).trans hbN0); have hkN : KeptE Z N1 := (by first | exact hkN0 | exact (KeptE.of_below ((Below.refl _ _).drew)).trans hkN0); clear hbN0 hkN0))
            have hdN := hdZ.trans hbN
            have hkN2 := hkZ.trans hkN
            have hHi := hkN.block _ _ _ (by decide) hHi
            have D1 := (hbN.cell (p := ⟨b, off + q * 4 + 1, none⟩) hbb).trans D1
            have hEN2 := hEZ.base hab hbN
            have hsN := hbN.size
            clear hOZ hEZ hdZ hkZ hLo R0 R1 D0 IZ hbN hkN
            go_wp2_with fail
            have hOZ := hON
            have hEZ := hEN2
            have hdZ := hdN
            have hkZ := hkN2
            clear hON hEN2 hdN hkN2
            have hYZ2 : Y.heap.size ≤ N1.heap.size := by omega
            clear hsN hYZ
            have hYZ := hYZ2
            clear hYZ2
            generalize N1 = Z at *
            have R0 := (hHi.cell 0).trans (show _ = some (.int .i64 r) from rfl)
            have R1 := (hHi.cell 1).trans (show _ = some (.int .i64 l1) from rfl)
            go_region_held3 (fun w' => w'.cell? ⟨Y.heap.size + 1, 0, none⟩ = some (.int .i64 r) ∧ w'.cell? ⟨Y.heap.size + 1, 1, none⟩ = some (.int .i64 l1) ∧ w'.cell? ⟨b, off + q * 4 + 1, none⟩ = some (.int .i64 (oq : Int)))
              (first
                | go_keep
                | exact ⟨(((hkN.block _ _ _ (by decide) hHi).below (Below.refl _ _).drew).cell 0).trans rfl, (((hkN.block _ _ _ (by decide) hHi).below (Below.refl _ _).drew).cell 1).trans rfl, (hbN.drew.cell (p := ⟨b, off + q * 4 + 1, none⟩) hbb).trans D1⟩
                | exact ⟨((hkN.block _ _ _ (by decide) hHi).cell 0).trans rfl, ((hkN.block _ _ _ (by decide) hHi).cell 1).trans rfl, (hbN.cell (p := ⟨b, off + q * 4 + 1, none⟩) hbb).trans D1⟩)
              ((go_at_call 61; refine (IO.out _ _ _ (by first | exact (by omega) | (simp; omega)) (by first | exact hOZ | exact ownE_below hOZ (Below.refl _ _).drew) (by first | exact hEZ | exact hEZ.below (Below.refl _ _).drew) (by first | omega | (simp only [List.length_append]; omega) | (simp only [List.length_append, List.length_cons, List.length_nil]; omega))).mono ?_; rintro e N2 ⟨vN, rfl, hON, hbN0, hkN0⟩; have hbN : Below base Z N2 := (by first | exact hbN0 | exact (((Below.refl _ _).drew).mono (by omega)).trans hbN0); have hkN : KeptE Z N2 := (by first | exact hkN0 | exact (KeptE.of_below ((Below.refl _ _).drew)).trans hkN0); clear hbN0 hkN0))
            have hdN := hdZ.trans hbN
            have hkN2 := hkZ.trans hkN
            clear hOZ hEZ hdZ hkZ hHi R0 R1 D1 IO
            go_wp2_with fail
            go_ret
            refine ⟨_, rfl, ?_, hdN, hkN2⟩
            rw [hen2.out, hoq.out, hzq.out, Int.toNat_natCast, Int.toNat_natCast]
            simpa using hON
    | true =>
      rw [hh] at c2
      have n0 : ¬ b = w.heap.size := by omega
      go_enter Try.func61, Try.ntmps61
      have hB := Blk.new w #[.int .i64 a, .int .i64 l] 30
      have hO1 := ownE_below hown (below_box (o := .cells #[.int .i64 a, .int .i64 l] 30) (Below.refl _ _))
      have hd1 := below_box (o := .cells #[.int .i64 a, .int .i64 l] 30) (Below.refl _ (w.alloc (.cells #[.int .i64 a, .int .i64 l] 30)))
      have hs1 : (w.alloc (.cells #[.int .i64 a, .int .i64 l] 30)).heap.size = w.heap.size + 1 := by simp
      have C0 := ((bcell hd1).1 b _ hbw).trans c0
      have C1 := ((bcell hd1).1 b _ hbw).trans c1
      have C2 := ((bcell hd1).1 b _ hbw).trans c2
      have C3 := ((bcell hd1).1 b _ hbw).trans c3
      have P0 := (hB.cell 0).trans (show _ = some (.int .i64 a) from rfl)
      have P1 := (hB.cell 1).trans (show _ = some (.int .i64 l) from rfl)
      have hE1 := hE.below hd1
      have hk1 := KeptE.of_below hd1
      have hd1 := hd1.mono hb0
      clear hown hE c0 c1 c2 c3
      go_wp2_with fail
      generalize w.alloc (.cells #[.int .i64 a, .int .i64 l] 30) = W1 at *
      have hbW : base ≤ W1.heap.size := by omega
      go_region_held3 (fun w' => w'.cell? ⟨w.heap.size, 0, none⟩ = some (.int .i64 a) ∧ w'.cell? ⟨w.heap.size, 1, none⟩ = some (.int .i64 l) ∧ w'.cell? ⟨b, off + q * 4 + 3, none⟩ = some (.int .i64 (T q).v))
        (first
          | go_keep
          | exact ⟨((hB3.below (Below.refl _ _).drew).cell 0).trans rfl, ((hB3.below (Below.refl _ _).drew).cell 1).trans rfl, (hb3.drew.cell (p := ⟨b, off + q * 4 + 3, none⟩) hbb).trans C3⟩
          | exact ⟨(hB3.cell 0).trans rfl, (hB3.cell 1).trans rfl, (hb3.cell (p := ⟨b, off + q * 4 + 3, none⟩) hbb).trans C3⟩)
        ((first
          | (refine step_append_lies _ (by rfl) _ _ _ (by rfl) base 32 i0 _ 3 24 Try.underlying25 hi hz0 hz1 hz2 rfl (by omega) v es.length (ecells es) (by rfl) (by first | exact World.ownsRow.alloc hO1 _ | exact World.ownsRow.drew (World.ownsRow.alloc hO1 _)) ⟨w.heap.size + 1, 0, none⟩ 1 1 (enc (a, l, (T q).v)) (by rfl) rfl (by intro j u hj; (match j, hj with | 0, hj => simp [enc] at hj; subst hj; simp [Addr.add, go_sem, ← hs1] | 1, hj => simp [enc] at hj; subst hj; simp [Addr.add, go_sem, ← hs1] | 2, hj => simp [enc] at hj; subst hj; simp [Addr.add, go_sem, ← hs1])) (by intro u hu; simp [enc] at hu; rcases hu with rfl | rfl | rfl <;> rfl) (by omega) (by unfold maxLen; omega) (by omega) (by simp; omega) (W1.heap.size + 1) (by simp) ?_; intro g1 c1 w3 hown1 hgrow _ hlt3; have hOal := ownE_below hO1 ((below_box (o := .cells #[.int .i64 a, .int .i64 l, .int .i64 (T q).v] 32) (Below.refl _ _)).drew); have hT3 : OwnE base (.slice (some ⟨g1, 0, none⟩) (es.length + 1) c1) (es ++ [(a, l, (T q).v)]) w3 := (by unfold OwnE; rw [ec_app, ec_one]; simpa using hown1); have hb3 : Below base W1 w3 := ((below_box (Below.refl _ _)).drew.mono hbW).trans (grown_belowE hOal hgrow (by simp; omega)); have hk3 : KeptE W1 w3 := (KeptE.of_below ((below_box (Below.refl _ _)).drew)).trans (KeptE.grown hOal hgrow); have hB3 := hk3.block _ _ _ (by decide) hB)))
      have hdX := hd1.trans hb3
      have hkX := hk1.trans hk3
      have hEX := hE1.base hab hb3
      have D0 := (hb3.cell (p := ⟨b, off + q * 4, none⟩) hbb).trans C0
      have D1 := (hb3.cell (p := ⟨b, off + q * 4 + 1, none⟩) hbb).trans C1
      have hBX := hB3
      have Q0 := (hBX.cell 0).trans (show _ = some (.int .i64 a) from rfl)
      have Q1 := (hBX.cell 1).trans (show _ = some (.int .i64 l) from rfl)
      have hOX := hT3
      clear hown1 hgrow hOal hB hO1 hd1 hk1 hb3 hk3 hE1 C0 C1 C2 C3 P0 P1 hT3 hB3 hbW hs1
      have hXs : w.heap.size < w3.heap.size := hBX.lt
      by_cases h32 : l = 32
      · obtain ⟨z0, o0⟩ := hlf.out (by omega)
        have z32 : (l == 32) = true := by simpa using h32
        have hen1 := hen.out
        rw [hh, if_pos rfl, z0, o0] at hen1
        have hen1 := hide hen1
        clear hen hlf hnz hno hHF hEN s1 IH h32
        go_wp2_with fail
        go_ret
        refine ⟨_, rfl, ?_, hdX, hkX⟩
        rw [hen1.out]
        simpa using hOX
      · have z32 : (l == 32) = false := by simpa using h32
        have hl32 : l < 32 := by omega
        have s1 := hide (s1.out hl32)
        have hHF := hHF.out hl32
        have ghl := hHF.lo
        have ghh := hHF.hi
        clear hHF hlf
        by_cases hz : (T q).z = 0
        · have zz : ((T q).z != 0) = false := by simpa using hz
          by_cases ho : (T q).o = 0
          · have zo : ((T q).o != 0) = false := by simpa using ho
            have hen1 := hen.out
            rw [hh, if_pos rfl, if_neg (fun h => h hz), if_neg (fun h => h ho)] at hen1
            have hen2 := hide hen1
            clear hen hen1
            rw [hz] at D0 zz
            rw [ho] at D1 zo
            clear hnz hno hEN IH hz ho ghl ghh
            generalize a + pw (l + 1) = r at *
            generalize hl1 : l + 1 = l1 at *
            go_wp2_with fail
            refine (s1.out _).mono ?_
            rintro e Y ⟨rfl, hbY⟩
            have hOY := ownE_below hOX hbY
            have hEY := hEX.below hbY
            have hdY := hdX.trans (hbY.mono (by have := hdX.size; omega))
            have hkY := hkX.trans (KeptE.of_below hbY)
            have D0 := ((bcell hbY).1 b _ (by omega)).trans D0
            have D1 := ((bcell hbY).1 b _ (by omega)).trans D1
            have hXY := hbY.size
            obtain ⟨o2, _⟩ := old2 (show b < Y.heap.size by omega)
            clear hbY hOX hEX hdX hkX Q0 Q1 hBX
            go_wp2_with fail
            go_ret
            refine ⟨_, rfl, ?_, hdY.trans ((below_box2 (Below.refl _ _)).mono (by omega)), hkY.trans (KeptE.of_below (below_box2 (Below.refl _ _)))⟩
            rw [hen2.out]
            simpa using ownE_below hOY (below_box2 (Below.refl _ _))
          · have zo : ((T q).o != 0) = true := by simpa using ho
            have hen1 := hen.out
            rw [hh, if_pos rfl, if_neg (fun h => h hz), if_pos ho] at hen1
            have hen2 := hide hen1
            clear hen hen1
            obtain ⟨do1, lo1⟩ := hno.out ho
            obtain ⟨oq, hoq⟩ := Int.eq_ofNat_of_zero_le hob
            rw [hoq, Int.toNat_natCast] at do1 lo1
            rw [hoq] at D1 zo
            have hoq := hide hoq
            have IO := hide (fun V E w hb ho hr hlen => IH.out oq (a + pw (l + 1)) (l + 1) E V w hb ho hr lo1 (by omega) (by omega) ghh hlen)
            rw [hz] at D0 zz
            clear hnz hno hEN IH hz ho ghl ghh
            generalize a + pw (l + 1) = r at *
            generalize hl1 : l + 1 = l1 at *
            go_wp2_with fail
            refine (s1.out _).mono ?_
            rintro e Y ⟨rfl, hbY⟩
            have hOY := ownE_below hOX hbY
            have hEY := hEX.below hbY
            have hdY := hdX.trans (hbY.mono (by have := hdX.size; omega))
            have hkY := hkX.trans (KeptE.of_below hbY)
            have D0 := ((bcell hbY).1 b _ (by omega)).trans D0
            have D1 := ((bcell hbY).1 b _ (by omega)).trans D1
            have hXY := hbY.size
            obtain ⟨o2, _⟩ := old2 (show b < Y.heap.size by omega)
            clear hbY hOX hEX hdX hkX Q0 Q1 hBX
            go_wp2_with fail
            have hZd : Below Y.heap.size Y ((Y.alloc (.cells #[.int .i64 a, .int .i64 l1] 30)).alloc (.cells #[.int .i64 r, .int .i64 l1] 30)) := below_box2 (Below.refl _ _)
            have hLo : Blk ((Y.alloc (.cells #[.int .i64 a, .int .i64 l1] 30)).alloc (.cells #[.int .i64 r, .int .i64 l1] 30)) Y.heap.size #[.int .i64 a, .int .i64 l1] 30 := (Blk.new Y _ _).below (below_box (Below.refl _ _))
            have hHi : Blk ((Y.alloc (.cells #[.int .i64 a, .int .i64 l1] 30)).alloc (.cells #[.int .i64 r, .int .i64 l1] 30)) (Y.heap.size + 1) #[.int .i64 r, .int .i64 l1] 30 := by have := Blk.new (Y.alloc (.cells #[.int .i64 a, .int .i64 l1] 30)) #[.int .i64 r, .int .i64 l1] 30; simpa using this
            have hOZ := ownE_below hOY hZd
            have hEZ := hEY.below hZd
            have hdZ := hdY.trans (hZd.mono (by omega))
            have hkZ := hkY.trans (KeptE.of_below hZd)
            have D0 := ((bcell hZd).1 b _ (by omega)).trans D0
            have D1 := ((bcell hZd).1 b _ (by omega)).trans D1
            have hYZ := hZd.size
            have hYb : base ≤ Y.heap.size := by omega
            clear hZd hOY hEY hdY hkY o2
            generalize ((Y.alloc (.cells #[.int .i64 a, .int .i64 l1] 30)).alloc (.cells #[.int .i64 r, .int .i64 l1] 30)) = Z at *
            clear hLo
            have R0 := (hHi.cell 0).trans (show _ = some (.int .i64 r) from rfl)
            have R1 := (hHi.cell 1).trans (show _ = some (.int .i64 l1) from rfl)
            go_region_held3 (fun w' => w'.cell? ⟨Y.heap.size + 1, 0, none⟩ = some (.int .i64 r) ∧ w'.cell? ⟨Y.heap.size + 1, 1, none⟩ = some (.int .i64 l1) ∧ w'.cell? ⟨b, off + q * 4 + 1, none⟩ = some (.int .i64 (oq : Int)))
              (first
                | go_keep
                | exact ⟨(((hkN.block _ _ _ (by decide) hHi).below (Below.refl _ _).drew).cell 0).trans rfl, (((hkN.block _ _ _ (by decide) hHi).below (Below.refl _ _).drew).cell 1).trans rfl, (hbN.drew.cell (p := ⟨b, off + q * 4 + 1, none⟩) hbb).trans D1⟩
                | exact ⟨((hkN.block _ _ _ (by decide) hHi).cell 0).trans rfl, ((hkN.block _ _ _ (by decide) hHi).cell 1).trans rfl, (hbN.cell (p := ⟨b, off + q * 4 + 1, none⟩) hbb).trans D1⟩)
              ((go_at_call 61; refine (IO.out _ _ _ (by first | exact (by omega) | (simp; omega)) (by first | exact hOZ | exact ownE_below hOZ (Below.refl _ _).drew) (by first | exact hEZ | exact hEZ.below (Below.refl _ _).drew) (by first | omega | (simp only [List.length_append]; omega) | (simp only [List.length_append, List.length_cons, List.length_nil]; omega))).mono ?_; rintro e N2 ⟨vN, rfl, hON, hbN0, hkN0⟩; have hbN : Below base Z N2 := (by first | exact hbN0 | exact (((Below.refl _ _).drew).mono (by omega)).trans hbN0); have hkN : KeptE Z N2 := (by first | exact hkN0 | exact (KeptE.of_below ((Below.refl _ _).drew)).trans hkN0); clear hbN0 hkN0))
            have hdN := hdZ.trans hbN
            have hkN2 := hkZ.trans hkN
            clear hOZ hEZ hdZ hkZ hHi R0 R1 D1 IO
            go_wp2_with fail
            go_ret
            refine ⟨_, rfl, ?_, hdN, hkN2⟩
            rw [hen2.out, hoq.out, Int.toNat_natCast]
            simpa using hON
        · have zz : ((T q).z != 0) = true := by simpa using hz
          by_cases ho : (T q).o = 0
          · have zo : ((T q).o != 0) = false := by simpa using ho
            have hen1 := hen.out
            rw [hh, if_pos rfl, if_pos hz, if_neg (fun h => h ho)] at hen1
            have hen2 := hide hen1
            clear hen hen1
            obtain ⟨dz, lz⟩ := hnz.out hz
            have bz := hEN.out f (T q).z.toNat a (l + 1)
            obtain ⟨zq, hzq⟩ := Int.eq_ofNat_of_zero_le hzb
            rw [hzq, Int.toNat_natCast] at dz lz bz
            rw [hzq] at D0 zz
            have hzq := hide hzq
            have IZ := hide (fun V E w hb ho hr hlen => IH.out zq a (l + 1) E V w hb ho hr lz (by omega) (by omega) ghl hlen)
            rw [ho] at D1 zo
            clear hnz hno hEN IH hz ho ghl ghh
            generalize a + pw (l + 1) = r at *
            generalize hl1 : l + 1 = l1 at *
            go_wp2_with fail
            refine (s1.out _).mono ?_
            rintro e Y ⟨rfl, hbY⟩
            have hOY := ownE_below hOX hbY
            have hEY := hEX.below hbY
            have hdY := hdX.trans (hbY.mono (by have := hdX.size; omega))
            have hkY := hkX.trans (KeptE.of_below hbY)
            have D0 := ((bcell hbY).1 b _ (by omega)).trans D0
            have D1 := ((bcell hbY).1 b _ (by omega)).trans D1
            have hXY := hbY.size
            obtain ⟨o2, _⟩ := old2 (show b < Y.heap.size by omega)
            clear hbY hOX hEX hdX hkX Q0 Q1 hBX
            go_wp2_with fail
            have hZd : Below Y.heap.size Y ((Y.alloc (.cells #[.int .i64 a, .int .i64 l1] 30)).alloc (.cells #[.int .i64 r, .int .i64 l1] 30)) := below_box2 (Below.refl _ _)
            have hLo : Blk ((Y.alloc (.cells #[.int .i64 a, .int .i64 l1] 30)).alloc (.cells #[.int .i64 r, .int .i64 l1] 30)) Y.heap.size #[.int .i64 a, .int .i64 l1] 30 := (Blk.new Y _ _).below (below_box (Below.refl _ _))
            have hHi : Blk ((Y.alloc (.cells #[.int .i64 a, .int .i64 l1] 30)).alloc (.cells #[.int .i64 r, .int .i64 l1] 30)) (Y.heap.size + 1) #[.int .i64 r, .int .i64 l1] 30 := by have := Blk.new (Y.alloc (.cells #[.int .i64 a, .int .i64 l1] 30)) #[.int .i64 r, .int .i64 l1] 30; simpa using this
            have hOZ := ownE_below hOY hZd
            have hEZ := hEY.below hZd
            have hdZ := hdY.trans (hZd.mono (by omega))
            have hkZ := hkY.trans (KeptE.of_below hZd)
            have D0 := ((bcell hZd).1 b _ (by omega)).trans D0
            have D1 := ((bcell hZd).1 b _ (by omega)).trans D1
            have hYZ := hZd.size
            have hYb : base ≤ Y.heap.size := by omega
            clear hZd hOY hEY hdY hkY o2
            generalize ((Y.alloc (.cells #[.int .i64 a, .int .i64 l1] 30)).alloc (.cells #[.int .i64 r, .int .i64 l1] 30)) = Z at *
            have R0 := (hLo.cell 0).trans (show _ = some (.int .i64 a) from rfl)
            have R1 := (hLo.cell 1).trans (show _ = some (.int .i64 l1) from rfl)
            go_region_held3 (fun w' => w'.cell? ⟨Y.heap.size, 0, none⟩ = some (.int .i64 a) ∧ w'.cell? ⟨Y.heap.size, 1, none⟩ = some (.int .i64 l1) ∧ w'.cell? ⟨b, off + q * 4, none⟩ = some (.int .i64 (zq : Int)))
              (first
                | go_keep
                | exact ⟨(((hkN.block _ _ _ (by decide) hLo).below (Below.refl _ _).drew).cell 0).trans rfl, (((hkN.block _ _ _ (by decide) hLo).below (Below.refl _ _).drew).cell 1).trans rfl, (hbN.drew.cell (p := ⟨b, off + q * 4, none⟩) hbb).trans D0⟩
                | exact ⟨((hkN.block _ _ _ (by decide) hLo).cell 0).trans rfl, ((hkN.block _ _ _ (by decide) hLo).cell 1).trans rfl, (hbN.cell (p := ⟨b, off + q * 4, none⟩) hbb).trans D0⟩)
              ((go_at_call 61; refine (IZ.out _ _ _ (by first | exact (by omega) | (simp; omega)) (by first | exact hOZ | exact ownE_below hOZ (Below.refl _ _).drew) (by first | exact hEZ | exact hEZ.below (Below.refl _ _).drew) (by first | omega | (simp only [List.length_append]; omega) | (simp only [List.length_append, List.length_cons, List.length_nil]; omega))).mono ?_; rintro e N1 ⟨vN, rfl, hON, hbN0, hkN0⟩; have hbN : Below base Z N1 := (by first | exact hbN0 | exact (((Below.refl _ _).drew).mono (by omega)).trans hbN0); have hkN : KeptE Z N1 := (by first | exact hkN0 | exact (KeptE.of_below ((Below.refl _ _).drew)).trans hkN0); clear hbN0 hkN0))
            have hdN := hdZ.trans hbN
            have hkN2 := hkZ.trans hkN
            have D1 := (hbN.cell (p := ⟨b, off + q * 4 + 1, none⟩) hbb).trans D1
            clear hOZ hEZ hdZ hkZ hLo hHi R0 R1 D0 IZ
            go_wp2_with fail
            go_ret
            refine ⟨_, rfl, ?_, hdN, hkN2⟩
            rw [hen2.out, hzq.out, Int.toNat_natCast]
            simpa using hON
          · have zo : ((T q).o != 0) = true := by simpa using ho
            have hen1 := hen.out
            rw [hh, if_pos rfl, if_pos hz, if_pos ho] at hen1
            have hen2 := hide hen1
            clear hen hen1
            obtain ⟨dz, lz⟩ := hnz.out hz
            have bz := hEN.out f (T q).z.toNat a (l + 1)
            obtain ⟨zq, hzq⟩ := Int.eq_ofNat_of_zero_le hzb
            rw [hzq, Int.toNat_natCast] at dz lz bz
            rw [hzq] at D0 zz
            have hzq := hide hzq
            have IZ := hide (fun V E w hb ho hr hlen => IH.out zq a (l + 1) E V w hb ho hr lz (by omega) (by omega) ghl hlen)
            obtain ⟨do1, lo1⟩ := hno.out ho
            obtain ⟨oq, hoq⟩ := Int.eq_ofNat_of_zero_le hob
            rw [hoq, Int.toNat_natCast] at do1 lo1
            rw [hoq] at D1 zo
            have hoq := hide hoq
            have IO := hide (fun V E w hb ho hr hlen => IH.out oq (a + pw (l + 1)) (l + 1) E V w hb ho hr lo1 (by omega) (by omega) ghh hlen)
            clear hnz hno hEN IH hz ho ghl ghh
            generalize a + pw (l + 1) = r at *
            generalize hl1 : l + 1 = l1 at *
            go_wp2_with fail
            refine (s1.out _).mono ?_
            rintro e Y ⟨rfl, hbY⟩
            have hOY := ownE_below hOX hbY
            have hEY := hEX.below hbY
            have hdY := hdX.trans (hbY.mono (by have := hdX.size; omega))
            have hkY := hkX.trans (KeptE.of_below hbY)
            have D0 := ((bcell hbY).1 b _ (by omega)).trans D0
            have D1 := ((bcell hbY).1 b _ (by omega)).trans D1
            have hXY := hbY.size
            obtain ⟨o2, _⟩ := old2 (show b < Y.heap.size by omega)
            clear hbY hOX hEX hdX hkX Q0 Q1 hBX
            go_wp2_with fail
            have hZd : Below Y.heap.size Y ((Y.alloc (.cells #[.int .i64 a, .int .i64 l1] 30)).alloc (.cells #[.int .i64 r, .int .i64 l1] 30)) := below_box2 (Below.refl _ _)
            have hLo : Blk ((Y.alloc (.cells #[.int .i64 a, .int .i64 l1] 30)).alloc (.cells #[.int .i64 r, .int .i64 l1] 30)) Y.heap.size #[.int .i64 a, .int .i64 l1] 30 := (Blk.new Y _ _).below (below_box (Below.refl _ _))
            have hHi : Blk ((Y.alloc (.cells #[.int .i64 a, .int .i64 l1] 30)).alloc (.cells #[.int .i64 r, .int .i64 l1] 30)) (Y.heap.size + 1) #[.int .i64 r, .int .i64 l1] 30 := by have := Blk.new (Y.alloc (.cells #[.int .i64 a, .int .i64 l1] 30)) #[.int .i64 r, .int .i64 l1] 30; simpa using this
            have hOZ := ownE_below hOY hZd
            have hEZ := hEY.below hZd
            have hdZ := hdY.trans (hZd.mono (by omega))
            have hkZ := hkY.trans (KeptE.of_below hZd)
            have D0 := ((bcell hZd).1 b _ (by omega)).trans D0
            have D1 := ((bcell hZd).1 b _ (by omega)).trans D1
            have hYZ := hZd.size
            have hYb : base ≤ Y.heap.size := by omega
            clear hZd hOY hEY hdY hkY o2
            generalize ((Y.alloc (.cells #[.int .i64 a, .int .i64 l1] 30)).alloc (.cells #[.int .i64 r, .int .i64 l1] 30)) = Z at *
            have R0 := (hLo.cell 0).trans (show _ = some (.int .i64 a) from rfl)
            have R1 := (hLo.cell 1).trans (show _ = some (.int .i64 l1) from rfl)
            go_region_held3 (fun w' => w'.cell? ⟨Y.heap.size, 0, none⟩ = some (.int .i64 a) ∧ w'.cell? ⟨Y.heap.size, 1, none⟩ = some (.int .i64 l1) ∧ w'.cell? ⟨b, off + q * 4, none⟩ = some (.int .i64 (zq : Int)))
              (first
                | go_keep
                | exact ⟨(((hkN.block _ _ _ (by decide) hLo).below (Below.refl _ _).drew).cell 0).trans rfl, (((hkN.block _ _ _ (by decide) hLo).below (Below.refl _ _).drew).cell 1).trans rfl, (hbN.drew.cell (p := ⟨b, off + q * 4, none⟩) hbb).trans D0⟩
                | exact ⟨((hkN.block _ _ _ (by decide) hLo).cell 0).trans rfl, ((hkN.block _ _ _ (by decide) hLo).cell 1).trans rfl, (hbN.cell (p := ⟨b, off + q * 4, none⟩) hbb).trans D0⟩)
              ((go_at_call 61; refine (IZ.out _ _ _ (by first | exact (by omega) | (simp; omega)) (by first | exact hOZ | exact ownE_below hOZ (Below.refl _ _).drew) (by first | exact hEZ | exact hEZ.below (Below.refl _ _).drew) (by first | omega | (simp only [List.length_append]; omega) | (simp only [List.length_append, List.length_cons, List.length_nil]; omega))).mono ?_; rintro e N1 ⟨vN, rfl, hON, hbN0, hkN0⟩; have hbN : Below base Z N1 := (by first | exact hbN0 | exact (((Below.refl _ _).drew).mono (by omega)).trans hbN0); have hkN : KeptE Z N1 := (by first | exact hkN0 | exact (KeptE.of_below ((Below.refl _ _).drew)).trans hkN0); clear hbN0 hkN0))
            have hdN := hdZ.trans hbN
            have hkN2 := hkZ.trans hkN
            have hHi := hkN.block _ _ _ (by decide) hHi
            have D1 := (hbN.cell (p := ⟨b, off + q * 4 + 1, none⟩) hbb).trans D1
            have hEN2 := hEZ.base hab hbN
            have hsN := hbN.size
            clear hOZ hEZ hdZ hkZ hLo R0 R1 D0 IZ hbN hkN
            go_wp2_with fail
            have hOZ := hON
            have hEZ := hEN2
            have hdZ := hdN
            have hkZ := hkN2
            clear hON hEN2 hdN hkN2
            have hYZ2 : Y.heap.size ≤ N1.heap.size := by omega
            clear hsN hYZ
            have hYZ := hYZ2
            clear hYZ2
            generalize N1 = Z at *
            have R0 := (hHi.cell 0).trans (show _ = some (.int .i64 r) from rfl)
            have R1 := (hHi.cell 1).trans (show _ = some (.int .i64 l1) from rfl)
            go_region_held3 (fun w' => w'.cell? ⟨Y.heap.size + 1, 0, none⟩ = some (.int .i64 r) ∧ w'.cell? ⟨Y.heap.size + 1, 1, none⟩ = some (.int .i64 l1) ∧ w'.cell? ⟨b, off + q * 4 + 1, none⟩ = some (.int .i64 (oq : Int)))
              (first
                | go_keep
                | exact ⟨(((hkN.block _ _ _ (by decide) hHi).below (Below.refl _ _).drew).cell 0).trans rfl, (((hkN.block _ _ _ (by decide) hHi).below (Below.refl _ _).drew).cell 1).trans rfl, (hbN.drew.cell (p := ⟨b, off + q * 4 + 1, none⟩) hbb).trans D1⟩
                | exact ⟨((hkN.block _ _ _ (by decide) hHi).cell 0).trans rfl, ((hkN.block _ _ _ (by decide) hHi).cell 1).trans rfl, (hbN.cell (p := ⟨b, off + q * 4 + 1, none⟩) hbb).trans D1⟩)
              ((go_at_call 61; refine (IO.out _ _ _ (by first | exact (by omega) | (simp; omega)) (by first | exact hOZ | exact ownE_below hOZ (Below.refl _ _).drew) (by first | exact hEZ | exact hEZ.below (Below.refl _ _).drew) (by first | omega | (simp only [List.length_append]; omega) | (simp only [List.length_append, List.length_cons, List.length_nil]; omega))).mono ?_; rintro e N2 ⟨vN, rfl, hON, hbN0, hkN0⟩; have hbN : Below base Z N2 := (by first | exact hbN0 | exact (((Below.refl _ _).drew).mono (by omega)).trans hbN0); have hkN : KeptE Z N2 := (by first | exact hkN0 | exact (KeptE.of_below ((Below.refl _ _).drew)).trans hkN0); clear hbN0 hkN0))
            have hdN := hdZ.trans hbN
            have hkN2 := hkZ.trans hkN
            clear hOZ hEZ hdZ hkZ hHi R0 R1 D1 IO
            go_wp2_with fail
            go_ret
            refine ⟨_, rfl, ?_, hdN, hkN2⟩
            rw [hen2.out, hoq.out, hzq.out, Int.toNat_natCast, Int.toNat_natCast]
            simpa using hON
end Go.Proofs.Ytjmflkheaioboab
