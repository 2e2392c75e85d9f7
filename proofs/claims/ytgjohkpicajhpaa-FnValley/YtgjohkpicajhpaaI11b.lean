/- kindsOf of the program: the relations in a map, both ways round. -/
import Derived.Test.YtgjohkpicajhpaaI11a
namespace Go.Proofs.Ytgjohkpicajhpaa
open Go.RowKit Go.Maps

theorem Mut.turn {w w' : World} {b c : Nat} {vs : List Value} (h : Mut w b vs) (g : w.grownBy w' (some c)) (hn : b ≠ c) : Mut w' b vs := by
  have e := g.block b h.1 (by simpa using hn)
  refine ⟨Nat.lt_of_lt_of_le h.1 g.size, fun i v hi => ?_, fun i hi => ?_⟩
  · have := h.2.1 i v hi
    simpa [World.cell?, e] using this
  · have := h.2.2 i hi
    simpa [World.frozen?, e] using this
set_option maxRecDepth 100000 in
set_option maxHeartbeats 3200000 in
theorem i_kindsOf (u : Int) (ra : Option Addr) (n rc : Nat) (f0 f1 f2 : Nat → Int) (w : World) (hn : n ≤ 1048576) (hA : RowRel ra n f0 f1 f2 w) :
    Calls Try.prog 18 #[.int .i64 u, .slice ra n rc] w fun e w' => ∃ v, e = .returned (.tuple #[.map v, .bool (grB u n f0 f1 f2)]) ∧ KV w' v (kk u n f0 f1 f2) ∧ Below w.heap.size w w' := by
  have hT : Hid (GR u n f0 f1 f2 → grB u n f0 f1 f2 = true) := pB_t
  have hF : Hid (¬ GR u n f0 f1 f2 → grB u n f0 f1 f2 = false) := pB_f
  have hK0 : Hid (¬ GR u n f0 f1 f2 → ∀ w, KV w none (kk u n f0 f1 f2)) := fun h w => Or.inl ⟨rfl, kk_not h⟩
  have hK1 : Hid (GR u n f0 f1 f2 → ∀ (w : World) b, KM w b (2 * n) (fun a c => kd f0 f1 f2 a c n) → KV w (some b) (kk u n f0 f1 f2)) := fun h w b q => Or.inr ⟨b, 2 * n, rfl, by have := h.2.2.1; omega, by
    have e : (fun a c => kd f0 f1 f2 a c n) = kk u n f0 f1 f2 := funext fun a => funext fun c => (kk_good h a c).symm
    rw [← e]; exact q⟩
  generalize grB u n f0 f1 f2 = r at *
  by_cases h0 : u < 1
  · have hE := hide (hF.out (fun h => by have := h.1; omega))
    have hK := hide (hK0.out (fun h => by have := h.1; omega) w)
    clear hT hF hK0 hK1 hA
    go_enter Try.func18, Try.ntmps18
    go_wp2_with fail
    go_ret2
    exact ⟨none, by rw [hE.out]; rfl, hK.out, Below.refl _ _⟩
  · by_cases h1 : u > 5
    · have hE := hide (hF.out (fun h => by have := h.2.1; omega))
      have hK := hide (hK0.out (fun h => by have := h.2.1; omega) w)
      clear hT hF hK0 hK1 hA
      go_enter Try.func18, Try.ntmps18
      go_wp2_with fail
      go_ret2
      exact ⟨none, by rw [hE.out]; rfl, hK.out, Below.refl _ _⟩
    · by_cases h2 : (n : Int) > 15
      · have hE := hide (hF.out (fun h => by have := h.2.2.1; omega))
        have hK := hide (hK0.out (fun h => by have := h.2.2.1; omega) w)
        clear hT hF hK0 hK1 hA
        go_enter Try.func18, Try.ntmps18
        go_wp2_with fail
        go_ret2
        exact ⟨none, by rw [hE.out]; rfl, hK.out, Below.refl _ _⟩
      · have hmm : ∀ (k : Int) (w : World), (Instr.makeMap 47 (some (.int .i64 k))).run Try.prog w = .ok (.map (some w.heap.size)) (w.alloc (.map #[] 0)) := fun _ _ => rfl
        have KX := KM.made w
        have dX : Below w.heap.size w (w.alloc (.map #[] 0)) := below_box (Below.refl _ _)
        have hGR : Hid (RlsOk u n f0 f1 f2 → GR u n f0 f1 f2) := fun h => ⟨by omega, by omega, by omega, h⟩
        have hNo : Hid (∀ k, k < n → ¬ RlOk u (f0 k) (f1 k) (f2 k) → ¬ GR u n f0 f1 f2) := fun k hk h q => h (q.2.2.2.1 k hk)
        have hNo2 : Hid (∀ k, k < n → ¬ (∀ j, j < k → ¬ (f0 j = f0 k ∧ f1 j = f1 k)) → ¬ GR u n f0 f1 f2) := fun k hk h q => h (q.2.2.2.2 k hk)
        have hn15 : (n : Int) ≤ 15 := by omega
        have hu5 : u ≤ 5 := by omega
        go_enter Try.func18, Try.ntmps18
        go_wp2_with fail
        generalize w.alloc (.map #[] 0) = wx at *
        go_loopw [8, 9, 29] (fun _ _ y wr => ∃ k : Nat, y = .int .i64 k ∧ k ≤ n ∧ Hid (RlsOk u k f0 f1 f2) ∧ KM wr w.heap.size (2 * k) (fun a c => kd f0 f1 f2 a c k) ∧ Below w.heap.size w wr) (fun _ _ y _ => n - (intOf y).toNat)
        case atStart => exact ⟨0, rfl, Nat.zero_le _, ⟨fun i hi => absurd hi (by omega), fun i hi => absurd hi (by omega)⟩, KX, dX⟩
        case round =>
          obtain ⟨k, rfl, hk, hall, hKM, hb⟩ := hrel
          by_cases hlt : k < n
          · obtain ⟨b, off, rfl, hbw, u0, u1, u2⟩ := hA k hlt
            replace u0 := (hb.cell (p := ⟨b, off + k * 3, none⟩) hbw).trans u0
            replace u1 := (hb.cell (p := ⟨b, off + k * 3 + 1, none⟩) hbw).trans u1
            replace u2 := (hb.cell (p := ⟨b, off + k * 3 + 2, none⟩) hbw).trans u2
            have hlt' : (k : Int) < (n : Int) := by omega
            have hNk := hide (hNo.out k hlt)
            have hNk2 := hide (hNo2.out k hlt)
            obtain ⟨g0, hg0⟩ : ∃ g0 : Int → Int → Int, ∀ a c, g0 a c = kd f0 f1 f2 a c k := ⟨_, fun _ _ => rfl⟩
            have KMg : KM wr w.heap.size (2 * k) g0 := by
              have e : g0 = fun a c => kd f0 f1 f2 a c k := funext fun a => funext fun c => hg0 a c
              rw [e]; exact hKM
            have hKN : Hid (RlOk u (f0 k) (f1 k) (f2 k) → g0 (f0 k) (f1 k) = 0 → ∀ w', KM w' w.heap.size (2 * k + 1 + 1) (fun a c => if a = f1 k ∧ c = f0 k then 4 - f2 k else if a = f0 k ∧ c = f1 k then f2 k else g0 a c) → KM w' w.heap.size (2 * (k + 1)) (fun a c => kd f0 f1 f2 a c (k + 1))) := fun h z w' q => by
              have e : (fun a c => kd f0 f1 f2 a c (k + 1)) = fun a c => if a = f1 k ∧ c = f0 k then 4 - f2 k else if a = f0 k ∧ c = f1 k then f2 k else g0 a c := funext fun a => funext fun c => by
                rw [hg0]
                refine kd_put (u := u) (fun i hi => ?_) (by rw [← hg0]; exact z) a c
                by_cases e : i = k
                · subst e; exact h
                · exact hall.out.1 i (by omega)
              rw [e]; exact q
            have hSn : Hid (RlOk u (f0 k) (f1 k) (f2 k) → g0 (f0 k) (f1 k) = 0 → RlsOk u (k + 1) f0 f1 f2) := fun h z => hall.out.snocK h (by rw [← hg0]; exact z)
            have hTw : Hid (RlOk u (f0 k) (f1 k) (f2 k) → g0 (f0 k) (f1 k) ≠ 0 → ¬ GR u n f0 f1 f2) := fun h z => hNk2.out (fun q => z (by rw [hg0]; exact (kd_twice hall.out.1 h.2.1).2 q))
            have GO := hide (fun w => i_goodRel u (f0 k) (f1 k) (f2 k) w)
            have BK := hide (fun w => i_back (f0 k) (f1 k) w)
            have hW : w.heap.size < wr.heap.size := hKM.lt
            clear hall hT hA hNo hNo2 hNk2 hGR hK1 hKM hg0 KX dX
            generalize f0 k = x at *
            generalize f1 k = y at *
            generalize f2 k = z at *
            have dR : Below w.heap.size w ((wr.alloc (.cells #[.int .i64 x, .int .i64 y, .int .i64 z] 58)).alloc (.cells #[.int .i64 x, .int .i64 y] 55)) := (hb.alloc hb.size _).alloc (by have := hb.size; simp; omega) _
            have e1 : (wr.alloc (.cells #[.int .i64 x, .int .i64 y, .int .i64 z] 58)).heap.size = wr.heap.size + 1 := by simp
            have MR := (Mut.new wr #[.int .i64 x, .int .i64 y, .int .i64 z] 58).alloc (.cells #[.int .i64 x, .int .i64 y] 55)
            have MT := Mut.new (wr.alloc (.cells #[.int .i64 x, .int .i64 y, .int .i64 z] 58)) #[.int .i64 x, .int .i64 y] 55
            rw [e1] at MT
            have KM2 := (KMg.alloc (.cells #[.int .i64 x, .int .i64 y, .int .i64 z] 58)).alloc (.cells #[.int .i64 x, .int .i64 y] 55)
            clear e1 KMg
            by_cases hok : RlOk u x y z
            · rw [pB_t hok] at GO
              have h13 := hok.2.2.2
              have hwx : W64 x := w64_of (by have := hok.1; omega) (by have := hok.2.1; have := hok.2.2.1; omega)
              have hwy : W64 y := w64_of (by have := hok.1; have := hok.2.1; omega) (by have := hok.2.2.1; omega)
              have hwz : W64 z := w64_of (by omega) (by omega)
              have hwz4 : W64 (4 - z) := w64_of (by omega) (by omega)
              have KB := hide (fun w => i_kindBack z w h13.1 h13.2)
              have hz0 : Hid (z ≠ 0) := by show z ≠ 0; omega
              have hz40 : Hid (4 - z ≠ 0) := by show 4 - z ≠ 0; omega
              have hm1 : Hid (2 * k < 999) := by show 2 * k < 999; omega
              by_cases hz : g0 x y = 0
              · have hz' : (g0 x y != 0) = false := by simp [hz]
                have hN := hide (hSn.out hok hz)
                have hKN' := hide (hKN.out hok hz)
                clear hok hz hSn hKN hTw hK0 hF hNk
                go_wp2_with fail
                refine (GO.out _).mono ?_
                rintro e w3 ⟨rfl, b3⟩
                have d3 := dR.trans (b3.mono dR.size)
                have MR3 := MR.below b3
                have MT3 := MT.below b3
                have KM3 := KM2.below b3 KM2.lt
                have hl3 := KM3.look hwx hwy
                obtain ⟨w4, hr4, KM4, g4⟩ := KM3.put (by have := hm1.out; omega) hwx hwy hwz hz0.out
                have MR4 := MR3.turn g4 (by omega)
                have MT4 := MT3.turn g4 (by omega)
                have d4 : Below w.heap.size w w4 := d3.grown g4 d3.size (fun j hj => by cases hj; exact Nat.le_refl _)
                have c2 := MR3.2.1 2 _ rfl
                have t0 := MT3.2.1 0 _ rfl
                have t1 := MT3.2.1 1 _ rfl
                have C2 := MR4.2.1 2 _ rfl
                have T0 := MT4.2.1 0 _ rfl
                have T1 := MT4.2.1 1 _ rfl
                clear dR MR MT KM2 b3 MR3 MT3 KM3 d3
                go_wp2_with fail
                go_region_with (first | (go_at_call 28; refine (BK.out _).mono ?_; rintro e w5 ⟨rfl, b5⟩; have d5 : Below w4.heap.size w4 w5 := (by first | exact below_step (Below.refl _ _) b5 | exact below_step (Below.refl _ _).drew b5); have D5 := (MR4.below d5).2.1 2 _ rfl; have KM5 := KM4.below d5 KM4.lt; obtain ⟨w6, hr6, KM6, g6⟩ := KM5.put (by have := hm1.out; omega) hwy hwx hwz4 hz40.out; obtain ⟨w7, hr7, KM7, g7⟩ := KM5.drew.put (by have := hm1.out; omega) hwy hwx hwz4 hz40.out) | (go_at_call 27; refine (KB.out _).mono ?_; rintro e w9 ⟨rfl, hw9⟩; rw [hw9]; clear hw9 w9))
                all_goals
                  go_wp2_with fail
                  have d6 := d4.trans (d5.mono d4.size)
                  first
                    | exact ⟨⟨k + 1, by go_num, by omega, hN, hKN'.out _ KM6, d6.grown g6 d6.size (fun j hj => by cases hj; exact Nat.le_refl _)⟩, by simp [intOf]; omega⟩
                    | exact ⟨⟨k + 1, by go_num, by omega, hN, hKN'.out _ KM7, d6.grown g7 d6.size (fun j hj => by cases hj; exact Nat.le_refl _)⟩, by simp [intOf]; omega⟩
              · have hz' : (g0 x y != 0) = true := by simp [hz]
                have hE := hide (hF.out (hTw.out hok hz))
                have hK := hide (hK0.out (hTw.out hok hz))
                clear hok hz hSn hKN hTw hK0 hF hNk
                go_wp2_with fail
                refine (GO.out _).mono ?_
                rintro e w3 ⟨rfl, b3⟩
                have d3 := dR.trans (b3.mono dR.size)
                have MT3 := MT.below b3
                have KM3 := KM2.below b3 KM2.lt
                have hl3 := KM3.look hwx hwy
                have t0 := MT3.2.1 0 _ rfl
                have t1 := MT3.2.1 1 _ rfl
                clear dR MR MT KM2 b3 MT3 KM3
                go_wp2_with fail
                go_ret2
                exact ⟨none, by rw [hE.out]; rfl, hK.out _, d3⟩
            · rw [pB_f hok] at GO
              have hE := hide (hF.out (hNk.out hok))
              have hK := hide (hK0.out (hNk.out hok))
              clear hok hSn hKN hTw hK0 hF hNk
              go_wp2_with fail
              refine (GO.out _).mono ?_
              rintro e w3 ⟨rfl, b3⟩
              go_wp2_with fail
              go_ret2
              exact ⟨none, by rw [hE.out]; rfl, hK.out _, dR.trans (b3.mono dR.size)⟩
          · have hlt' : ¬ (k : Int) < (n : Int) := by omega
            obtain rfl : k = n := by omega
            have hE := hide (hT.out (hGR.out hall.out))
            have hK := hide (hK1.out (hGR.out hall.out) wr w.heap.size hKM)
            clear hall hT hF hA hK0 hK1 hNo hNo2 hGR
            go_wp2_with fail
            go_ret2
            exact ⟨some w.heap.size, by rw [hE.out]; rfl, hK.out, hb⟩
end Go.Proofs.Ytgjohkpicajhpaa
