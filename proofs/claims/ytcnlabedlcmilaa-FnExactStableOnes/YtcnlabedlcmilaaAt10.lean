/- Where a path stands among a node's; whether a row is a way. -/
import Derived.Test.YtcnlabedlcmilaaSame10
import Derived.Test.YtcnlabedlcmilaaS1
namespace Go.Proofs.Ytcnlabedlcmilaa
open Go.RowKit
set_option maxRecDepth 100000 in
set_option maxHeartbeats 1600000 in
theorem s_at10 (a : Option Addr) (N c : Nat) (U : Nat → Pl) (v : Nat) (x : Int) (pa : Option Addr) (pc : Nat) (p : Lc) (w : World) (hN : N ≤ 1048576) (hx : x = (v : Int) + 1) (hv : v < N) (hU : (U v).n ≤ 1048576) (hl : LowL (U v).n (U v).T) (hp : p.n ≤ 1048576) (hR : RowK3 a N U w) (hP : RowInt pa p.n p.f w) :
    Calls Try.prog 68 #[.agg #[.slice a N c], .int .i64 x, .slice pa p.n pc] w fun e w' => e = .returned (.int .i64 (rk U v p)) ∧ Below w.heap.size w w' := by
  subst hx
  have hT : Hid (∀ k, k < (U v).n → Same ((U v).T k) p → (∀ j, j < k → ¬ Same ((U v).T j) p) → rk U v p = (k : Int)) := fun k h1 h2 h3 => fI_first h1 h2 h3
  have hF : Hid ((∀ i, i < (U v).n → ¬ Same ((U v).T i) p) → rk U v p = -1) := fun h => fI_none h
  generalize rk U v p = r at *
  have dX : Below w.heap.size w (w.alloc (.cells #[.slice a N c] 27)) := below_box (Below.refl _ _)
  obtain ⟨b, off, a0, q0, rfl, hbw, u0, hq0, ht⟩ := hR v hv
  replace u0 := (dX.cell (p := ⟨b, off + v, none⟩) hbw).trans u0
  have hv' : (v : Int) < (N : Int) := by omega
  have e1 : (v : Int) + 1 - 1 = (v : Int) := by omega
  have S := hide (fun a0 c0 k w hk R Q => s_same a0 pa c0 pc ((U v).T k) p w (hl k hk) hp R Q)
  clear hR hl
  generalize hm : (U v).n = m at *
  have hm1 : (m : Int) ≤ 1048576 := by omega
  go_enter Try.func68, Try.ntmps68
  go_wp2_with fail
  generalize w.alloc (.cells #[.slice (some ⟨b, off, none⟩) N c] 27) = wx at *
  go_loopw [16] (fun y wr => ∃ k : Nat, y = .int .i64 k ∧ k ≤ m ∧ Hid (∀ j, j < k → ¬ Same ((U v).T j) p) ∧ Below w.heap.size w wr) (fun y _ => m - (intOf y).toNat)
  case atStart => exact ⟨0, rfl, Nat.zero_le _, fun j hj => absurd hj (by omega), dX⟩
  case round =>
    obtain ⟨k, rfl, hk, hall, hb⟩ := hrel
    by_cases hlt : k < m
    · obtain ⟨b1, off1, a1, c1, rfl, hb1, u1, hc1, ht1⟩ := ht k hlt
      replace u1 := (hb.cell (p := ⟨b1, off1 + k, none⟩) hb1).trans u1
      have hlt' : (k : Int) < (m : Int) := by omega
      have SS := hide (fun w R Q => S.out a1 c1 k w (by omega) R Q)
      have R1 := hide (ht1.below hb)
      have Q1 := hide (hP.below hb)
      by_cases he : Same ((U v).T k) p
      · rw [pB_t he] at SS
        have hE := hide (hT.out k hlt he hall.out)
        clear S hall hT hF ht ht1 hP he
        generalize ((U v).T k).n = tn at *
        go_wp2_with fail
        refine (SS.out _ R1.out Q1.out).mono ?_
        rintro e w3 ⟨rfl, b3⟩
        go_wp2_with fail
        go_ret
        exact ⟨by rw [hE.out]; rfl, hb.trans (b3.mono hb.size)⟩
      · rw [pB_f he] at SS
        have hN : Hid (∀ j, j < k + 1 → ¬ Same ((U v).T j) p) := fun j hj => by
          by_cases e : j = k
          · subst e; exact he
          · exact hall.out j (by omega)
        clear S hall hT hF ht ht1 hP he
        generalize ((U v).T k).n = tn at *
        go_wp2_with fail
        refine (SS.out _ R1.out Q1.out).mono ?_
        rintro e w3 ⟨rfl, b3⟩
        go_wp2_with fail
        exact ⟨⟨k + 1, by go_num, by omega, hN, hb.trans (b3.mono hb.size)⟩, by simp [intOf]; omega⟩
    · have hlt' : ¬ (k : Int) < (m : Int) := by omega
      obtain rfl : k = m := by omega
      have hE := hide (hF.out hall.out)
      clear hall hT hF
      go_wp2_with fail
      go_ret
      exact ⟨by rw [hE.out]; rfl, hb⟩
set_option maxRecDepth 100000 in
set_option maxHeartbeats 800000 in
theorem i_like10 (a0 : Option Addr) (c0 : Nat) (t : Lc) (g : Nat) (pa : Option Addr) (pc : Nat) (p : Lc) (w : World) (ht : t.n ≤ 1048576) (hp : p.n ≤ 1048576) (hR : RowInt a0 t.n t.f w) (hP : RowInt pa p.n p.f w) (hg : w.cell? ⟨g, 0, none⟩ = some (.slice pa p.n pc)) :
    Calls Try.prog 131 #[.slice a0 t.n c0, .pointer (some ⟨g, 0, none⟩)] w fun e w' => e = .returned (.bool (pB (Same t p))) ∧ Below w.heap.size w w' := by
  have S := hide (fun w R Q => i_same a0 pa c0 pc t p w ht hp R Q)
  generalize pB (Same t p) = r at *
  clear ht hp
  generalize t.n = tn at *
  generalize p.n = pn at *
  go_enter Try.func131, Try.ntmps131
  go_wp2_with fail
  refine (S.out _ hR hP).mono ?_
  rintro e w3 ⟨rfl, b3⟩
  go_wp2_with fail
  go_ret
  exact ⟨rfl, b3⟩

set_option maxRecDepth 100000 in
set_option maxHeartbeats 1600000 in
theorem i_idxLike (a : Option Addr) (n c : Nat) (T : Nat → Lc) (g : Nat) (pa : Option Addr) (pc : Nat) (p : Lc) (w : World) (hn : n ≤ 1048576) (hR : RowLK a n T w) (hl : LowL n T) (hp : p.n ≤ 1048576) (hP : RowInt pa p.n p.f w) (hgl : g < w.heap.size) (hg : w.cell? ⟨g, 0, none⟩ = some (.slice pa p.n pc)) :
    Calls Try.prog 126 #[.slice a n c, .func (.func 131) #[] #[.pointer (some ⟨g, 0, none⟩)]] w fun e w' => e = .returned (.int .i64 (fI (fun k => Same (T k) p) n)) ∧ Below w.heap.size w w' := by
  have hT : Hid (∀ k, k < n → Same (T k) p → (∀ j, j < k → ¬ (fun k => Same (T k) p) j) → fI (fun k => Same (T k) p) n = (k : Int)) := fun k h1 h2 h3 => fI_first h1 h2 h3
  have hF : Hid ((∀ k, k < n → ¬ Same (T k) p) → fI (fun k => Same (T k) p) n = -1) := fun h => fI_none h
  generalize fI (fun k => Same (T k) p) n = r at *
  go_enter Try.func126, Try.ntmps126
  go_wp2_with fail
  go_loopw [8] (fun y wr => ∃ k : Nat, y = .int .i64 k ∧ k ≤ n ∧ Hid (∀ k', k' < k → ¬ (fun k => Same (T k) p) k') ∧ Below w.heap.size w wr) (fun y _ => n - (intOf y).toNat)
  case atStart => exact ⟨0, rfl, Nat.zero_le _, fun j hj => absurd hj (by omega), Below.refl _ _⟩
  case round =>
    obtain ⟨k, rfl, hk, hall, hb⟩ := hrel
    by_cases hlt : k < n
    · obtain ⟨b1, off1, a1, c1, rfl, hb1, u1, hc1, ht1⟩ := hR k hlt
      replace u1 := (hb.cell (p := ⟨b1, off1 + k, none⟩) hb1).trans u1
      have hlt' : (k : Int) < (n : Int) := by omega
      have R1 := hide (ht1.below hb)
      have SS := hide (fun w R Q G => i_like10 a1 c1 (T k) g pa pc p w (hl k hlt) hp R Q G)
      have Q1 := hide (hP.below hb)
      have G1 := hide ((hb.cell (p := ⟨g, 0, none⟩) hgl).trans hg)
      by_cases he : Same (T k) p
      · rw [pB_t he] at SS
        have hE := hide (hT.out k hlt he hall.out)
        clear hall hT hF hR ht1 he
        generalize (T k).n = tn at *
        go_wp2_with (first | (go_at_call 131; refine (SS.out _ R1.out Q1.out G1.out).mono ?_; rintro e w3 ⟨rfl, b3⟩; have d3 := hb.trans (b3.mono hb.size)))
        go_ret
        exact ⟨by rw [hE.out]; rfl, d3⟩
      · rw [pB_f he] at SS
        have hN : Hid (∀ k', k' < k + 1 → ¬ (fun k => Same (T k) p) k') := fun j hj => by
          by_cases e : j = k
          · subst e; exact he
          · exact hall.out j (by omega)
        clear hall hT hF hR ht1 he
        generalize (T k).n = tn at *
        go_wp2_with (first | (go_at_call 131; refine (SS.out _ R1.out Q1.out G1.out).mono ?_; rintro e w3 ⟨rfl, b3⟩; have d3 := hb.trans (b3.mono hb.size)))
        exact ⟨⟨k + 1, by go_num, by omega, hN, d3⟩, by simp [intOf]; omega⟩
    · have hlt' : ¬ (k : Int) < (n : Int) := by omega
      obtain rfl : k = n := by omega
      have hE := hide (hF.out hall.out)
      clear hall hT hF
      go_wp2_with fail
      go_ret
      exact ⟨by rw [hE.out]; rfl, hb⟩
set_option maxRecDepth 100000 in
set_option maxHeartbeats 1600000 in
theorem i_rank10 (a : Option Addr) (N c : Nat) (U : Nat → Pl) (v : Nat) (pa : Option Addr) (pc : Nat) (p : Lc) (w : World) (hN : N ≤ 1048576) (hx : p.f 0 = (v : Int) + 1) (hv : v < N) (hU : (U v).n ≤ 1048576) (hl : LowL (U v).n (U v).T) (hp0 : 0 < p.n) (hp : p.n ≤ 1048576) (hR : RowK3 a N U w) (hP : RowInt pa p.n p.f w) :
    Calls Try.prog 88 #[.agg #[.slice a N c], .slice pa p.n pc] w fun e w' => e = .returned (.int .i64 (rk U v p)) ∧ Below w.heap.size w w' := by
  have hmf : ∀ (fn : Fn) (first cap : Array Value) (w : World), (Instr.makeFunc fn first cap).run Try.prog w = .ok (.func fn first cap) w := fun _ _ _ _ => rfl
  have dX : Below w.heap.size w ((w.alloc (.cells #[.slice a N c] 27)).alloc (.cells #[.slice pa p.n pc] 31)) := below_box2 (Below.refl _ _)
  have M1 := (Mut.new w #[.slice a N c] 27).alloc (.cells #[.slice pa p.n pc] 31)
  have M2 := Mut.new (w.alloc (.cells #[.slice a N c] 27)) #[.slice pa p.n pc] 31
  obtain ⟨b, off, a0, q0, rfl, hbw, u0, hq0, ht⟩ := hR v hv
  replace u0 := (dX.cell (p := ⟨b, off + v, none⟩) hbw).trans u0
  obtain ⟨b', off', rfl, hbw', h0⟩ := hP 0 hp0
  rw [hx] at h0
  replace h0 := (dX.cell (p := ⟨b', off' + 0, none⟩) hbw').trans h0
  rw [Nat.add_zero] at h0
  have hv' : (v : Int) < (N : Int) := by omega
  have e1 : (v : Int) + 1 - 1 = (v : Int) := by omega
  have hp0' : (0 : Int) < (p.n : Int) := by omega
  have I : Hid (∀ g w', RowLK a0 (U v).n (U v).T w' → RowInt (some ⟨b', off', none⟩) p.n p.f w' → g < w'.heap.size → w'.cell? ⟨g, 0, none⟩ = some (.slice (some ⟨b', off', none⟩) p.n pc) → Calls Try.prog 126 #[.slice a0 (U v).n q0, .func (.func 131) #[] #[.pointer (some ⟨g, 0, none⟩)]] w' fun e w'' => e = .returned (.int .i64 (rk U v p)) ∧ Below w'.heap.size w' w'') :=
    fun g w' R Q gl G => i_idxLike a0 (U v).n q0 (U v).T g (some ⟨b', off', none⟩) pc p w' hU R hl hp Q gl G
  generalize rk U v p = r at *
  have R1 := hide (ht.below dX)
  have Q1 := hide (hP.below dX)
  clear hR hl hP ht hU
  generalize (U v).n = m at *
  generalize p.n = pn at *
  go_enter Try.func88, Try.ntmps88
  go_wp2_with fail
  have hsz : w.heap.size + 1 < ((w.alloc (.cells #[.slice (some ⟨b, off, none⟩) N c] 27)).alloc (.cells #[.slice (some ⟨b', off', none⟩) pn pc] 31)).heap.size := by simp
  have c0 := M1.2.1 0 _ rfl
  have c1 := M2.2.1 0 _ rfl
  simp only [World.size_alloc] at c1
  generalize (w.alloc (.cells #[.slice (some ⟨b, off, none⟩) N c] 27)).alloc (.cells #[.slice (some ⟨b', off', none⟩) pn pc] 31) = wx at *
  clear M1 M2
  generalize hz : w.heap.size = z at *
  have d0 : Below wx.heap.size wx wx := Below.refl _ _
  have k0 := cell_regrown c0
  have k1 := cell_regrown c1
  have k2 := cell_regrown u0
  have k3 := cell_regrown h0
  clear c0 u0 h0
  refine wp_region_quiet_below (by kernel_rfl) (by kernel_rfl) ?_
  repeat (first | go_big_quiet_step ((first | (go_at_call 126; exact Calls.regrown_of (I.out _ _ (R1.out.below (below_regrown _ _ _)) (Q1.out.below (below_regrown _ _ _)) (Nat.lt_of_lt_of_le hsz (below_regrown _ _ _).size) (cell_regrown c1 _ _))))) | quiet_step ((first | (go_at_call 126; exact Calls.regrown_of (I.out _ _ (R1.out.below (below_regrown _ _ _)) (Q1.out.below (below_regrown _ _ _)) (Nat.lt_of_lt_of_le hsz (below_regrown _ _ _).size) (cell_regrown c1 _ _))))))
  refine wpQuiet_nil ?_
  intro _ hw'
  obtain ⟨⟨dq_, osq_⟩, hw''⟩ := hw'
  subst hw''
  have hq_ := below_regrown wx dq_ osq_
  generalize Go.Sort.grow (redrawn wx dq_) osq_ = wdq at hq_ ⊢
  have dq := d0.trans (hq_.mono d0.size)
  clear hq_ 
  go_wp2_with fail
  go_ret
  exact ⟨rfl, by rw [hz]; exact dX.trans (dq.mono (by omega))⟩
set_option maxRecDepth 100000 in
set_option maxHeartbeats 800000 in
theorem i_rest10 (b off pc : Nat) (n : Nat) (w : World) (hn : 2 ≤ n) (hc : n ≤ pc) (hp : n ≤ 1048576) :
    Calls Try.prog 87 #[.slice (some ⟨b, off, none⟩) n pc] w fun e w' => e = .returned (.tuple #[.slice (some ⟨b, off + 1, none⟩) (n - 1) (pc - 1), .bool (decide ((2 : Int) < (n : Int)))]) ∧ w' = w := by
  have h1 : (1 : Int) ≤ (n : Int) := by omega
  have h2 : (n : Int) ≤ (pc : Int) := by omega
  have h3 : pc ≠ 1 := by omega
  have h4 : n ≠ 0 := by omega
  go_enter Try.func87, Try.ntmps87
  go_wp2_with fail
  go_ret2
  exact ⟨rfl, rfl⟩
set_option maxRecDepth 100000 in
set_option maxHeartbeats 800000 in
theorem i_way10 (N : Nat) (v : Int) (pa : Option Addr) (pc : Nat) (p : Lc) (w : World) (hp : p.n ≤ 1048576) (hc : p.n ≤ pc) (hP : RowInt pa p.n p.f w) :
    Calls Try.prog 125 #[.int .i64 N, .int .i64 v, .slice pa p.n pc] w fun e w' => e = .returned (.bool (pB (Way N v p))) ∧ w' = w := by
  have hT : Hid (Way N v p → pB (Way N v p) = true) := pB_t
  have hF : Hid (¬ Way N v p → pB (Way N v p) = false) := pB_f
  generalize pB (Way N v p) = r at *
  have HA := hide (fun k w R => i_has10 pa k pc p.f (p.f k) w R)
  by_cases h0 : p.n < 2
  · have hE := hide (hF.out (fun h => by have := h.1; omega))
    clear hT hF hP HA
    generalize p.n = n at *
    have h0' : (n : Int) < 2 := by omega
    go_enter Try.func125, Try.ntmps125
    go_wp2_with fail
    go_ret
    exact ⟨by rw [hE.out]; rfl, rfl⟩
  · have h0' : ¬ (p.n : Int) < 2 := by omega
    obtain ⟨b, off, rfl, hb, c0⟩ := hP 0 (by omega)
    rw [Nat.add_zero] at c0
    obtain ⟨b1, off1, hab, hb1, c1⟩ := hP (p.n - 1) (by omega)
    simp only [Option.some.injEq, Addr.mk.injEq, and_true] at hab
    obtain ⟨rfl, rfl⟩ := hab
    have hpos : (0 : Int) < (p.n : Int) := by omega
    have e2 : (p.n : Int) - 1 = ((p.n - 1 : Nat) : Int) := by omega
    by_cases hv : p.f 0 = v
    · have hv' : (p.f 0 != v) = false := by simp [hv]
      by_cases hz : p.f (p.n - 1) = 0
      · have hz' : (p.f (p.n - 1) != 0) = false := by simp [hz]
        have hT' : Hid ((∀ i, i < p.n → (0 ≤ p.f i ∧ p.f i ≤ (N : Int)) ∧ ∀ j, j < i → p.f j ≠ p.f i) → r = true) := fun h => hT.out ⟨by omega, hv, hz, fun i hi => (h i hi).1, fun i hi => (h i hi).2⟩
        have hF' : Hid (∀ i, i < p.n → ¬ ((0 ≤ p.f i ∧ p.f i ≤ (N : Int)) ∧ ∀ j, j < i → p.f j ≠ p.f i) → r = false) := fun i hi h => hF.out (fun k => h ⟨k.2.2.2.1 i hi, k.2.2.2.2 i hi⟩)
        clear hT hF hv hz
        generalize hx : p.f (p.n - 1) = x at *
        generalize hy : p.f 0 = y at *
        clear hx hy
        generalize hl : p.n - 1 = l at *
        have hln : (l : Int) < (p.n : Int) := by omega
        generalize p.n = n at *
        go_enter Try.func125, Try.ntmps125
        go_wp2_with fail
        clear c0 c1 hv' hz'
        go_loop [30] (fun i => ∃ k : Nat, i = .int .i64 k ∧ k ≤ n ∧ Hid (∀ i, i < k → (0 ≤ p.f i ∧ p.f i ≤ (N : Int)) ∧ ∀ j, j < i → p.f j ≠ p.f i)) (fun i => n - (intOf i).toNat)
        case atStart => exact ⟨0, rfl, Nat.zero_le _, fun i hi => absurd hi (by omega)⟩
        case round =>
          obtain ⟨k, rfl, hk, hall⟩ := hrel
          by_cases hlt : k < n
          · obtain ⟨b1, off1, hab, hb1, c1⟩ := hP k hlt
            simp only [Option.some.injEq, Addr.mk.injEq, and_true] at hab
            obtain ⟨rfl, rfl⟩ := hab
            have hlt' : (k : Int) < (n : Int) := by omega
            have hkc : (k : Int) ≤ (pc : Int) := by omega
            by_cases g0 : p.f k < 0
            · have hE := hide (hF'.out k hlt (fun h => by have := h.1.1; omega))
              clear hT' hF' hall HA hP
              generalize p.f k = z at *
              go_wp2_with fail
              go_ret
              exact ⟨by rw [hE.out]; rfl, rfl⟩
            · by_cases g1 : p.f k > (N : Int)
              · have hE := hide (hF'.out k hlt (fun h => by have := h.1.2; omega))
                clear hT' hF' hall HA hP
                generalize p.f k = z at *
                go_wp2_with fail
                go_ret
                exact ⟨by rw [hE.out]; rfl, rfl⟩
              · have HK := hide (fun w R => HA.out k w (by omega) R)
                have RK := hide (hP.take hk)
                by_cases g2 : ∃ i, i < k ∧ p.f i = p.f k
                · rw [pB_t g2] at HK
                  have hE := hide (hF'.out k hlt (fun h => by obtain ⟨i, hi, he⟩ := g2; exact h.2 i hi he))
                  clear hT' hF' hall HA hP g2
                  generalize p.f k = z at *
                  go_wp2_with fail
                  refine (HK.out _ RK.out).mono ?_
                  rintro e w3 ⟨rfl, rfl⟩
                  go_wp2_with fail
                  go_ret
                  exact ⟨by rw [hE.out]; rfl, rfl⟩
                · rw [pB_f g2] at HK
                  have hN : Hid (∀ i, i < k + 1 → (0 ≤ p.f i ∧ p.f i ≤ (N : Int)) ∧ ∀ j, j < i → p.f j ≠ p.f i) := fun i hi => by
                    by_cases e : i = k
                    · subst e; exact ⟨⟨by omega, by omega⟩, fun j hj he => g2 ⟨j, hj, he⟩⟩
                    · exact hall.out i (by omega)
                  clear hT' hF' hall HA hP g2
                  generalize p.f k = z at *
                  go_wp2_with fail
                  refine (HK.out _ RK.out).mono ?_
                  rintro e w3 ⟨rfl, rfl⟩
                  go_wp2_with fail
                  exact ⟨⟨k + 1, by go_num, by omega, hN⟩, by simp [intOf]; omega⟩
          · have hlt' : ¬ (k : Int) < (n : Int) := by omega
            obtain rfl : k = n := by omega
            have hE := hide (hT'.out hall.out)
            clear hall hT' hF'
            go_wp2_with fail
            go_ret
            exact ⟨by rw [hE.out]; rfl, rfl⟩
      · have hz' : (p.f (p.n - 1) != 0) = true := by simpa using hz
        have hE := hide (hF.out (fun h => hz h.2.2.1))
        clear hT hF hv hz hP HA
        generalize hx : p.f (p.n - 1) = x at *
        generalize hy : p.f 0 = y at *
        clear hx hy
        generalize hl : p.n - 1 = l at *
        have hln : (l : Int) < (p.n : Int) := by omega
        generalize p.n = n at *
        go_enter Try.func125, Try.ntmps125
        go_wp2_with fail
        go_ret
        exact ⟨by rw [hE.out]; rfl, rfl⟩
    · have hv' : (p.f 0 != v) = true := by simpa using hv
      have hE := hide (hF.out (fun h => hv h.2.1))
      clear hT hF hv hP HA c1
      generalize p.f 0 = y at *
      generalize p.n = n at *
      go_enter Try.func125, Try.ntmps125
      go_wp2_with fail
      go_ret
      exact ⟨by rw [hE.out]; rfl, rfl⟩
end Go.Proofs.Ytcnlabedlcmilaa
