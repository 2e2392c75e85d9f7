/- DoCommands of the specification. -/
import Derived.Test.YtcfmnfoognopnaaS15m
import Derived.Test.YtcfmnfoognopnaaS15f
import Derived.Test.YtcfmnfoognopnaaPlain15e
namespace Go.Proofs.Ytcfmnfoognopnaa
open Go.RowKit

set_option maxRecDepth 100000 in
set_option maxHeartbeats 800000 in
theorem s_doCommands (a : Option Addr) (N c : Nat) (T : Nat → Lf) (a1 : Option Addr) (m c1 : Nat) (C : Nat → Cm15) (w : World) (hN : N ≤ 1048576) (hl : LowF N T) (hm : m ≤ 1048576) (hlc : ∀ i, i < m → OkF (C i).t 1048576) (hR : RowF true a N T w) (hC : RowC a1 m C w) :
    Calls Try.prog 20 #[.slice a N c, .slice a1 m c1] w fun e w' => ∃ u, e = .returned (.tuple #[u, .bool (docA N T m C).2]) ∧ ∃ L, LsF w.heap.size u L w' ∧ L.map (·.t) = (docA N T m C).1 ∧ Below w.heap.size w w' := by
  have hY : Hid (GC N T → m ≤ 80 → docA N T m C = runC C (lsF N T) m) := fun h g => if_pos (tB_t ⟨h, g⟩)
  have hZ : Hid (¬ (GC N T ∧ m ≤ 80) → docA N T m C = ([], false)) := fun h => if_neg (by simp [tB_f h])
  have G := hide (fun w R => s_goodConfig a N c T w hN hl R)
  have OW := hide (fun w h2 R => s_own15 a N c T w hN h2 R)
  generalize docA N T m C = GA at *
  go_enter Try.func20, Try.ntmps20
  go_wp2_with fail
  refine (G.out _ hR).mono ?_
  rintro e w1 ⟨rfl, b1⟩
  clear G
  by_cases hg : GC N T
  case neg =>
    rw [tB_f hg]
    have hE := hide (hZ.out (fun h => hg h.1))
    clear hY hZ OW
    go_wp2_with fail
    exact bodyPost_ret (v := .tuple #[.slice none 0 0, .bool GA.2]) (by rw [hE.out]; simp [results, Try.results20, go_sem]) rfl ⟨_, rfl, [], LsF.nil _ _, by rw [hE.out]; rfl, b1⟩
  rw [tB_t hg]
  by_cases h80 : m ≤ 80
  case neg =>
    have k80 : (m : Int) > 80 := by omega
    have hE := hide (hZ.out (fun h => h80 h.2))
    clear hY hZ OW
    go_wp2_with fail
    exact bodyPost_ret (v := .tuple #[.slice none 0 0, .bool GA.2]) (by rw [hE.out]; simp [results, Try.results20, go_sem]) rfl ⟨_, rfl, [], LsF.nil _ _, by rw [hE.out]; rfl, b1⟩
  have k80 : ¬ (m : Int) > 80 := by omega
  have hE := hide (hY.out hg h80)
  have hok := hide (fun k => runC_ok C (okD_lsF hg) k)
  have hT1 : Hid (∀ i, i < N → 1 ≤ (T i).n ∧ (T i).n ≤ 1048576) := fun i hi => by
    have h1 := (hg.1 i hi).1.1
    have h2 := (hg.1 i hi).1.2.1
    omega
  clear hY hZ hg hl
  go_wp2_with fail
  refine (OW.out _ hT1.out (hR.below b1).any).mono ?_
  rintro e w2 ⟨v0, rfl, L0, hL0, hm0, b2⟩
  have d2 := below_step b1 b2
  replace hL0 := hL0.base b1.size
  have hC1 := hC.below d2
  clear b1 b2 OW hT1 hR hC
  go_wp2_with fail
  go_loopw [6, 8, 9, 22] (fun x _ _ y wr => ∃ (k : Nat) (L : List El15), y = .int .i64 k ∧ k ≤ m ∧ LsF w.heap.size x L wr ∧ Hid (L.map (·.t) = (runC C (lsF N T) k).1) ∧ Hid ((runC C (lsF N T) k).2 = true) ∧ RowC a1 m C wr ∧ Below w.heap.size w wr) (fun _ _ _ y _ => m - (intOf y).toNat)
  case atStart => exact ⟨0, L0, rfl, Nat.zero_le _, hL0, hm0, rfl, hC1, d2⟩
  case round =>
    clear hL0 hm0 hC1 d2
    obtain ⟨k, L, rfl, hk, hL, hmL, hyes, hCr, hb⟩ := hrel
    by_cases hlt : k < m
    · obtain ⟨b0, off, a0, c0, rfl, hbw, us, u0, u1, hc0, R0⟩ := hCr k hlt
      have hlt' : (k : Int) < (m : Int) := by omega
      have hnx := hide (runC_next hyes.out)
      have hokD := hide (hok.out k)
      have hstop := hide (fun (h : (runC C (lsF N T) (k + 1)).2 = false) => (show runC C (lsF N T) m = ([], false) by have := runC_stop h (m - (k + 1)); rwa [show k + 1 + (m - (k + 1)) = m by omega] at this))
      generalize hK1 : runC C (lsF N T) (k + 1) = X1 at *
      generalize hK0 : (runC C (lsF N T) k).1 = D0 at *
      clear hK0
      obtain ⟨va, vc, rfl, hrow⟩ := hL.row
      have hlen : L.length = D0.length := by rw [← hmL.out]; simp
      rw [hmL.out, hlen] at hrow
      have hbs := hb.size
      have bB : Below wr.heap.size wr (wr.alloc (.cells #[.bool (C k).s, .slice a0 (C k).t.n c0, .string (C k).t.v] 48)) := below_box (Below.refl _ _)
      have d1 := below_step hb bB
      have MB := Mut.new wr #[.bool (C k).s, .slice a0 (C k).t.n c0, .string (C k).t.v] 48
      have q0 := MB.2.1 0 _ rfl
      have q1 := MB.2.1 1 _ rfl
      have q2 := MB.2.1 2 _ rfl
      have hrow1 := hrow.below bB
      have R1 := R0.below bB
      have hC2 := hCr.below bB
      have hlD := hokD.out.low
      have hND : D0.length ≤ 1048576 := by have := hokD.out.1; omega
      have lk := hlc k hlt
      have SET := hide (s_setAt va D0.length vc (TF D0) a0 (C k).t.n c0 (C k).t.p (C k).t.v _ hND hlD lk.1 (fun i hi => Nat.le_trans (lk.2.1 i hi) (by unfold maxLen; omega)) (Nat.le_trans lk.2.2 (by unfold maxLen; omega)) hrow1 R1)
      have DEL := hide (s_deleteAt va D0.length vc (TF D0) a0 (C k).t.n c0 (C k).t.p _ hND hlD lk.1 (fun i hi => Nat.le_trans (lk.2.1 i hi) (by unfold maxLen; omega)) hrow1 R1)
      have hs1 : Hid ((C k).s = true → stepC (C k) D0 = setA D0.length (TF D0) (C k).t.n (C k).t.p (C k).t.v) := fun h => if_pos h
      have hs2 : Hid ((C k).s = false → (C k).t.v.toList = [] → stepC (C k) D0 = delA D0.length (TF D0) (C k).t.n (C k).t.p) := fun h k => by
        unfold stepC; rw [if_neg (by simp [h]), if_pos k]
      have hs3 : Hid ((C k).s = false → ¬ (C k).t.v.toList = [] → stepC (C k) D0 = ([], false)) := fun h k => by
        unfold stepC; rw [if_neg (by simp [h]), if_neg k]
      rw [← hnx.out] at hs1 hs2 hs3
      generalize hG1 : setA D0.length (TF D0) (C k).t.n (C k).t.p (C k).t.v = G1 at *
      generalize hG2 : delA D0.length (TF D0) (C k).t.n (C k).t.p = G2 at *
      clear hG1 hG2 hlD hND lk hlc hrow hrow1 R0 R1 hCr hok hokD hmL hyes hL bB hnx
      generalize (C k).s = cs at *
      generalize (C k).t = ct at *
      obtain ⟨tn, tp, tv⟩ := ct
      dsimp only at *
      cases cs
      · by_cases kN : tv.toList = []
        · have kE : tv.toList.isEmpty = true := by simpa using kN
          have hX := hide (hs2.out rfl kN)
          clear SET hs1 hs2 hs3
          go_wp2_with fail
          generalize wr.alloc (.cells #[.bool false, .slice a0 tn c0, .string tv] 48) = w3 at *
          refine (DEL.out).mono ?_
          rintro e w4 ⟨u, rfl, L9, hL9, hm9, b4⟩
          have d4 := below_step d1 b4
          have hC4 := hC2.below b4
          replace hL9 := hL9.base d1.size
          have hm9 := hide hm9
          clear DEL b4 hC2 d1 MB q0 q1 q2
          by_cases hd : G2.2 = true
          · rw [hd]
            go_wp2_with fail
            exact ⟨⟨k + 1, L9, by go_num, by omega, hL9, by rw [hK1, hX.out]; exact hm9.out, by rw [hK1, hX.out]; exact hd, hC4, d4⟩, by simp [intOf]; omega⟩
          · have hd' : G2.2 = false := by simpa using hd
            rw [hd']
            have hE2 := hide (hE.out.trans (hstop.out (by rw [hX.out]; exact hd')))
            clear hE hstop hK1 hX
            go_wp2_with fail
            exact bodyPost_ret (v := .tuple #[.slice none 0 0, .bool GA.2]) (by rw [hE2.out]; simp [results, Try.results20, go_sem]) rfl ⟨_, rfl, [], LsF.nil _ _, by rw [hE2.out]; rfl, d4⟩
        · have kE : tv.toList.isEmpty = false := by simpa using kN
          have hE2 := hide (hE.out.trans (hstop.out (by rw [hs3.out rfl kN])))
          clear SET DEL hs1 hs2 hs3 hE hstop hK1
          go_wp2_with fail
          exact bodyPost_ret (v := .tuple #[.slice none 0 0, .bool GA.2]) (by rw [hE2.out]; simp [results, Try.results20, go_sem]) rfl ⟨_, rfl, [], LsF.nil _ _, by rw [hE2.out]; rfl, d1⟩
      · have hX := hide (hs1.out rfl)
        clear DEL hs1 hs2 hs3
        go_wp2_with fail
        generalize wr.alloc (.cells #[.bool true, .slice a0 tn c0, .string tv] 48) = w3 at *
        refine (SET.out).mono ?_
        rintro e w4 ⟨u, rfl, L9, hL9, hm9, b4⟩
        have d4 := below_step d1 b4
        have hC4 := hC2.below b4
        replace hL9 := hL9.base d1.size
        have hm9 := hide hm9
        clear SET b4 hC2 d1 MB q0 q1 q2
        by_cases hd : G1.2 = true
        · rw [hd]
          go_wp2_with fail
          exact ⟨⟨k + 1, L9, by go_num, by omega, hL9, by rw [hK1, hX.out]; exact hm9.out, by rw [hK1, hX.out]; exact hd, hC4, d4⟩, by simp [intOf]; omega⟩
        · have hd' : G1.2 = false := by simpa using hd
          rw [hd']
          have hE2 := hide (hE.out.trans (hstop.out (by rw [hX.out]; exact hd')))
          clear hE hstop hK1 hX
          go_wp2_with fail
          exact bodyPost_ret (v := .tuple #[.slice none 0 0, .bool GA.2]) (by rw [hE2.out]; simp [results, Try.results20, go_sem]) rfl ⟨_, rfl, [], LsF.nil _ _, by rw [hE2.out]; rfl, d4⟩
    · have hlt' : ¬ (k : Int) < (m : Int) := by omega
      obtain rfl : k = m := by omega
      have hE2 : Hid (GA.2 = true) := by show _ = _; rw [hE.out]; exact hyes.out
      clear hok hyes
      obtain ⟨va, vc, rfl, _⟩ := hL.row
      go_wp2_with fail
      exact bodyPost_ret (v := .tuple #[.slice va L.length vc, .bool GA.2]) (by rw [hE2.out]; simp [results, Try.results20, go_sem]) rfl ⟨_, rfl, L, hL, by rw [hE.out]; exact hmL.out, hb⟩
end Go.Proofs.Ytcfmnfoognopnaa
