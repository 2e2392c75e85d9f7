/- DoCommands of the program. -/
import Derived.Test.YtcfmnfoognopnaaI15n
namespace Go.Proofs.Ytcfmnfoognopnaa
open Go.RowKit

set_option maxRecDepth 100000 in
set_option maxHeartbeats 600000 in
theorem i_doCommands (a : Option Addr) (N c : Nat) (T : Nat → Lf) (a1 : Option Addr) (m c1 : Nat) (C : Nat → Cm15) (w : World) (hN : N ≤ 1048576) (hl : LowF N T) (hm : m ≤ 1048576) (hR : RowF true a N T w) (hC : RowC a1 m C w) :
    Calls Try.prog 22 #[.slice a N c, .slice a1 m c1] w fun e w' => ∃ u, e = .returned (.tuple #[u, .bool (docA N T m C).2]) ∧ ∃ L, LsF w.heap.size u L w' ∧ L.map (·.t) = (docA N T m C).1 ∧ Below w.heap.size w w' := by
  have hY : Hid (GC N T → m ≤ 80 → docA N T m C = runC C (lsF N T) m) := fun h g => if_pos (tB_t ⟨h, g⟩)
  have hZ : Hid (¬ (GC N T ∧ m ≤ 80) → docA N T m C = ([], false)) := fun h => if_neg (by simp [tB_f h])
  have G := hide (fun w R => i_goodConfig a N c T w hN hl R)
  have OW := hide (fun w h2 R => i_ownLeaves a N c T w hN h2 R)
  have DO := hide (fun a c D bs n p v a1 c1 w h1 h2 R Q => i_doCommand a c D bs n p v a1 c1 w h1 h2 R Q)
  generalize docA N T m C = GA at *
  go_enter Try.func22, Try.ntmps22
  go_wp2_with fail
  refine (G.out _ hR).mono ?_
  rintro e w1 ⟨rfl, b1⟩
  clear G
  by_cases hg : GC N T
  case neg =>
    rw [tB_f hg]
    have hE := hide (hZ.out (fun h => hg h.1))
    clear hY hZ OW DO
    go_wp2_with fail
    exact bodyPost_ret (v := .tuple #[.slice none 0 0, .bool GA.2]) (by rw [hE.out]; simp [results, Try.results22, go_sem]) rfl ⟨_, rfl, [], LsF.nil _ _, by rw [hE.out]; rfl, b1⟩
  rw [tB_t hg]
  by_cases h80 : m ≤ 80
  case neg =>
    have k80 : (m : Int) > 80 := by omega
    have hE := hide (hZ.out (fun h => h80 h.2))
    clear hY hZ OW DO
    go_wp2_with fail
    exact bodyPost_ret (v := .tuple #[.slice none 0 0, .bool GA.2]) (by rw [hE.out]; simp [results, Try.results22, go_sem]) rfl ⟨_, rfl, [], LsF.nil _ _, by rw [hE.out]; rfl, b1⟩
  have k80 : ¬ (m : Int) > 80 := by omega
  have hE := hide (hY.out hg h80)
  have hok := hide (fun k => runC_ok C (okD_lsF hg) k)
  have hT1 : Hid (∀ i, i < N → 1 ≤ (T i).n ∧ (T i).n ≤ 1048576) := fun i hi => by
    have h1 := (hg.1 i hi).1.1
    have h2 := (hg.1 i hi).1.2.1
    omega
  clear hY hZ hg hl
  go_wp2_with fail
  refine (OW.out _ hT1.out (hR.below b1).any).mono ?_
  rintro e w2 ⟨v0, rfl, L0, hL0, hm0, b2⟩
  have d2 := below_step b1 b2
  replace hL0 := hL0.base b1.size
  have hC1 := hC.below d2
  clear b1 b2 OW hT1 hR hC
  go_wp2_with fail
  go_loopw [6, 8, 9, 10, 23] (fun x _ _ _ y wr => ∃ (k : Nat) (L : List El15), y = .int .i64 k ∧ k ≤ m ∧ LsF w.heap.size x L wr ∧ Hid (L.map (·.t) = (runC C (lsF N T) k).1) ∧ Hid ((runC C (lsF N T) k).2 = true) ∧ RowC a1 m C wr ∧ Below w.heap.size w wr) (fun _ _ _ _ y _ => m - (intOf y).toNat)
  case atStart => exact ⟨0, L0, rfl, Nat.zero_le _, hL0, hm0, rfl, hC1, d2⟩
  case round =>
    clear hL0 hm0 hC1 d2
    obtain ⟨k, L, rfl, hk, hL, hmL, hyes, hCr, hb⟩ := hrel
    by_cases hlt : k < m
    · obtain ⟨b0, off, a0, c0, rfl, hbw, us, u0, u1, hc0, R0⟩ := hCr k hlt
      have hlt' : (k : Int) < (m : Int) := by omega
      have hnx := hide (runC_next hyes.out)
      have hokD := hide (hok.out k)
      have hstop := hide (fun (h : (runC C (lsF N T) (k + 1)).2 = false) => (show runC C (lsF N T) m = ([], false) by have := runC_stop h (m - (k + 1)); rwa [show k + 1 + (m - (k + 1)) = m by omega] at this))
      generalize hK1 : runC C (lsF N T) (k + 1) = X1 at *
      generalize hK0 : (runC C (lsF N T) k).1 = D0 at *
      clear hK0
      obtain ⟨va, vc, rfl, hrow⟩ := hL.row
      have hlen : L.length = D0.length := by rw [← hmL.out]; simp
      rw [hmL.out, hlen] at hrow
      have hbs := hb.size
      have bB : Below wr.heap.size wr (wr.alloc (.cells #[.bool (C k).s, .slice a0 (C k).t.n c0, .string (C k).t.v] 48)) := below_box (Below.refl _ _)
      have d1 := below_step hb bB
      have MB := Mut.new wr #[.bool (C k).s, .slice a0 (C k).t.n c0, .string (C k).t.v] 48
      have q0 := MB.2.1 0 _ rfl
      have q1 := MB.2.1 1 _ rfl
      have q2 := MB.2.1 2 _ rfl
      have hrow1 := hrow.below bB
      have R1 := R0.below bB
      have hC2 := hCr.below bB
      have S := hide (DO.out va vc D0 (C k).s (C k).t.n (C k).t.p (C k).t.v a0 c0 _ hokD.out hc0 hrow1 R1)
      clear hrow hrow1 R0 R1 hCr DO hok hokD hmL hyes hL bB
      generalize hcs : (C k).s = cs at *
      generalize hct : (C k).t = ct at *
      obtain ⟨tn, tp, tv⟩ := ct
      have hnx2 : Hid (X1 = stepC ⟨cs, ⟨tn, tp, tv⟩⟩ D0) := by
        show _ = _
        rw [hnx.out]
        congr 1
        rw [← hcs, ← hct]
      clear hnx hcs hct
      dsimp only at *
      go_wp2_with fail
      generalize wr.alloc (.cells #[.bool cs, .slice a0 tn c0, .string tv] 48) = w3 at *
      refine (S.out).mono ?_
      rintro e w4 ⟨u, rfl, L9, hL9, hm9, b4⟩
      rw [← hnx2.out] at hm9
      rw [← hnx2.out]
      have d4 := below_step d1 b4
      have hC4 := hC2.below b4
      replace hL9 := hL9.base d1.size
      have hm9 := hide hm9
      clear S b4 hC2 d1 hnx2 MB q0 q1 q2
      by_cases hd : X1.2 = true
      · rw [hd]
        go_wp2_with fail
        exact ⟨⟨k + 1, L9, by go_num, by omega, hL9, by rw [hK1]; exact hm9.out, by rw [hK1]; exact hd, hC4, d4⟩, by simp [intOf]; omega⟩
      · have hd' : X1.2 = false := by simpa using hd
        rw [hd']
        have hE2 := hide (hE.out.trans (hstop.out hd'))
        clear hE hstop hK1
        go_wp2_with fail
        exact bodyPost_ret (v := .tuple #[.slice none 0 0, .bool GA.2]) (by rw [hE2.out]; simp [results, Try.results22, go_sem]) rfl ⟨_, rfl, [], LsF.nil _ _, by rw [hE2.out]; rfl, d4⟩
    · have hlt' : ¬ (k : Int) < (m : Int) := by omega
      obtain rfl : k = m := by omega
      have hE2 : Hid (GA.2 = true) := by show _ = _; rw [hE.out]; exact hyes.out
      clear hok hyes DO
      obtain ⟨va, vc, rfl, _⟩ := hL.row
      go_wp2_with fail
      exact bodyPost_ret (v := .tuple #[.slice va L.length vc, .bool GA.2]) (by rw [hE2.out]; simp [results, Try.results22, go_sem]) rfl ⟨_, rfl, L, hL, by rw [hE.out]; exact hmL.out, hb⟩
end Go.Proofs.Ytcfmnfoognopnaa
