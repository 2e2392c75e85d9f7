/- PathsTo of the program. -/
import Derived.Test.YtcnlabedlcmilaaI9q
namespace Go.Proofs.Ytcnlabedlcmilaa
open Go.RowKit
set_option maxRecDepth 100000 in
set_option maxHeartbeats 1600000 in
theorem i_pathsToE (g : Int) (a : Option Addr) (m c : Nat) (T : Nat → Lc) (ra : Option Addr) (n rc : Nat) (f0 f1 f2 : Nat → Int) (t : Int) (w : World) (hm : m ≤ 1048576) (hl : LowL m T) (hR : RowLL a m T w) (hn : n ≤ 1048576) (hA : RowArc ra n f0 f1 f2 w) :
    Calls Try.prog 53 #[.agg #[.int .i64 g, .slice a m c], .slice ra n rc, .int .i64 t] w fun e w' => ∃ v, e = .returned (.tuple #[v, .bool (ptB g m T n f0 f1 f2 t)]) ∧ AnsL w.heap.size v (ptR g m T n f0 f1 f2 t) w' ∧ Below w.heap.size w w' := by
  have SA := hide (fun w R A => i_goodNet g a m c T ra n rc f0 f1 f2 w hm hl R hn A)
  have SI := hide (fun w => i_isSpeaker t w)
  have MX := Mut.new w #[.int .i64 g, .slice a m c] 58
  have dX : Below w.heap.size w (w.alloc (.cells #[.int .i64 g, .slice a m c] 58)) := below_box (Below.refl _ _)
  have c0 := MX.2.1 0 _ rfl
  have c1 := MX.2.1 1 _ rfl
  by_cases hNA : NA g m T n f0 f1 f2
  · rw [show naB g m T n f0 f1 f2 = true from pB_t hNA] at SA
    by_cases ht : 0 ≤ t ∧ t ≤ 5
    · rw [inB_t ht.1 ht.2] at SI
      obtain ⟨tn, rfl⟩ : ∃ tn : Nat, t = tn := ⟨t.toNat, by omega⟩
      have htn : tn < 6 := by omega
      have hY := hide (fun r (h : PtL g T n f0 f1 f2 (tn : Int) r) => pt_yes (m := m) ⟨hNA, ht⟩ h)
      have hPL : Hid (∀ r, Least (Rch (fun x y => lab9 f0 f1 f2 x y n) T tn 0 (fun i => if i = tn then true else false)) (fun _ => g - 1) r → PtL g T n f0 f1 f2 (tn : Int) r) := fun r h => by unfold PtL; rw [Int.toNat_natCast]; exact h
      have hg := hNA.1.1
      have hg' := hNA.1.2.1
      have SN := hide (fun w => i_noWays g a m c w (by omega) (by omega))
      have LO := hide (fun w1 h00 A => i_linksQ g a m c T ra n rc f0 f1 f2 w1 hNA w hR h00 A)
      have SW := hide (fun va vc P bb bc hb w1 h1 h2 h3 => i_walkBack g m T n f0 f1 f2 hNA va vc P bb bc w hb 6 tn 0 (fun _ => false) (fun _ => g - 1) w1 (by decide) htn rfl (Int.le_refl _) (by omega) h1 h2 h3)
      rw [bits6] at SW
      clear hNA
      generalize ptR g m T n f0 f1 f2 (tn : Int) = R at *
      generalize ptB g m T n f0 f1 f2 (tn : Int) = B at *
      go_enter Try.func53, Try.ntmps53
      go_wp2_with fail
      generalize w.alloc (.cells #[.int .i64 g, .slice a m c] 58) = wx at *
      refine (SA.out _ (hR.below dX) (hA.below dX)).mono ?_
      rintro e w1 ⟨rfl, b1⟩
      replace MX := MX.below b1
      replace dX := dX.trans (b1.mono dX.size)
      replace c0 := MX.2.1 0 _ rfl
      replace c1 := MX.2.1 1 _ rfl
      clear b1 SA
      go_wp2_with fail
      refine (SI.out _).mono ?_
      rintro e w2 ⟨rfl, hw2⟩
      rw [hw2]; clear hw2 w2 SI
      go_wp2_with fail
      refine (SN.out _).mono ?_
      rintro e w3 ⟨bb, rfl, hbb, hO, b3⟩
      replace MX := MX.below b3
      have hw0 : w.heap.size ≤ bb := Nat.le_trans dX.size hbb
      replace dX := dX.trans (b3.mono dX.size)
      replace c0 := MX.2.1 0 _ rfl
      replace c1 := MX.2.1 1 _ rfl
      clear b3 SN
      have hbw := hO.1
      go_wp2_with fail
      refine (LO.out _ dX (hA.below dX)).mono ?_
      rintro e w4 ⟨va, vc, P, rfl, hLk, hva, hLab, b4⟩
      have hO4 := hO.below b4
      have d4 := dX.trans (b4.mono dX.size)
      have hLS : Hid (Lks9 va (lk9 f0 f1 n) f0 f1 f2 P m T bb w w4) := ⟨hLk, fun b off e => by have := hva b off e; omega, fun q hq => ⟨hLab q hq, fun e => by
        obtain ⟨_, a0, q0, h1, _⟩ := hLab q hq
        obtain ⟨⟨y, h2, _⟩, _⟩ := hO4.2 0 (by omega)
        rw [e, h2] at h1
        simp at h1⟩⟩
      have W4 := hide (SW.out va vc P bb 6 hw0 w4 d4 hLS.out hO4)
      have hb4 : bb < w4.heap.size := hO4.1
      clear SW hO hO4 hLS hLk hLab hva b4 LO c0 c1 MX dX
      generalize (lk9 f0 f1 n).length = kl at *
      go_wp2_with fail
      refine W4.out.mono ?_
      rintro e w5 ⟨rfl, r, hO5, on5, hLe⟩
      have d5 := d4.trans ((on5.below (Nat.le_of_lt hb4)).mono hw0)
      clear on5 d4
      obtain ⟨e1, e2⟩ := hY.out r (hPL.out r hLe)
      subst e1 e2
      clear hLe hY
      go_wp2_with fail
      go_ret2
      exact ⟨_, rfl, ansL_out hw0 hO5, d5⟩
    · rw [inB_n ht] at SI
      obtain ⟨e1, e2⟩ := pt_no (fun h => ht h.2 : ¬ PtOk g m T n f0 f1 f2 t)
      rw [e1, e2]
      clear hNA e1 e2 ht
      go_enter Try.func53, Try.ntmps53
      go_wp2_with fail
      generalize w.alloc (.cells #[.int .i64 g, .slice a m c] 58) = wx at *
      refine (SA.out _ (hR.below dX) (hA.below dX)).mono ?_
      rintro e w1 ⟨rfl, b1⟩
      replace dX := dX.trans (b1.mono dX.size)
      clear b1 SA MX c0 c1
      go_wp2_with fail
      refine (SI.out _).mono ?_
      rintro e w2 ⟨rfl, hw2⟩
      rw [hw2]; clear hw2 w2 SI
      go_wp2_with fail
      go_ret2
      exact ⟨_, rfl, ansL_nil _ _, dX⟩
  · rw [show naB g m T n f0 f1 f2 = false from pB_f hNA] at SA
    obtain ⟨e1, e2⟩ := pt_no (fun h => hNA h.1 : ¬ PtOk g m T n f0 f1 f2 t)
    rw [e1, e2]
    clear hNA e1 e2
    go_enter Try.func53, Try.ntmps53
    go_wp2_with fail
    generalize w.alloc (.cells #[.int .i64 g, .slice a m c] 58) = wx at *
    refine (SA.out _ (hR.below dX) (hA.below dX)).mono ?_
    rintro e w1 ⟨rfl, b1⟩
    replace dX := dX.trans (b1.mono dX.size)
    clear b1 SA MX c0 c1 SI
    go_wp2_with fail
    go_ret2
    exact ⟨_, rfl, ansL_nil _ _, dX⟩
end Go.Proofs.Ytcnlabedlcmilaa
