/- PathsTo of the specification. -/
import Derived.Test.YtcnlabedlcmilaaS9e
import Derived.Test.YtcnlabedlcmilaaPlain9p
namespace Go.Proofs.Ytcnlabedlcmilaa
open Go.RowKit
set_option maxRecDepth 100000 in
set_option maxHeartbeats 1600000 in
theorem s_pathsToE (g : Int) (a : Option Addr) (m c : Nat) (T : Nat → Lc) (ra : Option Addr) (n rc : Nat) (f0 f1 f2 : Nat → Int) (t : Int) (w : World) (hm : m ≤ 1048576) (hl : LowL m T) (hR : RowLL a m T w) (hn : n ≤ 1048576) (hA : RowArc ra n f0 f1 f2 w) :
    Calls Try.prog 52 #[.agg #[.int .i64 g, .slice a m c], .slice ra n rc, .int .i64 t] w fun e w' => ∃ v, e = .returned (.tuple #[v, .bool (ptB g m T n f0 f1 f2 t)]) ∧ AnsL w.heap.size v (ptR g m T n f0 f1 f2 t) w' ∧ Below w.heap.size w w' := by
  have SA := hide (fun w R A => s_arcs9 g a m c T ra n rc f0 f1 f2 w hm hl R hn A)
  have SI := hide (fun w => s_in t 0 5 w)
  have MX := Mut.new w #[.int .i64 g, .slice a m c] 58
  have dX : Below w.heap.size w (w.alloc (.cells #[.int .i64 g, .slice a m c] 58)) := below_box (Below.refl _ _)
  have c0 := MX.2.1 0 _ rfl
  have c1 := MX.2.1 1 _ rfl
  by_cases hNA : NA g m T n f0 f1 f2
  · rw [show naB g m T n f0 f1 f2 = true from pB_t hNA] at SA
    by_cases ht : 0 ≤ t ∧ t ≤ 5
    · rw [inB_t ht.1 ht.2] at SI
      obtain ⟨tn, rfl⟩ : ∃ tn : Nat, t = tn := ⟨t.toNat, by omega⟩
      have htn : tn < 6 := by omega
      have hY := hide (fun r (h : PtL g T n f0 f1 f2 (tn : Int) r) => pt_yes (m := m) ⟨hNA, ht⟩ h)
      have hPL : Hid (∀ r, Least (Rch (fun x y => lab9 f0 f1 f2 x y n) T tn 0 (fun i => if i = tn then true else false)) (fun _ => g - 1) r → PtL g T n f0 f1 f2 (tn : Int) r) := fun r h => by unfold PtL; rw [Int.toNat_natCast]; exact h
      have hg := hNA.1.1
      have hg' := hNA.1.2.1
      have SN := hide (fun w => s_none9 g a m c w (by omega) (by omega))
      have SW := hide (fun bb bc hb sb w1 h1 h2 h3 => s_walk9 g a m c T ra n rc f0 f1 f2 w hNA hR hA bb bc hb 6 tn 0 (fun i => if i = tn then true else false) (fun _ => g - 1) [(tn : Int)] sb 0 1 1 w1 rfl (by have := left9_one tn htn; omega) htn (Int.le_refl _) (by omega) h1 h2 h3)
      clear hNA
      generalize ptR g m T n f0 f1 f2 (tn : Int) = R at *
      generalize ptB g m T n f0 f1 f2 (tn : Int) = B at *
      go_enter Try.func52, Try.ntmps52
      go_wp2_with fail
      generalize w.alloc (.cells #[.int .i64 g, .slice a m c] 58) = wx at *
      refine (SA.out _ (hR.below dX) (hA.below dX)).mono ?_
      rintro e w1 ⟨rfl, b1⟩
      replace MX := MX.below b1
      replace dX := dX.trans (b1.mono dX.size)
      replace c0 := MX.2.1 0 _ rfl
      replace c1 := MX.2.1 1 _ rfl
      clear b1 SA
      go_wp2_with fail
      refine (SI.out _).mono ?_
      rintro e w2 ⟨rfl, hw2⟩
      rw [hw2]; clear hw2 w2 SI
      go_wp2_with fail
      refine (SN.out _).mono ?_
      rintro e w3 ⟨bb, cap, rfl, hbb, hO, b3⟩
      replace MX := MX.below b3
      have hw0 : w.heap.size ≤ bb := Nat.le_trans dX.size hbb
      replace dX := dX.trans (b3.mono dX.size)
      replace c0 := MX.2.1 0 _ rfl
      replace c1 := MX.2.1 1 _ rfl
      clear b3 SN
      have hbw := hO.1
      have dB : Below w3.heap.size w3 (w3.alloc (.cells #[.int .i64 tn] 3)) := below_box (Below.refl _ _)
      have hO4 := hO.below dB
      have d4 := dX.trans (dB.mono dX.size)
      have hS : Hid (Seen9 w3.heap.size 0 [(tn : Int)] (fun i => if i = tn then true else false) bb (w3.alloc (.cells #[.int .i64 tn] 3))) :=
        ⟨(srcN1 w3 tn 3).1, hasN_snoc (L := []) (s := fun _ => false) (k := tn) (fun _ _ => rfl), by omega, by simp, left9_one tn htn⟩
      have W4 := hide (SW.out bb cap hw0 w3.heap.size _ d4 hS.out hO4)
      clear SW dB hO hS hO4
      go_wp2_with fail
      refine W4.out.mono ?_
      rintro e w5 ⟨rfl, r, hO5, on5, hLe⟩
      have hbw4 : bb ≤ (w3.alloc (.cells #[.int .i64 tn] 3)).heap.size := by simp; omega
      have d5 := d4.trans ((on5.below hbw4).mono hw0)
      clear on5 d4 dX
      obtain ⟨e1, e2⟩ := hY.out r (hPL.out r hLe)
      subst e1 e2
      clear hLe hY
      go_wp2_with fail
      go_ret2
      exact ⟨_, rfl, ansL_out hw0 hO5, d5⟩
    · rw [inB_n ht] at SI
      obtain ⟨e1, e2⟩ := pt_no (fun h => ht h.2 : ¬ PtOk g m T n f0 f1 f2 t)
      rw [e1, e2]
      clear hNA e1 e2 ht
      go_enter Try.func52, Try.ntmps52
      go_wp2_with fail
      generalize w.alloc (.cells #[.int .i64 g, .slice a m c] 58) = wx at *
      refine (SA.out _ (hR.below dX) (hA.below dX)).mono ?_
      rintro e w1 ⟨rfl, b1⟩
      replace dX := dX.trans (b1.mono dX.size)
      clear b1 SA MX c0 c1
      go_wp2_with fail
      refine (SI.out _).mono ?_
      rintro e w2 ⟨rfl, hw2⟩
      rw [hw2]; clear hw2 w2 SI
      go_wp2_with fail
      go_ret2
      exact ⟨_, rfl, ansL_nil _ _, dX⟩
  · rw [show naB g m T n f0 f1 f2 = false from pB_f hNA] at SA
    obtain ⟨e1, e2⟩ := pt_no (fun h => hNA h.1 : ¬ PtOk g m T n f0 f1 f2 t)
    rw [e1, e2]
    clear hNA e1 e2
    go_enter Try.func52, Try.ntmps52
    go_wp2_with fail
    generalize w.alloc (.cells #[.int .i64 g, .slice a m c] 58) = wx at *
    refine (SA.out _ (hR.below dX) (hA.below dX)).mono ?_
    rintro e w1 ⟨rfl, b1⟩
    replace dX := dX.trans (b1.mono dX.size)
    clear b1 SA MX c0 c1 SI
    go_wp2_with fail
    go_ret2
    exact ⟨_, rfl, ansL_nil _ _, dX⟩
end Go.Proofs.Ytcnlabedlcmilaa
