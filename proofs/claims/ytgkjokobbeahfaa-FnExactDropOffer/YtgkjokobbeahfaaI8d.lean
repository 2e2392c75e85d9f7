/- DropOffer of the program. -/
import Derived.Test.YtgkjokobbeahfaaI8p
import Derived.Test.YtgkjokobbeahfaaDrop8
import Derived.Test.YtgkjokobbeahfaaSI8
namespace Go.Proofs.Ytgkjokobbeahfaa
open Go.RowKit

theorem drO_df (x : Int) (L : List Oe) : drO x L = dfO (L.map (·.t)) x := filter_map_t L (fun t => t.pe != x)
set_option maxRecDepth 100000 in
set_option maxHeartbeats 1600000 in
theorem i_dropOffer (a : Option Addr) (L : List Oe) (c : Nat) (x : Int) (w : World) (hl : L.length ≤ 1048576) (hU : RowU a L w) (hS : ∀ e, e ∈ L → SrcO w e) :
    Calls Try.prog 37 #[.slice a L.length c, .int .i64 x] w fun r w' => ∃ v M, r = .returned (.tuple #[v, .bool (dkO (L.map (·.t)) x)]) ∧ M.map (·.t) = dlO (L.map (·.t)) x ∧ LsO w.heap.size v M w' ∧ Below w.heap.size w w' := by
  have hlen : (L.map (·.t)).length = L.length := by simp
  have G := hide (fun w R => i_goodOffers a L.length c (TL (L.map (·.t))) w hl (low_src hS) R)
  have P := hide (fun w hU hS => i_apart a L c x w hl hU hS)
  have hR := hide (rowO_src hU hS)
  cases hg : osB (L.map (·.t)).length (TL (L.map (·.t))) with
  | false =>
    have hk := dkO_no (x := x) hg
    rw [hlen] at hg
    rw [dlO_no hk, hk]
    rw [hg] at G
    clear hg hk P
    go_enter Try.func37, Try.ntmps37
    go_wp2_with fail
    refine (G.out _ hR.out).mono ?_
    rintro r w1 ⟨rfl, d1⟩
    go_wp2_with fail
    go_ret2
    first | exact ⟨_, [], rfl, rfl, LsO.nil _ _, d1⟩ | exact ⟨_, rfl, [], rfl, LsO.nil _ _, d1⟩
  | true =>
    have hk := dkO_good (x := x) hg
    rw [hlen] at hg
    rw [hg] at G
    have hle := dfO_le (L.map (·.t)) x
    have hdd := drO_df x L
    rw [hlen] at hk hle
    by_cases hlt : (dfO (L.map (·.t)) x).length < L.length
    · rw [decide_eq_true hlt] at hk
      rw [dlO_yes hk, hk]
      clear hg hk
      generalize dfO (L.map (·.t)) x = D at *
      have hne : ((D.length : Int) == (L.length : Int)) = false := by simp; omega
      generalize L.length = n at *
      go_enter Try.func37, Try.ntmps37
      go_wp2_with fail
      refine (G.out _ hR.out).mono ?_
      rintro r w1 ⟨rfl, d1⟩
      go_wp2_with fail
      refine (P.out _ (hU.below d1) (fun e he => (hS e he).below d1)).mono ?_
      rintro r w2 ⟨v, M, rfl, hM, hLs, b2⟩
      have d2 := d1.trans (b2.mono d1.size)
      rw [hdd] at hM
      have hML : M.length = D.length := by rw [← hM]; simp
      obtain ⟨va, vc, rfl, _, _⟩ := ownU_row hLs.1
      rw [hML] at hLs
      rw [hML]
      have hLs := hide (show LsO w.heap.size (.slice va D.length vc) M w2 from ⟨ownU_base hLs.1 d1.size, fun e he => by have h := hLs.2.1 e he; exact ⟨h.1, h.2.1, Nat.le_trans d1.size h.2.2.1, h.2.2.2⟩, hLs.2.2⟩)
      have hM := hide hM
      clear hML hlt hle b2
      go_wp2_with fail
      go_ret2
      first | exact ⟨_, M, rfl, hM.out, hLs.out, d2⟩ | exact ⟨_, rfl, M, hM.out, hLs.out, d2⟩
    · rw [decide_eq_false hlt] at hk
      rw [dlO_no hk, hk]
      clear hg hk
      generalize dfO (L.map (·.t)) x = D at *
      have hne : ((D.length : Int) == (L.length : Int)) = true := by simp; omega
      generalize L.length = n at *
      go_enter Try.func37, Try.ntmps37
      go_wp2_with fail
      refine (G.out _ hR.out).mono ?_
      rintro r w1 ⟨rfl, d1⟩
      go_wp2_with fail
      refine (P.out _ (hU.below d1) (fun e he => (hS e he).below d1)).mono ?_
      rintro r w2 ⟨v, M, rfl, hM, hLs, b2⟩
      have d2 := d1.trans (b2.mono d1.size)
      rw [hdd] at hM
      have hML : M.length = D.length := by rw [← hM]; simp
      obtain ⟨va, vc, rfl, _, _⟩ := ownU_row hLs.1
      rw [hML]
      clear hML hlt hle b2 hLs hM hdd
      go_wp2_with fail
      go_ret2
      first | exact ⟨_, [], rfl, rfl, LsO.nil _ _, d2⟩ | exact ⟨_, rfl, [], rfl, LsO.nil _ _, d2⟩
end Go.Proofs.Ytgkjokobbeahfaa
