/- DropOffer of the specification. -/
import Derived.Test.YtgkjokobbeahfaaS8p
import Derived.Test.YtgkjokobbeahfaaDrop8
import Derived.Test.YtgkjokobbeahfaaSI8
namespace Go.Proofs.Ytgkjokobbeahfaa
open Go.RowKit

theorem df_take (x : Int) {L : List Oe} {k : Nat} (h : k < L.length) : (L.take (k + 1)).filter (fun e => e.t.pe != x) = (L.take k).filter (fun e => e.t.pe != x) ++ (if (uAt L k).t.pe = x then [] else [uAt L k]) := by
  rw [filter_takeU _ h]
  congr 1
  by_cases e : (uAt L k).t.pe = x <;> simp [e]
set_option maxRecDepth 100000 in
set_option maxHeartbeats 3200000 in
theorem s_l8Drop (a : Option Addr) (L : List Oe) (c : Nat) (x : Int) (w : World) (hl : L.length ≤ 1048576) (hU : RowU a L w) (hS : ∀ e, e ∈ L → SrcO w e) :
    Calls Try.prog 82 #[.slice a L.length c, .int .i64 x] w fun r w' => ∃ a' c', r = .returned (.tuple #[.slice a' (dfO (L.map (·.t)) x).length c', .bool (decide ((dfO (L.map (·.t)) x).length < L.length))]) ∧ RowO a' (dfO (L.map (·.t)) x).length (TL (dfO (L.map (·.t)) x)) w' ∧ Below w.heap.size w w' := by
  have OW := hide (fun w hU hS => s_l8Own a L c w hl hU hS)
  generalize hD : L.map (·.t) = D at *
  have hDl : Hid (D.length = L.length) := by rw [Hid, ← hD]; simp
  clear hD
  generalize hFD' : dfO D x = FD at *
  have hFD := hide hFD'
  clear hFD'
  generalize hn' : L.length = n at *
  clear hn'
  go_enter Try.func82, Try.ntmps82
  go_wp2_with fail
  refine (OW.out _ hU hS).mono ?_
  rintro r w1 ⟨v1, M1, rfl, hM1, hLs, d1⟩
  clear OW hU hS
  obtain ⟨va, vc, rfl, hrow, _⟩ := ownU_row hLs.1
  have hin := hide hLs.ofIn
  have hM1 := hide hM1
  have hm : Hid (M1.length = n) := by
    have h0 : M1.length = (M1.map (·.t)).length := by simp
    rw [Hid, h0, hM1.out, hDl.out]
  have hm' := hm.out
  rw [hm']
  have hrow : RowU va M1 w1 := hrow
  clear hLs hm'
  have hfilt : Hid ((M1.filter (fun e => e.t.pe != x)).map (·.t) = FD) := by rw [Hid, filter_map_t M1 (fun t => t.pe != x), hM1.out]; exact hFD.out
  have hflen : Hid ((M1.filter (fun e => e.t.pe != x)).length = FD.length) := by rw [Hid, ← hfilt.out, List.length_map]
  clear hM1 hFD
  go_wp2_with fail
  go_loopw [6, 12] (fun vv y wr => ∃ k : Nat, y = .int .i64 k ∧ k ≤ n ∧ OwnU w1.heap.size vv ((M1.take k).filter (fun e => e.t.pe != x)) wr ∧ Below w1.heap.size w1 wr) (fun _ y _ => n - (intOf y).toNat)
  case atStart => exact ⟨0, rfl, Nat.zero_le _, ownU_nil _ _, Below.refl _ _⟩
  case round =>
    obtain ⟨k, rfl, hk, hO, hb⟩ := hrel
    by_cases hlt : k < n
    · have hlt' : (k : Int) < (n : Int) := by omega
      have hkM : k < M1.length := by rw [hm.out]; exact hlt
      obtain ⟨b, off, rfl, hbw, u0, u1, u2, u3, u4, u5, u6⟩ := hrow k hkM
      replace u0 := (hb.cell (p := ⟨b, off + k * 7, none⟩) hbw).trans u0
      replace u1 := (hb.cell (p := ⟨b, off + k * 7 + 1, none⟩) hbw).trans u1
      replace u2 := (hb.cell (p := ⟨b, off + k * 7 + 2, none⟩) hbw).trans u2
      replace u3 := (hb.cell (p := ⟨b, off + k * 7 + 3, none⟩) hbw).trans u3
      replace u4 := (hb.cell (p := ⟨b, off + k * 7 + 4, none⟩) hbw).trans u4
      replace u5 := (hb.cell (p := ⟨b, off + k * 7 + 5, none⟩) hbw).trans u5
      replace u6 := (hb.cell (p := ⟨b, off + k * 7 + 6, none⟩) hbw).trans u6
      have hne := hide (df_take x hkM)
      have hfl : Hid (((M1.take k).filter (fun e => e.t.pe != x)).length ≤ 1048576) := by
        rw [Hid]
        refine Nat.le_trans (List.length_filter_le _ _) ?_
        rw [List.length_take]
        omega
      generalize uAt M1 k = e at *
      generalize (M1.take k).filter (fun e => e.t.pe != x) = M at *
      have hbX : Below wr.heap.size wr (wr.alloc (.cells #[.int .i64 e.t.pe, .int .i64 e.t.o, .slice e.a0 e.t.n0 e.c0, .int .i64 e.t.nx, .int .i64 e.t.md, .int .i64 e.t.pf, .slice e.a1 e.t.n1 e.c1] 39)) := below_box (Below.refl _ _)
      have dX := hide (hb.trans (hbX.mono hb.size))
      have hOX := hide (ownU_below hO hbX)
      clear hO hbX
      obtain ⟨va2, vc2, rfl, _, _⟩ := ownU_row hOX.out
      by_cases h2 : e.t.pe = x
      · have h2' : (e.t.pe != x) = false := by simp [h2]
        rw [Hid, if_pos h2] at hne
        have hN := hide hne
        clear h2 hne
        go_wp2_with fail
        exact ⟨⟨k + 1, by go_num, by omega, by rw [hN.out, List.append_nil]; exact hOX.out, dX.out⟩, by simp [intOf]; omega⟩
      · have h2' : (e.t.pe != x) = true := by simp [h2]
        rw [Hid, if_neg h2] at hne
        have hN := hide hne
        have hs3 := dX.out.size
        have hf3 := hfl.out
        clear h2 hne
        have hz : (wr.alloc (.cells #[.int .i64 e.t.pe, .int .i64 e.t.o, .slice e.a0 e.t.n0 e.c0, .int .i64 e.t.nx, .int .i64 e.t.md, .int .i64 e.t.pf, .slice e.a1 e.t.n1 e.c1] 39)).heap.size = wr.heap.size + 1 := by simp
        go_wp2_with (first | (at_builtin; refine wpList_appU rfl _ _ rfl w1.heap.size _ M rfl (ownU_below hOX.out (below_box (Below.refl _ _))) (some ⟨wr.heap.size + 1, 0, none⟩) [e] 1 rfl ⟨RowU.one (p := e) (by simp) (by simp [go_sem]) (by simp [go_sem]) (by simp [go_sem]) (by simp [go_sem]) (by simp [go_sem]) (by simp [go_sem]) (by simp [go_sem]), .inr ⟨_, _, rfl⟩⟩ (by simp only [List.length_cons, List.length_nil]; omega) (by simp; omega) ?_))
        intro v' w4 hO4 b4 _
        go_wp2_with fail
        exact ⟨⟨k + 1, by go_num, by omega, by rw [hN.out]; exact hO4, (dX.out.trans ((below_box (Below.refl _ _)).mono hs3)).trans b4⟩, by simp [intOf]; omega⟩
    · have hlt' : ¬ (k : Int) < (n : Int) := by omega
      obtain rfl : k = n := by omega
      have hT : M1.take k = M1 := by rw [List.take_of_length_le (by rw [hm.out]; exact Nat.le_refl _)]
      rw [hT] at hO
      have hin' : ∀ e, e ∈ M1.filter (fun e => e.t.pe != x) → OfIn e.a0 e.a1 e.t wr := fun e he => (hin.out e (List.mem_filter.1 he).1).below hb
      obtain ⟨va2, vc2, rfl, hrow2, _⟩ := ownU_row hO
      have hRR := hide (hrow2.offers hin')
      rw [hfilt.out, hflen.out] at hRR
      have dF := d1.trans (hb.mono d1.size)
      clear hO hrow2 hin' hT hrow
      rw [hflen.out]
      by_cases hq : FD.length < k
      · have hq' : (FD.length : Int) < (k : Int) := by omega
        have hqd := hide (decide_eq_true hq)
        clear hq
        go_wp2_with fail
        go_ret2
        exact ⟨va2, ⟨vc2, by rw [hqd.out]; rfl⟩, hRR.out, dF⟩
      · have hq' : ¬ (FD.length : Int) < (k : Int) := by omega
        have hqd := hide (decide_eq_false hq)
        clear hq
        go_wp2_with fail
        go_ret2
        exact ⟨va2, ⟨vc2, by rw [hqd.out]; rfl⟩, hRR.out, dF⟩
set_option maxRecDepth 100000 in
set_option maxHeartbeats 1600000 in
theorem s_dropOffer (a : Option Addr) (L : List Oe) (c : Nat) (x : Int) (w : World) (hl : L.length ≤ 1048576) (hU : RowU a L w) (hS : ∀ e, e ∈ L → SrcO w e) :
    Calls Try.prog 36 #[.slice a L.length c, .int .i64 x] w fun r w' => ∃ a' c', r = .returned (.tuple #[.slice a' (dlO (L.map (·.t)) x).length c', .bool (dkO (L.map (·.t)) x)]) ∧ RowO a' (dlO (L.map (·.t)) x).length (TL (dlO (L.map (·.t)) x)) w' ∧ Below w.heap.size w w' := by
  have hlen : (L.map (·.t)).length = L.length := by simp
  have G := hide (fun w R => s_goodOffers a L.length c (TL (L.map (·.t))) w hl (low_src hS) R)
  have P := hide (fun w hU hS => s_l8Drop a L c x w hl hU hS)
  have hR := hide (rowO_src hU hS)
  cases hg : osB (L.map (·.t)).length (TL (L.map (·.t))) with
  | false =>
    have hk := dkO_no (x := x) hg
    rw [hlen] at hg
    rw [dlO_no hk, hk]
    rw [hg] at G
    clear hg hk P
    go_enter Try.func36, Try.ntmps36
    go_wp2_with fail
    refine (G.out _ hR.out).mono ?_
    rintro r w1 ⟨rfl, d1⟩
    go_wp2_with fail
    go_ret2
    exact ⟨none, 0, rfl, fun i hi => absurd hi (Nat.not_lt_zero _), d1⟩
  | true =>
    have hk := dkO_good (x := x) hg
    rw [hlen] at hg
    rw [hg] at G
    rw [hlen] at hk
    rw [← hk] at P
    cases hk2 : dkO (L.map (·.t)) x with
    | true =>
      rw [dlO_yes hk2]
      rw [hk2] at P
      clear hg hk hk2
      generalize dfO (L.map (·.t)) x = D at *
      generalize L.length = n at *
      go_enter Try.func36, Try.ntmps36
      go_wp2_with fail
      refine (G.out _ hR.out).mono ?_
      rintro r w1 ⟨rfl, d1⟩
      go_wp2_with fail
      refine (P.out _ (hU.below d1) (fun e he => (hS e he).below d1)).mono ?_
      rintro r w2 ⟨a2, c2, rfl, hRR, b2⟩
      have d2 := d1.trans (b2.mono d1.size)
      have hRR := hide hRR
      go_wp2_with fail
      go_ret2
      first | exact ⟨_, _, rfl, hRR.out, d2⟩ | exact ⟨_, ⟨_, rfl⟩, hRR.out, d2⟩
    | false =>
      rw [dlO_no hk2]
      rw [hk2] at P
      clear hg hk hk2
      generalize dfO (L.map (·.t)) x = D at *
      generalize L.length = n at *
      go_enter Try.func36, Try.ntmps36
      go_wp2_with fail
      refine (G.out _ hR.out).mono ?_
      rintro r w1 ⟨rfl, d1⟩
      go_wp2_with fail
      refine (P.out _ (hU.below d1) (fun e he => (hS e he).below d1)).mono ?_
      rintro r w2 ⟨a2, c2, rfl, _, b2⟩
      have d2 := d1.trans (b2.mono d1.size)
      go_wp2_with fail
      go_ret2
      exact ⟨none, 0, rfl, fun i hi => absurd hi (Nat.not_lt_zero _), d2⟩
end Go.Proofs.Ytgkjokobbeahfaa
