/- apartFrom of the program. -/
import Derived.Test.YtgkjokobbeahfaaI8o
namespace Go.Proofs.Ytgkjokobbeahfaa
open Go.RowKit

/-- How many peers come ahead of one, and the offers without its. -/
def cpO (x : Int) (L : List Oe) : Nat := L.countP (fun e => decide (e.t.pe < x))
def drO (x : Int) (L : List Oe) : List Oc := (L.filter (fun e => e.t.pe != x)).map (·.t)
theorem cpO_next (x : Int) {L : List Oe} {k : Nat} (h : k < L.length) : cpO x (L.take (k + 1)) = cpO x (L.take k) + (if (uAt L k).t.pe < x then 1 else 0) := by
  unfold cpO
  rw [take_succU h, List.countP_append]
  congr 1
  by_cases e : (uAt L k).t.pe < x <;> simp [e]
theorem drO_next (x : Int) {L : List Oe} {k : Nat} (h : k < L.length) : drO x (L.take (k + 1)) = drO x (L.take k) ++ (if (uAt L k).t.pe = x then [] else [(uAt L k).t]) := by
  unfold drO
  rw [take_succU h, List.filter_append, List.map_append]
  congr 1
  by_cases e : (uAt L k).t.pe = x <;> simp [e]
theorem drO_len (x : Int) (L : List Oe) : (drO x L).length ≤ L.length := by
  unfold drO
  rw [List.length_map]
  exact List.length_filter_le _ _
set_option maxRecDepth 100000 in
set_option maxHeartbeats 3200000 in
theorem i_apart (a : Option Addr) (L : List Oe) (c : Nat) (x : Int) (w : World) (hl : L.length ≤ 1048576) (hU : RowU a L w) (hS : ∀ e, e ∈ L → SrcO w e) :
    Calls Try.prog 78 #[.slice a L.length c, .int .i64 x] w fun r w' => ∃ v M, r = .returned (.tuple #[v, .int .i64 (cpO x L : Int)]) ∧ M.map (·.t) = drO x L ∧ LsO w.heap.size v M w' ∧ Below w.heap.size w w' := by
  generalize hn' : L.length = n at *
  have hn := hide hn'
  clear hn'
  go_enter Try.func78, Try.ntmps78
  go_wp2_with fail
  go_loopw [6, 7, 12] (fun vv cc y wr => ∃ (k : Nat) (v : Value) (M : List Oe), vv = v ∧ cc = .int .i64 (cpO x (L.take k) : Int) ∧ y = .int .i64 k ∧ k ≤ n ∧ M.map (·.t) = drO x (L.take k) ∧ LsO w.heap.size v M wr ∧ Below w.heap.size w wr) (fun _ _ y _ => n - (intOf y).toNat)
  case atStart => exact ⟨0, _, [], rfl, rfl, rfl, Nat.zero_le _, rfl, LsO.nil _ _, Below.refl _ _⟩
  case round =>
    obtain ⟨k, v, M, rfl, rfl, rfl, hk, hM, hLs, hb⟩ := hrel
    by_cases hlt : k < n
    · have hlt' : (k : Int) < (n : Int) := by omega
      have hkL : k < L.length := by rw [hn.out]; exact hlt
      obtain ⟨b, off, rfl, hbw, u0, u1, u2, u3, u4, u5, u6⟩ := hU k hkL
      replace u0 := (hb.cell (p := ⟨b, off + k * 7, none⟩) hbw).trans u0
      replace u1 := (hb.cell (p := ⟨b, off + k * 7 + 1, none⟩) hbw).trans u1
      replace u2 := (hb.cell (p := ⟨b, off + k * 7 + 2, none⟩) hbw).trans u2
      replace u3 := (hb.cell (p := ⟨b, off + k * 7 + 3, none⟩) hbw).trans u3
      replace u4 := (hb.cell (p := ⟨b, off + k * 7 + 4, none⟩) hbw).trans u4
      replace u5 := (hb.cell (p := ⟨b, off + k * 7 + 5, none⟩) hbw).trans u5
      replace u6 := (hb.cell (p := ⟨b, off + k * 7 + 6, none⟩) hbw).trans u6
      have hC := hide (cpO_next x hkL)
      have hN := hide (drO_next x hkL)
      have hsrc := hS _ (uAt_mem hkL)
      have hM := hide hM
      have hfl : Hid (M.length ≤ 1048576) := by
        have h0 : M.length = (M.map (·.t)).length := by simp
        rw [Hid, h0, hM.out]
        have h1 := drO_len x (L.take k)
        rw [List.length_take] at h1
        have := hn.out
        omega
      generalize uAt L k = e at *
      have OW := hide (fun w h => i_ownOffer e w h)
      have hcb : (cpO x (L.take k) : Int) ≤ 1048576 := by
        have h1 : cpO x (L.take k) ≤ (L.take k).length := List.countP_le_length
        rw [List.length_take] at h1
        have := hn.out
        omega
      generalize cpO x (L.take k) = ck at *
      generalize drO x (L.take k) = dk at *
      have hbX : Below wr.heap.size wr (wr.alloc (.cells #[.int .i64 e.t.pe, .int .i64 e.t.o, .slice e.a0 e.t.n0 e.c0, .int .i64 e.t.nx, .int .i64 e.t.md, .int .i64 e.t.pf, .slice e.a1 e.t.n1 e.c1] 39)) := below_box (Below.refl _ _)
      have dX := hide (hb.trans (hbX.mono hb.size))
      have MX := hide (Mut.new wr #[.int .i64 e.t.pe, .int .i64 e.t.o, .slice e.a0 e.t.n0 e.c0, .int .i64 e.t.nx, .int .i64 e.t.md, .int .i64 e.t.pf, .slice e.a1 e.t.n1 e.c1] 39)
      have hLX := hide (hLs.below hbX)
      clear hLs hbX hU hS
      obtain ⟨va, vc, rfl, _, _⟩ := ownU_row hLX.out.1
      by_cases h1 : e.t.pe < x
      · have h2 : ¬ e.t.pe = x := by omega
        have h2' : (e.t.pe != x) = true := by simp [h2]
        rw [Hid, if_pos h1] at hC
        rw [Hid, if_neg h2] at hN
        have hC := hide hC
        have hN := hide hN
        go_wp2_with fail
        refine (OW.out _ (hsrc.below dX.out)).mono ?_
        rintro r w3 ⟨q, rfl, hq, b3⟩
        have d3 := dX.out.trans (b3.mono dX.out.size)
        have hL3 := hLX.out.below b3
        have hs3 := d3.size
        have hf3 := hfl.out
        have bB : Below w3.heap.size w3 (w3.alloc (.cells #[.int .i64 q.t.pe, .int .i64 q.t.o, .slice q.a0 q.t.n0 q.c0, .int .i64 q.t.nx, .int .i64 q.t.md, .int .i64 q.t.pf, .slice q.a1 q.t.n1 q.c1] 39)) := below_box (Below.refl _ _)
        have hL4 := hide (hL3.below bB)
        have hq4 := hide (hq.below bB)
        have hzz : ∀ e', e' ∈ M → byO e' < (wr.alloc (.cells #[.int .i64 e.t.pe, .int .i64 e.t.o, .slice e.a0 e.t.n0 e.c0, .int .i64 e.t.nx, .int .i64 e.t.md, .int .i64 e.t.pf, .slice e.a1 e.t.n1 e.c1] 39)).heap.size := fun e' he' => hLX.out.lt he'
        have hgg : ∀ g, (Value.slice va M.length vc).ownBlock = some g → g < (wr.alloc (.cells #[.int .i64 e.t.pe, .int .i64 e.t.o, .slice e.a0 e.t.n0 e.c0, .int .i64 e.t.nx, .int .i64 e.t.md, .int .i64 e.t.pf, .slice e.a1 e.t.n1 e.c1] 39)).heap.size := fun g e => (ownU_blk hLX.out.1 e).2
        have hzs : w.heap.size ≤ (wr.alloc (.cells #[.int .i64 e.t.pe, .int .i64 e.t.o, .slice e.a0 e.t.n0 e.c0, .int .i64 e.t.nx, .int .i64 e.t.md, .int .i64 e.t.pf, .slice e.a1 e.t.n1 e.c1] 39)).heap.size := dX.out.size
        clear b3 dX OW hsrc hLX hL3 bB MX u0 u1 u2 u3 u4 u5 u6
        go_wp2_with (first | (at_builtin; refine wpList_appU2 rfl _ _ rfl w.heap.size _ M rfl hL4.out.1 (some ⟨w3.heap.size, 0, none⟩) [q] 1 1 rfl rfl ⟨RowU.one (p := q) (by simp) (by simp) (by simp) (by simp) (by simp) (by simp) (by simp) (by simp), .inr ⟨_, _, rfl⟩⟩ (by simp only [List.length_cons, List.length_nil]; omega) (by simp; omega) ?_))
        intro v' w4 hO4 b4 hgr hbk
        obtain ⟨q0, q1, q2, q3, q4, q5, q6⟩ := hq4.out
        have hL5 := hide (hL4.out.app (z := (wr.alloc (.cells #[.int .i64 e.t.pe, .int .i64 e.t.o, .slice e.a0 e.t.n0 e.c0, .int .i64 e.t.nx, .int .i64 e.t.md, .int .i64 e.t.pf, .slice e.a1 e.t.n1 e.c1] 39)).heap.size) hzz hgg ⟨q1, q2, by omega, q3, q4, q5, q6⟩ hO4 hgr (by simpa using hbk))
        clear hL4 hq4 hzz hgg hzs hO4 hgr hbk q1 q2 q3 q4 q5 q6
        go_wp2_with fail
        exact ⟨⟨k + 1, v', M ++ [q], rfl, by rw [hC.out]; simp, by go_num, by omega, by rw [hN.out, List.map_append, hM.out]; simp [q0], hL5.out, (d3.trans ((below_box (Below.refl _ _)).mono hs3)).trans b4⟩, by simp [intOf]; omega⟩
      · by_cases h2 : e.t.pe = x
        · have h2' : (e.t.pe != x) = false := by simp [h2]
          rw [Hid, if_neg h1] at hC
          rw [Hid, if_pos h2] at hN
          have hC := hide hC
          have hN := hide hN
          clear h2
          go_wp2_with fail
          exact ⟨⟨k + 1, _, M, rfl, by rw [hC.out]; simp, by go_num, by omega, by rw [hN.out, hM.out]; simp, hLX.out, dX.out⟩, by simp [intOf]; omega⟩
        · have h2' : (e.t.pe != x) = true := by simp [h2]
          rw [Hid, if_neg h1] at hC
          rw [Hid, if_neg h2] at hN
          have hC := hide hC
          have hN := hide hN
          go_wp2_with fail
          refine (OW.out _ (hsrc.below dX.out)).mono ?_
          rintro r w3 ⟨q, rfl, hq, b3⟩
          have d3 := dX.out.trans (b3.mono dX.out.size)
          have hL3 := hLX.out.below b3
          have hs3 := d3.size
          have hf3 := hfl.out
          have bB : Below w3.heap.size w3 (w3.alloc (.cells #[.int .i64 q.t.pe, .int .i64 q.t.o, .slice q.a0 q.t.n0 q.c0, .int .i64 q.t.nx, .int .i64 q.t.md, .int .i64 q.t.pf, .slice q.a1 q.t.n1 q.c1] 39)) := below_box (Below.refl _ _)
          have hL4 := hide (hL3.below bB)
          have hq4 := hide (hq.below bB)
          have hzz : ∀ e', e' ∈ M → byO e' < (wr.alloc (.cells #[.int .i64 e.t.pe, .int .i64 e.t.o, .slice e.a0 e.t.n0 e.c0, .int .i64 e.t.nx, .int .i64 e.t.md, .int .i64 e.t.pf, .slice e.a1 e.t.n1 e.c1] 39)).heap.size := fun e' he' => hLX.out.lt he'
          have hgg : ∀ g, (Value.slice va M.length vc).ownBlock = some g → g < (wr.alloc (.cells #[.int .i64 e.t.pe, .int .i64 e.t.o, .slice e.a0 e.t.n0 e.c0, .int .i64 e.t.nx, .int .i64 e.t.md, .int .i64 e.t.pf, .slice e.a1 e.t.n1 e.c1] 39)).heap.size := fun g e => (ownU_blk hLX.out.1 e).2
          have hzs : w.heap.size ≤ (wr.alloc (.cells #[.int .i64 e.t.pe, .int .i64 e.t.o, .slice e.a0 e.t.n0 e.c0, .int .i64 e.t.nx, .int .i64 e.t.md, .int .i64 e.t.pf, .slice e.a1 e.t.n1 e.c1] 39)).heap.size := dX.out.size
          clear b3 dX OW hsrc hLX hL3 bB MX u0 u1 u2 u3 u4 u5 u6
          go_wp2_with (first | (at_builtin; refine wpList_appU2 rfl _ _ rfl w.heap.size _ M rfl hL4.out.1 (some ⟨w3.heap.size, 0, none⟩) [q] 1 1 rfl rfl ⟨RowU.one (p := q) (by simp) (by simp) (by simp) (by simp) (by simp) (by simp) (by simp) (by simp), .inr ⟨_, _, rfl⟩⟩ (by simp only [List.length_cons, List.length_nil]; omega) (by simp; omega) ?_))
          intro v' w4 hO4 b4 hgr hbk
          obtain ⟨q0, q1, q2, q3, q4, q5, q6⟩ := hq4.out
          have hL5 := hide (hL4.out.app (z := (wr.alloc (.cells #[.int .i64 e.t.pe, .int .i64 e.t.o, .slice e.a0 e.t.n0 e.c0, .int .i64 e.t.nx, .int .i64 e.t.md, .int .i64 e.t.pf, .slice e.a1 e.t.n1 e.c1] 39)).heap.size) hzz hgg ⟨q1, q2, by omega, q3, q4, q5, q6⟩ hO4 hgr (by simpa using hbk))
          clear hL4 hq4 hzz hgg hzs hO4 hgr hbk q1 q2 q3 q4 q5 q6
          go_wp2_with fail
          exact ⟨⟨k + 1, v', M ++ [q], rfl, by rw [hC.out]; simp, by go_num, by omega, by rw [hN.out, List.map_append, hM.out]; simp [q0], hL5.out, (d3.trans ((below_box (Below.refl _ _)).mono hs3)).trans b4⟩, by simp [intOf]; omega⟩
    · have hlt' : ¬ (k : Int) < (n : Int) := by omega
      obtain rfl : k = n := by omega
      have hT : L.take k = L := by rw [List.take_of_length_le (by rw [hn.out]; exact Nat.le_refl _)]
      rw [hT] at hM ⊢
      have hM := hide hM
      obtain ⟨va, vc, rfl, _, _⟩ := ownU_row hLs.1
      have hLs := hide hLs
      clear hT
      go_wp2_with fail
      go_ret2
      exact ⟨_, rfl, M, hM.out, hLs.out, hb⟩
end Go.Proofs.Ytgkjokobbeahfaa
