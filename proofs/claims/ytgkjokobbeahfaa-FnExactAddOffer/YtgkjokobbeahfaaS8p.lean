/- l8Own of the specification. -/
import Derived.Test.YtgkjokobbeahfaaLst8
import Derived.Deep.RegionHeld3
namespace Go.Proofs.Ytgkjokobbeahfaa
open Go.RowKit

theorem SrcO.srcs {w : World} {e : Oe} (h : SrcO w e) : SrcN .i64 e.a0 ((List.range e.t.n0).map e.t.f) e.c0 w ∧ SrcN .i64 e.a1 ((List.range e.t.n1).map e.t.g) e.c1 w := by
  obtain ⟨⟨x, f, h0⟩, ⟨y, g, h1⟩, ⟨R0, R1⟩, _⟩ := h
  exact ⟨⟨R0.rowN, .inr ⟨x, f, h0⟩⟩, ⟨R1.rowN, .inr ⟨y, g, h1⟩⟩⟩
set_option maxRecDepth 100000 in
set_option maxHeartbeats 3200000 in
theorem s_l8Own (a : Option Addr) (L : List Oe) (c : Nat) (w : World) (hl : L.length ≤ 1048576) (hU : RowU a L w) (hS : ∀ e, e ∈ L → SrcO w e) :
    Calls Try.prog 126 #[.slice a L.length c] w fun r w' => ∃ v M, r = .returned v ∧ M.map (·.t) = L.map (·.t) ∧ LsO w.heap.size v M w' ∧ Below w.heap.size w w' := by
  generalize hn' : L.length = n at *
  have hn := hide hn'
  clear hn'
  go_enter Try.func126, Try.ntmps126
  go_wp2_with fail
  go_loopw [3, 8] (fun vv y wr => ∃ (k : Nat) (v : Value) (M : List Oe), vv = v ∧ y = .int .i64 k ∧ k ≤ n ∧ M.map (·.t) = (L.take k).map (·.t) ∧ LsO w.heap.size v M wr ∧ Below w.heap.size w wr) (fun _ y _ => n - (intOf y).toNat)
  case atStart => exact ⟨0, _, [], rfl, rfl, Nat.zero_le _, rfl, LsO.nil _ _, Below.refl _ _⟩
  case round =>
    obtain ⟨k, v, M, rfl, rfl, hk, hM, hLs, hb⟩ := hrel
    by_cases hlt : k < n
    · have hlt' : (k : Int) < (n : Int) := by omega
      have hkL : k < L.length := by rw [hn.out]; exact hlt
      obtain ⟨b, off, rfl, hbw, u0, u1, u2, u3, u4, u5, u6⟩ := hU k hkL
      replace u0 := (hb.cell (p := ⟨b, off + k * 7, none⟩) hbw).trans u0
      replace u1 := (hb.cell (p := ⟨b, off + k * 7 + 1, none⟩) hbw).trans u1
      replace u2 := (hb.cell (p := ⟨b, off + k * 7 + 2, none⟩) hbw).trans u2
      replace u3 := (hb.cell (p := ⟨b, off + k * 7 + 3, none⟩) hbw).trans u3
      replace u4 := (hb.cell (p := ⟨b, off + k * 7 + 4, none⟩) hbw).trans u4
      replace u5 := (hb.cell (p := ⟨b, off + k * 7 + 5, none⟩) hbw).trans u5
      replace u6 := (hb.cell (p := ⟨b, off + k * 7 + 6, none⟩) hbw).trans u6
      have hN : Hid ((L.take (k + 1)).map (·.t) = (L.take k).map (·.t) ++ [(uAt L k).t]) := by rw [Hid, take_succU hkL, List.map_append]; rfl
      have hsrc := (hS _ (uAt_mem hkL)).below hb
      have hM := hide hM
      have hfl : Hid (M.length ≤ 1048576) := by
        have h0 : M.length = (M.map (·.t)).length := by simp
        rw [Hid, h0, hM.out, List.length_map, List.length_take]
        omega
      generalize uAt L k = e at *
      have A := hide (fun w S0 S1 => s_own8 e.t.o e.t.nx e.t.md e.t.pf e.a0 e.t.n0 e.c0 e.t.f e.a1 e.t.n1 e.c1 e.t.g w hsrc.2.2.2.1 hsrc.2.2.2.2 S0 S1)
      have hLs' := hide hLs
      clear hLs hU hS
      obtain ⟨va, vc, rfl, _, _⟩ := ownU_row hLs'.out.1
      have hgg : Hid (∀ g, (Value.slice va M.length vc).ownBlock = some g → g < wr.heap.size) := fun g e => (ownU_blk hLs'.out.1 e).2
      have hz1 := hide (fun e' (he' : e' ∈ M) => hLs'.out.lt he')
      have hbX : Below wr.heap.size wr (wr.alloc (.cells #[.int .i64 e.t.pe, .int .i64 e.t.o, .slice e.a0 e.t.n0 e.c0, .int .i64 e.t.nx, .int .i64 e.t.md, .int .i64 e.t.pf, .slice e.a1 e.t.n1 e.c1] 39)) := below_box (Below.refl _ _)
      have hLX := hide (hLs'.out.below hbX)
      have hsX := hide (hsrc.below hbX)
      have dX := hide (hb.trans (hbX.mono hb.size))
      have MX := Mut.new wr #[.int .i64 e.t.pe, .int .i64 e.t.o, .slice e.a0 e.t.n0 e.c0, .int .i64 e.t.nx, .int .i64 e.t.md, .int .i64 e.t.pf, .slice e.a1 e.t.n1 e.c1] 39
      have hbz := hbX.size
      have hws := hide hb.size
      clear hLs' hbX hsrc
      go_wp2_with fail
      clear u0 u1 u2 u3 u4 u5 u6
      generalize wr.alloc (.cells #[.int .i64 e.t.pe, .int .i64 e.t.o, .slice e.a0 e.t.n0 e.c0, .int .i64 e.t.nx, .int .i64 e.t.md, .int .i64 e.t.pf, .slice e.a1 e.t.n1 e.c1] 39) = wX at *
      generalize hbb : wr.heap.size = bb at *
      clear hbb
      have hSz : ∀ w' : World, Below wX.heap.size wX w' → w'.cell? ⟨bb, 0, none⟩ = some (.int .i64 e.t.pe) ∧ w'.cell? ⟨bb, 1, none⟩ = some (.int .i64 e.t.o) ∧ w'.cell? ⟨bb, 2, none⟩ = some (.slice e.a0 e.t.n0 e.c0) ∧ w'.cell? ⟨bb, 3, none⟩ = some (.int .i64 e.t.nx) ∧ w'.cell? ⟨bb, 4, none⟩ = some (.int .i64 e.t.md) ∧ w'.cell? ⟨bb, 5, none⟩ = some (.int .i64 e.t.pf) ∧ w'.cell? ⟨bb, 6, none⟩ = some (.slice e.a1 e.t.n1 e.c1) := fun w' b => ⟨(MX.below b).2.1 0 _ rfl, (MX.below b).2.1 1 _ rfl, (MX.below b).2.1 2 _ rfl, (MX.below b).2.1 3 _ rfl, (MX.below b).2.1 4 _ rfl, (MX.below b).2.1 5 _ rfl, (MX.below b).2.1 6 _ rfl⟩
      obtain ⟨u0, u1, u2, u3, u4, u5, u6⟩ := hSz wX (Below.refl _ _)
      have hsrcs := hide (fun w' (b : Below wX.heap.size wX w') => (hsX.out.below b).srcs)
      go_region_held3 (fun w' => w'.cell? ⟨bb, 0, none⟩ = some (.int .i64 e.t.pe) ∧ w'.cell? ⟨bb, 1, none⟩ = some (.int .i64 e.t.o) ∧ w'.cell? ⟨bb, 2, none⟩ = some (.slice e.a0 e.t.n0 e.c0) ∧ w'.cell? ⟨bb, 3, none⟩ = some (.int .i64 e.t.nx) ∧ w'.cell? ⟨bb, 4, none⟩ = some (.int .i64 e.t.md) ∧ w'.cell? ⟨bb, 5, none⟩ = some (.int .i64 e.t.pf) ∧ w'.cell? ⟨bb, 6, none⟩ = some (.slice e.a1 e.t.n1 e.c1))
        (first | exact hS4 | exact hSz _ (Below.refl _ _) | exact hSz _ (Below.refl _ _).drew | exact hSz _ dA | exact hSz _ dA.drew | go_keep)
        ((first
          | (have hq0 := dA; refine step_appU2 (by rfl) _ _ (by rfl) w.heap.size (.slice va M.length vc) M (by rfl) (hL3.below (by first | exact below_box (Below.refl _ _) | exact (below_box (Below.refl _ _)).drew | exact below_box (Below.refl _ _).drew | exact (Below.refl _ _).drew.trans (below_box (Below.refl _ _)).drew)).1 (some ⟨w3.heap.size, 0, none⟩) [(⟨e.t, some ⟨x, 0, none⟩, pc, some ⟨y, 0, none⟩, yc⟩ : Oe)] 1 1 (by rfl) rfl ⟨RowU.one (p := (⟨e.t, some ⟨x, 0, none⟩, pc, some ⟨y, 0, none⟩, yc⟩ : Oe)) (by simp) (by simp [go_sem]) (by simp [go_sem]) (by simp [go_sem]) (by simp [go_sem]) (by simp [go_sem]) (by simp [go_sem]) (by simp [go_sem]), .inr ⟨_, _, rfl⟩⟩ (by have := hfl.out; simp; omega) (by have h1 := dX.out.size; have h2 := dA.size; simp; omega) ?_; intro v' w4 hO4 b4 hgr hbk; have hS4 : w4.cell? ⟨bb, 0, none⟩ = some (.int .i64 e.t.pe) ∧ w4.cell? ⟨bb, 1, none⟩ = some (.int .i64 e.t.o) ∧ w4.cell? ⟨bb, 2, none⟩ = some (.slice e.a0 e.t.n0 e.c0) ∧ w4.cell? ⟨bb, 3, none⟩ = some (.int .i64 e.t.nx) ∧ w4.cell? ⟨bb, 4, none⟩ = some (.int .i64 e.t.md) ∧ w4.cell? ⟨bb, 5, none⟩ = some (.int .i64 e.t.pf) ∧ w4.cell? ⟨bb, 6, none⟩ = some (.slice e.a1 e.t.n1 e.c1) := (by have N4 := (N3.below (by first | exact below_box (Below.refl _ _) | exact (below_box (Below.refl _ _)).drew | exact below_box (Below.refl _ _).drew | exact (Below.refl _ _).drew.trans (below_box (Below.refl _ _)).drew)).grow8 hgr (fun e => by have := hgg.out _ e; omega); exact ⟨N4.2.1 0 _ rfl, N4.2.1 1 _ rfl, N4.2.1 2 _ rfl, N4.2.1 3 _ rfl, N4.2.1 4 _ rfl, N4.2.1 5 _ rfl, N4.2.1 6 _ rfl⟩); have hL5 := hide (LsO.app (z := bb) (e := (⟨e.t, some ⟨x, 0, none⟩, pc, some ⟨y, 0, none⟩, yc⟩ : Oe)) (hL3.below (by first | exact below_box (Below.refl _ _) | exact (below_box (Below.refl _ _)).drew | exact below_box (Below.refl _ _).drew | exact (Below.refl _ _).drew.trans (below_box (Below.refl _ _)).drew)) hz1.out hgg.out ⟨rfl, rfl, by show w.heap.size ≤ x; have := hws.out; omega, by show bb ≤ x; omega, hy, OutInt.below o1 (by first | exact below_box (Below.refl _ _) | exact (below_box (Below.refl _ _)).drew | exact below_box (Below.refl _ _).drew | exact (Below.refl _ _).drew.trans (below_box (Below.refl _ _)).drew), OutInt.below o2 (by first | exact below_box (Below.refl _ _) | exact (below_box (Below.refl _ _)).drew | exact below_box (Below.refl _ _).drew | exact (Below.refl _ _).drew.trans (below_box (Below.refl _ _)).drew)⟩ hO4 hgr (by first | exact hbk | simpa using hbk)); have d5 : Below w.heap.size w3 w4 := (by first | exact ((below_box (Below.refl _ _)).mono hw3).trans b4 | exact ((below_box (Below.refl _ _)).drew.mono hw3).trans b4 | exact ((below_box (Below.refl _ _).drew).mono hw3).trans b4))
          | (go_at_call 127; refine (A.out _ (by first | exact (hsrcs.out _ (Below.refl _ _)).1 | exact (hsrcs.out _ (Below.refl _ _).drew).1) (by first | exact (hsrcs.out _ (Below.refl _ _)).2 | exact (hsrcs.out _ (Below.refl _ _).drew).2)).mono ?_; rintro r w3 ⟨x, pc, y, yc, rfl, o1, o2, hx, hy, b3⟩; have dA : Below wX.heap.size wX w3 := (by first | exact b3 | exact (Below.refl _ _).drew.trans b3); have hx : wX.heap.size ≤ x := hx; have hL3 := hLX.out.below dA; have N3 := MX.below dA; have hw3 : w.heap.size ≤ w3.heap.size := Nat.le_trans dX.out.size dA.size)))
      all_goals
        have dF := (dX.out.trans (dA.mono dX.out.size)).trans d5
        clear hSz hsrcs hS4 hL3 N3 MX hLX hsX A hz1 hgg
        go_wp2_with fail
        exact ⟨⟨k + 1, v', M ++ [(⟨e.t, some ⟨x, 0, none⟩, pc, some ⟨y, 0, none⟩, yc⟩ : Oe)], rfl, by go_num, by omega, by rw [hN.out, List.map_append, hM.out]; rfl, hL5.out, dF⟩, by simp [intOf]; omega⟩
    · have hlt' : ¬ (k : Int) < (n : Int) := by omega
      obtain rfl : k = n := by omega
      have hT : L.take k = L := by rw [List.take_of_length_le (by rw [hn.out]; exact Nat.le_refl _)]
      rw [hT] at hM
      have hM := hide hM
      obtain ⟨va, vc, rfl, _, _⟩ := ownU_row hLs.1
      have hLs := hide hLs
      clear hT
      go_wp2_with fail
      go_ret
      exact ⟨_, rfl, M, hM.out, hLs.out, hb⟩
end Go.Proofs.Ytgkjokobbeahfaa
