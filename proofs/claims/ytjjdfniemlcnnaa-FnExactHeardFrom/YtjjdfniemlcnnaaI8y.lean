/- BestBy of the program. -/
import Derived.Test.YtjjdfniemlcnnaaAll4
import Derived.Test.YtjjdfniemlcnnaaI8b
import Derived.Test.YtjjdfniemlcnnaaAll9
namespace Go.Proofs.Ytjjdfniemlcnnaa
open Go.RowKit

theorem i_lowF {n : Nat} {T : Nat → Oc} (hl : LowO n T) (p : Oc → Bool) : ∀ t, t ∈ (lsO n T).filter p → t.n0 ≤ 1048576 ∧ t.n1 ≤ 1048576 := by
  intro t ht
  have := (List.mem_filter.1 ht).1
  simp only [lsO, List.mem_map, List.mem_range] at this
  obtain ⟨i, hi, rfl⟩ := this
  exact hl i hi
set_option maxRecDepth 100000 in
set_option maxHeartbeats 3200000 in
theorem i_bestBy (a : Option Addr) (n c : Nat) (T : Nat → Oc) (x : Int) (w : World) (hn : n ≤ 1048576) (hl : LowO n T) (hR : RowO a n T w) :
    Calls Try.prog 85 #[.slice a n c, .int .i64 x] w fun e w' => e = .returned (.tuple #[.int .i64 (byV n T x), .bool (byK n T x)]) ∧ Below w.heap.size w w' := by
  have G := hide (fun w R => i_goodOffers a n c T w hn hl R)
  have A := hide (fun w => i_isAsn x w)
  cases hg : osB n T with
  | false =>
    rw [byV_no (byK_no1 hg), byK_no1 hg]
    rw [hg] at G
    clear hg hl
    go_enter Try.func85, Try.ntmps85
    go_wp2_with fail
    refine (G.out _ hR).mono ?_
    rintro e w1 ⟨rfl, d1⟩
    go_wp2_with fail
    go_ret2
    exact ⟨rfl, d1⟩
  | true =>
    rw [hg] at G
    cases hx : inB x 1 65535 with
    | false =>
      rw [byV_no (byK_no2 hx), byK_no2 hx]
      rw [hx] at A
      clear hg hx hl
      go_enter Try.func85, Try.ntmps85
      go_wp2_with fail
      refine (G.out _ hR).mono ?_
      rintro e w1 ⟨rfl, d1⟩
      go_wp2_with fail
      refine (A.out _).mono ?_
      rintro e w2 ⟨rfl, rfl⟩
      go_wp2_with fail
      go_ret2
      exact ⟨rfl, d1⟩
    | true =>
      rw [hx] at A
      have eK : byK n T x = decide (0 < (flO n T x).length) := by simp [byK, hg, hx]
      have eV : byV n T x = if 0 < (flO n T x).length then (TL (flO n T x) (pkO (TL (flO n T x)) ((flO n T x).length - 1))).pe else 0 := by simp [byV, eK]
      rw [eK, eV]
      clear eK eV hx
      obtain ⟨L, hL, hLT, hU, hIn⟩ := rowO_list hR
      have hmap := hide (map_lsO hL hLT)
      have hmapF : Hid ((L.filter (fun e => keepO x e.t)).map (·.t) = flO n T x) := by rw [Hid]; rw [filter_map_t, hmap.out]; rfl
      have hlow := hide (i_lowF hl (keepO x))
      have hlen : Hid ((L.filter (fun e => keepO x e.t)).length = (flO n T x).length) := by rw [Hid]; rw [← hmapF.out, List.length_map]
      have hmem : Hid (∀ e, e ∈ L → OfIn e.a0 e.a1 e.t w ∧ e.t.n0 ≤ 1048576) := by
        intro e he
        obtain ⟨i, hi, rfl⟩ := List.getElem_of_mem he
        have h1 := hIn i (by omega)
        have h2 := hLT i (by omega)
        have h3 := hl i (by omega)
        rw [← h2] at h1 h3
        rw [uAt_eq hi] at h1 h3
        exact ⟨h1, h3.1⟩
      have BP := hide (fun a' c' w' R' => i_bestPeer a' (flO n T x).length c' (TL (flO n T x)) w' (by rw [← hlen.out]; have := List.length_filter_le (fun e : Oe => keepO x e.t) L; omega) R')
      generalize flO n T x = FL at *
      generalize (if 0 < FL.length then (TL FL (pkO (TL FL) (FL.length - 1))).pe else 0) = r0 at BP ⊢
      generalize decide (0 < FL.length) = r1 at BP ⊢
      clear hg hl hLT hIn
      have hmap := hmap
      go_enter Try.func85, Try.ntmps85
      go_wp2_with fail
      refine (G.out _ hR).mono ?_
      rintro e w1 ⟨rfl, d1⟩
      go_wp2_with fail
      refine (A.out _).mono ?_
      rintro e w2 ⟨rfl, rfl⟩
      go_wp2_with fail
      go_loopw [6, 19] (fun v y wr => ∃ k : Nat, y = .int .i64 k ∧ k ≤ n ∧ OwnU w.heap.size v ((L.take k).filter (fun e => keepO x e.t)) wr ∧ Below w.heap.size w wr) (fun _ y _ => n - (intOf y).toNat)
      case atStart => exact ⟨0, rfl, Nat.zero_le _, ownU_nil _ _, d1⟩
      case round =>
        clear d1
        obtain ⟨k, rfl, hk, hO, hb⟩ := hrel
        by_cases hlt : k < n
        · have hlt' : (k : Int) < (n : Int) := by omega
          obtain ⟨b, off, rfl, hbw, u0, u1, u2, u3, u4, u5, u6⟩ := hU k (by omega)
          replace u0 := (hb.cell (p := ⟨b, off + k * 7, none⟩) hbw).trans u0
          replace u1 := (hb.cell (p := ⟨b, off + k * 7 + 1, none⟩) hbw).trans u1
          replace u2 := (hb.cell (p := ⟨b, off + k * 7 + 2, none⟩) hbw).trans u2
          replace u3 := (hb.cell (p := ⟨b, off + k * 7 + 3, none⟩) hbw).trans u3
          replace u4 := (hb.cell (p := ⟨b, off + k * 7 + 4, none⟩) hbw).trans u4
          replace u5 := (hb.cell (p := ⟨b, off + k * 7 + 5, none⟩) hbw).trans u5
          replace u6 := (hb.cell (p := ⟨b, off + k * 7 + 6, none⟩) hbw).trans u6
          have hne := hide (filter_takeU (fun e => keepO x e.t) (show k < L.length by omega))
          obtain ⟨hin, hn0⟩ := hmem.out _ (uAt_mem (show k < L.length by omega))
          have hfl : Hid (((L.take k).filter (fun e => keepO x e.t)).length ≤ 1048576) := by
            rw [Hid]
            refine Nat.le_trans (List.length_filter_le _ _) ?_
            rw [List.length_take]
            omega
          generalize uAt L k = e at *
          generalize (L.take k).filter (fun e => keepO x e.t) = M at *
          have C := hide (fun w R => i_containsI e.a0 e.t.n0 e.c0 e.t.f x w hn0 R)
          have hbX : Below wr.heap.size wr (wr.alloc (.cells #[.int .i64 e.t.pe, .int .i64 e.t.o, .slice e.a0 e.t.n0 e.c0, .int .i64 e.t.nx, .int .i64 e.t.md, .int .i64 e.t.pf, .slice e.a1 e.t.n1 e.c1] 49)) := below_box (Below.refl _ _)
          have dX := hide (hb.trans (hbX.mono hb.size))
          have MX := hide (Mut.new wr #[.int .i64 e.t.pe, .int .i64 e.t.o, .slice e.a0 e.t.n0 e.c0, .int .i64 e.t.nx, .int .i64 e.t.md, .int .i64 e.t.pf, .slice e.a1 e.t.n1 e.c1] 49)
          have hOX := hide (ownU_below hO hbX)
          have hkeep : Hid (keepO x e.t = !coB e.t.n0 e.t.f x) := rfl
          clear hO hbX
          obtain ⟨va, vc, rfl, _, hsh⟩ := ownU_row hOX.out
          cases hc : coB e.t.n0 e.t.f x with
          | true =>
            rw [hc] at C hkeep
            have hN : Hid ((L.take (k + 1)).filter (fun e => keepO x e.t) = M) := by rw [Hid]; rw [hne.out, hkeep.out]; simp
            clear hc hne hkeep
            go_wp2_with fail
            refine (C.out _ (hin.1.below dX.out)).mono ?_
            rintro e' w3 ⟨rfl, b3⟩
            go_wp2_with fail
            exact ⟨⟨k + 1, by go_num, by omega, by rw [hN.out]; exact ownU_below hOX.out b3, dX.out.trans (b3.mono dX.out.size)⟩, by simp [intOf]; omega⟩
          | false =>
            rw [hc] at C hkeep
            have hN : Hid ((L.take (k + 1)).filter (fun e => keepO x e.t) = M ++ [e]) := by rw [Hid]; rw [hne.out, hkeep.out]; simp
            clear hc hne hkeep
            go_wp2_with fail
            refine (C.out _ (hin.1.below dX.out)).mono ?_
            rintro e' w3 ⟨rfl, b3⟩
            have MX3 := MX.out.below b3
            have hO3 := ownU_below hOX.out b3
            have d3 := dX.out.trans (b3.mono dX.out.size)
            have hs3 := d3.size
            have hf3 := hfl.out
            clear b3 hOX MX dX C hin
            have m0 := MX3.2.1 0 _ rfl
            have m1 := MX3.2.1 1 _ rfl
            have m2 := MX3.2.1 2 _ rfl
            have m3 := MX3.2.1 3 _ rfl
            have m4 := MX3.2.1 4 _ rfl
            have m5 := MX3.2.1 5 _ rfl
            have m6 := MX3.2.1 6 _ rfl
            clear MX3
            go_wp2_with (first | (at_builtin; refine wpList_appU rfl _ _ rfl w.heap.size _ M rfl (ownU_below hO3 (below_box (Below.refl _ _))) (some ⟨w3.heap.size, 0, none⟩) [e] 1 rfl ⟨RowU.one (p := e) (by simp) (by simp) (by simp) (by simp) (by simp) (by simp) (by simp) (by simp), .inr ⟨_, _, rfl⟩⟩ (by simp only [List.length_cons, List.length_nil]; omega) (by simp; omega) ?_))
            intro v' w4 hO4 b4 _
            go_wp2_with fail
            exact ⟨⟨k + 1, by go_num, by omega, by rw [hN.out]; exact hO4, (d3.trans ((below_box (Below.refl _ _)).mono hs3)).trans b4⟩, by simp [intOf]; omega⟩
        · have hlt' : ¬ (k : Int) < (n : Int) := by omega
          obtain rfl : k = n := by omega
          have hT : L.take k = L := by rw [List.take_of_length_le (by omega)]
          rw [hT] at hO
          have hin' : ∀ e, e ∈ L.filter (fun e => keepO x e.t) → OfIn e.a0 e.a1 e.t wr := fun e he => (hmem.out e (List.mem_filter.1 he).1).1.below hb
          obtain ⟨va, vc, rfl, hrow, _⟩ := ownU_row hO
          have hRR := hide (hrow.offers hin')
          rw [hmapF.out, hlen.out] at hRR
          clear hO hrow hin' hmem hmap hU hT
          rw [hlen.out]
          go_wp2_with fail
          refine (BP.out va vc _ hRR.out).mono ?_
          rintro e w3 ⟨rfl, b3⟩
          go_wp2_with fail
          go_ret2
          exact ⟨rfl, hb.trans (b3.mono hb.size)⟩
end Go.Proofs.Ytjjdfniemlcnnaa
