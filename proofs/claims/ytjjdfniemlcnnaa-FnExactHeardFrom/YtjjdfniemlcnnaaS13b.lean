/- l13Best of the specification: the best offer that counts. -/
import Derived.Test.YtjjdfniemlcnnaaPlain13b
import Derived.Test.YtjjdfniemlcnnaaAll12
namespace Go.Proofs.Ytjjdfniemlcnnaa
open Go.RowKit

set_option maxRecDepth 100000 in
set_option maxHeartbeats 3200000 in
theorem s_l13Best (x : Int) (a : Option Addr) (n c : Nat) (T : Nat → Oc) (w00 w : World) (hn : n ≤ 1048576) (hR : RowOS a n T w00) (hbb : Below w00.heap.size w00 w) :
    Calls Try.prog 69 #[.int .i64 x, .slice a n c] w fun e w' => ∃ q : Oe, e = .returned (.tuple #[.agg #[.int .i64 q.t.pe, .int .i64 q.t.o, .slice q.a0 q.t.n0 q.c0, .int .i64 q.t.nx, .int .i64 q.t.md, .int .i64 q.t.pf, .slice q.a1 q.t.n1 q.c1], .bool (bfB n T x)]) ∧ BfIs n T x q w00 ∧ Below w.heap.size w w' := by
  obtain ⟨L, hL, hmap0, hU0, hS0⟩ := hR
  have hU := hU0.below hbb
  have hS : ∀ e, e ∈ L → SrcO w e := fun e he => (hS0 e he).below hbb
  have hS0 := hide hS0
  clear hU0
  have hmap := hide hmap0
  have hmapF : Hid ((L.filter (fun e => keepO x e.t)).map (·.t) = flO n T x) := by rw [Hid]; rw [filter_map_t, hmap.out]; rfl
  have hlen : Hid ((L.filter (fun e => keepO x e.t)).length = (flO n T x).length) := by rw [Hid]; rw [← hmapF.out, List.length_map]
  have hmem : Hid (∀ e, e ∈ L → SrcO w e) := hS
  have hle : Hid ((flO n T x).length ≤ 1048576) := by
    rw [Hid, ← hlen.out]
    have := List.length_filter_le (fun e : Oe => keepO x e.t) L
    omega
  have BP := hide (fun a' c' w' R' => s_l8Best a' (flO n T x).length c' (TL (flO n T x)) w' hle.out R')
  have hB : Hid (bfB n T x = decide (0 < (flO n T x).length)) := rfl
  have hT : Hid (bfT n T x = if bfB n T x = true then TL (flO n T x) (pkO (TL (flO n T x)) ((flO n T x).length - 1)) else oc0) := rfl
  have hB0 : Below w.heap.size w (w.alloc (.cells #[.int .i64 0, .int .i64 0, .slice none 0 0, .int .i64 0, .int .i64 0, .int .i64 0, .slice none 0 0] 49)) := below_box (Below.refl _ _)
  have MR := Mut.new w #[.int .i64 0, .int .i64 0, .slice none 0 0, .int .i64 0, .int .i64 0, .int .i64 0, .slice none 0 0] 49
  generalize hFL : flO n T x = FL at *
  clear hmap hmap0 hS
  go_enter Try.func69, Try.ntmps69
  go_wp2_with fail
  generalize w.alloc (.cells #[.int .i64 0, .int .i64 0, .slice none 0 0, .int .i64 0, .int .i64 0, .int .i64 0, .slice none 0 0] 49) = W at *
  go_loopw [6, 12] (fun v y wr => ∃ k : Nat, y = .int .i64 k ∧ k ≤ n ∧ OwnU W.heap.size v ((L.take k).filter (fun e => keepO x e.t)) wr ∧ Below W.heap.size W wr) (fun _ y _ => n - (intOf y).toNat)
  case atStart => exact ⟨0, rfl, Nat.zero_le _, ownU_nil _ _, Below.refl _ _⟩
  case round =>
    obtain ⟨k, rfl, hk, hO, hb0⟩ := hrel
    have hb := hB0.trans (hb0.mono hB0.size)
    by_cases hlt : k < n
    · have hlt' : (k : Int) < (n : Int) := by omega
      obtain ⟨b, off, rfl, hbw, u0, u1, u2, u3, u4, u5, u6⟩ := hU k (by omega)
      replace u0 := (hb.cell (p := ⟨b, off + k * 7, none⟩) hbw).trans u0
      replace u1 := (hb.cell (p := ⟨b, off + k * 7 + 1, none⟩) hbw).trans u1
      replace u2 := (hb.cell (p := ⟨b, off + k * 7 + 2, none⟩) hbw).trans u2
      replace u3 := (hb.cell (p := ⟨b, off + k * 7 + 3, none⟩) hbw).trans u3
      replace u4 := (hb.cell (p := ⟨b, off + k * 7 + 4, none⟩) hbw).trans u4
      replace u5 := (hb.cell (p := ⟨b, off + k * 7 + 5, none⟩) hbw).trans u5
      replace u6 := (hb.cell (p := ⟨b, off + k * 7 + 6, none⟩) hbw).trans u6
      have hne := hide (filter_takeU (fun e => keepO x e.t) (show k < L.length by omega))
      obtain ⟨_, _, hin, hn0, _⟩ := hmem.out _ (uAt_mem (show k < L.length by omega))
      have hfl : Hid (((L.take k).filter (fun e => keepO x e.t)).length ≤ 1048576) := by
        rw [Hid]
        refine Nat.le_trans (List.length_filter_le _ _) ?_
        rw [List.length_take]
        omega
      generalize uAt L k = e at *
      generalize (L.take k).filter (fun e => keepO x e.t) = M at *
      have C := hide (fun w R => s_hasI e.a0 e.t.n0 e.c0 e.t.f x w hn0 R)
      have hbX : Below wr.heap.size wr (wr.alloc (.cells #[.int .i64 e.t.pe, .int .i64 e.t.o, .slice e.a0 e.t.n0 e.c0, .int .i64 e.t.nx, .int .i64 e.t.md, .int .i64 e.t.pf, .slice e.a1 e.t.n1 e.c1] 49)) := below_box (Below.refl _ _)
      have dX := hide (hb0.trans (hbX.mono hb0.size))
      have iX := hide (hin.1.below (hb.trans (hbX.mono hb.size)))
      have MX := hide (Mut.new wr #[.int .i64 e.t.pe, .int .i64 e.t.o, .slice e.a0 e.t.n0 e.c0, .int .i64 e.t.nx, .int .i64 e.t.md, .int .i64 e.t.pf, .slice e.a1 e.t.n1 e.c1] 49)
      have hOX := hide (ownU_below hO hbX)
      have hkeep : Hid (keepO x e.t = !coB e.t.n0 e.t.f x) := rfl
      clear hO hbX MR hin
      obtain ⟨va, vc, rfl, _, hsh⟩ := ownU_row hOX.out
      cases hc : coB e.t.n0 e.t.f x with
      | true =>
        rw [hc] at C hkeep
        have hN : Hid ((L.take (k + 1)).filter (fun e => keepO x e.t) = M) := by rw [Hid]; rw [hne.out, hkeep.out]; simp
        clear hc hne hkeep
        go_wp2_with fail
        refine (C.out _ iX.out).mono ?_
        rintro e' w3 ⟨rfl, b3⟩
        go_wp2_with fail
        exact ⟨⟨k + 1, by go_num, by omega, by rw [hN.out]; exact ownU_below hOX.out b3, dX.out.trans (b3.mono dX.out.size)⟩, by simp [intOf]; omega⟩
      | false =>
        rw [hc] at C hkeep
        have hN : Hid ((L.take (k + 1)).filter (fun e => keepO x e.t) = M ++ [e]) := by rw [Hid]; rw [hne.out, hkeep.out]; simp
        clear hc hne hkeep
        go_wp2_with fail
        refine (C.out _ iX.out).mono ?_
        rintro e' w3 ⟨rfl, b3⟩
        have MX3 := MX.out.below b3
        have hO3 := ownU_below hOX.out b3
        have d3 := dX.out.trans (b3.mono dX.out.size)
        have hs3 := d3.size
        have hf3 := hfl.out
        clear b3 hOX MX dX C iX
        have m0 := MX3.2.1 0 _ rfl
        have m1 := MX3.2.1 1 _ rfl
        have m2 := MX3.2.1 2 _ rfl
        have m3 := MX3.2.1 3 _ rfl
        have m4 := MX3.2.1 4 _ rfl
        have m5 := MX3.2.1 5 _ rfl
        have m6 := MX3.2.1 6 _ rfl
        clear MX3
        go_wp2_with (first | (at_builtin; refine wpList_appU rfl _ _ rfl W.heap.size _ M rfl (ownU_below hO3 (below_box (Below.refl _ _))) (some ⟨w3.heap.size, 0, none⟩) [e] 1 rfl ⟨RowU.one (p := e) (by simp) (by simp) (by simp) (by simp) (by simp) (by simp) (by simp) (by simp), .inr ⟨_, _, rfl⟩⟩ (by simp only [List.length_cons, List.length_nil]; omega) (by simp; omega) ?_))
        intro v' w4 hO4 b4 _
        go_wp2_with fail
        exact ⟨⟨k + 1, by go_num, by omega, by rw [hN.out]; exact hO4, (d3.trans ((below_box (Below.refl _ _)).mono hs3)).trans b4⟩, by simp [intOf]; omega⟩
    · have hlt' : ¬ (k : Int) < (n : Int) := by omega
      obtain rfl : k = n := by omega
      have hT2 : L.take k = L := by rw [List.take_of_length_le (by omega)]
      rw [hT2] at hO
      have hin' : Hid (∀ e, e ∈ L.filter (fun e => keepO x e.t) → SrcO wr e) := fun e he => (hmem.out e (List.mem_filter.1 he).1).below hb
      have hin0 : Hid (∀ e, e ∈ L.filter (fun e => keepO x e.t) → SrcO w00 e) := fun e he => hS0.out e (List.mem_filter.1 he).1
      obtain ⟨va, vc, rfl, hrow, _⟩ := ownU_row hO
      have hRR := hide (hrow.offers (fun e he => (hin'.out e he).2.2.1))
      rw [hmapF.out, hlen.out] at hRR
      have MRr := MR.below hb0
      clear hO hmem hU hT2 MR
      generalize L.filter (fun e => keepO x e.t) = ML at *
      rw [hlen.out]
      by_cases hz : FL.length = 0
      · have hbB : Hid (bfB k T x = false) := by rw [Hid, hB.out, hz]; rfl
        have hbT : Hid (bfT k T x = oc0) := by rw [Hid, hT.out, hbB.out]; rfl
        rw [hz, bsO_zero] at BP
        rw [hz] at hRR
        clear hT hB hrow hlen hmapF hle
        rw [hz]
        go_wp2_with fail
        refine (BP.out va vc _ hRR.out).mono ?_
        rintro e w3 ⟨rfl, b3⟩
        have M3 := MRr.below b3
        have g0 := M3.2.1 0 _ rfl
        have z0 := M3.2.2 0 (by simp)
        have g1 := M3.2.1 1 _ rfl
        have z1 := M3.2.2 1 (by simp)
        have g2 := M3.2.1 2 _ rfl
        have z2 := M3.2.2 2 (by simp)
        have g3 := M3.2.1 3 _ rfl
        have z3 := M3.2.2 3 (by simp)
        have g4 := M3.2.1 4 _ rfl
        have z4 := M3.2.2 4 (by simp)
        have g5 := M3.2.1 5 _ rfl
        have z5 := M3.2.2 5 (by simp)
        have g6 := M3.2.1 6 _ rfl
        have z6 := M3.2.2 6 (by simp)
        have d3 := hb.trans (b3.mono hb.size)
        clear M3 MRr b3
        go_wp2_with fail
        rw [hbB.out]
        refine bodyPost_ret (v := .tuple #[.agg #[.int .i64 0, .int .i64 0, .slice none 0 0, .int .i64 0, .int .i64 0, .int .i64 0, .slice none 0 0], .bool false]) (by simp [results, Try.results69, go_sem, *]) rfl ⟨oe0, rfl, ⟨hbT.out.symm, fun e => (by rw [hbB.out] at e; cases e), fun _ => rfl⟩, ?_⟩
        refine Below.setCell (Below.setCell (Below.setCell (Below.setCell (Below.setCell (Below.setCell (Below.setCell d3 ?_ _) ?_ _) ?_ _) ?_ _) ?_ _) ?_ _) ?_ _ <;> simp
      · have hbB : Hid (bfB k T x = true) := by rw [Hid, hB.out]; simp; omega
        have hbT : Hid (bfT k T x = TL FL (pkO (TL FL) (FL.length - 1))) := by rw [Hid, hT.out, hbB.out]; rfl
        obtain ⟨m, hm⟩ : ∃ m, FL.length = m + 1 := ⟨FL.length - 1, by omega⟩
        rw [hm, bsO_succ] at BP
        have hpm := pkO_le (TL FL) m
        rw [hm, Nat.add_sub_cancel] at hbT
        rw [hm] at hRR hlen
        clear hT hB hle
        rw [hm]
        have hpl : pkO (TL FL) m < ML.length := by rw [hlen.out]; omega
        have het : Hid ((uAt ML (pkO (TL FL) m)).t = TL FL (pkO (TL FL) m)) := by
          rw [Hid, uAt_eq hpl, TL_eq (by omega)]
          have : (ML.map (·.t))[pkO (TL FL) m]? = FL[pkO (TL FL) m]? := by rw [hmapF.out]
          rw [List.getElem?_map, List.getElem?_eq_getElem hpl, List.getElem?_eq_getElem (by omega)] at this
          simpa using this
        have hsrc := hide (hin0.out _ (uAt_mem hpl))
        obtain ⟨b, off, rfl, hbw, u0, u1, u2, u3, u4, u5, u6⟩ := hrow _ hpl
        generalize uAt ML (pkO (TL FL) m) = e at *
        have hlt2 : ((pkO (TL FL) m : Nat) : Int) < ((m + 1 : Nat) : Int) := by omega
        have hlt3 : ¬ (((pkO (TL FL) m : Nat) : Int) < 0) := by omega
        clear hrow hlen hmapF hin' hin0
        generalize pkO (TL FL) m = kk at *
        go_wp2_with fail
        refine (BP.out _ vc _ hRR.out).mono ?_
        rintro e' w3 ⟨rfl, b3⟩
        have M3 := MRr.below b3
        have g0 := M3.2.1 0 _ rfl
        have z0 := M3.2.2 0 (by simp)
        have g1 := M3.2.1 1 _ rfl
        have z1 := M3.2.2 1 (by simp)
        have g2 := M3.2.1 2 _ rfl
        have z2 := M3.2.2 2 (by simp)
        have g3 := M3.2.1 3 _ rfl
        have z3 := M3.2.2 3 (by simp)
        have g4 := M3.2.1 4 _ rfl
        have z4 := M3.2.2 4 (by simp)
        have g5 := M3.2.1 5 _ rfl
        have z5 := M3.2.2 5 (by simp)
        have g6 := M3.2.1 6 _ rfl
        have z6 := M3.2.2 6 (by simp)
        have d3 := hb.trans (b3.mono hb.size)
        obtain ⟨hc, _⟩ := bcell b3
        replace u0 := (hc _ _ hbw).trans u0
        replace u1 := (hc _ _ hbw).trans u1
        replace u2 := (hc _ _ hbw).trans u2
        replace u3 := (hc _ _ hbw).trans u3
        replace u4 := (hc _ _ hbw).trans u4
        replace u5 := (hc _ _ hbw).trans u5
        replace u6 := (hc _ _ hbw).trans u6
        clear M3 MRr b3 hc hRR
        go_wp2_with fail
        rw [hbB.out]
        refine bodyPost_ret (v := .tuple #[.agg #[.int .i64 e.t.pe, .int .i64 e.t.o, .slice e.a0 e.t.n0 e.c0, .int .i64 e.t.nx, .int .i64 e.t.md, .int .i64 e.t.pf, .slice e.a1 e.t.n1 e.c1], .bool true]) (by simp [results, Try.results69, go_sem, *]) rfl ⟨e, rfl, ⟨het.out.trans hbT.out.symm, fun _ => hsrc.out, fun e' => (by rw [hbB.out] at e'; cases e')⟩, ?_⟩
        refine Below.setCell (Below.setCell (Below.setCell (Below.setCell (Below.setCell (Below.setCell (Below.setCell d3 ?_ _) ?_ _) ?_ _) ?_ _) ?_ _) ?_ _) ?_ _ <;> simp
end Go.Proofs.Ytjjdfniemlcnnaa
