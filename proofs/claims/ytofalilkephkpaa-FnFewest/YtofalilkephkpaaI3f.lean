/- What the program's joinedAtEnd answers. -/
import Derived.Test.YtofalilkephkpaaI3e
import Derived.Test.YtofalilkephkpaaGrow3
namespace Go.Proofs.Ytofalilkephkpaa
open Go.RowKit

theorem pc_take (L : List Pf) {k : Nat} (hk : k ≤ L.length) : pcells (L.take k) = (pcells L).take (k * 2) := by
  have h1 : pcells L = pcells (L.take k) ++ pcells (L.drop k) := by rw [← pc_app, List.take_append_drop]
  have h2 : (pcells (L.take k)).length = k * 2 := by rw [pc_len, List.length_take]; omega
  rw [h1, List.take_append_of_le_length (by omega), List.take_of_length_le (l := pcells (L.take k)) (by omega)]
/-- The front of a list of one's own. -/
theorem ownP_take {w : World} {base g cap : Nat} {L : List Pf} (h : OwnP base (.slice (some ⟨g, 0, none⟩) L.length cap) L w) {k : Nat} (hk : k ≤ L.length) : OwnP base (.slice (some ⟨g, 0, none⟩) k cap) (L.take k) w := by
  have hk2 : (L.take k).length = k := by rw [List.length_take]; omega
  refine ⟨pc_len _, ?_⟩
  rcases h.2 with ⟨h1, _⟩ | ⟨g', cap', cur, h1, hb, hg, hn, hm, hs, ht⟩
  · simp at h1
  · simp only [Value.slice.injEq, Option.some.injEq, Addr.mk.injEq, and_true, true_and] at h1
    obtain ⟨rfl, rfl⟩ := h1
    refine .inr ⟨g, cap, cur, by rw [hk2], hb, hg, by omega, hm, hs, ?_⟩
    rw [hk2, pc_take L hk, ← ht, List.take_take, Nat.min_eq_left (by omega)]
theorem pAt_end1 (A : List Pf) (q p : Pf) : pAt (A ++ [q, p]) A.length = q := by rw [pAt_eq (by simp)]; simp
theorem pAt_end2 (A : List Pf) (q p : Pf) : pAt (A ++ [q, p]) (A.length + 1) = p := by rw [pAt_eq (by simp)]; simp
theorem jWrap0 {m : Nat} (h : m ≤ 4294967296) : wrap64 (m : Int) = (m : Int) := IntWalk.wrap64_in _ ⟨by omega, by omega⟩
theorem jWrap1 {m : Nat} (h : m ≤ 4294967296) : wrap64 ((m : Int) + 1) = (m : Int) + 1 := IntWalk.wrap64_in _ ⟨by omega, by omega⟩
theorem jWrapK {m : Nat} (h : m ≤ 4294967296) : IntKind.i64.wrap ((m : Int) + 1) = (m : Int) + 1 := wrapk_in _ ⟨by omega, by omega⟩
theorem idx1 (m : Nat) : ((m : Int) + 1).toNat = m + 1 := by omega
theorem grown_belowQ {w w' : World} {base n : Nat} {v : Value} {xs : List Value} {e : TypeId} {k : Nat} (h : w.ownsRow base e k v n xs) (hg : w.grownBy w' v.ownBlock) (hb : base ≤ w.heap.size) : Below base w w' :=
  ⟨hg.os, hg.tape, hg.output, hg.size, fun i hi => hg.block i (by omega) (fun e => by have := (World.ownsRow.lt h i e.symm).1; omega)⟩
def sliceLen : Value → Nat
  | .slice _ n _ => n
  | _ => 0

theorem push_yes {q p : Pf} {st : List Pf} (h : wholeB q p = true) : pushR (q :: st) p = pushR st (parP q) := by rw [pushR, if_pos h]
theorem push_no {q p : Pf} {st : List Pf} (h : wholeB q p = false) : pushR (q :: st) p = p :: q :: st := by rw [pushR, if_neg (by rw [h]; simp)]
theorem whP_yes {q p : Pf} (h : wholeB q p = true) : whP q = parP q := by
  rw [wholeB_iff] at h
  unfold whP
  rw [if_pos h.1]
set_option maxRecDepth 100000 in
set_option maxHeartbeats 6400000 in
theorem i_joined (base : Nat) (v : Value) (st : List Pf) (p : Pf) (w : World) (hb0 : base ≤ w.heap.size) (hown : OwnP base v (st.reverse ++ [p]) w) (hst : ∀ q, q ∈ st → gdP q) (gp : gdP p) (hlen : st.length ≤ 4294967296) :
    Calls Try.prog 175 #[v] w fun e w' => ∃ v', e = .returned v' ∧ OwnP base v' (pushR st p).reverse w' ∧ Below base w w' := by
  obtain ⟨i0, hi, hz0, hz1, hz2⟩ := info_partsP infoPrefix
  go_enter Try.func175, Try.ntmps175
  go_wp2_with fail
  go_loopw [0] (fun v wr => ∃ (s : List Pf) (r : Pf), OwnP base v (s.reverse ++ [r]) wr ∧ Below base w wr ∧ Hid (pushR s r = pushR st p) ∧ (∀ q, q ∈ s → gdP q) ∧ gdP r ∧ s.length ≤ st.length) (fun v _ => sliceLen v)
  case atStart => exact ⟨st, p, hown, Below.refl _ _, hide rfl, hst, gp, Nat.le_refl _⟩
  case round =>
    obtain ⟨s, r, ho, hb, hT, hg, gr, hls⟩ := hrel
    clear hown
    obtain ⟨g, cap, rfl, hg1, hg2⟩ := ownP_shape ho (by simp)
    cases s with
    | nil =>
      have hl1 : (([] : List Pf).reverse ++ [r]).length = 1 := by simp
      have hF : Hid ((pushR st p).reverse = [r]) := by show _ = _; rw [← hT.out]; rfl
      have hO := hide ho
      rw [hl1]
      clear ho hl1 hT
      go_wp2_with fail
      go_ret
      refine ⟨_, rfl, ?_, hb⟩
      rw [hF.out]
      exact hO.out
    | cons q s =>
      have gq := hg q (by simp)
      have gs : ∀ x, x ∈ s → gdP x := fun x hx => hg x (by simp [hx])
      have eL : (q :: s).reverse ++ [r] = s.reverse ++ [q, r] := by simp
      rw [eL] at ho
      have hlL : (s.reverse ++ [q, r]).length = s.length + 2 := by simp
      have hAl : s.reverse.length = s.length := List.length_reverse
      have h1 := ownP_at ho (i := s.length) (by omega)
      have h2 := ownP_at ho (i := s.length + 1) (by omega)
      have e1 := pAt_end1 s.reverse q r
      have e2 := pAt_end2 s.reverse q r
      rw [hAl] at e1 e2
      rw [e1] at h1
      rw [e2] at h2
      obtain ⟨⟨c0, c1⟩, _⟩ := h1
      obtain ⟨⟨c2, c3⟩, _⟩ := h2
      have hcap := (ownP_row ho)
      have s1 := hide (fun w => i_whole q r w gq)
      have hO := hide ho
      have hcl : s.length + 2 ≤ cap := by
        obtain ⟨a', c', e', _, h3⟩ := hcap
        simp only [Value.slice.injEq] at e'
        obtain ⟨rfl, _, rfl⟩ := e'
        rcases h3 with ⟨h4, _⟩ | ⟨_, _, _, _, h4, _⟩
        · simp at h4
        · omega
      have hPY := hide (push_yes (q := q) (p := r) (st := s))
      have hPN := hide (push_no (q := q) (p := r) (st := s))
      have hWY := hide (whP_yes (q := q) (p := r))
      have gpar := hide (fun h : wholeB q r = true => (par_of gq (by rw [wholeB_iff] at h; omega)).1)
      rw [eL, hlL]
      clear ho e1 e2 hcap hg gq eL
      have hTk : (s.reverse ++ [q, r]).take s.length = s.reverse := by rw [List.take_append_of_le_length (by omega), List.take_of_length_le (by omega)]
      have hO2 := hO.out
      have hbw : base ≤ wr.heap.size := Nat.le_trans hb0 hb.size
      have hmb : s.length ≤ 4294967296 := Nat.le_trans (Nat.le_of_succ_le (show s.length + 1 ≤ st.length from hls)) hlen
      have hls2 := hide hls
      clear hls
      have hl2 := hlL
      have hrl := hAl
      rw [hlL] at hO2
      clear hlL hAl
      generalize hm : s.length = m at *
      have hmH := hide hm
      clear hm
      generalize hwb : wholeB q r = wb at *
      have hwbH := hide hwb
      clear hwb
      have hgt : (1 : Int) < (m : Int) + 2 := by omega
      have hml : (m : Int) < (m : Int) + 2 := by omega
      have hml1 : (m : Int) + 1 < (m : Int) + 2 := by omega
      have hS : ∀ w' : World, Below wr.heap.size wr w' → w'.cell? ⟨g, m * 2, none⟩ = some (.int .i64 q.1) ∧ w'.cell? ⟨g, m * 2 + 1, none⟩ = some (.int .i64 q.2) ∧ w'.cell? ⟨g, (m + 1) * 2, none⟩ = some (.int .i64 r.1) ∧ w'.cell? ⟨g, (m + 1) * 2 + 1, none⟩ = some (.int .i64 r.2) := fun w' h => ⟨(h.cell (p := ⟨g, m * 2, none⟩) hg2).trans c0, (h.cell (p := ⟨g, m * 2 + 1, none⟩) hg2).trans c1, (h.cell (p := ⟨g, (m + 1) * 2, none⟩) hg2).trans c2, (h.cell (p := ⟨g, (m + 1) * 2 + 1, none⟩) hg2).trans c3⟩
      have hbx : ∀ N : World, Below (wr.alloc (.cells #[.int .i64 0, .int .i64 0] 34)).heap.size (wr.alloc (.cells #[.int .i64 0, .int .i64 0] 34)) N → N.cell? ⟨wr.heap.size, 0, none⟩ = some (.int .i64 0) ∧ N.cell? ⟨wr.heap.size, 1, none⟩ = some (.int .i64 0) ∧ N.frozen? ⟨wr.heap.size, 0, none⟩ = false ∧ N.frozen? ⟨wr.heap.size, 1, none⟩ = false := fun N h => ⟨(h.cell (p := ⟨wr.heap.size, 0, none⟩) (by simp)).trans (by simp [go_sem]), (h.cell (p := ⟨wr.heap.size, 1, none⟩) (by simp)).trans (by simp [go_sem]), (h.frozen (p := ⟨wr.heap.size, 0, none⟩) (by simp)).trans (by simp [go_sem]), (h.frozen (p := ⟨wr.heap.size, 1, none⟩) (by simp)).trans (by simp [go_sem])⟩
      have hwk := jWrapK hmb
      have h0m : (0 : Int) ≤ (m : Int) + 1 := by omega
      have hix := idx1 m
      go_wp2_with fail
      go_region_held3 (fun w' => w'.cell? ⟨g, m * 2, none⟩ = some (.int .i64 q.1) ∧ w'.cell? ⟨g, m * 2 + 1, none⟩ = some (.int .i64 q.2) ∧ w'.cell? ⟨g, (m + 1) * 2, none⟩ = some (.int .i64 r.1) ∧ w'.cell? ⟨g, (m + 1) * 2 + 1, none⟩ = some (.int .i64 r.2))
        (first
          | go_keep
          | exact hS _ hbN
          | exact hS _ hbN.drew
          | exact hS _ (hbN.trans ((below_box (Below.refl _ _)).mono hbN.size))
          | exact hS _ ((hbN.trans ((below_box (Below.refl _ _)).mono hbN.size))).drew
          | exact hS _ ((hbN.drew.trans ((below_box (Below.refl _ _)).mono hbN.size)))
          | exact hS _ (below_box (Below.refl _ _))
          | exact hS _ (below_box (Below.refl _ _)).drew
          | exact hS _ ((hbN.setCell (Nat.le_refl _) _).setCell (Nat.le_refl _) _)
          | exact hS _ ((hbN.setCell (Nat.le_refl _) _).setCell (Nat.le_refl _) _).drew
          | exact hS _ (Below.refl _ _).drew)
        ((first
          | (go_at_call 205; refine (s1.out _).mono ?_; rintro e N ⟨rfl, hbN0⟩; have hq : N.cell? ⟨wr.heap.size, 0, none⟩ = some (.int .i64 0) ∧ N.cell? ⟨wr.heap.size, 1, none⟩ = some (.int .i64 0) ∧ N.frozen? ⟨wr.heap.size, 0, none⟩ = false ∧ N.frozen? ⟨wr.heap.size, 1, none⟩ = false := (by first | exact hbx _ hbN0 | exact hbx _ (below_drew0 hbN0)); have bx0 := hq.1; have bx1 := hq.2.1; have bx2 := hq.2.2.1; have bx3 := hq.2.2.2; have hbN : Below wr.heap.size wr N := (by first | exact below_box hbN0 | exact (Below.refl _ _).drew.trans (below_box hbN0) | exact below_box (below_drew0 hbN0)))
          | (go_at_call 205; refine (s1.out _).mono ?_; rintro e N ⟨rfl, hbN0⟩; have hbN : Below wr.heap.size wr N := (by first | exact hbN0 | exact (Below.refl _ _).drew.trans hbN0))))
      · have hbX : Below wr.heap.size wr (N.alloc (.cells #[.int .i64 (whP q).1, .int .i64 (whP q).2] 34)) := hbN.trans ((below_box (Below.refl _ _)).mono hbN.size)
        have k0 : (N.alloc (.cells #[.int .i64 (whP q).1, .int .i64 (whP q).2] 34)).cell? ⟨N.heap.size, 0, none⟩ = some (.int .i64 (whP q).1) := by simp [go_sem]
        have k1 : (N.alloc (.cells #[.int .i64 (whP q).1, .int .i64 (whP q).2] 34)).cell? ⟨N.heap.size, 1, none⟩ = some (.int .i64 (whP q).2) := by simp [go_sem]
        have hBw : wr.heap.size ≤ N.heap.size := hbN.size
        have hBlt : N.heap.size < (N.alloc (.cells #[.int .i64 (whP q).1, .int .i64 (whP q).2] 34)).heap.size := by simp
        generalize N.alloc (.cells #[.int .i64 (whP q).1, .int .i64 (whP q).2] 34) = X at *
        generalize N.heap.size = BX at *
        clear hbN hbN0
        have hOX := ownP_below hO2 hbX
        have hdX := hb.trans (hbX.mono hbw)
        have hsX := hbX.size
        clear hS hbx hwk h0m hix c0 c1 c2 c3 hbX
        cases wb with
        | false =>
          have hF : Hid ((pushR st p).reverse = s.reverse ++ [q, r]) := by show _ = _; rw [← hT.out, hPN.out rfl]; simp
          clear hPY hPN hWY gpar hT s1
          go_wp2_with fail
          go_ret
          refine ⟨_, rfl, ?_, hdX⟩
          rw [hF.out]
          exact hOX
        | true =>
          have hT2 : Hid (pushR s (parP q) = pushR st p) := by show _ = _; rw [← hT.out, hPY.out rfl]
          have gpq := gpar.out rfl
          have ew := hWY.out rfl
          rw [ew] at k0 k1
          have hOt : X.ownsRow base 34 2 (.slice (some ⟨g, 0, none⟩) m cap) m (pcells s.reverse) := by
            have h1 := hOX
            rw [← hl2] at h1
            have h2 := ownP_take h1 (k := m) (by rw [hl2]; omega)
            rw [hTk] at h2
            have h3 : X.ownsRow base 34 2 (.slice (some ⟨g, 0, none⟩) m cap) s.reverse.length (pcells s.reverse) := h2
            rw [hrl] at h3
            exact h3
          have hmc : (m : Int) ≤ (cap : Int) := by omega
          clear hPY hPN hWY gpar hT s1 hOX hO ew
          go_wp2_with fail
          have hOd : ∀ o n, ((X.alloc o).drewN n).ownsRow base 34 2 (.slice (some ⟨g, 0, none⟩) m cap) m (pcells s.reverse) := fun o n => World.ownsRow.kept (hOt.alloc o) (row := none) ⟨rfl, rfl, rfl, Nat.le_refl _, fun _ _ _ => rfl⟩ (.inr (by simp [Value.ownBlock]))
          have hNd : ∀ n j u, (pcells [parP q])[j]? = some u → ((X.alloc (.cells #[.int .i64 (parP q).1, .int .i64 (parP q).2] 34)).drewN n).cell? ((⟨X.heap.size, 0, none⟩ : Addr).add j) = some u := fun n => RowP.cells (RowP.one (by simp) (by simp [go_sem]) (by simp [go_sem]))
          go_region_held3 (fun w' => w'.cell? ⟨BX, 0, none⟩ = some (.int .i64 (parP q).1) ∧ w'.cell? ⟨BX, 1, none⟩ = some (.int .i64 (parP q).2))
            (first
              | go_keep
              | exact ⟨kk0, kk1⟩)
            ((first
              | (refine step_append_lies _ (by rfl) _ _ _ (by rfl) base 34 i0 _ 2 16 Try.underlying23 hi hz0 hz1 hz2 rfl (by omega) (.slice (some ⟨g, 0, none⟩) m cap) m (pcells s.reverse) (by rfl) (by first | exact hOd _ 0 | exact hOd _ 1) ⟨X.heap.size, 0, none⟩ 1 1 (pcells [parP q]) (by rfl) rfl (by first | exact hNd 0 | exact hNd 1) (pc_oneCell _) (by omega) (by unfold maxLen; omega) (by omega) (by first | omega | (simp; omega)) (X.heap.size + 1) (by first | rfl | simp) ?_; intro g1 c1 w3 hown1 hgrow hloc hlt3; have hT3 : OwnP base (.slice (some ⟨g1, 0, none⟩) (m + 1) c1) (s.reverse ++ [parP q]) w3 := (by unfold OwnP; rw [pc_app, List.length_append, hrl]; exact hown1); have hb3 : Below base X w3 := (by first | exact ((below_box (Below.refl _ _)).mono (by omega)).trans (grown_belowQ (hOd _ 0) hgrow (by simp; omega)) | exact ((below_box (Below.refl _ _).drew).mono (by omega)).trans (grown_belowQ (hOd _ 1) hgrow (by simp; omega))); have kk0 : w3.cell? ⟨BX, 0, none⟩ = some (.int .i64 (parP q).1) := (World.grownBy.cell_far hgrow ⟨BX, 0, none⟩ (by simp; omega) (by simp [Value.ownBlock]; omega)).trans ((old1 hBlt _ 0).trans k0); have kk1 : w3.cell? ⟨BX, 1, none⟩ = some (.int .i64 (parP q).2) := (World.grownBy.cell_far hgrow ⟨BX, 1, none⟩ (by simp; omega) (by simp [Value.ownBlock]; omega)).trans ((old1 hBlt _ 1).trans k1))))
          go_wp2_with fail
          exact ⟨⟨s, parP q, hT3, hdX.trans hb3, hT2, gs, gpq, Nat.le_of_succ_le hls2.out⟩, by simp [sliceLen]⟩
      · have hbX : Below wr.heap.size wr ((N.setCell ⟨wr.heap.size, 0, none⟩ (.int .i64 (whP q).1)).setCell ⟨wr.heap.size, 1, none⟩ (.int .i64 (whP q).2)) := (hbN.setCell (Nat.le_refl _) _).setCell (Nat.le_refl _) _
        have k0 : ((N.setCell ⟨wr.heap.size, 0, none⟩ (.int .i64 (whP q).1)).setCell ⟨wr.heap.size, 1, none⟩ (.int .i64 (whP q).2)).cell? ⟨wr.heap.size, 0, none⟩ = some (.int .i64 (whP q).1) := by simp [go_sem, bx0]
        have k1 : ((N.setCell ⟨wr.heap.size, 0, none⟩ (.int .i64 (whP q).1)).setCell ⟨wr.heap.size, 1, none⟩ (.int .i64 (whP q).2)).cell? ⟨wr.heap.size, 1, none⟩ = some (.int .i64 (whP q).2) := by simp [go_sem, bx1]
        have hBw : wr.heap.size ≤ wr.heap.size := Nat.le_refl _
        have hBlt : wr.heap.size < ((N.setCell ⟨wr.heap.size, 0, none⟩ (.int .i64 (whP q).1)).setCell ⟨wr.heap.size, 1, none⟩ (.int .i64 (whP q).2)).heap.size := World.block_lt_of_cell? _ _ k0
        generalize ((N.setCell ⟨wr.heap.size, 0, none⟩ (.int .i64 (whP q).1)).setCell ⟨wr.heap.size, 1, none⟩ (.int .i64 (whP q).2)) = X at *
        clear hbN hbN0 bx0 bx1 bx2 bx3 hq
        have hOX := ownP_below hO2 hbX
        have hdX := hb.trans (hbX.mono hbw)
        have hsX := hbX.size
        clear hS hbx hwk h0m hix c0 c1 c2 c3 hbX
        cases wb with
        | false =>
          have hF : Hid ((pushR st p).reverse = s.reverse ++ [q, r]) := by show _ = _; rw [← hT.out, hPN.out rfl]; simp
          clear hPY hPN hWY gpar hT s1
          go_wp2_with fail
          go_ret
          refine ⟨_, rfl, ?_, hdX⟩
          rw [hF.out]
          exact hOX
        | true =>
          have hT2 : Hid (pushR s (parP q) = pushR st p) := by show _ = _; rw [← hT.out, hPY.out rfl]
          have gpq := gpar.out rfl
          have ew := hWY.out rfl
          rw [ew] at k0 k1
          have hOt : X.ownsRow base 34 2 (.slice (some ⟨g, 0, none⟩) m cap) m (pcells s.reverse) := by
            have h1 := hOX
            rw [← hl2] at h1
            have h2 := ownP_take h1 (k := m) (by rw [hl2]; omega)
            rw [hTk] at h2
            have h3 : X.ownsRow base 34 2 (.slice (some ⟨g, 0, none⟩) m cap) s.reverse.length (pcells s.reverse) := h2
            rw [hrl] at h3
            exact h3
          have hmc : (m : Int) ≤ (cap : Int) := by omega
          clear hPY hPN hWY gpar hT s1 hOX hO ew
          go_wp2_with fail
          have hOd : ∀ o n, ((X.alloc o).drewN n).ownsRow base 34 2 (.slice (some ⟨g, 0, none⟩) m cap) m (pcells s.reverse) := fun o n => World.ownsRow.kept (hOt.alloc o) (row := none) ⟨rfl, rfl, rfl, Nat.le_refl _, fun _ _ _ => rfl⟩ (.inr (by simp [Value.ownBlock]))
          have hNd : ∀ n j u, (pcells [parP q])[j]? = some u → ((X.alloc (.cells #[.int .i64 (parP q).1, .int .i64 (parP q).2] 34)).drewN n).cell? ((⟨X.heap.size, 0, none⟩ : Addr).add j) = some u := fun n => RowP.cells (RowP.one (by simp) (by simp [go_sem]) (by simp [go_sem]))
          go_region_held3 (fun w' => w'.cell? ⟨wr.heap.size, 0, none⟩ = some (.int .i64 (parP q).1) ∧ w'.cell? ⟨wr.heap.size, 1, none⟩ = some (.int .i64 (parP q).2))
            (first
              | go_keep
              | exact ⟨kk0, kk1⟩)
            ((first
              | (refine step_append_lies _ (by rfl) _ _ _ (by rfl) base 34 i0 _ 2 16 Try.underlying23 hi hz0 hz1 hz2 rfl (by omega) (.slice (some ⟨g, 0, none⟩) m cap) m (pcells s.reverse) (by rfl) (by first | exact hOd _ 0 | exact hOd _ 1) ⟨X.heap.size, 0, none⟩ 1 1 (pcells [parP q]) (by rfl) rfl (by first | exact hNd 0 | exact hNd 1) (pc_oneCell _) (by omega) (by unfold maxLen; omega) (by omega) (by first | omega | (simp; omega)) (X.heap.size + 1) (by first | rfl | simp) ?_; intro g1 c1 w3 hown1 hgrow hloc hlt3; have hT3 : OwnP base (.slice (some ⟨g1, 0, none⟩) (m + 1) c1) (s.reverse ++ [parP q]) w3 := (by unfold OwnP; rw [pc_app, List.length_append, hrl]; exact hown1); have hb3 : Below base X w3 := (by first | exact ((below_box (Below.refl _ _)).mono (by omega)).trans (grown_belowQ (hOd _ 0) hgrow (by simp; omega)) | exact ((below_box (Below.refl _ _).drew).mono (by omega)).trans (grown_belowQ (hOd _ 1) hgrow (by simp; omega))); have kk0 : w3.cell? ⟨wr.heap.size, 0, none⟩ = some (.int .i64 (parP q).1) := (World.grownBy.cell_far hgrow ⟨wr.heap.size, 0, none⟩ (by simp; omega) (by simp [Value.ownBlock]; omega)).trans ((old1 hBlt _ 0).trans k0); have kk1 : w3.cell? ⟨wr.heap.size, 1, none⟩ = some (.int .i64 (parP q).2) := (World.grownBy.cell_far hgrow ⟨wr.heap.size, 1, none⟩ (by simp; omega) (by simp [Value.ownBlock]; omega)).trans ((old1 hBlt _ 1).trans k1))))
          go_wp2_with fail
          exact ⟨⟨s, parP q, hT3, hdX.trans hb3, hT2, gs, gpq, Nat.le_of_succ_le hls2.out⟩, by simp [sliceLen]⟩
end Go.Proofs.Ytofalilkephkpaa
