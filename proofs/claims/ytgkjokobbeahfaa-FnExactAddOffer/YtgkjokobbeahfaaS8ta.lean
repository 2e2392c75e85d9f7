/- l8Put of the specification: nothing is left behind the place. -/
import Derived.Test.YtgkjokobbeahfaaS8p
import Derived.Test.YtgkjokobbeahfaaAdd8
namespace Go.Proofs.Ytgkjokobbeahfaa
open Go.RowKit

set_option maxRecDepth 100000 in
set_option maxHeartbeats 6400000 in
theorem s_l8PutA (b off c n K K2 : Nat) (L : List Oe) (e : Oe) (w : World) (hn : L.length = n) (hl : n ≤ 1048576) (hc : n ≤ c) (hcm : c ≤ maxLen) (hU : RowU (some ⟨b, off, none⟩) L w) (hS : ∀ e, e ∈ L → SrcO w e) (hE : SrcO w e)
    (hK : K ≤ n) (hlo : ∀ i, i < K → (uAt L i).t.pe < e.t.pe) (hat : K < n → ¬ (uAt L K).t.pe < e.t.pe) (hK2 : K2 = if K < n ∧ (uAt L K).t.pe = e.t.pe then K + 1 else K) (hcK : c = K2) :
    Calls Try.prog 77 #[.slice (some ⟨b, off, none⟩) n c, .agg #[.int .i64 e.t.pe, .int .i64 e.t.o, .slice e.a0 e.t.n0 e.c0, .int .i64 e.t.nx, .int .i64 e.t.md, .int .i64 e.t.pf, .slice e.a1 e.t.n1 e.c1]] w fun r w' => ∃ v M, r = .returned v ∧ M.map (·.t) = (L.take K).map (·.t) ++ e.t :: (L.drop K2).map (·.t) ∧ OwnU w.heap.size v M w' ∧ (∀ e, e ∈ M → OfIn e.a0 e.a1 e.t w') ∧ Below w.heap.size w w' := by
  have hK2n : K2 ≤ n := by rw [hK2]; split <;> omega
  have hK2l : K ≤ K2 := by rw [hK2]; split <;> omega
  have hLt : Hid ((L.take K).length = K) := by rw [Hid, List.length_take]; omega
  have hLd : Hid ((L.drop K2).length = n - K2) := by rw [Hid, List.length_drop]; omega
  have O1 := hide (fun a c w hU hS => s_l8Own a (L.take K) c w (by rw [hLt.out]; omega) hU hS)
  have O2 := hide (fun a c w hU hS => s_l8Own a (L.drop K2) c w (by rw [hLd.out]; omega) hU hS)
  rw [hLt.out] at O1
  rw [hLd.out] at O2
  have A := hide (fun w S0 S1 => s_own8 e.t.o e.t.nx e.t.md e.t.pf e.a0 e.t.n0 e.c0 e.t.f e.a1 e.t.n1 e.c1 e.t.g w hE.2.2.2.1 hE.2.2.2.2 S0 S1)
  have hcz : (c : Int) ≤ 9223372036854775807 := by unfold maxLen at hcm; omega
  have M0 := Mut.new w #[.int .i64 e.t.pe, .int .i64 e.t.o, .slice e.a0 e.t.n0 e.c0, .int .i64 e.t.nx, .int .i64 e.t.md, .int .i64 e.t.pf, .slice e.a1 e.t.n1 e.c1] 39
  have d0 : Below w.heap.size w (w.alloc (.cells #[.int .i64 e.t.pe, .int .i64 e.t.o, .slice e.a0 e.t.n0 e.c0, .int .i64 e.t.nx, .int .i64 e.t.md, .int .i64 e.t.pf, .slice e.a1 e.t.n1 e.c1] 39)) := below_box (Below.refl _ _)
  have hnn := hide hn
  clear hn
  have hK2' := hide hK2
  clear hK2
  · have hcK := hcK.symm
    subst hcK
    have hnk : n - K2 = 0 := by omega
    rw [hnk] at O2
    clear hnk
    have hRD : Hid (∀ (a : Option Addr) (w' : World), RowU a (L.drop K2) w') := fun a w' => by have hz : L.drop K2 = [] := List.drop_eq_nil_of_le (by rw [hnn.out]; omega); rw [hz]; exact RowU.nil _ _
    go_enter Try.func77, Try.ntmps77
    go_wp2_with fail
    have hM0w : Hid (w.heap.size < (w.alloc (.cells #[.int .i64 e.t.pe, .int .i64 e.t.o, .slice e.a0 e.t.n0 e.c0, .int .i64 e.t.nx, .int .i64 e.t.md, .int .i64 e.t.pf, .slice e.a1 e.t.n1 e.c1] 39)).heap.size) := M0.1
    generalize w.alloc (.cells #[.int .i64 e.t.pe, .int .i64 e.t.o, .slice e.a0 e.t.n0 e.c0, .int .i64 e.t.nx, .int .i64 e.t.md, .int .i64 e.t.pf, .slice e.a1 e.t.n1 e.c1] 39) = w0 at *
    go_loopw [5] (fun y wr => ∃ j : Nat, y = .int .i64 j ∧ j ≤ K ∧ Mut wr w.heap.size [.int .i64 e.t.pe, .int .i64 e.t.o, .slice e.a0 e.t.n0 e.c0, .int .i64 e.t.nx, .int .i64 e.t.md, .int .i64 e.t.pf, .slice e.a1 e.t.n1 e.c1] ∧ Below w.heap.size w wr) (fun y _ => K - (intOf y).toNat)
    case atStart => exact ⟨0, rfl, Nat.zero_le _, M0, d0⟩
    case round =>
      clear M0 d0 hM0w
      obtain ⟨j, rfl, hj, M0, hb⟩ := hrel
      have m0 := M0.2.1 0 _ rfl
      have hM0w : Hid (w.heap.size < wr.heap.size) := M0.1
      by_cases hjK : j < K
      · have hj' : (j : Int) < (n : Int) := by omega
        obtain ⟨bb, off', hbo, hbw, u0, _⟩ := hU j (by rw [hnn.out]; omega)
        simp only [Option.some.injEq, Addr.mk.injEq, and_true] at hbo
        obtain ⟨rfl, rfl⟩ := hbo
        replace u0 := (hb.cell (p := ⟨b, off + j * 7, none⟩) hbw).trans u0
        have hlt := hlo j hjK
        have hlt2 : decide ((uAt L j).t.pe < e.t.pe) = true := by simp [hlt]
        generalize (uAt L j).t.pe = pj at *
        go_wp2_with fail
        go_quiet (fail)
        go_wp2_with fail
        exact ⟨⟨j + 1, by go_num, by omega, M0.below (below_drewN (Below.refl _ _) _), below_drewN hb _⟩, by simp [intOf]; omega⟩
      · obtain rfl : j = K := by omega
        have hcn : (n : Int) ≤ (K2 : Int) := by omega
        have hKc : (j : Int) ≤ (K2 : Int) := by omega
        by_cases hKn : j < n
        · have hj' : (j : Int) < (n : Int) := by omega
          have hj1 : (j : Int) + 1 ≤ (n : Int) := by omega
          obtain ⟨bb, off', hbo, hbw, u0, _⟩ := hU j (by rw [hnn.out]; omega)
          simp only [Option.some.injEq, Addr.mk.injEq, and_true] at hbo
          obtain ⟨rfl, rfl⟩ := hbo
          replace u0 := (hb.cell (p := ⟨b, off + j * 7, none⟩) hbw).trans u0
          have hnl := hat hKn
          have hnl2 : decide ((uAt L j).t.pe < e.t.pe) = false := by simp [hnl]
          by_cases heq : (uAt L j).t.pe = e.t.pe
          · obtain rfl : K2 = j + 1 := by rw [hK2'.out, if_pos ⟨hKn, heq⟩]
            have heq' : ((uAt L j).t.pe == e.t.pe) = true := by simp [heq]
            clear heq hK2'
            go_wp2_with fail
            go_quiet (fail)
            clear u0
            go_wp2_with fail
            have d1 := below_drewN hb nq
            replace M0 := M0.below (below_drewN (Below.refl _ _) nq)
            have hM0q : Hid (w.heap.size < (wr.drewN nq).heap.size) := M0.1
            generalize wr.drewN nq = wq at *
            refine (O1.out _ _ _ ((hU.take j).below d1) (fun e he => (hS e (List.mem_of_mem_take he)).below d1)).mono ?_
            rintro r w2 ⟨v1, M1, rfl, hM1, hL1, b2⟩
            have d2 := d1.trans (b2.mono d1.size)
            replace M0 := M0.below b2
            obtain ⟨va, vc, rfl, _, _⟩ := ownU_row hL1.1
            have hM1 := hide hM1
            have hfl : Hid (M1.length ≤ 1048576) := by
              have h0 : M1.length = (M1.map (·.t)).length := by simp
              rw [Hid, h0, hM1.out, List.length_map, hLt.out]
              omega
            have hgg : Hid (∀ g, (Value.slice va M1.length vc).ownBlock = some g → g < w2.heap.size ∧ wq.heap.size ≤ g) := fun g e => ⟨(ownU_blk hL1.1 e).2, (ownU_blk hL1.1 e).1⟩
            have hz1 := hide (fun e' (he' : e' ∈ M1) => hL1.lt he')
            have hLX := hide hL1
            have hs12 := b2.size
            have hws := hide d1.size
            clear b2 hL1 m0
            have hSz : ∀ w' : World, Below w2.heap.size w2 w' → w'.cell? ⟨w.heap.size, 0, none⟩ = some (.int .i64 e.t.pe) ∧ w'.cell? ⟨w.heap.size, 1, none⟩ = some (.int .i64 e.t.o) ∧ w'.cell? ⟨w.heap.size, 2, none⟩ = some (.slice e.a0 e.t.n0 e.c0) ∧ w'.cell? ⟨w.heap.size, 3, none⟩ = some (.int .i64 e.t.nx) ∧ w'.cell? ⟨w.heap.size, 4, none⟩ = some (.int .i64 e.t.md) ∧ w'.cell? ⟨w.heap.size, 5, none⟩ = some (.int .i64 e.t.pf) ∧ w'.cell? ⟨w.heap.size, 6, none⟩ = some (.slice e.a1 e.t.n1 e.c1) := fun w' b => ⟨(M0.below b).2.1 0 _ rfl, (M0.below b).2.1 1 _ rfl, (M0.below b).2.1 2 _ rfl, (M0.below b).2.1 3 _ rfl, (M0.below b).2.1 4 _ rfl, (M0.below b).2.1 5 _ rfl, (M0.below b).2.1 6 _ rfl⟩
            obtain ⟨u0, u1, u2, u3, u4, u5, u6⟩ := hSz w2 (Below.refl _ _)
            have hsrcs := hide (fun w' (b : Below w2.heap.size w2 w') => (hE.below (d2.trans (b.mono d2.size))).srcs)
            have hbx : Hid ((Value.slice va M1.length vc).ownBlock ≠ some w.heap.size) := fun e => by have := (hgg.out _ e).2; have := hM0q.out; omega
            go_wp2_with fail
            go_region_held3 (fun w' => w'.cell? ⟨w.heap.size, 0, none⟩ = some (.int .i64 e.t.pe) ∧ w'.cell? ⟨w.heap.size, 1, none⟩ = some (.int .i64 e.t.o) ∧ w'.cell? ⟨w.heap.size, 2, none⟩ = some (.slice e.a0 e.t.n0 e.c0) ∧ w'.cell? ⟨w.heap.size, 3, none⟩ = some (.int .i64 e.t.nx) ∧ w'.cell? ⟨w.heap.size, 4, none⟩ = some (.int .i64 e.t.md) ∧ w'.cell? ⟨w.heap.size, 5, none⟩ = some (.int .i64 e.t.pf) ∧ w'.cell? ⟨w.heap.size, 6, none⟩ = some (.slice e.a1 e.t.n1 e.c1))
              (first | exact hS4 | exact hSz _ (Below.refl _ _) | exact hSz _ (Below.refl _ _).drew | exact hSz _ dA | exact hSz _ dA.drew | go_keep)
              ((first
                | (have hq0 := dA; refine step_appU2 (by rfl) _ _ (by rfl) wq.heap.size (.slice va M1.length vc) M1 (by rfl) (hL3.below (by first | exact below_box (Below.refl _ _) | exact (below_box (Below.refl _ _)).drew | exact below_box (Below.refl _ _).drew | exact (Below.refl _ _).drew.trans (below_box (Below.refl _ _)).drew)).1 (some ⟨w3.heap.size, 0, none⟩) [(⟨e.t, some ⟨x, 0, none⟩, pc, some ⟨y, 0, none⟩, yc⟩ : Oe)] 1 1 (by rfl) rfl ⟨RowU.one (p := (⟨e.t, some ⟨x, 0, none⟩, pc, some ⟨y, 0, none⟩, yc⟩ : Oe)) (by simp) (by simp [go_sem]) (by simp [go_sem]) (by simp [go_sem]) (by simp [go_sem]) (by simp [go_sem]) (by simp [go_sem]) (by simp [go_sem]), .inr ⟨_, _, rfl⟩⟩ (by have := hfl.out; simp; omega) (by have h1 := hs12; have h2 := dA.size; simp; omega) ?_; intro v' w4 hO4 b4 hgr hbk; have N4 := (N3.below (by first | exact below_box (Below.refl _ _) | exact (below_box (Below.refl _ _)).drew | exact below_box (Below.refl _ _).drew | exact (Below.refl _ _).drew.trans (below_box (Below.refl _ _)).drew)).grow8 hgr hbx.out; have hS4 : w4.cell? ⟨w.heap.size, 0, none⟩ = some (.int .i64 e.t.pe) ∧ w4.cell? ⟨w.heap.size, 1, none⟩ = some (.int .i64 e.t.o) ∧ w4.cell? ⟨w.heap.size, 2, none⟩ = some (.slice e.a0 e.t.n0 e.c0) ∧ w4.cell? ⟨w.heap.size, 3, none⟩ = some (.int .i64 e.t.nx) ∧ w4.cell? ⟨w.heap.size, 4, none⟩ = some (.int .i64 e.t.md) ∧ w4.cell? ⟨w.heap.size, 5, none⟩ = some (.int .i64 e.t.pf) ∧ w4.cell? ⟨w.heap.size, 6, none⟩ = some (.slice e.a1 e.t.n1 e.c1) := ⟨N4.2.1 0 _ rfl, N4.2.1 1 _ rfl, N4.2.1 2 _ rfl, N4.2.1 3 _ rfl, N4.2.1 4 _ rfl, N4.2.1 5 _ rfl, N4.2.1 6 _ rfl⟩; have hL5 := hide (LsO.app (z := w2.heap.size) (e := (⟨e.t, some ⟨x, 0, none⟩, pc, some ⟨y, 0, none⟩, yc⟩ : Oe)) (hL3.below (by first | exact below_box (Below.refl _ _) | exact (below_box (Below.refl _ _)).drew | exact below_box (Below.refl _ _).drew | exact (Below.refl _ _).drew.trans (below_box (Below.refl _ _)).drew)) hz1.out (fun g e => (hgg.out g e).1) ⟨rfl, rfl, by show wq.heap.size ≤ x; omega, by show w2.heap.size ≤ x; exact hx, hy, OutInt.below o1 (by first | exact below_box (Below.refl _ _) | exact (below_box (Below.refl _ _)).drew | exact below_box (Below.refl _ _).drew | exact (Below.refl _ _).drew.trans (below_box (Below.refl _ _)).drew), OutInt.below o2 (by first | exact below_box (Below.refl _ _) | exact (below_box (Below.refl _ _)).drew | exact below_box (Below.refl _ _).drew | exact (Below.refl _ _).drew.trans (below_box (Below.refl _ _)).drew)⟩ hO4 hgr (by first | exact hbk | simpa using hbk)); have d5 : Below wq.heap.size w3 w4 := (by first | exact ((below_box (Below.refl _ _)).mono hw3).trans b4 | exact ((below_box (Below.refl _ _)).drew.mono hw3).trans b4 | exact ((below_box (Below.refl _ _).drew).mono hw3).trans b4))
                | (go_at_call 127; refine (A.out _ (by first | exact (hsrcs.out _ (Below.refl _ _)).1 | exact (hsrcs.out _ (Below.refl _ _).drew).1) (by first | exact (hsrcs.out _ (Below.refl _ _)).2 | exact (hsrcs.out _ (Below.refl _ _).drew).2)).mono ?_; rintro r w3 ⟨x, pc, y, yc, rfl, o1, o2, hx, hy, b3⟩; have dA : Below w2.heap.size w2 w3 := (by first | exact b3 | exact (Below.refl _ _).drew.trans b3); have hx : w2.heap.size ≤ x := hx; have hL3 := hLX.out.below dA; have N3 := M0.below dA; have hw3 : wq.heap.size ≤ w3.heap.size := Nat.le_trans hs12 dA.size)))
            all_goals
              have d4 := (d2.trans (dA.mono d2.size)).trans (d5.mono hws.out)
              have q0 := N4.2.1 0 _ rfl
              clear hSz hsrcs hS4 hL3 N3 M0 hLX A hz1 hgg hbx hgr hbk hO4 b4 o1 o2 b3 u0 u1 u2 u3 u4 u5 u6
              obtain ⟨bb, off', hbo, hbw, p0, _⟩ := hU j (by rw [hnn.out]; omega)
              simp only [Option.some.injEq, Addr.mk.injEq, and_true] at hbo
              obtain ⟨rfl, rfl⟩ := hbo
              replace p0 := (d4.cell (p := ⟨b, off + j * 7, none⟩) hbw).trans p0
              generalize (uAt L j).t.pe = pk at *
              go_wp2_with fail
              go_quiet (fail)
              have d5q := below_drewN d4 nq
              have hL6 := hide (hL5.out.below (below_drewN (Below.refl _ _) nq))
              have hq5 : Hid (wq.heap.size ≤ (w4.drewN nq).heap.size) := Nat.le_trans hw3 d5.size
              generalize w4.drewN nq = w5 at *
              obtain ⟨va5, vc5, rfl, _, _⟩ := ownU_row hL6.out.1
              have hz := hide (show (M1 ++ [(⟨e.t, some ⟨x, 0, none⟩, pc, some ⟨y, 0, none⟩, yc⟩ : Oe)]).length = M1.length + 1 from List.length_append)
              rw [hz.out] at hL6
              go_wp2_with fail
              refine (O2.out _ _ _ (hRD.out _ _) (fun e he => (hS e (List.mem_of_mem_drop he)).below d5q)).mono ?_
              rintro r w6 ⟨v6, M6, rfl, hM6, hL7, b6⟩
              obtain ⟨va6, vc6, rfl, hrow6, hc6⟩ := ownU_row hL7.1
              have hM6 := hide hM6
              have hf6 : Hid (M6.length ≤ 1048576) := by
                have h0 : M6.length = (M6.map (·.t)).length := by simp
                rw [Hid, h0, hM6.out, List.length_map, hLd.out]
                omega
              have hL8 := hide (hL6.out.below b6)
              have hsrc6 : Hid (SrcU va6 M6 vc6 w6) := ⟨hrow6, by rcases hc6 with ⟨h1, h2, h3⟩ | ⟨g, h, _⟩; exact .inl ⟨h1, h3, h2⟩; exact .inr ⟨g, 0, h⟩⟩
              have hqb : Hid (wq.heap.size ≤ w6.heap.size) := Nat.le_trans hq5.out b6.size
              have hlq : Hid ((M1 ++ [(⟨e.t, some ⟨x, 0, none⟩, pc, some ⟨y, 0, none⟩, yc⟩ : Oe)]).length + M6.length ≤ 8589934593) := by rw [Hid, List.length_append]; have h1 := hfl.out; have h2 := hf6.out; simp only [List.length_cons, List.length_nil]; omega
              have d6 := hide (d5q.trans (b6.mono d5q.size))
              have hown7 := hide (fun g e => (ownU_blk hL6.out.1 (g := g) e).2)
              have hL7 := hide hL7
              clear hL6 hL5 d5q b6 hrow6 hc6 d4 d5 dA q0 N4
              go_wp2_with (first | (at_builtin; refine wpList_appU2 rfl _ _ rfl wq.heap.size _ (M1 ++ [(⟨e.t, some ⟨x, 0, none⟩, pc, some ⟨y, 0, none⟩, yc⟩ : Oe)]) rfl hL8.out.1 va6 M6 M6.length vc6 rfl rfl hsrc6.out hlq.out hqb.out ?_))
              intro v7 w7 hO7 b7 hgr7 _
              have hO7 : OwnU wq.heap.size v7 (M1 ++ [(⟨e.t, some ⟨x, 0, none⟩, pc, some ⟨y, 0, none⟩, yc⟩ : Oe)] ++ M6) w7 := by first | exact hO7 | (rw [List.append_assoc]; exact hO7)
              have hin7 : ∀ e', e' ∈ M1 ++ [(⟨e.t, some ⟨x, 0, none⟩, pc, some ⟨y, 0, none⟩, yc⟩ : Oe)] ++ M6 → OfIn e'.a0 e'.a1 e'.t w7 := by
                intro e' he'
                rcases List.mem_append.1 he' with h | h
                · obtain ⟨k1, k2, _, _, k5, k6, k7, k8⟩ := hL8.out.2.1 e' h
                  rw [k1, k2]
                  exact ⟨(k7.grow8 hgr7 k5).row, (k8.grow8 hgr7 k6).row⟩
                · obtain ⟨k1, k2, k3, k4, _, _, k7, k8⟩ := hL7.out.2.1 e' h
                  rw [k1, k2]
                  exact ⟨(k7.grow8 hgr7 (fun q => by have := hown7.out _ q; omega)).row, (k8.grow8 hgr7 (fun q => by have := hown7.out _ q; omega)).row⟩
              have hmm : (M1 ++ [(⟨e.t, some ⟨x, 0, none⟩, pc, some ⟨y, 0, none⟩, yc⟩ : Oe)] ++ M6).map (·.t) = (L.take j).map (·.t) ++ e.t :: (L.drop (j + 1)).map (·.t) := by rw [List.map_append, List.map_append, hM1.out, hM6.out]; simp
              have hfin : Hid (∃ M : List Oe, M.map (·.t) = (L.take j).map (·.t) ++ e.t :: (L.drop (j + 1)).map (·.t) ∧ OwnU w.heap.size v7 M w7 ∧ ∀ e, e ∈ M → OfIn e.a0 e.a1 e.t w7) := ⟨_, hmm, ownU_base hO7 (base' := w.heap.size) hws.out, hin7⟩
              have d7 := hide (d6.out.trans (b7.mono hws.out))
              clear b7 hgr7 hin7 hmm hO7 hL8 hL7 hown7 hsrc6 hlq hqb
              go_wp2_with fail
              go_ret
              obtain ⟨M, h1, h2, h3⟩ := hfin.out
              exact ⟨_, rfl, M, by first | exact h1 | simpa using h1, h2, h3, d7.out⟩
          · obtain rfl : K2 = j := by rw [hK2'.out, if_neg (fun h => heq h.2)]
            have heq' : ((uAt L K2).t.pe == e.t.pe) = false := by simp [heq]
            clear heq hK2'
            go_wp2_with fail
            go_quiet (fail)
            clear u0
            go_wp2_with fail
            have d1 := below_drewN hb nq
            replace M0 := M0.below (below_drewN (Below.refl _ _) nq)
            have hM0q : Hid (w.heap.size < (wr.drewN nq).heap.size) := M0.1
            generalize wr.drewN nq = wq at *
            refine (O1.out _ _ _ ((hU.take K2).below d1) (fun e he => (hS e (List.mem_of_mem_take he)).below d1)).mono ?_
            rintro r w2 ⟨v1, M1, rfl, hM1, hL1, b2⟩
            have d2 := d1.trans (b2.mono d1.size)
            replace M0 := M0.below b2
            obtain ⟨va, vc, rfl, _, _⟩ := ownU_row hL1.1
            have hM1 := hide hM1
            have hfl : Hid (M1.length ≤ 1048576) := by
              have h0 : M1.length = (M1.map (·.t)).length := by simp
              rw [Hid, h0, hM1.out, List.length_map, hLt.out]
              omega
            have hgg : Hid (∀ g, (Value.slice va M1.length vc).ownBlock = some g → g < w2.heap.size ∧ wq.heap.size ≤ g) := fun g e => ⟨(ownU_blk hL1.1 e).2, (ownU_blk hL1.1 e).1⟩
            have hz1 := hide (fun e' (he' : e' ∈ M1) => hL1.lt he')
            have hLX := hide hL1
            have hs12 := b2.size
            have hws := hide d1.size
            clear b2 hL1 m0
            have hSz : ∀ w' : World, Below w2.heap.size w2 w' → w'.cell? ⟨w.heap.size, 0, none⟩ = some (.int .i64 e.t.pe) ∧ w'.cell? ⟨w.heap.size, 1, none⟩ = some (.int .i64 e.t.o) ∧ w'.cell? ⟨w.heap.size, 2, none⟩ = some (.slice e.a0 e.t.n0 e.c0) ∧ w'.cell? ⟨w.heap.size, 3, none⟩ = some (.int .i64 e.t.nx) ∧ w'.cell? ⟨w.heap.size, 4, none⟩ = some (.int .i64 e.t.md) ∧ w'.cell? ⟨w.heap.size, 5, none⟩ = some (.int .i64 e.t.pf) ∧ w'.cell? ⟨w.heap.size, 6, none⟩ = some (.slice e.a1 e.t.n1 e.c1) := fun w' b => ⟨(M0.below b).2.1 0 _ rfl, (M0.below b).2.1 1 _ rfl, (M0.below b).2.1 2 _ rfl, (M0.below b).2.1 3 _ rfl, (M0.below b).2.1 4 _ rfl, (M0.below b).2.1 5 _ rfl, (M0.below b).2.1 6 _ rfl⟩
            obtain ⟨u0, u1, u2, u3, u4, u5, u6⟩ := hSz w2 (Below.refl _ _)
            have hsrcs := hide (fun w' (b : Below w2.heap.size w2 w') => (hE.below (d2.trans (b.mono d2.size))).srcs)
            have hbx : Hid ((Value.slice va M1.length vc).ownBlock ≠ some w.heap.size) := fun e => by have := (hgg.out _ e).2; have := hM0q.out; omega
            go_wp2_with fail
            go_region_held3 (fun w' => w'.cell? ⟨w.heap.size, 0, none⟩ = some (.int .i64 e.t.pe) ∧ w'.cell? ⟨w.heap.size, 1, none⟩ = some (.int .i64 e.t.o) ∧ w'.cell? ⟨w.heap.size, 2, none⟩ = some (.slice e.a0 e.t.n0 e.c0) ∧ w'.cell? ⟨w.heap.size, 3, none⟩ = some (.int .i64 e.t.nx) ∧ w'.cell? ⟨w.heap.size, 4, none⟩ = some (.int .i64 e.t.md) ∧ w'.cell? ⟨w.heap.size, 5, none⟩ = some (.int .i64 e.t.pf) ∧ w'.cell? ⟨w.heap.size, 6, none⟩ = some (.slice e.a1 e.t.n1 e.c1))
              (first | exact hS4 | exact hSz _ (Below.refl _ _) | exact hSz _ (Below.refl _ _).drew | exact hSz _ dA | exact hSz _ dA.drew | go_keep)
              ((first
                | (have hq0 := dA; refine step_appU2 (by rfl) _ _ (by rfl) wq.heap.size (.slice va M1.length vc) M1 (by rfl) (hL3.below (by first | exact below_box (Below.refl _ _) | exact (below_box (Below.refl _ _)).drew | exact below_box (Below.refl _ _).drew | exact (Below.refl _ _).drew.trans (below_box (Below.refl _ _)).drew)).1 (some ⟨w3.heap.size, 0, none⟩) [(⟨e.t, some ⟨x, 0, none⟩, pc, some ⟨y, 0, none⟩, yc⟩ : Oe)] 1 1 (by rfl) rfl ⟨RowU.one (p := (⟨e.t, some ⟨x, 0, none⟩, pc, some ⟨y, 0, none⟩, yc⟩ : Oe)) (by simp) (by simp [go_sem]) (by simp [go_sem]) (by simp [go_sem]) (by simp [go_sem]) (by simp [go_sem]) (by simp [go_sem]) (by simp [go_sem]), .inr ⟨_, _, rfl⟩⟩ (by have := hfl.out; simp; omega) (by have h1 := hs12; have h2 := dA.size; simp; omega) ?_; intro v' w4 hO4 b4 hgr hbk; have N4 := (N3.below (by first | exact below_box (Below.refl _ _) | exact (below_box (Below.refl _ _)).drew | exact below_box (Below.refl _ _).drew | exact (Below.refl _ _).drew.trans (below_box (Below.refl _ _)).drew)).grow8 hgr hbx.out; have hS4 : w4.cell? ⟨w.heap.size, 0, none⟩ = some (.int .i64 e.t.pe) ∧ w4.cell? ⟨w.heap.size, 1, none⟩ = some (.int .i64 e.t.o) ∧ w4.cell? ⟨w.heap.size, 2, none⟩ = some (.slice e.a0 e.t.n0 e.c0) ∧ w4.cell? ⟨w.heap.size, 3, none⟩ = some (.int .i64 e.t.nx) ∧ w4.cell? ⟨w.heap.size, 4, none⟩ = some (.int .i64 e.t.md) ∧ w4.cell? ⟨w.heap.size, 5, none⟩ = some (.int .i64 e.t.pf) ∧ w4.cell? ⟨w.heap.size, 6, none⟩ = some (.slice e.a1 e.t.n1 e.c1) := ⟨N4.2.1 0 _ rfl, N4.2.1 1 _ rfl, N4.2.1 2 _ rfl, N4.2.1 3 _ rfl, N4.2.1 4 _ rfl, N4.2.1 5 _ rfl, N4.2.1 6 _ rfl⟩; have hL5 := hide (LsO.app (z := w2.heap.size) (e := (⟨e.t, some ⟨x, 0, none⟩, pc, some ⟨y, 0, none⟩, yc⟩ : Oe)) (hL3.below (by first | exact below_box (Below.refl _ _) | exact (below_box (Below.refl _ _)).drew | exact below_box (Below.refl _ _).drew | exact (Below.refl _ _).drew.trans (below_box (Below.refl _ _)).drew)) hz1.out (fun g e => (hgg.out g e).1) ⟨rfl, rfl, by show wq.heap.size ≤ x; omega, by show w2.heap.size ≤ x; exact hx, hy, OutInt.below o1 (by first | exact below_box (Below.refl _ _) | exact (below_box (Below.refl _ _)).drew | exact below_box (Below.refl _ _).drew | exact (Below.refl _ _).drew.trans (below_box (Below.refl _ _)).drew), OutInt.below o2 (by first | exact below_box (Below.refl _ _) | exact (below_box (Below.refl _ _)).drew | exact below_box (Below.refl _ _).drew | exact (Below.refl _ _).drew.trans (below_box (Below.refl _ _)).drew)⟩ hO4 hgr (by first | exact hbk | simpa using hbk)); have d5 : Below wq.heap.size w3 w4 := (by first | exact ((below_box (Below.refl _ _)).mono hw3).trans b4 | exact ((below_box (Below.refl _ _)).drew.mono hw3).trans b4 | exact ((below_box (Below.refl _ _).drew).mono hw3).trans b4))
                | (go_at_call 127; refine (A.out _ (by first | exact (hsrcs.out _ (Below.refl _ _)).1 | exact (hsrcs.out _ (Below.refl _ _).drew).1) (by first | exact (hsrcs.out _ (Below.refl _ _)).2 | exact (hsrcs.out _ (Below.refl _ _).drew).2)).mono ?_; rintro r w3 ⟨x, pc, y, yc, rfl, o1, o2, hx, hy, b3⟩; have dA : Below w2.heap.size w2 w3 := (by first | exact b3 | exact (Below.refl _ _).drew.trans b3); have hx : w2.heap.size ≤ x := hx; have hL3 := hLX.out.below dA; have N3 := M0.below dA; have hw3 : wq.heap.size ≤ w3.heap.size := Nat.le_trans hs12 dA.size)))
            all_goals
              have d4 := (d2.trans (dA.mono d2.size)).trans (d5.mono hws.out)
              have q0 := N4.2.1 0 _ rfl
              clear hSz hsrcs hS4 hL3 N3 M0 hLX A hz1 hgg hbx hgr hbk hO4 b4 o1 o2 b3 u0 u1 u2 u3 u4 u5 u6
              obtain ⟨bb, off', hbo, hbw, p0, _⟩ := hU K2 (by rw [hnn.out]; omega)
              simp only [Option.some.injEq, Addr.mk.injEq, and_true] at hbo
              obtain ⟨rfl, rfl⟩ := hbo
              replace p0 := (d4.cell (p := ⟨b, off + K2 * 7, none⟩) hbw).trans p0
              generalize (uAt L K2).t.pe = pk at *
              go_wp2_with fail
              go_quiet (fail)
              have d5q := below_drewN d4 nq
              have hL6 := hide (hL5.out.below (below_drewN (Below.refl _ _) nq))
              have hq5 : Hid (wq.heap.size ≤ (w4.drewN nq).heap.size) := Nat.le_trans hw3 d5.size
              generalize w4.drewN nq = w5 at *
              obtain ⟨va5, vc5, rfl, _, _⟩ := ownU_row hL6.out.1
              have hz := hide (show (M1 ++ [(⟨e.t, some ⟨x, 0, none⟩, pc, some ⟨y, 0, none⟩, yc⟩ : Oe)]).length = M1.length + 1 from List.length_append)
              rw [hz.out] at hL6
              go_wp2_with fail
              refine (O2.out _ _ _ (hRD.out _ _) (fun e he => (hS e (List.mem_of_mem_drop he)).below d5q)).mono ?_
              rintro r w6 ⟨v6, M6, rfl, hM6, hL7, b6⟩
              obtain ⟨va6, vc6, rfl, hrow6, hc6⟩ := ownU_row hL7.1
              have hM6 := hide hM6
              have hf6 : Hid (M6.length ≤ 1048576) := by
                have h0 : M6.length = (M6.map (·.t)).length := by simp
                rw [Hid, h0, hM6.out, List.length_map, hLd.out]
                omega
              have hL8 := hide (hL6.out.below b6)
              have hsrc6 : Hid (SrcU va6 M6 vc6 w6) := ⟨hrow6, by rcases hc6 with ⟨h1, h2, h3⟩ | ⟨g, h, _⟩; exact .inl ⟨h1, h3, h2⟩; exact .inr ⟨g, 0, h⟩⟩
              have hqb : Hid (wq.heap.size ≤ w6.heap.size) := Nat.le_trans hq5.out b6.size
              have hlq : Hid ((M1 ++ [(⟨e.t, some ⟨x, 0, none⟩, pc, some ⟨y, 0, none⟩, yc⟩ : Oe)]).length + M6.length ≤ 8589934593) := by rw [Hid, List.length_append]; have h1 := hfl.out; have h2 := hf6.out; simp only [List.length_cons, List.length_nil]; omega
              have d6 := hide (d5q.trans (b6.mono d5q.size))
              have hown7 := hide (fun g e => (ownU_blk hL6.out.1 (g := g) e).2)
              have hL7 := hide hL7
              clear hL6 hL5 d5q b6 hrow6 hc6 d4 d5 dA q0 N4
              go_wp2_with (first | (at_builtin; refine wpList_appU2 rfl _ _ rfl wq.heap.size _ (M1 ++ [(⟨e.t, some ⟨x, 0, none⟩, pc, some ⟨y, 0, none⟩, yc⟩ : Oe)]) rfl hL8.out.1 va6 M6 M6.length vc6 rfl rfl hsrc6.out hlq.out hqb.out ?_))
              intro v7 w7 hO7 b7 hgr7 _
              have hO7 : OwnU wq.heap.size v7 (M1 ++ [(⟨e.t, some ⟨x, 0, none⟩, pc, some ⟨y, 0, none⟩, yc⟩ : Oe)] ++ M6) w7 := by first | exact hO7 | (rw [List.append_assoc]; exact hO7)
              have hin7 : ∀ e', e' ∈ M1 ++ [(⟨e.t, some ⟨x, 0, none⟩, pc, some ⟨y, 0, none⟩, yc⟩ : Oe)] ++ M6 → OfIn e'.a0 e'.a1 e'.t w7 := by
                intro e' he'
                rcases List.mem_append.1 he' with h | h
                · obtain ⟨k1, k2, _, _, k5, k6, k7, k8⟩ := hL8.out.2.1 e' h
                  rw [k1, k2]
                  exact ⟨(k7.grow8 hgr7 k5).row, (k8.grow8 hgr7 k6).row⟩
                · obtain ⟨k1, k2, k3, k4, _, _, k7, k8⟩ := hL7.out.2.1 e' h
                  rw [k1, k2]
                  exact ⟨(k7.grow8 hgr7 (fun q => by have := hown7.out _ q; omega)).row, (k8.grow8 hgr7 (fun q => by have := hown7.out _ q; omega)).row⟩
              have hmm : (M1 ++ [(⟨e.t, some ⟨x, 0, none⟩, pc, some ⟨y, 0, none⟩, yc⟩ : Oe)] ++ M6).map (·.t) = (L.take K2).map (·.t) ++ e.t :: (L.drop (K2)).map (·.t) := by rw [List.map_append, List.map_append, hM1.out, hM6.out]; simp
              have hfin : Hid (∃ M : List Oe, M.map (·.t) = (L.take K2).map (·.t) ++ e.t :: (L.drop (K2)).map (·.t) ∧ OwnU w.heap.size v7 M w7 ∧ ∀ e, e ∈ M → OfIn e.a0 e.a1 e.t w7) := ⟨_, hmm, ownU_base hO7 (base' := w.heap.size) hws.out, hin7⟩
              have d7 := hide (d6.out.trans (b7.mono hws.out))
              clear b7 hgr7 hin7 hmm hO7 hL8 hL7 hown7 hsrc6 hlq hqb
              go_wp2_with fail
              go_ret
              obtain ⟨M, h1, h2, h3⟩ := hfin.out
              exact ⟨_, rfl, M, by first | exact h1 | simpa using h1, h2, h3, d7.out⟩
        · obtain rfl : K2 = j := by rw [hK2'.out, if_neg (fun h => hKn h.1)]
          have hj' : decide ((K2 : Int) < (n : Int)) = false := by simp; omega
          have hj1 : (K2 : Int) ≤ (n : Int) := by omega
          clear hK2'
          go_wp2_with fail
          go_quiet (fail)
          go_wp2_with fail
          have d1 := below_drewN hb nq
          replace M0 := M0.below (below_drewN (Below.refl _ _) nq)
          have hM0q : Hid (w.heap.size < (wr.drewN nq).heap.size) := M0.1
          generalize wr.drewN nq = wq at *
          refine (O1.out _ _ _ ((hU.take K2).below d1) (fun e he => (hS e (List.mem_of_mem_take he)).below d1)).mono ?_
          rintro r w2 ⟨v1, M1, rfl, hM1, hL1, b2⟩
          have d2 := d1.trans (b2.mono d1.size)
          replace M0 := M0.below b2
          obtain ⟨va, vc, rfl, _, _⟩ := ownU_row hL1.1
          have hM1 := hide hM1
          have hfl : Hid (M1.length ≤ 1048576) := by
            have h0 : M1.length = (M1.map (·.t)).length := by simp
            rw [Hid, h0, hM1.out, List.length_map, hLt.out]
            omega
          have hgg : Hid (∀ g, (Value.slice va M1.length vc).ownBlock = some g → g < w2.heap.size ∧ wq.heap.size ≤ g) := fun g e => ⟨(ownU_blk hL1.1 e).2, (ownU_blk hL1.1 e).1⟩
          have hz1 := hide (fun e' (he' : e' ∈ M1) => hL1.lt he')
          have hLX := hide hL1
          have hs12 := b2.size
          have hws := hide d1.size
          clear b2 hL1 m0
          have hSz : ∀ w' : World, Below w2.heap.size w2 w' → w'.cell? ⟨w.heap.size, 0, none⟩ = some (.int .i64 e.t.pe) ∧ w'.cell? ⟨w.heap.size, 1, none⟩ = some (.int .i64 e.t.o) ∧ w'.cell? ⟨w.heap.size, 2, none⟩ = some (.slice e.a0 e.t.n0 e.c0) ∧ w'.cell? ⟨w.heap.size, 3, none⟩ = some (.int .i64 e.t.nx) ∧ w'.cell? ⟨w.heap.size, 4, none⟩ = some (.int .i64 e.t.md) ∧ w'.cell? ⟨w.heap.size, 5, none⟩ = some (.int .i64 e.t.pf) ∧ w'.cell? ⟨w.heap.size, 6, none⟩ = some (.slice e.a1 e.t.n1 e.c1) := fun w' b => ⟨(M0.below b).2.1 0 _ rfl, (M0.below b).2.1 1 _ rfl, (M0.below b).2.1 2 _ rfl, (M0.below b).2.1 3 _ rfl, (M0.below b).2.1 4 _ rfl, (M0.below b).2.1 5 _ rfl, (M0.below b).2.1 6 _ rfl⟩
          obtain ⟨u0, u1, u2, u3, u4, u5, u6⟩ := hSz w2 (Below.refl _ _)
          have hsrcs := hide (fun w' (b : Below w2.heap.size w2 w') => (hE.below (d2.trans (b.mono d2.size))).srcs)
          have hbx : Hid ((Value.slice va M1.length vc).ownBlock ≠ some w.heap.size) := fun e => by have := (hgg.out _ e).2; have := hM0q.out; omega
          go_wp2_with fail
          go_region_held3 (fun w' => w'.cell? ⟨w.heap.size, 0, none⟩ = some (.int .i64 e.t.pe) ∧ w'.cell? ⟨w.heap.size, 1, none⟩ = some (.int .i64 e.t.o) ∧ w'.cell? ⟨w.heap.size, 2, none⟩ = some (.slice e.a0 e.t.n0 e.c0) ∧ w'.cell? ⟨w.heap.size, 3, none⟩ = some (.int .i64 e.t.nx) ∧ w'.cell? ⟨w.heap.size, 4, none⟩ = some (.int .i64 e.t.md) ∧ w'.cell? ⟨w.heap.size, 5, none⟩ = some (.int .i64 e.t.pf) ∧ w'.cell? ⟨w.heap.size, 6, none⟩ = some (.slice e.a1 e.t.n1 e.c1))
            (first | exact hS4 | exact hSz _ (Below.refl _ _) | exact hSz _ (Below.refl _ _).drew | exact hSz _ dA | exact hSz _ dA.drew | go_keep)
            ((first
              | (have hq0 := dA; refine step_appU2 (by rfl) _ _ (by rfl) wq.heap.size (.slice va M1.length vc) M1 (by rfl) (hL3.below (by first | exact below_box (Below.refl _ _) | exact (below_box (Below.refl _ _)).drew | exact below_box (Below.refl _ _).drew | exact (Below.refl _ _).drew.trans (below_box (Below.refl _ _)).drew)).1 (some ⟨w3.heap.size, 0, none⟩) [(⟨e.t, some ⟨x, 0, none⟩, pc, some ⟨y, 0, none⟩, yc⟩ : Oe)] 1 1 (by rfl) rfl ⟨RowU.one (p := (⟨e.t, some ⟨x, 0, none⟩, pc, some ⟨y, 0, none⟩, yc⟩ : Oe)) (by simp) (by simp [go_sem]) (by simp [go_sem]) (by simp [go_sem]) (by simp [go_sem]) (by simp [go_sem]) (by simp [go_sem]) (by simp [go_sem]), .inr ⟨_, _, rfl⟩⟩ (by have := hfl.out; simp; omega) (by have h1 := hs12; have h2 := dA.size; simp; omega) ?_; intro v' w4 hO4 b4 hgr hbk; have N4 := (N3.below (by first | exact below_box (Below.refl _ _) | exact (below_box (Below.refl _ _)).drew | exact below_box (Below.refl _ _).drew | exact (Below.refl _ _).drew.trans (below_box (Below.refl _ _)).drew)).grow8 hgr hbx.out; have hS4 : w4.cell? ⟨w.heap.size, 0, none⟩ = some (.int .i64 e.t.pe) ∧ w4.cell? ⟨w.heap.size, 1, none⟩ = some (.int .i64 e.t.o) ∧ w4.cell? ⟨w.heap.size, 2, none⟩ = some (.slice e.a0 e.t.n0 e.c0) ∧ w4.cell? ⟨w.heap.size, 3, none⟩ = some (.int .i64 e.t.nx) ∧ w4.cell? ⟨w.heap.size, 4, none⟩ = some (.int .i64 e.t.md) ∧ w4.cell? ⟨w.heap.size, 5, none⟩ = some (.int .i64 e.t.pf) ∧ w4.cell? ⟨w.heap.size, 6, none⟩ = some (.slice e.a1 e.t.n1 e.c1) := ⟨N4.2.1 0 _ rfl, N4.2.1 1 _ rfl, N4.2.1 2 _ rfl, N4.2.1 3 _ rfl, N4.2.1 4 _ rfl, N4.2.1 5 _ rfl, N4.2.1 6 _ rfl⟩; have hL5 := hide (LsO.app (z := w2.heap.size) (e := (⟨e.t, some ⟨x, 0, none⟩, pc, some ⟨y, 0, none⟩, yc⟩ : Oe)) (hL3.below (by first | exact below_box (Below.refl _ _) | exact (below_box (Below.refl _ _)).drew | exact below_box (Below.refl _ _).drew | exact (Below.refl _ _).drew.trans (below_box (Below.refl _ _)).drew)) hz1.out (fun g e => (hgg.out g e).1) ⟨rfl, rfl, by show wq.heap.size ≤ x; omega, by show w2.heap.size ≤ x; exact hx, hy, OutInt.below o1 (by first | exact below_box (Below.refl _ _) | exact (below_box (Below.refl _ _)).drew | exact below_box (Below.refl _ _).drew | exact (Below.refl _ _).drew.trans (below_box (Below.refl _ _)).drew), OutInt.below o2 (by first | exact below_box (Below.refl _ _) | exact (below_box (Below.refl _ _)).drew | exact below_box (Below.refl _ _).drew | exact (Below.refl _ _).drew.trans (below_box (Below.refl _ _)).drew)⟩ hO4 hgr (by first | exact hbk | simpa using hbk)); have d5 : Below wq.heap.size w3 w4 := (by first | exact ((below_box (Below.refl _ _)).mono hw3).trans b4 | exact ((below_box (Below.refl _ _)).drew.mono hw3).trans b4 | exact ((below_box (Below.refl _ _).drew).mono hw3).trans b4))
              | (go_at_call 127; refine (A.out _ (by first | exact (hsrcs.out _ (Below.refl _ _)).1 | exact (hsrcs.out _ (Below.refl _ _).drew).1) (by first | exact (hsrcs.out _ (Below.refl _ _)).2 | exact (hsrcs.out _ (Below.refl _ _).drew).2)).mono ?_; rintro r w3 ⟨x, pc, y, yc, rfl, o1, o2, hx, hy, b3⟩; have dA : Below w2.heap.size w2 w3 := (by first | exact b3 | exact (Below.refl _ _).drew.trans b3); have hx : w2.heap.size ≤ x := hx; have hL3 := hLX.out.below dA; have N3 := M0.below dA; have hw3 : wq.heap.size ≤ w3.heap.size := Nat.le_trans hs12 dA.size)))
          all_goals
            have d4 := (d2.trans (dA.mono d2.size)).trans (d5.mono hws.out)
            have q0 := N4.2.1 0 _ rfl
            clear hSz hsrcs hS4 hL3 N3 M0 hLX A hz1 hgg hbx hgr hbk hO4 b4 o1 o2 b3 u0 u1 u2 u3 u4 u5 u6
            go_wp2_with fail
            go_quiet (fail)
            have d5q := below_drewN d4 nq
            have hL6 := hide (hL5.out.below (below_drewN (Below.refl _ _) nq))
            have hq5 : Hid (wq.heap.size ≤ (w4.drewN nq).heap.size) := Nat.le_trans hw3 d5.size
            generalize w4.drewN nq = w5 at *
            obtain ⟨va5, vc5, rfl, _, _⟩ := ownU_row hL6.out.1
            have hz := hide (show (M1 ++ [(⟨e.t, some ⟨x, 0, none⟩, pc, some ⟨y, 0, none⟩, yc⟩ : Oe)]).length = M1.length + 1 from List.length_append)
            rw [hz.out] at hL6
            go_wp2_with fail
            refine (O2.out _ _ _ (hRD.out _ _) (fun e he => (hS e (List.mem_of_mem_drop he)).below d5q)).mono ?_
            rintro r w6 ⟨v6, M6, rfl, hM6, hL7, b6⟩
            obtain ⟨va6, vc6, rfl, hrow6, hc6⟩ := ownU_row hL7.1
            have hM6 := hide hM6
            have hf6 : Hid (M6.length ≤ 1048576) := by
              have h0 : M6.length = (M6.map (·.t)).length := by simp
              rw [Hid, h0, hM6.out, List.length_map, hLd.out]
              omega
            have hL8 := hide (hL6.out.below b6)
            have hsrc6 : Hid (SrcU va6 M6 vc6 w6) := ⟨hrow6, by rcases hc6 with ⟨h1, h2, h3⟩ | ⟨g, h, _⟩; exact .inl ⟨h1, h3, h2⟩; exact .inr ⟨g, 0, h⟩⟩
            have hqb : Hid (wq.heap.size ≤ w6.heap.size) := Nat.le_trans hq5.out b6.size
            have hlq : Hid ((M1 ++ [(⟨e.t, some ⟨x, 0, none⟩, pc, some ⟨y, 0, none⟩, yc⟩ : Oe)]).length + M6.length ≤ 8589934593) := by rw [Hid, List.length_append]; have h1 := hfl.out; have h2 := hf6.out; simp only [List.length_cons, List.length_nil]; omega
            have d6 := hide (d5q.trans (b6.mono d5q.size))
            have hown7 := hide (fun g e => (ownU_blk hL6.out.1 (g := g) e).2)
            have hL7 := hide hL7
            clear hL6 hL5 d5q b6 hrow6 hc6 d4 d5 dA q0 N4
            go_wp2_with (first | (at_builtin; refine wpList_appU2 rfl _ _ rfl wq.heap.size _ (M1 ++ [(⟨e.t, some ⟨x, 0, none⟩, pc, some ⟨y, 0, none⟩, yc⟩ : Oe)]) rfl hL8.out.1 va6 M6 M6.length vc6 rfl rfl hsrc6.out hlq.out hqb.out ?_))
            intro v7 w7 hO7 b7 hgr7 _
            have hO7 : OwnU wq.heap.size v7 (M1 ++ [(⟨e.t, some ⟨x, 0, none⟩, pc, some ⟨y, 0, none⟩, yc⟩ : Oe)] ++ M6) w7 := by first | exact hO7 | (rw [List.append_assoc]; exact hO7)
            have hin7 : ∀ e', e' ∈ M1 ++ [(⟨e.t, some ⟨x, 0, none⟩, pc, some ⟨y, 0, none⟩, yc⟩ : Oe)] ++ M6 → OfIn e'.a0 e'.a1 e'.t w7 := by
              intro e' he'
              rcases List.mem_append.1 he' with h | h
              · obtain ⟨k1, k2, _, _, k5, k6, k7, k8⟩ := hL8.out.2.1 e' h
                rw [k1, k2]
                exact ⟨(k7.grow8 hgr7 k5).row, (k8.grow8 hgr7 k6).row⟩
              · obtain ⟨k1, k2, k3, k4, _, _, k7, k8⟩ := hL7.out.2.1 e' h
                rw [k1, k2]
                exact ⟨(k7.grow8 hgr7 (fun q => by have := hown7.out _ q; omega)).row, (k8.grow8 hgr7 (fun q => by have := hown7.out _ q; omega)).row⟩
            have hmm : (M1 ++ [(⟨e.t, some ⟨x, 0, none⟩, pc, some ⟨y, 0, none⟩, yc⟩ : Oe)] ++ M6).map (·.t) = (L.take K2).map (·.t) ++ e.t :: (L.drop (K2)).map (·.t) := by rw [List.map_append, List.map_append, hM1.out, hM6.out]; simp
            have hfin : Hid (∃ M : List Oe, M.map (·.t) = (L.take K2).map (·.t) ++ e.t :: (L.drop (K2)).map (·.t) ∧ OwnU w.heap.size v7 M w7 ∧ ∀ e, e ∈ M → OfIn e.a0 e.a1 e.t w7) := ⟨_, hmm, ownU_base hO7 (base' := w.heap.size) hws.out, hin7⟩
            have d7 := hide (d6.out.trans (b7.mono hws.out))
            clear b7 hgr7 hin7 hmm hO7 hL8 hL7 hown7 hsrc6 hlq hqb
            go_wp2_with fail
            go_ret
            obtain ⟨M, h1, h2, h3⟩ := hfin.out
            exact ⟨_, rfl, M, by first | exact h1 | simpa using h1, h2, h3, d7.out⟩
end Go.Proofs.Ytgkjokobbeahfaa
