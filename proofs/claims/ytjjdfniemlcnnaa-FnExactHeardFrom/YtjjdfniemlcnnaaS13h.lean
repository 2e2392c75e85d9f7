/- HeardFrom of the specification. -/
import Derived.Test.YtjjdfniemlcnnaaAll10
import Derived.Test.YtjjdfniemlcnnaaS13g
import Derived.Test.YtjjdfniemlcnnaaS13d
import Derived.Deep.RegionHeld3
namespace Go.Proofs.Ytjjdfniemlcnnaa
open Go.RowKit

/-- What comes of the first j offers of a row. -/
def rjL (ad ln : Int) (T : Nat → Oc) (x : Int) (j : Nat) : List Ro := if foB j T x = true then [rtOf ad ln (foT j T x)] else []
theorem rj_zero (ad ln : Int) (T : Nat → Oc) (x : Int) : rjL ad ln T x 0 = [] := by simp [rjL, foB, lsO]
theorem fo_skip {T : Nat → Oc} {x : Int} {j : Nat} (h : (T j).pe ≠ x) : foB (j + 1) T x = foB j T x ∧ foT (j + 1) T x = foT j T x := by
  have hf : ((T j).pe == x) = false := by simpa using h
  unfold foB foT
  rw [lsO_succ, List.any_append, List.find?_append]
  constructor
  · simp [hf]
  · cases e : (lsO j T).find? (fun t => t.pe == x) with
    | some q => simp
    | none => simp [List.find?, hf]
theorem rj_skip {ad ln : Int} {T : Nat → Oc} {x : Int} {j : Nat} (h : (T j).pe ≠ x) : rjL ad ln T x (j + 1) = rjL ad ln T x j := by
  unfold rjL
  rw [(fo_skip h).1, (fo_skip h).2]
theorem rj_hit {ad ln : Int} {T : Nat → Oc} {x : Int} {j n : Nat} (hg : osB n T = true) (hj : j < n) (h : (T j).pe = x) : rjL ad ln T x j = [] ∧ rjL ad ln T x (j + 1) = [rtOf ad ln (T j)] := by
  have h0 : ∀ i, i < j → (T i).pe ≠ x := fun i hi e => by have := os_lt hg j hj i hi; omega
  have e1 := fo_no (n := j) (T := T) (x := x) h0
  have e2 := fo_yes (n := j + 1) (T := T) (x := x) (k := j) (by omega) h0 h
  unfold rjL
  rw [e1.1, e2.1, e2.2]
  simp
theorem rj_end {x : Int} {n : Nat} {U : Nat → Rc} : hfL x (n + 1) U = hfL x n U ++ rjL (U n).ad (U n).ln (U n).T x (U n).n := by
  unfold rjL
  cases h : foB (U n).n (U n).T x with
  | true => rw [hf_yes h]; simp
  | false => rw [hf_no h]; simp
theorem blk_ne {o o' : Option Nat} {bX s : Nat} (h : o' = o ∨ o' = some s) (h1 : o ≠ some bX) (h2 : bX < s) : o' ≠ some bX := by
  rcases h with h | h
  · rw [h]; exact h1
  · rw [h]; simp; omega
set_option maxHeartbeats 400000 in
theorem s_peer13 (x : Int) (w : World) :
    Calls Try.prog 41 #[.int .i64 x] w fun e w' => e = .returned (.bool (inB x 0 5)) ∧ w' = w := by
  have s := hide (fun w => s_in x 0 5 w)
  go_enter Try.func41, Try.ntmps41
  go_wp2_with fail
  refine (s.out _).mono ?_
  rintro e w1 ⟨rfl, rfl⟩
  go_wp2_with fail
  go_ret
  exact ⟨rfl, rfl⟩
set_option maxRecDepth 100000 in
set_option maxHeartbeats 6400000 in
theorem s_heardFrom (ow : Int) (a : Option Addr) (n c : Nat) (U : Nat → Rc) (x : Int) (w : World) (hn : n ≤ 1048576) (hl : LowR n U) (hR : RowRS a n U w) :
    Calls Try.prog 16 #[.agg #[.int .i64 ow, .slice a n c], .int .i64 x] w fun e w' => ∃ v M, e = .returned (.tuple #[v, .bool (heB ow n U x)]) ∧ M.map (·.t) = heL ow n U x ∧ LsG w.heap.size v M w' ∧ Below w.heap.size w w' := by
  have GR := hide (fun w R => s_goodRib ow a n c U w hn hl R)
  have GX := hide (fun w => s_peer13 x w)
  have MB := Mut.new w #[.int .i64 ow, .slice a n c] 24
  have d0 : Below w.heap.size w (w.alloc (.cells #[.int .i64 ow, .slice a n c] 24)) := below_box (Below.refl _ _)
  have RA := hide (hR.below d0)
  cases hg : rbB ow n U with
  | false =>
    rw [hg] at GR
    have hE1 : Hid (heB ow n U x = false) := by rw [Hid, heB, hg]; rfl
    clear hg hR
    go_enter Try.func16, Try.ntmps16
    go_wp2_with fail
    refine (GR.out _ RA.out.row).mono ?_
    rintro e w1 ⟨rfl, b1⟩
    go_wp2_with fail
    rw [hE1.out]
    exact bodyPost_ret (v := .tuple #[.slice none 0 0, .bool false]) (by simp [results, Try.results16, go_sem]) rfl ⟨_, [], rfl, by rw [he_no hE1.out]; rfl, LsG.nil _ _, d0.trans (b1.mono d0.size)⟩
  | true =>
    rw [hg] at GR
    cases hp : inB x 0 5 with
    | false =>
      rw [hp] at GX
      have hE1 : Hid (heB ow n U x = false) := by rw [Hid, heB, hp, Bool.and_false]
      clear hg hR hp
      go_enter Try.func16, Try.ntmps16
      go_wp2_with fail
      refine (GR.out _ RA.out.row).mono ?_
      rintro e w1 ⟨rfl, b1⟩
      go_wp2_with fail
      refine (GX.out _).mono ?_
      rintro e w1' ⟨rfl, rfl⟩
      go_wp2_with fail
      rw [hE1.out]
      exact bodyPost_ret (v := .tuple #[.slice none 0 0, .bool false]) (by simp [results, Try.results16, go_sem]) rfl ⟨_, [], rfl, by rw [he_no hE1.out]; rfl, LsG.nil _ _, d0.trans (b1.mono d0.size)⟩
    | true =>
      rw [hp] at GX
      have hE1 : Hid (heB ow n U x = true) := by rw [Hid, heB, hg, hp]; rfl
      have hn20 := (rb_good hg).few
      have hoff := hide (rb_good hg).off
      have hR0 := hide hR
      clear hg hl hp
      go_enter Try.func16, Try.ntmps16
      go_wp2_with fail
      generalize w.alloc (.cells #[.int .i64 ow, .slice a n c] 24) = W0 at *
      refine (GR.out _ RA.out.row).mono ?_
      rintro e W ⟨rfl, b1⟩
      replace MB := MB.below b1
      replace d0 := d0.trans (b1.mono d0.size)
      have m0 := MB.2.1 0 _ rfl
      have m1 := MB.2.1 1 _ rfl
      clear b1 GR RA hR
      go_wp2_with fail
      refine (GX.out _).mono ?_
      rintro e w1' ⟨rfl, rfl⟩
      go_wp2_with fail
      clear m0 m1 MB GX
      go_loopw [6, 22] (fun v y wr => ∃ (k : Nat) (M : List Rge), y = .int .i64 k ∧ k ≤ n ∧ M.map (·.t) = hfL x k U ∧ LsG w1'.heap.size v M wr ∧ Below w1'.heap.size w1' wr) (fun _ y _ => n - (intOf y).toNat)
      case atStart => exact ⟨0, [], rfl, Nat.zero_le _, rfl, LsG.nil _ _, Below.refl _ _⟩
      case round =>
        generalize w1' = W at *
        obtain ⟨k, M, rfl, hk, hM, hO, hb⟩ := hrel
        have hwr := hb.size
        by_cases hlt : k < n
        · have hlt' : (k : Int) < (n : Int) := by omega
          obtain ⟨b, off, a0, c0, rfl, hbw, u0, u1, u2, ht⟩ := hR0.out k hlt
          have hbb0 := d0.trans (hb.mono d0.size)
          replace u0 := (hbb0.cell (p := ⟨b, off + k * 3, none⟩) hbw).trans u0
          replace u1 := (hbb0.cell (p := ⟨b, off + k * 3 + 1, none⟩) hbw).trans u1
          replace u2 := (hbb0.cell (p := ⟨b, off + k * 3 + 2, none⟩) hbw).trans u2
          have hos := hide (hoff.out k hlt)
          have hn6 := os_six hos.out
          have hend := hide (rj_end (x := x) (n := k) (U := U))
          have hMl0 : M.length ≤ 20 := by
            have q1 := hf_len x k U
            have : M.length = (hfL x k U).length := by rw [← hM, List.length_map]
            omega
          have hM' := hide hM
          have hO' := hide hO
          clear hM hO hbb0
          generalize hfL x k U = Dd at *
          generalize U k = t at *
          have bX0 : Below wr.heap.size wr (wr.alloc (.cells #[.int .i64 t.ad, .int .i64 t.ln, .slice a0 t.n c0] 63)) := below_box (Below.refl _ _)
          have MX := Mut.new wr #[.int .i64 t.ad, .int .i64 t.ln, .slice a0 t.n c0] 63
          have dX := hb.trans (bX0.mono hb.size)
          have hOX := hide (hO'.out.below bX0)
          obtain ⟨va0, vc0, rfl, _, _⟩ := ownH_row hO'.out.1
          have hvx0 : Hid ((Value.slice va0 M.length vc0).ownBlock ≠ some wr.heap.size) := fun e => by have := (ownH_blk hO'.out.1 e).2; omega
          obtain ⟨Lo, hLo, hmap, hUo, hSo⟩ := ht
          have hTo : Hid (∀ i, i < t.n → (uAt Lo i).t = t.T i) := by
            intro i hi
            have h1 : (Lo.map (·.t))[i]? = (lsO t.n t.T)[i]? := by rw [hmap]
            rw [List.getElem?_map, List.getElem?_eq_getElem (by omega), List.getElem?_eq_getElem (by rw [lsO_len]; exact hi)] at h1
            rw [uAt_eq (by omega)]
            simpa [lsO] using h1
          have hSo := hide hSo
          clear hO' bX0 hmap
          go_wp2_with fail
          generalize wr.alloc (.cells #[.int .i64 t.ad, .int .i64 t.ln, .slice a0 t.n c0] 63) = wx at *
          generalize wr.heap.size = bX at *
          have hMl0' := hide hMl0
          clear hMl0 hlt' u0 u1 u2
          go_loopw [6, 29] (fun vv y wi => ∃ (j : Nat) (M' : List Rge), y = .int .i64 j ∧ j ≤ t.n ∧ M'.map (·.t) = Dd ++ rjL t.ad t.ln t.T x j ∧ LsG W.heap.size vv M' wi ∧ vv.ownBlock ≠ some bX ∧ Mut wi bX [.int .i64 t.ad, .int .i64 t.ln, .slice a0 t.n c0] ∧ Below W.heap.size W wi) (fun _ y _ => t.n - (intOf y).toNat)
          case atStart => exact ⟨0, M, rfl, Nat.zero_le _, by rw [rj_zero, List.append_nil]; exact hM'.out, hOX.out, hvx0.out, MX, dX⟩
          case round =>
            clear MX dX hOX hvx0
            obtain ⟨j, M2, rfl, hj, hMj, hO, hvx, MX, dX⟩ := hrel
            have hMl : Hid (M2.length ≤ 21) := by
              have h1 : M2.length = (Dd ++ rjL t.ad t.ln t.T x j).length := by rw [← hMj, List.length_map]
              have h2 : (rjL t.ad t.ln t.T x j).length ≤ 1 := by unfold rjL; split <;> simp
              have h3 : M.length = Dd.length := by rw [← hM'.out, List.length_map]
              have h4 := hMl0'.out
              rw [List.length_append] at h1
              show _ ≤ _
              omega
            have hMj' := hide hMj
            have hO' := hide hO
            have hvx := hide hvx
            clear hMj hO
            have hwi := dX.size
            by_cases hjl : j < t.n
            · have hjl' : (j : Int) < (t.n : Int) := by omega
              have hbbi := d0.trans (dX.mono d0.size)
              obtain ⟨b2, off2, rfl, hbw2, v0, v1, v2, v3, v4, v5, v6⟩ := hUo j (by omega)
              replace v0 := (hbbi.cell (p := ⟨b2, off2 + j * 7, none⟩) hbw2).trans v0
              replace v1 := (hbbi.cell (p := ⟨b2, off2 + j * 7 + 1, none⟩) hbw2).trans v1
              replace v2 := (hbbi.cell (p := ⟨b2, off2 + j * 7 + 2, none⟩) hbw2).trans v2
              replace v3 := (hbbi.cell (p := ⟨b2, off2 + j * 7 + 3, none⟩) hbw2).trans v3
              replace v4 := (hbbi.cell (p := ⟨b2, off2 + j * 7 + 4, none⟩) hbw2).trans v4
              replace v5 := (hbbi.cell (p := ⟨b2, off2 + j * 7 + 5, none⟩) hbw2).trans v5
              replace v6 := (hbbi.cell (p := ⟨b2, off2 + j * 7 + 6, none⟩) hbw2).trans v6
              have hte := hide (hTo.out j hjl)
              have hsr := hide ((hSo.out _ (uAt_mem (show j < Lo.length by omega))).below hbbi)
              have hskip := hide (fun h => rj_skip (ad := t.ad) (ln := t.ln) (T := t.T) (x := x) (j := j) h)
              have hhit := hide (fun h => rj_hit (ad := t.ad) (ln := t.ln) (T := t.T) (x := x) (j := j) hos.out hjl h)
              generalize uAt Lo j = e at *
              have bQ : Below wr.heap.size wr (wr.alloc (.cells #[.int .i64 e.t.pe, .int .i64 e.t.o, .slice e.a0 e.t.n0 e.c0, .int .i64 e.t.nx, .int .i64 e.t.md, .int .i64 e.t.pf, .slice e.a1 e.t.n1 e.c1] 49)) := below_box (Below.refl _ _)
              have MQ := Mut.new wr #[.int .i64 e.t.pe, .int .i64 e.t.o, .slice e.a0 e.t.n0 e.c0, .int .i64 e.t.nx, .int .i64 e.t.md, .int .i64 e.t.pf, .slice e.a1 e.t.n1 e.c1] 49
              have hOF := hide (hO'.out.below bQ)
              have MXq := MX.below bQ
              have dF := dX.trans (bQ.mono dX.size)
              have hsq := hide (hsr.out.below bQ)
              obtain ⟨va', vc', rfl, _, _⟩ := ownH_row hO'.out.1
              have hgg : Hid (∀ g, (Value.slice va' M2.length vc').ownBlock = some g → g < wr.heap.size) := fun g e => (ownH_blk hO'.out.1 e).2
              have hzz : Hid (∀ e', e' ∈ M2 → byG e' < wr.heap.size) := fun e' he => hO'.out.lt he
              have hbXl : bX < wr.heap.size := MX.1
              clear hO' bQ hUo hsr MX dX hbbi
              by_cases hx : e.t.pe = x
              · have hx' : (e.t.pe == x) = true := by simpa using hx
                have hN := hide (hhit.out (by rw [← hte.out]; exact hx))
                have OWN := hide (fun w h => s_ownQ e w (.inl h))
                have hwW := dF.size
                clear hskip hhit hx
                go_wp2_with fail
                generalize wr.alloc (.cells #[.int .i64 e.t.pe, .int .i64 e.t.o, .slice e.a0 e.t.n0 e.c0, .int .i64 e.t.nx, .int .i64 e.t.md, .int .i64 e.t.pf, .slice e.a1 e.t.n1 e.c1] 49) = w4 at *
                generalize wr.heap.size = bb at *
                have hq4 : bb < w4.heap.size := MQ.1
                have hSz : ∀ w' : World, Below w4.heap.size w4 w' → w'.cell? ⟨bX, 0, none⟩ = some (.int .i64 t.ad) ∧ w'.cell? ⟨bX, 1, none⟩ = some (.int .i64 t.ln) ∧ w'.cell? ⟨bb, 0, none⟩ = some (.int .i64 e.t.pe) ∧ w'.cell? ⟨bb, 1, none⟩ = some (.int .i64 e.t.o) ∧ w'.cell? ⟨bb, 2, none⟩ = some (.slice e.a0 e.t.n0 e.c0) ∧ w'.cell? ⟨bb, 3, none⟩ = some (.int .i64 e.t.nx) ∧ w'.cell? ⟨bb, 4, none⟩ = some (.int .i64 e.t.md) ∧ w'.cell? ⟨bb, 5, none⟩ = some (.int .i64 e.t.pf) ∧ w'.cell? ⟨bb, 6, none⟩ = some (.slice e.a1 e.t.n1 e.c1) := fun w' b => ⟨(MXq.below b).2.1 0 _ rfl, (MXq.below b).2.1 1 _ rfl, (MQ.below b).2.1 0 _ rfl, (MQ.below b).2.1 1 _ rfl, (MQ.below b).2.1 2 _ rfl, (MQ.below b).2.1 3 _ rfl, (MQ.below b).2.1 4 _ rfl, (MQ.below b).2.1 5 _ rfl, (MQ.below b).2.1 6 _ rfl⟩
                obtain ⟨yy0, yy1, k0, k1, k2, k3, k4, k5, k6⟩ := hSz w4 (Below.refl _ _)
                have hsrc := hide (fun w' (b : Below w4.heap.size w4 w') => hsq.out.below b)
                clear v0 v1 v2 v3 v4 v5 v6
                go_region_held3 (fun w' => w'.cell? ⟨bX, 0, none⟩ = some (.int .i64 t.ad) ∧ w'.cell? ⟨bX, 1, none⟩ = some (.int .i64 t.ln) ∧ w'.cell? ⟨bb, 0, none⟩ = some (.int .i64 e.t.pe) ∧ w'.cell? ⟨bb, 1, none⟩ = some (.int .i64 e.t.o) ∧ w'.cell? ⟨bb, 2, none⟩ = some (.slice e.a0 e.t.n0 e.c0) ∧ w'.cell? ⟨bb, 3, none⟩ = some (.int .i64 e.t.nx) ∧ w'.cell? ⟨bb, 4, none⟩ = some (.int .i64 e.t.md) ∧ w'.cell? ⟨bb, 5, none⟩ = some (.int .i64 e.t.pf) ∧ w'.cell? ⟨bb, 6, none⟩ = some (.slice e.a1 e.t.n1 e.c1))
                  (first | exact hS4 | exact hSz _ (Below.refl _ _) | exact hSz _ (Below.refl _ _).drew | exact hSz _ dA | exact hSz _ dA.drew | go_keep)
                  ((first
                    | (have hq0 := dA; refine step_appH2 (by rfl) _ _ (by rfl) W.heap.size (.slice va' M2.length vc') M2 (by rfl) (hL3.below (by first | exact below_box (Below.refl _ _) | exact (below_box (Below.refl _ _)).drew | exact below_box (Below.refl _ _).drew | exact (Below.refl _ _).drew.trans (below_box (Below.refl _ _)).drew)).1 (some ⟨w5.heap.size, 0, none⟩) [(⟨rtOf t.ad t.ln e.t, some ⟨x0, 0, none⟩, pc, some ⟨y0, 0, none⟩, yc⟩ : Rge)] 1 1 (by rfl) rfl ⟨RowH.one (p := (⟨rtOf t.ad t.ln e.t, some ⟨x0, 0, none⟩, pc, some ⟨y0, 0, none⟩, yc⟩ : Rge)) (by simp) (by simp [go_sem, rtOf]) (by simp [go_sem, rtOf]) (by simp [go_sem, rtOf]) (by simp [go_sem, rtOf]) (by simp [go_sem, rtOf]) (by simp [go_sem, rtOf]) (by simp [go_sem, rtOf]) (by simp [go_sem, rtOf]), .inr ⟨_, _, rfl⟩⟩ (by have := hMl.out; simp; omega) (by simp; omega) ?_; intro v' w6 hO6 b6 hgr hbk; have MR6 := (MR3.below (by first | exact below_box (Below.refl _ _) | exact (below_box (Below.refl _ _)).drew | exact below_box (Below.refl _ _).drew | exact (Below.refl _ _).drew.trans (below_box (Below.refl _ _)).drew)).grow8 hgr hvx.out; have hS4 : w6.cell? ⟨bX, 0, none⟩ = some (.int .i64 t.ad) ∧ w6.cell? ⟨bX, 1, none⟩ = some (.int .i64 t.ln) ∧ w6.cell? ⟨bb, 0, none⟩ = some (.int .i64 e.t.pe) ∧ w6.cell? ⟨bb, 1, none⟩ = some (.int .i64 e.t.o) ∧ w6.cell? ⟨bb, 2, none⟩ = some (.slice e.a0 e.t.n0 e.c0) ∧ w6.cell? ⟨bb, 3, none⟩ = some (.int .i64 e.t.nx) ∧ w6.cell? ⟨bb, 4, none⟩ = some (.int .i64 e.t.md) ∧ w6.cell? ⟨bb, 5, none⟩ = some (.int .i64 e.t.pf) ∧ w6.cell? ⟨bb, 6, none⟩ = some (.slice e.a1 e.t.n1 e.c1) := (by have N4 := (N3.below (by first | exact below_box (Below.refl _ _) | exact (below_box (Below.refl _ _)).drew | exact below_box (Below.refl _ _).drew | exact (Below.refl _ _).drew.trans (below_box (Below.refl _ _)).drew)).grow8 hgr (fun e => by have := hgg.out _ e; omega); exact ⟨MR6.2.1 0 _ rfl, MR6.2.1 1 _ rfl, N4.2.1 0 _ rfl, N4.2.1 1 _ rfl, N4.2.1 2 _ rfl, N4.2.1 3 _ rfl, N4.2.1 4 _ rfl, N4.2.1 5 _ rfl, N4.2.1 6 _ rfl⟩); have hP6 := hide (LsG.app (z := bb) (e := (⟨rtOf t.ad t.ln e.t, some ⟨x0, 0, none⟩, pc, some ⟨y0, 0, none⟩, yc⟩ : Rge)) (hL3.below (by first | exact below_box (Below.refl _ _) | exact (below_box (Below.refl _ _)).drew | exact below_box (Below.refl _ _).drew | exact (Below.refl _ _).drew.trans (below_box (Below.refl _ _)).drew)) hzz.out hgg.out ⟨rfl, rfl, by show W.heap.size ≤ x0; omega, by show bb ≤ x0; omega, hy, OutInt.below o1 (by first | exact below_box (Below.refl _ _) | exact (below_box (Below.refl _ _)).drew | exact below_box (Below.refl _ _).drew | exact (Below.refl _ _).drew.trans (below_box (Below.refl _ _)).drew), OutInt.below o2 (by first | exact below_box (Below.refl _ _) | exact (below_box (Below.refl _ _)).drew | exact below_box (Below.refl _ _).drew | exact (Below.refl _ _).drew.trans (below_box (Below.refl _ _)).drew)⟩ hO6 hgr (by first | exact hbk | simpa using hbk)); have d6 : Below W.heap.size w5 w6 := (by first | exact ((below_box (Below.refl _ _)).mono hw5).trans b6 | exact ((below_box (Below.refl _ _)).drew.mono hw5).trans b6 | exact ((below_box (Below.refl _ _).drew).mono hw5).trans b6); have hv6 : Hid (v'.ownBlock ≠ some bX) := blk_ne (show v'.ownBlock = (Value.slice va' M2.length vc').ownBlock ∨ v'.ownBlock = some (w5.heap.size + 1) by simpa using hbk) hvx.out (by omega))
                    | (go_at_call 42; refine (OWN.out _ (by first | exact hsrc.out _ (Below.refl _ _) | exact hsrc.out _ (Below.refl _ _).drew)).mono ?_; rintro r w5 ⟨x0, pc, y0, yc, rfl, o1, o2, hx, hy, b5⟩; have dA : Below w4.heap.size w4 w5 := (by first | exact b5 | exact (Below.refl _ _).drew.trans b5); have hx : w4.heap.size ≤ x0 := hx; have hL3 := hOF.out.below dA; have N3 := MQ.below dA; have MR3 := MXq.below dA; have hw5 : W.heap.size ≤ w5.heap.size := Nat.le_trans hwW dA.size; have hm5 := dA.size)))
                all_goals
                  have d7 := (dF.trans (dA.mono dF.size)).trans d6
                  clear hSz hsrc hS4 hL3 N3 MR3 MQ MXq hOF OWN hzz hgg yy0 yy1 k0 k1 k2 k3 k4 k5 k6 o1 o2 hsq b5 b6 hO6 hgr hbk
                  go_wp2_with fail
                  exact ⟨⟨j + 1, M2 ++ [(⟨rtOf t.ad t.ln e.t, some ⟨x0, 0, none⟩, pc, some ⟨y0, 0, none⟩, yc⟩ : Rge)], by go_num, by omega, by rw [hN.out.2, List.map_append, hMj'.out, hN.out.1]; simp [hte.out], hP6.out, hv6.out, MR6, d7⟩, by simp [intOf]; omega⟩
              · have hx' : (e.t.pe == x) = false := by simpa using hx
                have hN := hide (hskip.out (by rw [← hte.out]; exact hx))
                have k0 := MQ.2.1 0 _ rfl
                clear hskip hhit hx
                go_wp2_with fail
                exact ⟨⟨j + 1, M2, by go_num, by omega, by rw [hN.out]; exact hMj'.out, hOF.out, hvx.out, MXq, dF⟩, by simp [intOf]; omega⟩
            · have hjl' : ¬ (j : Int) < (t.n : Int) := by omega
              obtain rfl : j = t.n := by omega
              obtain ⟨va', vc', rfl, _, _⟩ := ownH_row hO'.out.1
              clear hUo hSo hTo
              go_wp2_with fail
              exact ⟨⟨k + 1, M2, by go_num, by omega, by rw [hend.out]; exact hMj'.out, hO'.out, dX⟩, by simp [intOf]; omega⟩
        · have hlt' : ¬ (k : Int) < (n : Int) := by omega
          obtain rfl : k = n := by omega
          have hM' := hide hM
          have hO' := hide hO
          have hbase := d0.size
          clear hR0 hM hO
          obtain ⟨va', vc', rfl, _, _⟩ := ownH_row hO'.out.1
          go_wp2_with fail
          rw [hE1.out]
          exact bodyPost_ret (v := .tuple #[.slice va' M.length vc', .bool true]) (by simp [results, Try.results16, go_sem]) rfl ⟨_, rfl, M, hM'.out.trans (he_yes hE1.out).symm, hO'.out.base hbase, d0.trans (hb.mono d0.size)⟩
end Go.Proofs.Ytjjdfniemlcnnaa
