/- What TermFits of the program and of the specification answer. -/
import Derived.Test.YtocgghhlfmgndaaGreatI7g
import Derived.Test.YtocgghhlfmgndaaGreatS7f
namespace Go.Proofs.YtocgghhlfmgndaaGreat
open Go.RowKit

theorem tm_rgs {t : Tc} (h : tmT t = true) : ∀ i, i < t.nr → goodB (t.f0 i) (t.f1 i) = true := by
  unfold tmT at h
  rw [tmB_eq] at h
  simp only [Bool.and_eq_true] at h
  exact rgs_good h.1.1.1.1.1
theorem route_pre {pa pl o nx md pf : Int} {n0 n1 : Nat} {f g : Nat → Int} (h : routeB pa pl o nx md pf n0 f n1 g = true) : goodB pa pl = true := by
  unfold routeB at h
  rw [Bool.and_eq_true] at h
  exact h.1
set_option maxRecDepth 100000 in
set_option maxHeartbeats 3200000 in
theorem s_termFits (t : Tc) (pa pl o nx md pf : Int) (n0 : Nat) (f : Nat → Int) (n1 : Nat) (g : Nat → Int) (r : Bool) (hr : t.nr ≤ 1048576) (hp : t.np ≤ 1048576) (ha : t.na ≤ 1048576) (h0 : n0 ≤ 1048576) (h1 : n1 ≤ 1048576) (hM : MpB (listQ t.np t.q0 t.q1) (lsI n0 f) r)
    (ra : Option Addr) (rc : Nat) (qa : Option Addr) (qc : Nat) (aa : Option Addr) (ac : Nat) (a0 : Option Addr) (c0 : Nat) (a1 : Option Addr) (c1 : Nat) (w : World) (hT : TmIn ra qa qc aa t w) (R0 : RowInt a0 n0 f w) (R1 : RowInt a1 n1 g w) :
    Calls Tryz.prog 10 #[.agg #[.slice ra t.nr rc, .slice qa t.np qc, .int .i64 t.cm, .slice aa t.na ac, .int .i64 t.vd], .agg #[.int .i64 pa, .int .i64 pl, .int .i64 o, .slice a0 n0 c0, .int .i64 nx, .int .i64 md, .int .i64 pf, .slice a1 n1 c1]] w fun e w' => e = .returned (.tuple #[.bool ((tmT t && routeB pa pl o nx md pf n0 f n1 g) && fiB t.nr (anR t.nr t.f0 t.f1 t.f2 t.f3 pa pl) t.np r t.cm (coB n1 g t.cm)), .bool (tmT t && routeB pa pl o nx md pf n0 f n1 g)]) ∧ Below w.heap.size w w' := by
  have GT : Hid (∀ w, TmIn ra qa qc aa t w → Calls Tryz.prog 52 #[.agg #[.slice ra t.nr rc, .slice qa t.np qc, .int .i64 t.cm, .slice aa t.na ac, .int .i64 t.vd]] w fun e w' => e = .returned (.bool (tmT t)) ∧ Below w.heap.size w w') := fun w hT => by
    have h := s_term ra t.nr rc t.f0 t.f1 t.f2 t.f3 qa qc (listQ t.np t.q0 t.q1) t.cm aa t.na ac t.g0 t.g1 t.vd w hr (by rw [listQ_len]; exact hp)  ha hT.2.1 (RowQ.of hT.2.2.1) hT.2.2.2
    rw [listQ_len] at h
    exact h
  have GR := hide (fun w R0 R1 => s_goodRoute pa pl o nx md pf a0 n0 c0 f a1 n1 c1 g w h0 h1 R0 R1)
  have FT : Hid (tmT t = true → routeB pa pl o nx md pf n0 f n1 g = true → ∀ w, TmIn ra qa qc aa t w → RowInt a0 n0 f w → RowInt a1 n1 g w → Calls Tryz.prog 53 #[.agg #[.slice ra t.nr rc, .slice qa t.np qc, .int .i64 t.cm, .slice aa t.na ac, .int .i64 t.vd], .agg #[.int .i64 pa, .int .i64 pl, .int .i64 o, .slice a0 n0 c0, .int .i64 nx, .int .i64 md, .int .i64 pf, .slice a1 n1 c1]] w fun e w' => e = .returned (.bool (fiB t.nr (anR t.nr t.f0 t.f1 t.f2 t.f3 pa pl) t.np r t.cm (coB n1 g t.cm))) ∧ Below w.heap.size w w') := fun e1 e2 w hT R0 R1 => by
    have h := s_fits ra t.nr rc t.f0 t.f1 t.f2 t.f3 qa qc (listQ t.np t.q0 t.q1) t.cm aa t.na ac t.vd pa pl o nx md pf a0 n0 c0 f a1 n1 c1 g r w hr (by rw [listQ_len]; exact hp)  h0 h1 (tm_rgs e1) (route_pre e2) hM hT.2.1 (RowQ.of hT.2.2.1) R0 R1
    rw [listQ_len] at h
    exact h
  have M0 := (Mut.new w #[.slice ra t.nr rc, .slice qa t.np qc, .int .i64 t.cm, .slice aa t.na ac, .int .i64 t.vd] 42).alloc (.cells #[.int .i64 pa, .int .i64 pl, .int .i64 o, .slice a0 n0 c0, .int .i64 nx, .int .i64 md, .int .i64 pf, .slice a1 n1 c1] 47)
  have M1 := Mut.new (w.alloc (.cells #[.slice ra t.nr rc, .slice qa t.np qc, .int .i64 t.cm, .slice aa t.na ac, .int .i64 t.vd] 42)) #[.int .i64 pa, .int .i64 pl, .int .i64 o, .slice a0 n0 c0, .int .i64 nx, .int .i64 md, .int .i64 pf, .slice a1 n1 c1] 47
  have d0 : Below w.heap.size w ((w.alloc (.cells #[.slice ra t.nr rc, .slice qa t.np qc, .int .i64 t.cm, .slice aa t.na ac, .int .i64 t.vd] 42)).alloc (.cells #[.int .i64 pa, .int .i64 pl, .int .i64 o, .slice a0 n0 c0, .int .i64 nx, .int .i64 md, .int .i64 pf, .slice a1 n1 c1] 47)) := below_box2 (Below.refl _ _)
  rw [World.size_alloc] at M1
  clear hr hp ha h0 h1 hM
  generalize fiB t.nr (anR t.nr t.f0 t.f1 t.f2 t.f3 pa pl) t.np r t.cm (coB n1 g t.cm) = fb at *
  generalize tmT t = tb at *
  generalize routeB pa pl o nx md pf n0 f n1 g = rb at *
  cases tb with
  | false =>
    clear FT
    go_enter Tryz.func10, Tryz.ntmps10
    go_wp2_with fail
    generalize (w.alloc (.cells #[.slice ra t.nr rc, .slice qa t.np qc, .int .i64 t.cm, .slice aa t.na ac, .int .i64 t.vd] 42)).alloc (.cells #[.int .i64 pa, .int .i64 pl, .int .i64 o, .slice a0 n0 c0, .int .i64 nx, .int .i64 md, .int .i64 pf, .slice a1 n1 c1] 47) = w0 at *
    refine (GT.out _ (hT.below d0)).mono ?_
    rintro e w1 ⟨rfl, b1⟩
    have d1 := d0.trans (b1.mono d0.size)
    go_wp2_with fail
    exact bodyPost_ret (v := .tuple #[.bool false, .bool false]) (by simp [results, Tryz.results10, go_sem]) rfl ⟨by simp, d1⟩
  | true =>
    cases rb with
    | false =>
      clear FT
      go_enter Tryz.func10, Tryz.ntmps10
      go_wp2_with fail
      generalize (w.alloc (.cells #[.slice ra t.nr rc, .slice qa t.np qc, .int .i64 t.cm, .slice aa t.na ac, .int .i64 t.vd] 42)).alloc (.cells #[.int .i64 pa, .int .i64 pl, .int .i64 o, .slice a0 n0 c0, .int .i64 nx, .int .i64 md, .int .i64 pf, .slice a1 n1 c1] 47) = w0 at *
      refine (GT.out _ (hT.below d0)).mono ?_
      rintro e w1 ⟨rfl, b1⟩
      have d1 := d0.trans (b1.mono d0.size)
      replace M0 := M0.below b1
      replace M1 := M1.below b1
      have m0 := M0.2.1 0 _ rfl
      have m1 := M0.2.1 1 _ rfl
      have m2 := M0.2.1 2 _ rfl
      have m3 := M0.2.1 3 _ rfl
      have m4 := M0.2.1 4 _ rfl
      have k0 := M1.2.1 0 _ rfl
      have k1 := M1.2.1 1 _ rfl
      have k2 := M1.2.1 2 _ rfl
      have k3 := M1.2.1 3 _ rfl
      have k4 := M1.2.1 4 _ rfl
      have k5 := M1.2.1 5 _ rfl
      have k6 := M1.2.1 6 _ rfl
      have k7 := M1.2.1 7 _ rfl
      go_wp2_with fail
      refine (GR.out _ (R0.below d1) (R1.below d1)).mono ?_
      rintro e w2 ⟨rfl, b2⟩
      have d2 := d1.trans (b2.mono d1.size)
      replace M0 := M0.below b2
      replace M1 := M1.below b2
      have m0 := M0.2.1 0 _ rfl
      have m1 := M0.2.1 1 _ rfl
      have m2 := M0.2.1 2 _ rfl
      have m3 := M0.2.1 3 _ rfl
      have m4 := M0.2.1 4 _ rfl
      have k0 := M1.2.1 0 _ rfl
      have k1 := M1.2.1 1 _ rfl
      have k2 := M1.2.1 2 _ rfl
      have k3 := M1.2.1 3 _ rfl
      have k4 := M1.2.1 4 _ rfl
      have k5 := M1.2.1 5 _ rfl
      have k6 := M1.2.1 6 _ rfl
      have k7 := M1.2.1 7 _ rfl
      go_wp2_with fail
      exact bodyPost_ret (v := .tuple #[.bool false, .bool false]) (by simp [results, Tryz.results10, go_sem]) rfl ⟨by simp, d2⟩
    | true =>
      replace FT := hide (FT.out rfl rfl)
      go_enter Tryz.func10, Tryz.ntmps10
      go_wp2_with fail
      generalize (w.alloc (.cells #[.slice ra t.nr rc, .slice qa t.np qc, .int .i64 t.cm, .slice aa t.na ac, .int .i64 t.vd] 42)).alloc (.cells #[.int .i64 pa, .int .i64 pl, .int .i64 o, .slice a0 n0 c0, .int .i64 nx, .int .i64 md, .int .i64 pf, .slice a1 n1 c1] 47) = w0 at *
      refine (GT.out _ (hT.below d0)).mono ?_
      rintro e w1 ⟨rfl, b1⟩
      have d1 := d0.trans (b1.mono d0.size)
      replace M0 := M0.below b1
      replace M1 := M1.below b1
      have m0 := M0.2.1 0 _ rfl
      have m1 := M0.2.1 1 _ rfl
      have m2 := M0.2.1 2 _ rfl
      have m3 := M0.2.1 3 _ rfl
      have m4 := M0.2.1 4 _ rfl
      have k0 := M1.2.1 0 _ rfl
      have k1 := M1.2.1 1 _ rfl
      have k2 := M1.2.1 2 _ rfl
      have k3 := M1.2.1 3 _ rfl
      have k4 := M1.2.1 4 _ rfl
      have k5 := M1.2.1 5 _ rfl
      have k6 := M1.2.1 6 _ rfl
      have k7 := M1.2.1 7 _ rfl
      go_wp2_with fail
      refine (GR.out _ (R0.below d1) (R1.below d1)).mono ?_
      rintro e w2 ⟨rfl, b2⟩
      have d2 := d1.trans (b2.mono d1.size)
      replace M0 := M0.below b2
      replace M1 := M1.below b2
      have m0 := M0.2.1 0 _ rfl
      have m1 := M0.2.1 1 _ rfl
      have m2 := M0.2.1 2 _ rfl
      have m3 := M0.2.1 3 _ rfl
      have m4 := M0.2.1 4 _ rfl
      have k0 := M1.2.1 0 _ rfl
      have k1 := M1.2.1 1 _ rfl
      have k2 := M1.2.1 2 _ rfl
      have k3 := M1.2.1 3 _ rfl
      have k4 := M1.2.1 4 _ rfl
      have k5 := M1.2.1 5 _ rfl
      have k6 := M1.2.1 6 _ rfl
      have k7 := M1.2.1 7 _ rfl
      go_wp2_with fail
      refine (FT.out _ (hT.below d2) (R0.below d2) (R1.below d2)).mono ?_
      rintro e w3 ⟨rfl, b3⟩
      have d3 := d2.trans (b3.mono d2.size)
      go_wp2_with fail
      exact bodyPost_ret (v := .tuple #[.bool fb, .bool true]) (by simp [results, Tryz.results10, go_sem]) rfl ⟨by simp, d3⟩
set_option maxRecDepth 100000 in
set_option maxHeartbeats 3200000 in
theorem i_termFits (t : Tc) (pa pl o nx md pf : Int) (n0 : Nat) (f : Nat → Int) (n1 : Nat) (g : Nat → Int) (r : Bool) (hr : t.nr ≤ 1048576) (hp : t.np ≤ 1048576) (ha : t.na ≤ 1048576) (h0 : n0 ≤ 1048576) (h1 : n1 ≤ 1048576) (hM : MpB (listQ t.np t.q0 t.q1) (lsI n0 f) r)
    (ra : Option Addr) (rc : Nat) (qa : Option Addr) (qc : Nat) (aa : Option Addr) (ac : Nat) (a0 : Option Addr) (c0 : Nat) (a1 : Option Addr) (c1 : Nat) (w : World) (hT : TmIn ra qa qc aa t w) (R0 : RowInt a0 n0 f w) (R1 : RowInt a1 n1 g w) :
    Calls Tryz.prog 13 #[.agg #[.slice ra t.nr rc, .slice qa t.np qc, .int .i64 t.cm, .slice aa t.na ac, .int .i64 t.vd], .agg #[.int .i64 pa, .int .i64 pl, .int .i64 o, .slice a0 n0 c0, .int .i64 nx, .int .i64 md, .int .i64 pf, .slice a1 n1 c1]] w fun e w' => e = .returned (.tuple #[.bool ((tmT t && routeB pa pl o nx md pf n0 f n1 g) && fiB t.nr (anR t.nr t.f0 t.f1 t.f2 t.f3 pa pl) t.np r t.cm (coB n1 g t.cm)), .bool (tmT t && routeB pa pl o nx md pf n0 f n1 g)]) ∧ Below w.heap.size w w' := by
  have GT : Hid (∀ w, TmIn ra qa qc aa t w → Calls Tryz.prog 59 #[.agg #[.slice ra t.nr rc, .slice qa t.np qc, .int .i64 t.cm, .slice aa t.na ac, .int .i64 t.vd]] w fun e w' => e = .returned (.bool (tmT t)) ∧ Below w.heap.size w w') := fun w hT => by
    have h := i_goodTerm ra t.nr rc t.f0 t.f1 t.f2 t.f3 qa qc (listQ t.np t.q0 t.q1) t.cm aa t.na ac t.g0 t.g1 t.vd w hr (by rw [listQ_len]; exact hp) (by rw [listQ_len]; exact hT.1) ha hT.2.1 (RowQ.of hT.2.2.1) hT.2.2.2
    rw [listQ_len] at h
    exact h
  have GR := hide (fun w R0 R1 => i_goodRoute pa pl o nx md pf a0 n0 c0 f a1 n1 c1 g w h0 h1 R0 R1)
  have FT : Hid (tmT t = true → routeB pa pl o nx md pf n0 f n1 g = true → ∀ w, TmIn ra qa qc aa t w → RowInt a0 n0 f w → RowInt a1 n1 g w → Calls Tryz.prog 60 #[.agg #[.slice ra t.nr rc, .slice qa t.np qc, .int .i64 t.cm, .slice aa t.na ac, .int .i64 t.vd], .agg #[.int .i64 pa, .int .i64 pl, .int .i64 o, .slice a0 n0 c0, .int .i64 nx, .int .i64 md, .int .i64 pf, .slice a1 n1 c1]] w fun e w' => e = .returned (.bool (fiB t.nr (anR t.nr t.f0 t.f1 t.f2 t.f3 pa pl) t.np r t.cm (coB n1 g t.cm))) ∧ Below w.heap.size w w') := fun e1 e2 w hT R0 R1 => by
    have h := i_fits ra t.nr rc t.f0 t.f1 t.f2 t.f3 qa qc (listQ t.np t.q0 t.q1) t.cm aa t.na ac t.vd pa pl o nx md pf a0 n0 c0 f a1 n1 c1 g r w hr (by rw [listQ_len]; exact hp) (by rw [listQ_len]; exact hT.1) h0 h1 (tm_rgs e1) (route_pre e2) hM hT.2.1 (RowQ.of hT.2.2.1) R0 R1
    rw [listQ_len] at h
    exact h
  have M0 := (Mut.new w #[.slice ra t.nr rc, .slice qa t.np qc, .int .i64 t.cm, .slice aa t.na ac, .int .i64 t.vd] 42).alloc (.cells #[.int .i64 pa, .int .i64 pl, .int .i64 o, .slice a0 n0 c0, .int .i64 nx, .int .i64 md, .int .i64 pf, .slice a1 n1 c1] 47)
  have M1 := Mut.new (w.alloc (.cells #[.slice ra t.nr rc, .slice qa t.np qc, .int .i64 t.cm, .slice aa t.na ac, .int .i64 t.vd] 42)) #[.int .i64 pa, .int .i64 pl, .int .i64 o, .slice a0 n0 c0, .int .i64 nx, .int .i64 md, .int .i64 pf, .slice a1 n1 c1] 47
  have d0 : Below w.heap.size w ((w.alloc (.cells #[.slice ra t.nr rc, .slice qa t.np qc, .int .i64 t.cm, .slice aa t.na ac, .int .i64 t.vd] 42)).alloc (.cells #[.int .i64 pa, .int .i64 pl, .int .i64 o, .slice a0 n0 c0, .int .i64 nx, .int .i64 md, .int .i64 pf, .slice a1 n1 c1] 47)) := below_box2 (Below.refl _ _)
  rw [World.size_alloc] at M1
  clear hr hp ha h0 h1 hM
  generalize fiB t.nr (anR t.nr t.f0 t.f1 t.f2 t.f3 pa pl) t.np r t.cm (coB n1 g t.cm) = fb at *
  generalize tmT t = tb at *
  generalize routeB pa pl o nx md pf n0 f n1 g = rb at *
  cases tb with
  | false =>
    clear FT
    go_enter Tryz.func13, Tryz.ntmps13
    go_wp2_with fail
    generalize (w.alloc (.cells #[.slice ra t.nr rc, .slice qa t.np qc, .int .i64 t.cm, .slice aa t.na ac, .int .i64 t.vd] 42)).alloc (.cells #[.int .i64 pa, .int .i64 pl, .int .i64 o, .slice a0 n0 c0, .int .i64 nx, .int .i64 md, .int .i64 pf, .slice a1 n1 c1] 47) = w0 at *
    refine (GT.out _ (hT.below d0)).mono ?_
    rintro e w1 ⟨rfl, b1⟩
    have d1 := d0.trans (b1.mono d0.size)
    go_wp2_with fail
    exact bodyPost_ret (v := .tuple #[.bool false, .bool false]) (by simp [results, Tryz.results13, go_sem]) rfl ⟨by simp, d1⟩
  | true =>
    cases rb with
    | false =>
      clear FT
      go_enter Tryz.func13, Tryz.ntmps13
      go_wp2_with fail
      generalize (w.alloc (.cells #[.slice ra t.nr rc, .slice qa t.np qc, .int .i64 t.cm, .slice aa t.na ac, .int .i64 t.vd] 42)).alloc (.cells #[.int .i64 pa, .int .i64 pl, .int .i64 o, .slice a0 n0 c0, .int .i64 nx, .int .i64 md, .int .i64 pf, .slice a1 n1 c1] 47) = w0 at *
      refine (GT.out _ (hT.below d0)).mono ?_
      rintro e w1 ⟨rfl, b1⟩
      have d1 := d0.trans (b1.mono d0.size)
      replace M0 := M0.below b1
      replace M1 := M1.below b1
      have m0 := M0.2.1 0 _ rfl
      have m1 := M0.2.1 1 _ rfl
      have m2 := M0.2.1 2 _ rfl
      have m3 := M0.2.1 3 _ rfl
      have m4 := M0.2.1 4 _ rfl
      have k0 := M1.2.1 0 _ rfl
      have k1 := M1.2.1 1 _ rfl
      have k2 := M1.2.1 2 _ rfl
      have k3 := M1.2.1 3 _ rfl
      have k4 := M1.2.1 4 _ rfl
      have k5 := M1.2.1 5 _ rfl
      have k6 := M1.2.1 6 _ rfl
      have k7 := M1.2.1 7 _ rfl
      go_wp2_with fail
      refine (GR.out _ (R0.below d1) (R1.below d1)).mono ?_
      rintro e w2 ⟨rfl, b2⟩
      have d2 := d1.trans (b2.mono d1.size)
      replace M0 := M0.below b2
      replace M1 := M1.below b2
      have m0 := M0.2.1 0 _ rfl
      have m1 := M0.2.1 1 _ rfl
      have m2 := M0.2.1 2 _ rfl
      have m3 := M0.2.1 3 _ rfl
      have m4 := M0.2.1 4 _ rfl
      have k0 := M1.2.1 0 _ rfl
      have k1 := M1.2.1 1 _ rfl
      have k2 := M1.2.1 2 _ rfl
      have k3 := M1.2.1 3 _ rfl
      have k4 := M1.2.1 4 _ rfl
      have k5 := M1.2.1 5 _ rfl
      have k6 := M1.2.1 6 _ rfl
      have k7 := M1.2.1 7 _ rfl
      go_wp2_with fail
      exact bodyPost_ret (v := .tuple #[.bool false, .bool false]) (by simp [results, Tryz.results13, go_sem]) rfl ⟨by simp, d2⟩
    | true =>
      replace FT := hide (FT.out rfl rfl)
      go_enter Tryz.func13, Tryz.ntmps13
      go_wp2_with fail
      generalize (w.alloc (.cells #[.slice ra t.nr rc, .slice qa t.np qc, .int .i64 t.cm, .slice aa t.na ac, .int .i64 t.vd] 42)).alloc (.cells #[.int .i64 pa, .int .i64 pl, .int .i64 o, .slice a0 n0 c0, .int .i64 nx, .int .i64 md, .int .i64 pf, .slice a1 n1 c1] 47) = w0 at *
      refine (GT.out _ (hT.below d0)).mono ?_
      rintro e w1 ⟨rfl, b1⟩
      have d1 := d0.trans (b1.mono d0.size)
      replace M0 := M0.below b1
      replace M1 := M1.below b1
      have m0 := M0.2.1 0 _ rfl
      have m1 := M0.2.1 1 _ rfl
      have m2 := M0.2.1 2 _ rfl
      have m3 := M0.2.1 3 _ rfl
      have m4 := M0.2.1 4 _ rfl
      have k0 := M1.2.1 0 _ rfl
      have k1 := M1.2.1 1 _ rfl
      have k2 := M1.2.1 2 _ rfl
      have k3 := M1.2.1 3 _ rfl
      have k4 := M1.2.1 4 _ rfl
      have k5 := M1.2.1 5 _ rfl
      have k6 := M1.2.1 6 _ rfl
      have k7 := M1.2.1 7 _ rfl
      go_wp2_with fail
      refine (GR.out _ (R0.below d1) (R1.below d1)).mono ?_
      rintro e w2 ⟨rfl, b2⟩
      have d2 := d1.trans (b2.mono d1.size)
      replace M0 := M0.below b2
      replace M1 := M1.below b2
      have m0 := M0.2.1 0 _ rfl
      have m1 := M0.2.1 1 _ rfl
      have m2 := M0.2.1 2 _ rfl
      have m3 := M0.2.1 3 _ rfl
      have m4 := M0.2.1 4 _ rfl
      have k0 := M1.2.1 0 _ rfl
      have k1 := M1.2.1 1 _ rfl
      have k2 := M1.2.1 2 _ rfl
      have k3 := M1.2.1 3 _ rfl
      have k4 := M1.2.1 4 _ rfl
      have k5 := M1.2.1 5 _ rfl
      have k6 := M1.2.1 6 _ rfl
      have k7 := M1.2.1 7 _ rfl
      go_wp2_with fail
      refine (FT.out _ (hT.below d2) (R0.below d2) (R1.below d2)).mono ?_
      rintro e w3 ⟨rfl, b3⟩
      have d3 := d2.trans (b3.mono d2.size)
      go_wp2_with fail
      exact bodyPost_ret (v := .tuple #[.bool fb, .bool true]) (by simp [results, Tryz.results13, go_sem]) rfl ⟨by simp, d3⟩
end Go.Proofs.YtocgghhlfmgndaaGreat
