/- What the specification draws for KindTo, MayTell and IsValleyFree. -/
import Derived.Test.YtgjohkpicajhpaaDrawRel
namespace Go.Proofs.Ytgjohkpicajhpaa
open Go.RowKit

theorem bytes_to11 {B : Nat} {w w' : World} {v : Value} {len : Nat} (h : BytesAt w.heap.size w v len) (k : Below w.heap.size w w') (hB : w.heap.size ≤ B) : BytesAt B w' v len := by
  obtain ⟨a, cap, hv, hl, hj⟩ := h
  refine ⟨a, cap, hv, hl, fun j h => ?_⟩
  obtain ⟨b, off, z, ha, hb, hw, hz, h0, h1⟩ := hj j h
  exact ⟨b, off, z, ha, by omega, Nat.lt_of_lt_of_le hw k.size, (k.cell (p := ⟨b, off + j, none⟩) hw).trans hz, h0, h1⟩
/-- A list stays while another one of one's own, that lies further on, grows. -/
theorem own_off {e e2 : TypeId} {m m2 n n2 base base2 : Nat} {v u : Value} {xs ys : List Value} {w w' : World} (h : OwnW e m base v n xs w) (hlt : ∀ k, v.ownBlock = some k → k < base2) (hp : OwnW e2 m2 base2 u n2 ys w) (g : w.grownBy w' u.ownBlock) : OwnW e m base v n xs w' :=
  World.ownsRow.kept h g (by
    cases hv : v.ownBlock with
    | none => exact .inl rfl
    | some b =>
      refine .inr (fun q => ?_)
      have h1 := hlt b hv
      have h2 := (ownW_lt hp q.symm).1
      omega)
theorem own_relS {base n cap : Nat} {a : Option Addr} {xs : List Value} {w : World} (h : OwnW 58 3 base (.slice a n cap) n xs w) (hI : IntC xs) : n ≤ cap ∧ ∃ f0 f1 f2, RowRel a n f0 f1 f2 w := by
  obtain ⟨a', cap', f0, f1, f2, e, hc, hR⟩ := own_rel h hI
  simp only [Value.slice.injEq, true_and] at e
  obtain ⟨rfl, rfl⟩ := e
  exact ⟨hc, f0, f1, f2, hR⟩
theorem own_intS {base n cap : Nat} {a : Option Addr} {xs : List Value} {w : World} (h : OwnW 3 1 base (.slice a n cap) n xs w) (hI : IntC xs) : n ≤ cap ∧ RowInt a n (numAt xs) w ∧ ∀ i, i < n → W64 (numAt xs i) := by
  obtain ⟨a', cap', e, hc, hR, hx⟩ := own_int h hI
  simp only [Value.slice.injEq, true_and] at e
  obtain ⟨rfl, rfl⟩ := e
  exact ⟨hc, hR, hx⟩
set_option maxRecDepth 100000 in
set_option maxHeartbeats 1600000 in
theorem s_kindAny (ra : Option Addr) (n rc : Nat) (f0 f1 f2 : Nat → Int) (a b : Int) (w : World) (hn : n ≤ 1000) (hA : RowRel ra n f0 f1 f2 w) :
    Calls Try.prog 15 #[.slice ra n rc, .int .i64 a, .int .i64 b] w fun e w' => ∃ z : Int, e = .returned (.int .i64 z) ∧ Below w.heap.size w w' := by
  have hn15 : (n : Int) ≤ 1000 := by omega
  go_enter Try.func15, Try.ntmps15
  go_wp2_with fail
  go_loopw [8, 11] (fun _ y wr => ∃ k : Nat, y = .int .i64 k ∧ k ≤ n ∧ Below w.heap.size w wr) (fun _ y _ => n - (intOf y).toNat)
  case atStart => exact ⟨0, rfl, Nat.zero_le _, Below.refl _ _⟩
  case round =>
    obtain ⟨k, rfl, hk, hb⟩ := hrel
    by_cases hlt : k < n
    · obtain ⟨b', off, rfl, hbw, u0, u1, u2⟩ := hA k hlt
      replace u0 := (hb.cell (p := ⟨b', off + k * 3, none⟩) hbw).trans u0
      replace u1 := (hb.cell (p := ⟨b', off + k * 3 + 1, none⟩) hbw).trans u1
      replace u2 := (hb.cell (p := ⟨b', off + k * 3 + 2, none⟩) hbw).trans u2
      have hlt' : (k : Int) < (n : Int) := by omega
      have dZ : Below w.heap.size w (wr.alloc (.cells #[.int .i64 (f0 k), .int .i64 (f1 k), .int .i64 (f2 k)] 58)) := hb.alloc hb.size _
      clear hA
      generalize f0 k = x at *
      generalize f1 k = y at *
      generalize f2 k = z at *
      by_cases p0 : x = a
      · have p0' : (x == a) = true := by simp [p0]
        by_cases p1 : y = b
        · have p1' : (y == b) = true := by simp [p1]
          clear p0 p1
          go_wp2_with fail
          go_ret
          exact ⟨_, rfl, dZ⟩
        · have p1' : (y == b) = false := by simp [p1]
          by_cases q0 : x = b
          · have q0' : (x == b) = true := by simp [q0]
            by_cases q1 : y = a
            · have q1' : (y == a) = true := by simp [q1]
              clear p0 p1 q0 q1
              go_wp2_with fail
              go_ret
              exact ⟨_, rfl, dZ⟩
            · have q1' : (y == a) = false := by simp [q1]
              clear p0 p1 q0 q1
              go_wp2_with fail
              exact ⟨⟨k + 1, by go_num, by omega, dZ⟩, by simp [intOf]; omega⟩
          · have q0' : (x == b) = false := by simp [q0]
            clear p0 p1 q0
            go_wp2_with fail
            exact ⟨⟨k + 1, by go_num, by omega, dZ⟩, by simp [intOf]; omega⟩
      · have p0' : (x == a) = false := by simp [p0]
        by_cases q0 : x = b
        · have q0' : (x == b) = true := by simp [q0]
          by_cases q1 : y = a
          · have q1' : (y == a) = true := by simp [q1]
            clear p0 q0 q1
            go_wp2_with fail
            go_ret
            exact ⟨_, rfl, dZ⟩
          · have q1' : (y == a) = false := by simp [q1]
            clear p0 q0 q1
            go_wp2_with fail
            exact ⟨⟨k + 1, by go_num, by omega, dZ⟩, by simp [intOf]; omega⟩
        · have q0' : (x == b) = false := by simp [q0]
          clear p0 q0
          go_wp2_with fail
          exact ⟨⟨k + 1, by go_num, by omega, dZ⟩, by simp [intOf]; omega⟩
    · have hlt' : ¬ (k : Int) < (n : Int) := by omega
      clear hA
      go_wp2_with fail
      go_ret
      first | exact ⟨_, rfl, hb⟩ | exact ⟨⟨_, rfl⟩, hb⟩
set_option maxRecDepth 100000 in
set_option maxHeartbeats 1600000 in
theorem d_kindTo (v : Value) (len : Nat) (w : World) (hby : BytesAt w.heap.size w v len) :
    Calls Try.prog 8 #[v] w fun e w' => ∃ (N : Int) (a : Option Addr) (ln cap : Nat) (f0 f1 f2 : Nat → Int) (x y : Int), e = .returned (.tuple #[.int .i64 N, .slice a ln cap, .int .i64 x, .int .i64 y]) ∧ ln ≤ 30 ∧ ln ≤ cap ∧ RowRel a ln f0 f1 f2 w' ∧ W64 x ∧ W64 y ∧ Below w.heap.size w w' := by
  obtain ⟨p, cap, rfl, hl, hj⟩ := hby
  go_enter Try.func8, Try.ntmps8
  go_wp2_with fail
  refine (d_rels w.heap.size (.slice p len cap) len 0 _ (by omega) ⟨0, 0, by omega, by omega, by simp, by simp [go_sem], by simp [go_sem], by simp [go_sem], by omega, by simp [go_sem], by simp [go_sem], by simp [go_sem]⟩ (bytes_to11 ⟨p, cap, rfl, hl, hj⟩ (below_box (Below.refl _ _)) (by omega))).mono ?_
  rintro e w1 ⟨N, lv, ln, xs, hN, rfl, hln, own1, hI, hc1, ho1⟩
  have hby1 : BytesAt w.heap.size w1 (.slice p len cap) len := (bytes_to11 ⟨p, cap, rfl, hl, hj⟩ (below_box (Below.refl _ _)) (Nat.le_refl _)).only ho1 (Nat.le_refl _)
  have hb1 : Below w.heap.size w w1 := (below_box (Below.refl _ _)).trans (ho1.below (by simp))
  obtain ⟨a, ca, rfl, _, _⟩ := ownW_row own1
  rw [World.size_alloc] at own1
  clear ho1 hj
  go_wp2_with fail
  refine (d_pick w.heap.size (.slice p len cap) len _ 6 _ (by omega) (by omega) hc1 hby1).mono ?_
  rintro e w2 ⟨r2, h20, h21, rfl, hc2, ho2⟩
  have own2 := own_onlyW own1 ho2 (by omega)
  have hby2 := hby1.only ho2 (Nat.le_refl _)
  have hb2 : Below w.heap.size w w2 := hb1.trans (ho2.below hb1.size)
  clear ho2 own1 hby1 hb1 hc1
  go_wp2_with fail
  refine (d_pick w.heap.size (.slice p len cap) len _ 6 _ (by omega) (by omega) hc2 hby2).mono ?_
  rintro e w3 ⟨r3, h30, h31, rfl, hc3, ho3⟩
  have own3 := own_onlyW own2 ho3 (by omega)
  have hb3 : Below w.heap.size w w3 := hb2.trans (ho3.below hb2.size)
  obtain ⟨hcap, f0, f1, f2, hR⟩ := own_relS own3 hI
  clear ho3 own2 own3 hby2 hb2 hc2
  go_wp2_with fail
  exact bodyPost_ret (v := .tuple #[.int .i64 N, .slice a ln ca, .int .i64 r2, .int .i64 r3]) (by simp [results, Try.results8, go_sem]) rfl ⟨N, a, ln, ca, f0, f1, f2, r2, r3, rfl, hln, hcap, hR, w64_of (by omega) (by omega), w64_of (by omega) (by omega), hb3⟩
set_option maxRecDepth 100000 in
set_option maxHeartbeats 1600000 in
theorem d_mayTell (v : Value) (len : Nat) (w : World) (hby : BytesAt w.heap.size w v len) :
    Calls Try.prog 11 #[v] w fun e w' => ∃ (N : Int) (a : Option Addr) (ln cap : Nat) (f0 f1 f2 : Nat → Int) (x y z : Int), e = .returned (.tuple #[.int .i64 N, .slice a ln cap, .int .i64 x, .int .i64 y, .int .i64 z]) ∧ ln ≤ 30 ∧ ln ≤ cap ∧ RowRel a ln f0 f1 f2 w' ∧ W64 x ∧ W64 y ∧ W64 z ∧ Below w.heap.size w w' := by
  obtain ⟨p, cap, rfl, hl, hj⟩ := hby
  go_enter Try.func11, Try.ntmps11
  go_wp2_with fail
  refine (d_rels w.heap.size (.slice p len cap) len 0 _ (by omega) ⟨0, 0, by omega, by omega, by simp, by simp [go_sem], by simp [go_sem], by simp [go_sem], by omega, by simp [go_sem], by simp [go_sem], by simp [go_sem]⟩ (bytes_to11 ⟨p, cap, rfl, hl, hj⟩ (below_box (Below.refl _ _)) (by omega))).mono ?_
  rintro e w1 ⟨N, lv, ln, xs, hN, rfl, hln, own1, hI, hc1, ho1⟩
  have hby1 : BytesAt w.heap.size w1 (.slice p len cap) len := (bytes_to11 ⟨p, cap, rfl, hl, hj⟩ (below_box (Below.refl _ _)) (Nat.le_refl _)).only ho1 (Nat.le_refl _)
  have hb1 : Below w.heap.size w w1 := (below_box (Below.refl _ _)).trans (ho1.below (by simp))
  obtain ⟨a, ca, rfl, _, _⟩ := ownW_row own1
  rw [World.size_alloc] at own1
  clear ho1 hj
  go_wp2_with fail
  refine (d_pick w.heap.size (.slice p len cap) len _ 5 _ (by omega) (by omega) hc1 hby1).mono ?_
  rintro e w2 ⟨r2, h20, h21, rfl, hc2, ho2⟩
  have own2 := own_onlyW own1 ho2 (by omega)
  have hby2 := hby1.only ho2 (Nat.le_refl _)
  have hb2 : Below w.heap.size w w2 := hb1.trans (ho2.below hb1.size)
  clear ho2 own1 hby1 hb1 hc1
  go_wp2_with fail
  refine (d_pick w.heap.size (.slice p len cap) len _ 5 _ (by omega) (by omega) hc2 hby2).mono ?_
  rintro e w3 ⟨r3, h30, h31, rfl, hc3, ho3⟩
  have own3 := own_onlyW own2 ho3 (by omega)
  have hby3 := hby2.only ho3 (Nat.le_refl _)
  have hb3 : Below w.heap.size w w3 := hb2.trans (ho3.below hb2.size)
  clear ho3 own2 hby2 hb2 hc2
  go_wp2_with fail
  refine (d_pick w.heap.size (.slice p len cap) len _ 5 _ (by omega) (by omega) hc3 hby3).mono ?_
  rintro e w4 ⟨r4, h40, h41, rfl, hc4, ho4⟩
  have own4 := own_onlyW own3 ho4 (by omega)
  have hb4 : Below w.heap.size w w4 := hb3.trans (ho4.below hb3.size)
  obtain ⟨hcap, f0, f1, f2, hR⟩ := own_relS own4 hI
  clear ho4 own3 own4 hby3 hb3 hc3
  go_wp2_with fail
  exact bodyPost_ret (v := .tuple #[.int .i64 N, .slice a ln ca, .int .i64 r2, .int .i64 r3, .int .i64 r4]) (by simp [results, Try.results11, go_sem]) rfl ⟨N, a, ln, ca, f0, f1, f2, r2, r3, r4, rfl, hln, hcap, hR, w64_of (by omega) (by omega), w64_of (by omega) (by omega), w64_of (by omega) (by omega), hb4⟩
set_option maxRecDepth 100000 in
set_option maxHeartbeats 3200000 in
theorem d_valley (v : Value) (len : Nat) (w : World) (hby : BytesAt w.heap.size w v len) :
    Calls Try.prog 4 #[v] w fun e w' => ∃ (N : Int) (a : Option Addr) (ln cap : Nat) (f0 f1 f2 : Nat → Int) (pa : Option Addr) (pn pc : Nat) (pf : Nat → Int), e = .returned (.tuple #[.int .i64 N, .slice a ln cap, .slice pa pn pc]) ∧ ln ≤ 30 ∧ ln ≤ cap ∧ RowRel a ln f0 f1 f2 w' ∧ pn ≤ 30 ∧ pn ≤ pc ∧ RowInt pa pn pf w' ∧ (∀ i, i < pn → W64 (pf i)) ∧ Below w.heap.size w w' := by
  obtain ⟨p, cap, rfl, hl, hj⟩ := hby
  go_enter Try.func4, Try.ntmps4
  go_wp2_with fail
  refine (d_rels w.heap.size (.slice p len cap) len 0 _ (by omega) ⟨0, 0, by omega, by omega, by simp, by simp [go_sem], by simp [go_sem], by simp [go_sem], by omega, by simp [go_sem], by simp [go_sem], by simp [go_sem]⟩ (bytes_to11 ⟨p, cap, rfl, hl, hj⟩ (below_box (Below.refl _ _)) (by omega))).mono ?_
  rintro e w1 ⟨N, lv, ln, xs, hN, rfl, hln, own1, hI, hc1, ho1⟩
  have hby1 : BytesAt w.heap.size w1 (.slice p len cap) len := (bytes_to11 ⟨p, cap, rfl, hl, hj⟩ (below_box (Below.refl _ _)) (Nat.le_refl _)).only ho1 (Nat.le_refl _)
  have hb1 : Below w.heap.size w w1 := (below_box (Below.refl _ _)).trans (ho1.below (by simp))
  have hN4 : (N : Int) ≤ 4 := by omega
  obtain ⟨a, ca, rfl, _, _⟩ := ownW_row own1
  rw [World.size_alloc] at own1
  have HB : Hid (∀ w', Below w.heap.size w w' → BytesAt w.heap.size w' (.slice p len cap) len) := fun w' k => bytes_to11 ⟨p, cap, rfl, hl, hj⟩ k (Nat.le_refl _)
  clear ho1 hj
  have D1 : Hid (∀ (c m : Nat) (w' : World), m ≤ 900000 → Cur c (.slice p len cap) m w' → BytesAt c w' (.slice p len cap) len → Calls Try.prog 14 #[.pointer (some ⟨c, 0, none⟩), .int .i64 ((N : Int) + 1)] w' fun e w'' => ∃ r : Int, 0 ≤ r ∧ (r < (N : Int) + 1 ∨ r = 0) ∧ e = .returned (.int .i64 r) ∧ Cur c (.slice p len cap) (m + 2) w'' ∧ Only c w' w'') := fun c m w' hm hc hb => d_pick c (.slice p len cap) len m ((N : Int) + 1) w' hm (by omega) hc hb
  go_wp2_with fail
  refine (D1.out w.heap.size _ _ (by omega) hc1 hby1).mono ?_
  rintro e w2 ⟨r2, h20, h21, rfl, hc2, ho2⟩
  have own2 := own_onlyW own1 ho2 (by omega)
  have hby2 := hby1.only ho2 (Nat.le_refl _)
  have hb2 : Below w.heap.size w w2 := hb1.trans (ho2.below hb1.size)
  have hlt2 : ∀ k, (Value.slice a ln ca).ownBlock = some k → k < w2.heap.size := fun k hk => (ownW_lt own2 hk).2
  have ownP := ownW_one 3 w2 (.int .i64 r2) (Nat.le_refl _)
  have own3 := ownW_below own2 (below_box (o := .cells #[.int .i64 r2] 3) (Below.refl _ _))
  have hby3 : BytesAt w.heap.size (w2.alloc (.cells #[.int .i64 r2] 3)) (.slice p len cap) len := hby2.only ((Only.refl _ w2).alloc _) (Nat.le_refl _)
  have hc3 := cur_below hc2 (below_box (o := .cells #[.int .i64 r2] 3) (Below.refl _ _))
  have hb3 : Below w.heap.size w (w2.alloc (.cells #[.int .i64 r2] 3)) := hb2.alloc hb2.size _
  have hI2 : IntC [.int .i64 r2] := IntC.one (w64_of (by omega) (by omega))
  have hw2 : w.heap.size < w2.heap.size := by
    obtain ⟨_, _, _, _, hcw, _⟩ := hc2
    exact hcw
  clear ho2 own1 own2 hby1 hby2 hb1 hb2 hc1 hc2
  go_wp2_with fail
  generalize w2.alloc (.cells #[.int .i64 r2] 3) = w3 at *
  refine (d_pick w.heap.size (.slice p len cap) len _ 5 _ (by omega) (by omega) hc3 hby3).mono ?_
  rintro e w4 ⟨r4, h40, h41, rfl, hc4, ho4⟩
  obtain ⟨k0, rfl⟩ : ∃ k : Nat, r4 = k := ⟨r4.toNat, by omega⟩
  have hk0 : k0 ≤ 4 := by omega
  have own4 := own_onlyW own3 ho4 (by omega)
  have ownP4 := own_onlyW ownP ho4 hw2
  have hby4 := hby3.only ho4 (Nat.le_refl _)
  have hb4 : Below w.heap.size w w4 := hb3.trans (ho4.below hb3.size)
  have hw24 : w2.heap.size ≤ w4.heap.size := by
    have := ownW_lt ownP4 (k := w2.heap.size) rfl
    omega
  clear ho4 own3 ownP hby3 hb3 hc3 h40 h41
  generalize Value.slice (some ⟨w2.heap.size, 0, none⟩) 1 1 = pv at *
  go_wp2_with fail
  go_loopw [8, 9] (fun l i wr => ∃ (k pn : Nat) (ys : List Value), k ≤ 4 ∧ i = .int .i64 k ∧ OwnW 3 1 w2.heap.size l pn ys wr ∧ IntC ys ∧ 1 ≤ pn ∧ pn ≤ 5 - k ∧ OwnW 58 3 (w.heap.size + 1) (.slice a ln ca) ln xs wr ∧ Cur w.heap.size (.slice p len cap) (300 + 2 * (4 - k)) wr ∧ w2.heap.size ≤ wr.heap.size ∧ Below w.heap.size w wr) (fun _ i _ => (intOf i).toNat)
  case atStart => exact ⟨k0, 1, _, hk0, rfl, ownP4, hI2, Nat.le_refl _, by omega, own4, cur_up hc4 (by omega), hw24, hb4⟩
  case round =>
    obtain ⟨k, pn, ys, hk, rfl, ownq, hIy, hp1, hp5, ownr, hcr, hor, hbr⟩ := hrel
    obtain ⟨pa, pc, rfl, _, _⟩ := ownW_row ownq
    by_cases hkp : 0 < k
    · have hkp' : (k : Int) > 0 := by omega
      have hpn : (pn : Int) ≤ 5 := by omega
      go_wp2_with fail
      refine (D1.out w.heap.size _ _ (by omega) hcr (HB.out _ hbr)).mono ?_
      rintro e w5 ⟨r5, h50, h51, rfl, hc5, ho5⟩
      have ownq5 := own_onlyW ownq ho5 hw2
      have ownr5 := own_onlyW ownr ho5 (by omega)
      have hor5 := Nat.le_trans hor ho5.2.2.2.1
      have hb5 : Below w.heap.size w w5 := hbr.trans (ho5.below hbr.size)
      obtain ⟨hpc, hRp, hxp⟩ := own_intS ownq5 hIy
      obtain ⟨hrc, f0, f1, f2, hRr⟩ := own_relS ownr5 hI
      obtain ⟨pb, poff, hab, hpb, cl⟩ := hRp (pn - 1) (by omega)
      have hq1 : (pn : Int) - 1 = ((pn - 1 : Nat) : Int) := by omega
      have hq2 : ((pn - 1 : Nat) : Int) < (pn : Int) := by omega
      have SA := hide (fun w R => s_kindAny a ln ca f0 f1 f2 (numAt ys (pn - 1)) r5 w (by omega) R)
      have HA := hide (fun w R => s_has10 pa pn pc (numAt ys) r5 w (by omega) R)
      generalize pB (∃ i, i < pn ∧ numAt ys i = r5) = t at *
      clear ownq ownr hor hbr ho5 hcr hxp
      subst hab
      generalize numAt ys (pn - 1) = lz at *
      generalize pn - 1 = lp at *
      go_wp2_with fail
      refine (SA.out _ hRr).mono ?_
      rintro e w6 ⟨z, rfl, b6⟩
      have ownq6 := ownW_below ownq5 b6
      have ownr6 := ownW_below ownr5 b6
      have hc6 := cur_below hc5 b6
      have hor6 := Nat.le_trans hor5 b6.size
      have hb6 : Below w.heap.size w w6 := hb5.trans (b6.mono hb5.size)
      have hRp6 := hRp.below b6
      have hw6 := b6.size
      clear b6 ownq5 ownr5 hc5 hor5 hb5 hRp hRr SA cl hpb
      by_cases hz : z = 0
      · have hz' : (z != 0) = false := by simp [hz]
        clear hz
        go_wp2_with fail
        exact ⟨⟨k - 1, pn, ys, by omega, by first | go_num | (congr 1; omega), ownq6, hIy, hp1, by omega, ownr6, cur_up hc6 (by omega), hor6, hb6⟩, by simp [intOf]; omega⟩
      · have hz' : (z != 0) = true := by simp [hz]
        clear hz
        go_wp2_with fail
        refine (HA.out _ hRp6).mono ?_
        rintro e w7 ⟨rfl, hw7⟩
        rw [hw7]; clear hw7 w7
        cases t with
        | true =>
          go_wp2_with fail
          exact ⟨⟨k - 1, pn, ys, by omega, by first | go_num | (congr 1; omega), ownq6, hIy, hp1, by omega, ownr6, cur_up hc6 (by omega), hor6, hb6⟩, by simp [intOf]; omega⟩
        | false =>
          have RA := RowW.mut (Mut.new w6 #[.int .i64 r5] 3)
          have h1c : Hid (∀ u ∈ [Value.int .i64 r5], u.oneCell' = true) := fun u hu => by
            simp only [List.mem_cons, List.not_mem_nil, or_false] at hu
            rcases hu with rfl; rfl
          have hownA := ownW_below ownq6 (below_box (o := .cells #[.int .i64 r5] 3) (Below.refl _ _))
          have hownR := ownW_below ownr6 (below_box (o := .cells #[.int .i64 r5] 3) (Below.refl _ _))
          have hI6 := hIy.app (IntC.one (z := r5) (w64_of (by omega) (by omega)))
          have hbA : w2.heap.size ≤ (w6.alloc (.cells #[.int .i64 r5] 3)).heap.size := by simp; omega
          have hl9 : Hid (pn + 1 ≤ 8589934593) := by show pn + 1 ≤ 8589934593; omega
          have hb7 : Below w.heap.size w (w6.alloc (.cells #[.int .i64 r5] 3)) := hb6.alloc hb6.size _
          go_wp2_with (first | (at_builtin; refine wpList_appW aggInt rfl _ _ rfl w2.heap.size _ pn ys rfl hownA w6.heap.size 0 1 1 [.int .i64 r5] rfl rfl RA h1c.out hl9.out (by decide) hbA ?_; intro v8 w8 own8 b8 g8 _))
          exact ⟨⟨k - 1, pn + 1, _, by omega, by first | go_num | (congr 1; omega), own8, hI6, by omega, by omega, own_off hownR hlt2 hownA g8, cur_grownW (cur_up (cur_below hc6 (below_box (Below.refl _ _))) (by omega)) hownA hw2 g8, (by have := b8.size; omega), hb7.trans (b8.mono (by omega))⟩, by simp [intOf]; omega⟩
    · have hk' : k = 0 := by omega
      subst hk'
      go_wp2_with fail
      refine (d_one w.heap.size (.slice p len cap) len _ 20 _ (by omega) (by omega) hcr (HB.out _ hbr)).mono ?_
      rintro e w5 ⟨r5, rfl, hc5, ho5⟩
      have ownq5 := own_onlyW ownq ho5 hw2
      have ownr5 := own_onlyW ownr ho5 (by omega)
      have hor5 := Nat.le_trans hor ho5.2.2.2.1
      have hb5 : Below w.heap.size w w5 := hbr.trans (ho5.below hbr.size)
      clear ownq ownr hor hbr ho5 hcr
      cases r5 with
      | false =>
        obtain ⟨hpc, hRp, hxp⟩ := own_intS ownq5 hIy
        obtain ⟨hrc, f0, f1, f2, hRr⟩ := own_relS ownr5 hI
        go_wp2_with fail
        exact bodyPost_ret (v := .tuple #[.int .i64 N, .slice a ln ca, .slice pa pn pc]) (by simp [results, Try.results4, go_sem]) rfl ⟨N, a, ln, ca, f0, f1, f2, pa, pn, pc, _, rfl, hln, hrc, hRr, by omega, hpc, hRp, hxp, hb5⟩
      | true =>
        go_wp2_with fail
        refine (d_pick w.heap.size (.slice p len cap) len _ 7 _ (by omega) (by omega) hc5 (HB.out _ hb5)).mono ?_
        rintro e w6 ⟨r6, h60, h61, rfl, hc6, ho6⟩
        have ownq6 := own_onlyW ownq5 ho6 hw2
        have ownr6 := own_onlyW ownr5 ho6 (by omega)
        have hw6 := Nat.le_trans hor5 ho6.2.2.2.1
        have hb6 : Below w.heap.size w w6 := hb5.trans (ho6.below hb5.size)
        have RA := RowW.mut (Mut.new w6 #[.int .i64 r6] 3)
        have h1c : Hid (∀ u ∈ [Value.int .i64 r6], u.oneCell' = true) := fun u hu => by
          simp only [List.mem_cons, List.not_mem_nil, or_false] at hu
          rcases hu with rfl; rfl
        have hownA := ownW_below ownq6 (below_box (o := .cells #[.int .i64 r6] 3) (Below.refl _ _))
        have hownR := ownW_below ownr6 (below_box (o := .cells #[.int .i64 r6] 3) (Below.refl _ _))
        have hI6 := hIy.app (IntC.one (z := r6) (w64_of (by omega) (by omega)))
        have hbA : w2.heap.size ≤ (w6.alloc (.cells #[.int .i64 r6] 3)).heap.size := by simp; omega
        have hl9 : Hid (pn + 1 ≤ 8589934593) := by show pn + 1 ≤ 8589934593; omega
        have hb7 : Below w.heap.size w (w6.alloc (.cells #[.int .i64 r6] 3)) := hb6.alloc hb6.size _
        clear ownq5 ownr5 hor5 hb5 hc5 ho6
        go_wp2_with (first | (at_builtin; refine wpList_appW aggInt rfl _ _ rfl w2.heap.size _ pn ys rfl hownA w6.heap.size 0 1 1 [.int .i64 r6] rfl rfl RA h1c.out hl9.out (by decide) hbA ?_; intro v8 w8 own8 b8 g8 _; obtain ⟨pa8, pc8, rfl, _, _⟩ := ownW_row own8))
        obtain ⟨hpc, hRp, hxp⟩ := own_intS own8 hI6
        obtain ⟨hrc, f0, f1, f2, hRr⟩ := own_relS (own_off hownR hlt2 hownA g8) hI
        exact bodyPost_ret (v := .tuple #[.int .i64 N, .slice a ln ca, .slice pa8 (pn + 1) pc8]) (by simp [results, Try.results4, go_sem]) rfl ⟨N, a, ln, ca, f0, f1, f2, pa8, pn + 1, pc8, _, rfl, hln, hrc, hRr, by omega, hpc, hRp, hxp, hb7.trans (b8.mono (by omega))⟩
end Go.Proofs.Ytgjohkpicajhpaa
