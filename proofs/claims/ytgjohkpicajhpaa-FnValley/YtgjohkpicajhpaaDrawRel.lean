/- What the specification's cursor draws as relations. -/
import Derived.Test.YtgjohkpicajhpaaDrawOne
import Derived.Test.YtgjohkpicajhpaaMemW
import Derived.Test.YtgjohkpicajhpaaFlatRel
import Derived.Test.YtgjohkpicajhpaaFlatInt
import Derived.Test.YtgjohkpicajhpaaMap11
import Derived.Test.YtgjohkpicajhpaaSame10
namespace Go.Proofs.Ytgjohkpicajhpaa
open Go.RowKit

theorem own_onlyW {e : TypeId} {m n base c : Nat} {v : Value} {xs : List Value} {w w' : World} (h : OwnW e m base v n xs w) (k : Only c w w') (hc : c < base) : OwnW e m base v n xs w' :=
  ownW_only h k (fun q => by have := (ownW_lt h q).1; omega)
theorem only_baseW {c : Nat} {w x y : World} (h : Only c w x) (k : Below w.heap.size x y) : Only c w y :=
  ⟨k.os.trans h.1, k.tape.trans h.2.1, k.output.trans h.2.2.1, Nat.le_trans h.2.2.2.1 k.size, fun i hi hn => (k.block i hi).trans (h.2.2.2.2 i hi hn)⟩
theorem cur_grownW {c n base : Nat} {e : TypeId} {m q : Nat} {v u : Value} {xs : List Value} {w w' : World} (h : Cur c v n w) (ho : OwnW e m base u q xs w) (hc : c < base) (k : w.grownBy w' u.ownBlock) : Cur c v n w' := by
  obtain ⟨p, s, h0, h1, hcw, c0, c1, c2, hs, f0, f1, f2⟩ := h
  have hb := k.block c hcw (fun e => by have := (ownW_lt ho e.symm).1; omega)
  have hc' : ∀ o, w'.cell? ⟨c, o, none⟩ = w.cell? ⟨c, o, none⟩ := fun o => World.cell?_of_block (w := w) hb
  have hf' : ∀ o, w'.frozen? ⟨c, o, none⟩ = w.frozen? ⟨c, o, none⟩ := fun o => World.frozen?_of_block (w := w) hb
  exact ⟨p, s, h0, h1, Nat.lt_of_lt_of_le hcw k.size, (hc' _).trans c0, (hc' _).trans c1, (hc' _).trans c2, hs, (hf' _).trans f0, (hf' _).trans f1, (hf' _).trans f2⟩
/-- Cells that hold whole numbers of 64 bits. -/
def IntC (xs : List Value) : Prop := ∀ u ∈ xs, ∃ z : Int, u = .int .i64 z ∧ W64 z
theorem IntC.nil : IntC [] := fun u hu => by simp at hu
theorem IntC.app {xs ys : List Value} (h : IntC xs) (k : IntC ys) : IntC (xs ++ ys) := fun u hu => (List.mem_append.1 hu).elim (h u) (k u)
theorem IntC.one {z : Int} (h : W64 z) : IntC [.int .i64 z] := fun u hu => by simp at hu; exact ⟨z, hu, h⟩
theorem IntC.three {x y z : Int} (hx : W64 x) (hy : W64 y) (hz : W64 z) : IntC [.int .i64 x, .int .i64 y, .int .i64 z] := fun u hu => by
  simp only [List.mem_cons, List.not_mem_nil, or_false] at hu
  rcases hu with h | h | h
  · exact ⟨x, h, hx⟩
  · exact ⟨y, h, hy⟩
  · exact ⟨z, h, hz⟩
noncomputable def numAt (xs : List Value) (i : Nat) : Int := match xs[i]? with | some (.int _ z) => z | _ => 0
theorem IntC.at {xs : List Value} (h : IntC xs) {i : Nat} (hi : i < xs.length) : xs[i]? = some (.int .i64 (numAt xs i)) ∧ W64 (numAt xs i) := by
  obtain ⟨z, e, hz⟩ := h xs[i] (List.getElem_mem hi)
  have e2 : xs[i]? = some (.int .i64 z) := by rw [List.getElem?_eq_getElem hi, e]
  have e3 : numAt xs i = z := by simp [numAt, e2]
  rw [e3]
  exact ⟨e2, hz⟩
theorem ownW_len {e : TypeId} {m n base : Nat} {v : Value} {xs : List Value} {w : World} (h : OwnW e m base v n xs w) : xs.length = n * m := h.1
theorem aggRel : AggT Try.prog 23 58 (.agg #[.int .i64 0, .int .i64 0, .int .i64 0]) 3 24 := ⟨Try.underlying23, by kernel_rfl, rfl, by decide⟩
theorem own_rel {base n : Nat} {v : Value} {xs : List Value} {w : World} (h : OwnW 58 3 base v n xs w) (hI : IntC xs) :
    ∃ a cap f0 f1 f2, v = .slice a n cap ∧ n ≤ cap ∧ RowRel a n f0 f1 f2 w := by
  obtain ⟨a, cap, e, hR, hs⟩ := ownW_row h
  have hl := ownW_len h
  refine ⟨a, cap, fun i => numAt xs (i * 3), fun i => numAt xs (i * 3 + 1), fun i => numAt xs (i * 3 + 2), e, ?_, fun i hi => ?_⟩
  · rcases hs with ⟨_, h2, h3⟩ | ⟨g, _, _, _, h4, _⟩
    · omega
    · exact h4
  · obtain ⟨b, off, ha, hb, c0⟩ := hR (i * 3) _ (hI.at (by omega)).1
    obtain ⟨b1, off1, ha1, hb1, c1⟩ := hR (i * 3 + 1) _ (hI.at (by omega)).1
    obtain ⟨b2, off2, ha2, hb2, c2⟩ := hR (i * 3 + 2) _ (hI.at (by omega)).1
    rw [ha] at ha1 ha2
    simp only [Option.some.injEq, Addr.mk.injEq, and_true] at ha1 ha2
    obtain ⟨rfl, rfl⟩ := ha1
    obtain ⟨rfl, rfl⟩ := ha2
    exact ⟨b, off, ha, hb, c0, by rw [Nat.add_assoc]; exact c1, by rw [Nat.add_assoc]; exact c2⟩
theorem aggInt : AggT Try.prog 24 3 (.int .i64 0) 1 8 := ⟨Try.underlying24, by kernel_rfl, rfl, by decide⟩
theorem own_int {base n : Nat} {v : Value} {xs : List Value} {w : World} (h : OwnW 3 1 base v n xs w) (hI : IntC xs) :
    ∃ a cap, v = .slice a n cap ∧ n ≤ cap ∧ RowInt a n (numAt xs) w ∧ ∀ i, i < n → W64 (numAt xs i) := by
  obtain ⟨a, cap, e, hR, hs⟩ := ownW_row h
  have hl := ownW_len h
  refine ⟨a, cap, e, ?_, fun i hi => ?_, fun i hi => (hI.at (by omega)).2⟩
  · rcases hs with ⟨_, h2, h3⟩ | ⟨g, _, _, _, h4, _⟩
    · omega
    · exact h4
  · obtain ⟨b, off, ha, hb, c0⟩ := hR i _ (hI.at (by omega)).1
    exact ⟨b, off, ha, hb, c0⟩
theorem ownW_one (e : TypeId) (w : World) (v : Value) {base : Nat} (hb : base ≤ w.heap.size) : OwnW e 1 base (.slice (some ⟨w.heap.size, 0, none⟩) 1 1) 1 [v] (w.alloc (.cells #[v] e)) :=
  ⟨rfl, .inr ⟨w.heap.size, 1, #[v], rfl, hb, (MapKept.heap_alloc w _).1, Nat.le_refl _, by decide, rfl, rfl⟩⟩
set_option maxRecDepth 100000 in
set_option maxHeartbeats 6400000 in
theorem d_rels (c : Nat) (v : Value) (len n : Nat) (w : World) (hn : n ≤ 100000) (hcur : Cur c v n w) (hby : BytesAt c w v len) :
    Calls Try.prog 13 #[.pointer (some ⟨c, 0, none⟩)] w fun e w' =>
      ∃ (N : Nat) (lv : Value) (ln : Nat) (xs : List Value), N ≤ 4 ∧ e = .returned (.tuple #[.int .i64 N, lv]) ∧ ln ≤ 30 ∧ OwnW 58 3 w.heap.size lv ln xs w' ∧ IntC xs ∧ Cur c v (n + 200) w' ∧ Only c w w' := by
  have hcw : c < w.heap.size := by obtain ⟨p, s, h0, h1, hc, _⟩ := hcur; exact hc
  have s1 := hide (fun m w hm hc hb => d_pick c v len m 4 w hm (by omega) hc hb)
  have s2 := hide (fun m w hm hc hb => d_one c v len m 3 w hm (by omega) hc hb)
  have s3 := hide (fun m w hm hc hb => d_pick c v len m 5 w hm (by omega) hc hb)
  have s4 := hide (fun m w hm hc hb => d_one c v len m 30 w hm (by omega) hc hb)
  have s5 := hide (fun m w hm hc hb => d_pick c v len m 3 w hm (by omega) hc hb)
  have s6 := hide (fun m w hm hc hb => d_pick c v len m 8 w hm (by omega) hc hb)
  have hB := hide (fun (w' : World) (k : Only c w w') => hby.only k (Nat.le_refl _))
  clear hby
  go_enter Try.func13, Try.ntmps13
  go_wp2_with fail
  refine (s1.out _ _ (by omega) hcur (hB.out _ (Only.refl _ _))).mono ?_
  rintro e w1 ⟨r, hr0, hr1, rfl, hc1, ho1⟩
  obtain ⟨N, hN⟩ : ∃ N : Nat, 1 + r = (N : Int) := ⟨(1 + r).toNat, by omega⟩
  have hN4 : N ≤ 4 := by omega
  have hN4' : (N : Int) ≤ 4 := by omega
  clear hcur s1 hr0 hr1
  go_wp2_with fail
  go_loopw [5, 6] (fun l i wr => ∃ (k ln : Nat) (xs : List Value), i = .int .i64 k ∧ k ≤ N ∧ OwnW 58 3 w.heap.size l ln xs wr ∧ IntC xs ∧ ln ≤ 5 * k ∧ Cur c v (n + 2 + 30 * k) wr ∧ Only c w wr) (fun _ i _ => N - (intOf i).toNat)
  case atStart => exact ⟨0, 0, [], rfl, Nat.zero_le _, ownW_nil _ _ _ _, IntC.nil, by omega, cur_up hc1 (by omega), ho1⟩
  case round =>
    obtain ⟨k, ln, xs, rfl, hk, hown, hI, hln, hc, ho⟩ := hrel
    by_cases hkN : k < N
    · have hkN' : (k : Int) < (N : Int) := by omega
      have hk5 : (k : Int) ≤ 4 := by omega
      go_wp2_with fail
      go_loopw [5, 7] (fun l i wq => ∃ (m lm : Nat) (ys : List Value), i = .int .i64 m ∧ k + 1 ≤ m ∧ m ≤ N + 1 ∧ OwnW 58 3 w.heap.size l lm ys wq ∧ IntC ys ∧ lm ≤ 5 * k + (m - (k + 1)) ∧ Cur c v (n + 2 + 30 * k + 4 * (m - (k + 1))) wq ∧ Only c w wq) (fun _ i _ => N + 1 - (intOf i).toNat)
      case atStart => exact ⟨k + 1, ln, xs, by go_num, by omega, by omega, hown, hI, by omega, cur_up hc (by omega), ho⟩
      case round =>
        obtain ⟨m, lm, ys, rfl, hm1, hm2, hownq, hIq, hlm, hcq, hoq⟩ := hrel
        by_cases hmN : m ≤ N
        · have hmN' : (m : Int) ≤ (N : Int) := by omega
          go_wp2_with fail
          refine (s2.out _ _ (by omega) hcq (hB.out _ hoq)).mono ?_
          rintro e w2 ⟨r2, rfl, hc2, ho2⟩
          have hown2 := own_onlyW hownq ho2 hcw
          have hO2 := hoq.trans ho2
          clear hownq hcq hoq ho2 hown hc ho hI
          cases r2 with
          | false =>
            go_wp2_with fail
            exact ⟨⟨m + 1, lm, ys, by go_num, by omega, by omega, hown2, hIq, by omega, cur_up hc2 (by omega), hO2⟩, by simp [intOf]; omega⟩
          | true =>
            go_wp2_with fail
            refine (s3.out _ _ (by omega) hc2 (hB.out _ hO2)).mono ?_
            rintro e w3 ⟨r3, hr30, hr31, rfl, hc3, ho3⟩
            have hown3 := own_onlyW hown2 ho3 hcw
            have hO3 := hO2.trans ho3
            have hs3 := hO3.2.2.2.1
            clear hown2 hc2 hO2 ho3
            have hwm : W64 (m : Int) := w64_of (by omega) (by omega)
            have hwk : W64 (k : Int) := w64_of (by omega) (by omega)
            by_cases q0 : r3 = 0
            · have q0' : (r3 == 0) = true := by simp [q0]
              have RA := RowW.mut (Mut.new w3 #[.int .i64 k, .int .i64 m, .int .i64 2] 58)
              have h1c : Hid (∀ u ∈ [Value.int .i64 k, .int .i64 m, .int .i64 2], u.oneCell' = true) := fun u hu => by
                simp only [List.mem_cons, List.not_mem_nil, or_false] at hu
                rcases hu with rfl | rfl | rfl <;> rfl
              have hownA := ownW_below hown3 (below_box (o := .cells #[.int .i64 k, .int .i64 m, .int .i64 2] 58) (Below.refl _ _))
              have hI6 := hIq.app (IntC.three hwk hwm (z := 2) (w64_of (by omega) (by omega)))
              have hbA : w.heap.size ≤ (w3.alloc (.cells #[.int .i64 k, .int .i64 m, .int .i64 2] 58)).heap.size := by simp; omega
              have hl9 : Hid (lm + 1 ≤ 8589934593) := by show lm + 1 ≤ 8589934593; omega
              go_wp2_with (first | (at_builtin; refine wpList_appW aggRel rfl _ _ rfl w.heap.size _ lm ys rfl hownA w3.heap.size 0 1 1 [.int .i64 k, .int .i64 m, .int .i64 2] rfl rfl RA h1c.out hl9.out (by decide) hbA ?_; intro v6 w6 own6 b6 g6 _))
              exact ⟨⟨m + 1, lm + 1, _, by go_num, by omega, by omega, own6, hI6, by omega, cur_grownW (cur_up (cur_below hc3 (below_box (Below.refl _ _))) (by omega)) hownA hcw g6, only_baseW (hO3.trans (Only.of_below (c := c) (below_box (Below.refl _ _)))) b6⟩, by simp [intOf]; omega⟩
            · have q0' : (r3 == 0) = false := by simp [q0]
              by_cases q1 : r3 = 1
              · have q1' : (r3 == 1) = true := by simp [q1]
                have RA := RowW.mut (Mut.new w3 #[.int .i64 k, .int .i64 m, .int .i64 1] 58)
                have h1c : Hid (∀ u ∈ [Value.int .i64 k, .int .i64 m, .int .i64 1], u.oneCell' = true) := fun u hu => by
                  simp only [List.mem_cons, List.not_mem_nil, or_false] at hu
                  rcases hu with rfl | rfl | rfl <;> rfl
                have hownA := ownW_below hown3 (below_box (o := .cells #[.int .i64 k, .int .i64 m, .int .i64 1] 58) (Below.refl _ _))
                have hI6 := hIq.app (IntC.three hwk hwm (z := 1) (w64_of (by omega) (by omega)))
                have hbA : w.heap.size ≤ (w3.alloc (.cells #[.int .i64 k, .int .i64 m, .int .i64 1] 58)).heap.size := by simp; omega
                have hl9 : Hid (lm + 1 ≤ 8589934593) := by show lm + 1 ≤ 8589934593; omega
                go_wp2_with (first | (at_builtin; refine wpList_appW aggRel rfl _ _ rfl w.heap.size _ lm ys rfl hownA w3.heap.size 0 1 1 [.int .i64 k, .int .i64 m, .int .i64 1] rfl rfl RA h1c.out hl9.out (by decide) hbA ?_; intro v6 w6 own6 b6 g6 _))
                exact ⟨⟨m + 1, lm + 1, _, by go_num, by omega, by omega, own6, hI6, by omega, cur_grownW (cur_up (cur_below hc3 (below_box (Below.refl _ _))) (by omega)) hownA hcw g6, only_baseW (hO3.trans (Only.of_below (c := c) (below_box (Below.refl _ _)))) b6⟩, by simp [intOf]; omega⟩
              · have q1' : (r3 == 1) = false := by simp [q1]
                have RA := RowW.mut (Mut.new w3 #[.int .i64 k, .int .i64 m, .int .i64 3] 58)
                have h1c : Hid (∀ u ∈ [Value.int .i64 k, .int .i64 m, .int .i64 3], u.oneCell' = true) := fun u hu => by
                  simp only [List.mem_cons, List.not_mem_nil, or_false] at hu
                  rcases hu with rfl | rfl | rfl <;> rfl
                have hownA := ownW_below hown3 (below_box (o := .cells #[.int .i64 k, .int .i64 m, .int .i64 3] 58) (Below.refl _ _))
                have hI6 := hIq.app (IntC.three hwk hwm (z := 3) (w64_of (by omega) (by omega)))
                have hbA : w.heap.size ≤ (w3.alloc (.cells #[.int .i64 k, .int .i64 m, .int .i64 3] 58)).heap.size := by simp; omega
                have hl9 : Hid (lm + 1 ≤ 8589934593) := by show lm + 1 ≤ 8589934593; omega
                go_wp2_with (first | (at_builtin; refine wpList_appW aggRel rfl _ _ rfl w.heap.size _ lm ys rfl hownA w3.heap.size 0 1 1 [.int .i64 k, .int .i64 m, .int .i64 3] rfl rfl RA h1c.out hl9.out (by decide) hbA ?_; intro v6 w6 own6 b6 g6 _))
                exact ⟨⟨m + 1, lm + 1, _, by go_num, by omega, by omega, own6, hI6, by omega, cur_grownW (cur_up (cur_below hc3 (below_box (Below.refl _ _))) (by omega)) hownA hcw g6, only_baseW (hO3.trans (Only.of_below (c := c) (below_box (Below.refl _ _)))) b6⟩, by simp [intOf]; omega⟩
        · have hmN' : ¬ (m : Int) ≤ (N : Int) := by omega
          go_wp2_with fail
          exact ⟨⟨k + 1, lm, ys, by go_num, by omega, hownq, hIq, by omega, cur_up hcq (by omega), hoq⟩, by simp [intOf]; omega⟩
    · have hkN' : ¬ (k : Int) < (N : Int) := by omega
      go_wp2_with fail
      refine (s4.out _ _ (by omega) hc (hB.out _ ho)).mono ?_
      rintro e w2 ⟨r2, rfl, hc2, ho2⟩
      have hown2 := own_onlyW hown ho2 hcw
      have hO2 := ho.trans ho2
      clear hown hc ho ho2
      cases r2 with
      | false =>
        go_wp2_with fail
        go_ret2
        exact ⟨N, _, ln, xs, hN4, rfl, by omega, hown2, hI, cur_up hc2 (by omega), hO2⟩
      | true =>
        go_wp2_with fail
        refine (s5.out _ _ (by omega) hc2 (hB.out _ hO2)).mono ?_
        rintro e w3 ⟨r3, hr30, hr31, rfl, hc3, ho3⟩
        have hown3 := own_onlyW hown2 ho3 hcw
        have hO3 := hO2.trans ho3
        clear hown2 hc2 hO2 ho3
        go_wp2_with fail
        refine (s6.out _ _ (by omega) hc3 (hB.out _ hO3)).mono ?_
        rintro e w4 ⟨r4, hr40, hr41, rfl, hc4, ho4⟩
        have hown4 := own_onlyW hown3 ho4 hcw
        have hO4 := hO3.trans ho4
        clear hown3 hc3 hO3 ho4
        go_wp2_with fail
        refine (s3.out _ _ (by omega) hc4 (hB.out _ hO4)).mono ?_
        rintro e w5 ⟨r5, hr50, hr51, rfl, hc5, ho5⟩
        have hown5 := own_onlyW hown4 ho5 hcw
        have hO5 := hO4.trans ho5
        have hs5 := hO5.2.2.2.1
        clear hown4 hc4 hO4 ho5
        have RA := RowW.mut (Mut.new w5 #[.int .i64 r3, .int .i64 r4, .int .i64 r5] 58)
        have h1c : Hid (∀ u ∈ [Value.int .i64 r3, .int .i64 r4, .int .i64 r5], u.oneCell' = true) := fun u hu => by
          simp only [List.mem_cons, List.not_mem_nil, or_false] at hu
          rcases hu with rfl | rfl | rfl <;> rfl
        have hownA := ownW_below hown5 (below_box (o := .cells #[.int .i64 r3, .int .i64 r4, .int .i64 r5] 58) (Below.refl _ _))
        have hI6 := hI.app (IntC.three (x := r3) (y := r4) (z := r5) (w64_of (by omega) (by omega)) (w64_of (by omega) (by omega)) (w64_of (by omega) (by omega)))
        have hbA : w.heap.size ≤ (w5.alloc (.cells #[.int .i64 r3, .int .i64 r4, .int .i64 r5] 58)).heap.size := by simp; omega
        have hl9 : Hid (ln + 1 ≤ 8589934593) := by show ln + 1 ≤ 8589934593; omega
        go_wp2_with (first | (at_builtin; refine wpList_appW aggRel rfl _ _ rfl w.heap.size _ ln xs rfl hownA w5.heap.size 0 1 1 [.int .i64 r3, .int .i64 r4, .int .i64 r5] rfl rfl RA h1c.out hl9.out (by decide) hbA ?_; intro v6 w6 own6 b6 g6 _))
        go_ret2
        exact ⟨N, _, ln + 1, _, hN4, rfl, by omega, own6, hI6, cur_grownW (cur_up (cur_below hc5 (below_box (Below.refl _ _))) (by omega)) hownA hcw g6, only_baseW (hO5.trans (Only.of_below (c := c) (below_box (Below.refl _ _)))) b6⟩
end Go.Proofs.Ytgjohkpicajhpaa
