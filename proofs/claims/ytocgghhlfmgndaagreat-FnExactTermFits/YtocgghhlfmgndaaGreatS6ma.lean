/- The ends of a star's rows, as the specification reckons them. -/
import Derived.Test.YtocgghhlfmgndaaGreatS6m
import Derived.BigQuiet
namespace Go.Proofs.YtocgghhlfmgndaaGreat
open Go.RowKit

set_option maxRecDepth 100000 in
set_option maxHeartbeats 3200000 in
theorem s_ends_str (a : Re) (P : List Int) (i : Nat) (ap : Option Addr) (cp : Nat) (hP : P.length ≤ 10) (hi : i ≤ P.length)
    (IA : Hid (∀ (j : Nat) (k : Option Addr × Nat × Nat) (w : World), j ≤ P.length → Kids (fun _ => True) w a k → RowN .i64 ap P w → Calls Tryz.prog 158 #[tv a k, .slice ap P.length cp, .int .i64 j] w fun e w' => ∃ v, e = .returned v ∧ EndV (Mt P a j) v w' ∧ Below w.heap.size w w'))
    (k : Option Addr × Nat × Nat) (w : World) (hK : Kids (fun _ => True) w (.str a) k) (hR : RowN .i64 ap P w) :
    Calls Tryz.prog 158 #[tv (.str a) k, .slice ap P.length cp, .int .i64 i] w fun e w' => ∃ v, e = .returned v ∧ EndV (Mt P (.str a) i) v w' ∧ Below w.heap.size w w' := by
  obtain ⟨g, c, ⟨a1, a2, a3⟩, rfl, hS, hRk, hKa⟩ := hK
  simp only [tv, Re.kind, Re.num]
  have hW : Below w.heap.size w ((w.alloc (.cells #[.int .i64 7, .int .i64 0, .slice (some ⟨g, 0, none⟩) 1 c] 191)).alloc (.cells #[.int .i64 i] 3)) := below_box2 (Below.refl _ _)
  have M0 := (Mut.new w #[.int .i64 7, .int .i64 0, .slice (some ⟨g, 0, none⟩) 1 c] 191).alloc (.cells #[.int .i64 i] 3)
  have S0 := src1r (w.alloc (.cells #[.int .i64 7, .int .i64 0, .slice (some ⟨g, 0, none⟩) 1 c] 191)) i 3
  rw [World.size_alloc] at S0
  have hu0 : UpN [(i : Int)] := List.pairwise_singleton _ _
  have hi0 : InN [(i : Int)] := fun y hy => by rw [List.mem_singleton] at hy; subst hy; omega
  go_enter Tryz.func158, Tryz.ntmps158
  go_wp2_with fail
  have hin : Hid ((i : Int) ∈ [(i : Int)]) := List.mem_singleton.2 rfl
  go_loopw [15] (fun v wr => ∃ L, HeldN v L wr ∧ Hid ((i : Int) ∈ L) ∧ Hid (∀ x ∈ L, ∃ j : Nat, x = (j : Int) ∧ StarR (Mt P a) i j) ∧ Mut wr w.heap.size [.int .i64 7, .int .i64 0, .slice (some ⟨g, 0, none⟩) 1 c] ∧ Below w.heap.size w wr) (fun v _ => 80 - slN v)
  case atStart => exact ⟨[(i : Int)], ⟨_, _, rfl, Nat.le_refl _, S0, hu0, hi0⟩, hin, fun x hx => ⟨i, List.mem_singleton.1 hx, .refl⟩, M0, hW⟩
  case round =>
    clear S0 hu0 hi0 hW M0 hin
    obtain ⟨L, ⟨q0, c0, rfl, hc0, S0, hu0, hi0⟩, hin, hst0, M0, hb0⟩ := hrel
    have hlen := in_len hu0 hi0
    have hm0 : OwnN 3 .i64 wr.heap.size (.slice (some ⟨wr.heap.size, 0, none⟩) 0 0) [] (wr.alloc (.cells #[] 3)) := by
      have := World.ownsRow_made (e := 3) (size := 1) (base := wr.heap.size) wr #[] 0 (by simp) (by decide) (by decide)
      unfold OwnN
      simpa [ncells] using this
    have hsz : wr.heap.size ≤ (wr.alloc (.cells #[] 3)).heap.size := by simp
    have SA := S0.below (below_box (Below.refl _ _) : Below wr.heap.size wr (wr.alloc (.cells #[] 3)))
    have hbb : Hid (([] : List Int).length + L.length ≤ 8589934593) := by show _ ≤ _; simp; omega
    go_wp2_with (first | (at_builtin; refine wpList_appN numInt rfl _ _ rfl wr.heap.size _ [] rfl hm0 q0 L L.length c0 rfl rfl SA hbb.out (by decide) hsz ?_))
    intro v1 w1 own1 b1 _ _
    have b2 : Below wr.heap.size wr w1 := (below_box (Below.refl _ _) : Below wr.heap.size wr (wr.alloc (.cells #[] 3))).trans b1
    obtain ⟨qc, cc, rfl, RC, _⟩ := ownN_row own1
    replace M0 := M0.below b2
    have dd := hb0.trans (b2.mono hb0.size)
    have hV : Hid (HeldN (.slice q0 L.length c0) L w1) := ⟨q0, c0, rfl, hc0, S0.below b2, hu0, hi0⟩
    clear own1 b1 hm0 hsz SA hbb S0 b2 hb0 hc0
    go_wp2_with fail
    go_loopw [15, 119] (fun v y wr => ∃ (k : Nat) (L3 : List Int), y = .int .i64 k ∧ k ≤ L.length ∧ HeldN v L3 wr ∧ Hid (∀ x, x ∈ L3 ↔ x ∈ L ∨ InU (Mt P a) L k x) ∧ Hid (L3 = L ∨ L.length < L3.length) ∧ RowN .i64 qc L wr ∧ Mut wr w.heap.size [.int .i64 7, .int .i64 0, .slice (some ⟨g, 0, none⟩) 1 c] ∧ Below w.heap.size w wr) (fun _ y _ => L.length - (intOf y).toNat)
    case atStart => exact ⟨0, L, rfl, Nat.zero_le _, hV.out, fun x => ⟨.inl, fun h => h.elim id (fun h => absurd h (inU_zero x))⟩, .inl rfl, RC, M0, dd⟩
    case round =>
      clear hV RC M0 dd
      obtain ⟨k, L3, rfl, hk, ⟨q5, c5, rfl, hc5, S5, hu5, hi5⟩, hU, hG, R1, M1, hb⟩ := hrel
      by_cases hlt : k < L.length
      · obtain ⟨bb, off, hq1, hbb, e0⟩ := R1 k hlt
        subst hq1
        obtain ⟨m, hm, hma⟩ := hst0.out _ (getD_mem hlt)
        have hmP : m ≤ P.length := star_bd (mt_bd a) hma hi
        have hIU := hide (fun (L2 : List Int) (h2 : Ends (Mt P a m) L2) => inU_step (R := Mt P a) (L1 := L) (k := k) (L2 := L2) (by rw [hm]; exact h2))
        rw [hm] at e0
        clear hm hma
        have hlt' : (k : Int) < (L.length : Int) := by omega
        obtain ⟨_, v0, v1, v2⟩ := (hRk.below hb).one0
        have m2 := M1.2.1 2 _ rfl
        have hV : Hid (HeldN (.slice q5 L3.length c5) L3 wr) := ⟨q5, c5, rfl, hc5, S5, hu5, hi5⟩
        have hR1 := hide R1
        clear R1 S5 hc5
        go_wp2_with fail
        refine (IA.out m (a1, a2, a3) _ hmP (hKa.below hb) (hR.below hb)).mono ?_
        rintro e w2 ⟨x2, rfl, ⟨L2, ⟨q2, c2, rfl, hc2, S2, hu2, hi2⟩, E2⟩, d2⟩
        have dd2 := hb.trans (d2.mono hb.size)
        have hlen2 := in_len hu2 hi2
        replace hV : Hid (HeldN (.slice q5 L3.length c5) L3 w2) := by
          obtain ⟨q, c, e, h1, h2, h3⟩ := hV.out
          exact ⟨q, c, e, h1, h2.below d2, h3⟩
        have hnew : Hid (∀ x, x ∈ putAll L3 L2 ↔ x ∈ L ∨ InU (Mt P a) L (k + 1) x) := fun x => by
          rw [mem_putAll, hU.out x, hIU.out L2 E2 x]
          exact or_assoc
        have hgr : Hid (putAll L3 L2 = L ∨ L.length < (putAll L3 L2).length) := by
          rcases hG.out with e | e <;> rcases putAll_len L2 L3 with f | f
          · exact .inl (f.trans e)
          · exact .inr (by rw [e] at f ⊢; exact f)
          · exact .inr (by rw [f]; exact e)
          · exact .inr (by omega)
        rename Hid (RowN .i64 (some ⟨bb, off, none⟩) L wr) => R1
        clear v0 v1 v2 m2 e0 hb hIU hU hG
        go_wp2_with fail
        go_loopw [15, 131] (fun v y wr => ∃ k2 : Nat, y = .int .i64 k2 ∧ k2 ≤ L2.length ∧ HeldN v (putAll L3 (L2.take k2)) wr ∧ RowN .i64 q2 L2 wr ∧ RowN .i64 (some ⟨bb, off, none⟩) L wr ∧ Mut wr w.heap.size [.int .i64 7, .int .i64 0, .slice (some ⟨g, 0, none⟩) 1 c] ∧ Below w.heap.size w wr) (fun _ y _ => L2.length - (intOf y).toNat)
        case atStart => exact ⟨0, rfl, Nat.zero_le _, hV.out, S2.1, R1.out.below d2, M1.below d2, dd2⟩
        case round =>
          clear hV S2 M1 d2 dd2 R1
          obtain ⟨k2, rfl, hk2, ⟨q3, c3, rfl, hc3, S3, hu3, hi3⟩, R2, R1, M1, hb⟩ := hrel
          by_cases hlt2 : k2 < L2.length
          · obtain ⟨b5, off5, rfl, hb5, e0⟩ := R2 k2 hlt2
            have hx := hi2 _ (getD_mem hlt2)
            have hst := hide (putAll_take (o := L3) hlt2)
            have hlt2' : (k2 : Int) < (L2.length : Int) := by omega
            have hR2 := hide R2
            have hR1 := hide R1
            have hM1 := hide M1
            generalize putAll L3 (L2.take k2) = L4 at *
            generalize L2.getD k2 0 = x at *
            have hln := in_len hu3 hi3
            have PU := hide (fun w R => s_l1Put q3 L4 c3 x w (by omega) hc3 R)
            clear R2 hc3 R1 M1
            go_wp2_with fail
            refine (PU.out _ S3).mono ?_
            rintro e w3 ⟨a3, c4, rfl, hc4, S4, b3⟩
            go_wp2_with fail
            exact ⟨⟨k2 + 1, by go_num, by omega, by rw [hst.out]; exact ⟨a3, c4, rfl, hc4, S4, up_put _ hu3, in_put hi3 hx⟩, hR2.out.below b3, hR1.out.below b3, hM1.out.below b3, hb.trans (b3.mono hb.size)⟩, by simp [intOf]; omega⟩
          · have hlt2' : ¬ (k2 : Int) < (L2.length : Int) := by omega
            rw [List.take_of_length_le (by omega)] at hc3 S3 hu3 hi3 ⊢
            have hV : Hid (HeldN (.slice q3 (putAll L3 L2).length c3) (putAll L3 L2) wr) := ⟨q3, c3, rfl, hc3, S3, hu3, hi3⟩
            have hR1 := hide R1
            have hM1 := hide M1
            clear hc3 S3 hu3 hi3 R2 R1 M1
            go_wp2_with fail
            exact ⟨⟨k + 1, putAll L3 L2, by go_num, by omega, hV.out, hnew, hgr, hR1.out, hM1.out, hb⟩, by simp [intOf]; omega⟩
      · have hlt' : ¬ (k : Int) < (L.length : Int) := by omega
        have hkk : k = L.length := by omega
        subst hkk
        by_cases hq : L3.length = L.length
        · have hLL : L3 = L := by
            rcases hG.out with e | e
            · exact e
            · omega
          subst hLL
          have hA : Hid (EndV (Mt P (.str a) i) (.slice q5 L3.length c5) wr) := ⟨_, ⟨q5, c5, rfl, hc5, S5, hu5, hi5⟩, (ends_str hu5 hi5 hin.out hst0.out (fun x hx => (hU.out x).2 (.inr hx))).2.2⟩
          clear hc5 S5 hu5 hi5 hU hG hq
          go_wp2_with fail
          go_ret
          exact ⟨_, rfl, hA.out, hb⟩
        · have hq' : ((L3.length : Int) == (L.length : Int)) = false := by simp; omega
          have hV : Hid (HeldN (.slice q5 L3.length c5) L3 wr) := ⟨q5, c5, rfl, hc5, S5, hu5, hi5⟩
          have hin' : Hid ((i : Int) ∈ L3) := (hU.out _).2 (.inl hin.out)
          have hst' : Hid (∀ x ∈ L3, ∃ j : Nat, x = (j : Int) ∧ StarR (Mt P a) i j) := fun x hx => by
            rcases (hU.out x).1 hx with h | ⟨ix, hix, j, hj, hr⟩
            · exact hst0.out x h
            · obtain ⟨m, hm, hs⟩ := hst0.out _ (getD_mem hix)
              rw [hm] at hr
              exact ⟨j, hj, .step hs hr⟩
          have hme : Hid (80 - L3.length < 80 - L.length) := by
            have h1 := in_len hu5 hi5
            rcases hG.out with e | e
            · exact absurd (by rw [e]) hq
            · show _ < _
              omega
          have hM1 := hide M1
          clear hc5 S5 hu5 hi5 hU hG hq M1 R1
          go_wp2_with fail
          exact ⟨⟨L3, hV.out, hin', hst', hM1.out, hb⟩, hme.out⟩
/-- What is one number long. -/
theorem ends_next {P : List Int} {t : Re} {i : Nat} (h : ∀ j, Mt P t i j ↔ j = i + 1) : Ends (Mt P t i) [((i + 1 : Nat) : Int)] := (Ends.one (i + 1)).congr fun j => (h j).symm
set_option maxRecDepth 100000 in
set_option maxHeartbeats 3200000 in
theorem s_ends (P : List Int) (ap : Option Addr) (cp : Nat) (hP : P.length ≤ 10) (t : Re) : ∀ (i : Nat) (k : Option Addr × Nat × Nat) (w : World), i ≤ P.length → Kids (fun _ => True) w t k → RowN .i64 ap P w →
    Calls Tryz.prog 158 #[tv t k, .slice ap P.length cp, .int .i64 i] w fun e w' => ∃ v, e = .returned v ∧ EndV (Mt P t i) v w' ∧ Below w.heap.size w w' := by
  have nilV : ∀ (R : Nat → Prop) (w : World), (∀ j, ¬ R j) → EndV R (.slice none 0 0) w := fun R w h => ⟨[], ⟨none, 0, rfl, Nat.le_refl _, ⟨RowN.nil _ _ _, .inl ⟨rfl, rfl, rfl⟩⟩, List.Pairwise.nil, fun x hx => absurd hx List.not_mem_nil⟩, Ends.nil h⟩
  have oneV : ∀ (i : Nat) (w : World), i ≤ 11 → ∀ (R : Nat → Prop), Ends R [(i : Int)] → EndV R (.slice (some ⟨w.heap.size, 0, none⟩) 1 1) (w.alloc (.cells #[.int .i64 i] 3)) := fun i w hi R h => ⟨[(i : Int)], ⟨_, 1, rfl, Nat.le_refl _, src1r w i 3, List.pairwise_singleton _ _, fun y hy => by rw [List.mem_singleton] at hy; subst hy; omega⟩, h⟩
  replace nilV := hide nilV
  replace oneV := hide oneV
  induction t with
  | non =>
    rintro i k w hi rfl hR
    simp only [tv, Re.kind, Re.num]
    go_enter Tryz.func158, Tryz.ntmps158
    go_wp2_with fail
    go_ret
    exact ⟨_, rfl, nilV.out _ _ (fun j h => h), below_box (Below.refl _ _)⟩
  | emp =>
    rintro i k w hi rfl hR
    simp only [tv, Re.kind, Re.num]
    have hO := hide (oneV.out i (w.alloc (.cells #[.int .i64 2, .int .i64 0, .slice none 0 0] 191)) (by omega) (Mt P .emp i) ((Ends.one i).congr fun j => ⟨fun h => h.symm, fun h => h.symm⟩))
    go_enter Tryz.func158, Tryz.ntmps158
    go_wp2_with fail
    go_ret
    exact ⟨_, rfl, by have := hO.out; rw [World.size_alloc] at this; exact this, below_box2 (Below.refl _ _)⟩
  | one n =>
    rintro i k w hi rfl hR
    simp only [tv, Re.kind, Re.num]
    by_cases hlt : i < P.length
    · obtain ⟨b, off, rfl, hb, e0⟩ := hR i hlt
      have d0 : Below w.heap.size w (w.alloc (.cells #[.int .i64 3, .int .i64 n, .slice none 0 0] 191)) := below_box (Below.refl _ _)
      replace e0 := (d0.cell (p := ⟨b, off + i, none⟩) hb).trans e0
      have hlt' : (i : Int) < (P.length : Int) := by omega
      by_cases hq : P.getD i 0 = n
      · have hO := hide (fun w hi => oneV.out (i + 1) w hi (Mt P (.one n) i) (ends_next fun j => ⟨fun h => h.1, fun h => ⟨h, hlt, hq⟩⟩))
        rw [hq] at e0
        clear hq
        go_enter Tryz.func158, Tryz.ntmps158
        go_wp2_with fail
        go_quiet (fail)
        go_wp2_with fail
        have h1 := hO.out ((w.alloc (.cells #[.int .i64 3, .int .i64 n, .slice none 0 0] 191)).drewN nq) (by omega)
        have hz : ((w.alloc (.cells #[.int .i64 3, .int .i64 n, .slice none 0 0] 191)).drewN nq).heap.size = w.heap.size + 1 := by simp
        rw [hz] at h1
        go_ret
        exact ⟨_, rfl, h1, below_box (below_drewN (below_box (Below.refl _ _)) _)⟩
      · have hN := hide (fun w => nilV.out (Mt P (.one n) i) w (fun j h => hq h.2.2))
        have hq' : (P.getD i 0 == n) = false := by simpa using hq
        generalize P.getD i 0 = x at *
        clear hq
        go_enter Tryz.func158, Tryz.ntmps158
        go_wp2_with fail
        go_quiet (fail)
        go_wp2_with fail
        go_ret
        exact ⟨_, rfl, hN.out _, below_drewN (below_box (Below.refl _ _)) _⟩
    · have hlt' : decide ((i : Int) < (P.length : Int)) = false := by simp; omega
      have hN := hide (fun w => nilV.out (Mt P (.one n) i) w (fun j h => hlt h.2.1))
      go_enter Tryz.func158, Tryz.ntmps158
      go_wp2_with fail
      go_quiet (fail)
      go_wp2_with fail
      go_ret
      exact ⟨_, rfl, hN.out _, below_drewN (below_box (Below.refl _ _)) _⟩
  | any =>
    rintro i k w hi rfl hR
    simp only [tv, Re.kind, Re.num]
    by_cases hlt : i < P.length
    · have hlt' : (i : Int) < (P.length : Int) := by omega
      have hO := hide (fun w hi => oneV.out (i + 1) w hi (Mt P .any i) (ends_next fun j => ⟨fun h => h.1, fun h => ⟨h, hlt⟩⟩))
      go_enter Tryz.func158, Tryz.ntmps158
      go_wp2_with fail
      go_quiet (fail)
      go_wp2_with fail
      have h1 := hO.out ((w.alloc (.cells #[.int .i64 4, .int .i64 0, .slice none 0 0] 191)).drewN nq) (by omega)
      have hz : ((w.alloc (.cells #[.int .i64 4, .int .i64 0, .slice none 0 0] 191)).drewN nq).heap.size = w.heap.size + 1 := by simp
      rw [hz] at h1
      go_ret
      exact ⟨_, rfl, h1, below_box (below_drewN (below_box (Below.refl _ _)) _)⟩
    · have hlt' : decide ((i : Int) < (P.length : Int)) = false := by simp; omega
      have hN := hide (fun w => nilV.out (Mt P .any i) w (fun j h => hlt h.2))
      go_enter Tryz.func158, Tryz.ntmps158
      go_wp2_with fail
      go_quiet (fail)
      go_wp2_with fail
      go_ret
      exact ⟨_, rfl, hN.out _, below_drewN (below_box (Below.refl _ _)) _⟩
  | thn a b ha hb => exact fun i k w hi hK hR => s_ends_thn a b P i ap cp hi (fun k w hK hR => ha i k w hi hK hR) (fun j k w hj hK hR => hb j k w hj hK hR) k w hK hR
  | alt a b ha hb => exact fun i k w hi hK hR => s_ends_alt a b P i ap cp (fun k w hK hR => ha i k w hi hK hR) (fun k w hK hR => hb i k w hi hK hR) k w hK hR
  | str a ha => exact fun i k w hi hK hR => s_ends_str a P i ap cp hP hi (fun j k w hj hK hR => ha j k w hj hK hR) k w hK hR
end Go.Proofs.YtocgghhlfmgndaaGreat
