/- The ends of a pattern's rows, as the specification reckons them: l6Ends at leaves, and what a choice comes to. -/
import Derived.Test.YtocgghhlfmgndaaGreatJG
import Derived.Test.YtocgghhlfmgndaaGreatS6rc
import Derived.Test.YtocgghhlfmgndaaGreatS6d
import Derived.Test.YtocgghhlfmgndaaGreatS6ra
namespace Go.Proofs.YtocgghhlfmgndaaGreat
open Go.RowKit

/-- The answer of l6Ends: a rising list of the ends. -/
def EndV (R : Nat → Prop) (v : Value) (w : World) : Prop := ∃ L, HeldN v L w ∧ Ends R L
set_option maxRecDepth 100000 in
set_option maxHeartbeats 3200000 in
theorem s_ends_alt (a b : Re) (P : List Int) (i : Nat) (ap : Option Addr) (cp : Nat)
    (IA : Hid (∀ (k : Option Addr × Nat × Nat) (w : World), Kids (fun _ => True) w a k → RowN .i64 ap P w → Calls Tryz.prog 158 #[tv a k, .slice ap P.length cp, .int .i64 i] w fun e w' => ∃ v, e = .returned v ∧ EndV (Mt P a i) v w' ∧ Below w.heap.size w w'))
    (IB : Hid (∀ (k : Option Addr × Nat × Nat) (w : World), Kids (fun _ => True) w b k → RowN .i64 ap P w → Calls Tryz.prog 158 #[tv b k, .slice ap P.length cp, .int .i64 i] w fun e w' => ∃ v, e = .returned v ∧ EndV (Mt P b i) v w' ∧ Below w.heap.size w w'))
    (k : Option Addr × Nat × Nat) (w : World) (hK : Kids (fun _ => True) w (.alt a b) k) (hR : RowN .i64 ap P w) :
    Calls Tryz.prog 158 #[tv (.alt a b) k, .slice ap P.length cp, .int .i64 i] w fun e w' => ∃ v, e = .returned v ∧ EndV (Mt P (.alt a b) i) v w' ∧ Below w.heap.size w w' := by
  obtain ⟨g, c, ⟨a1, a2, a3⟩, ⟨b1, b2, b3⟩, rfl, hS, hRk, hKa, hKb⟩ := hK
  simp only [tv, Re.kind, Re.num]
  have hW : Below w.heap.size w (w.alloc (.cells #[.int .i64 6, .int .i64 0, .slice (some ⟨g, 0, none⟩) 2 c] 191)) := below_box (Below.refl _ _)
  have M0 := Mut.new w #[.int .i64 6, .int .i64 0, .slice (some ⟨g, 0, none⟩) 2 c] 191
  obtain ⟨hg, u0, u1, u2⟩ := (hRk.below hW).one0
  obtain ⟨v0, v1, v2⟩ := (hRk.below hW).two0
  go_enter Tryz.func158, Tryz.ntmps158
  go_wp2_with fail
  refine (IA.out (a1, a2, a3) _ (hKa.below hW) (hR.below hW)).mono ?_
  rintro e w1 ⟨x1, rfl, ⟨L1, ⟨q1, c1, rfl, hc1, S1, hu1, hi1⟩, E1⟩, d1⟩
  replace M0 := M0.below d1
  obtain ⟨hc, _⟩ := bcell d1
  have z0 := (hc g 3 hg).trans v0
  have z1 := (hc g 4 hg).trans v1
  have z2 := (hc g 5 hg).trans v2
  have m2 := M0.2.1 2 _ rfl
  have dd1 := below_step hW d1
  clear hc u0 u1 u2 v0 v1 v2 M0
  go_wp2_with fail
  refine (IB.out (b1, b2, b3) _ (hKb.below dd1) (hR.below dd1)).mono ?_
  rintro e w2 ⟨x2, rfl, ⟨L2, ⟨q2, c2, rfl, hc2, S2, hu2, hi2⟩, E2⟩, d2⟩
  have dd2 := dd1.trans (d2.mono dd1.size)
  replace S1 := S1.below d2
  have hlen2 := in_len hu2 hi2
  clear z0 z1 z2 m2 d1 hW
  go_wp2_with fail
  go_loopw [7, 68] (fun v y wr => ∃ k : Nat, y = .int .i64 k ∧ k ≤ L2.length ∧ HeldN v (putAll L1 (L2.take k)) wr ∧ RowN .i64 q2 L2 wr ∧ Below w.heap.size w wr) (fun _ y _ => L2.length - (intOf y).toNat)
  case atStart => exact ⟨0, rfl, Nat.zero_le _, ⟨q1, c1, rfl, hc1, S1, hu1, hi1⟩, S2.1, dd2⟩
  case round =>
    obtain ⟨k, rfl, hk, ⟨q3, c3, rfl, hc3, S3, hu3, hi3⟩, R2, hb⟩ := hrel
    by_cases hlt : k < L2.length
    · obtain ⟨bb, off, rfl, hbb, e0⟩ := R2 k hlt
      have hx := hi2 _ (getD_mem hlt)
      have hst := hide (putAll_take (o := L1) hlt)
      have hlt' : (k : Int) < (L2.length : Int) := by omega
      have hR2 := hide R2
      generalize putAll L1 (L2.take k) = L3 at *
      generalize L2.getD k 0 = x at *
      have hln := in_len hu3 hi3
      have PU := hide (fun w R => s_l1Put q3 L3 c3 x w (by omega) hc3 R)
      clear R2 hc3 S1 S2
      go_wp2_with fail
      refine (PU.out _ S3).mono ?_
      rintro e w3 ⟨a3, c4, rfl, hc4, S4, b3⟩
      go_wp2_with fail
      exact ⟨⟨k + 1, by go_num, by omega, by rw [hst.out]; exact ⟨a3, c4, rfl, hc4, S4, up_put _ hu3, in_put hi3 hx⟩, hR2.out.below b3, hb.trans (b3.mono hb.size)⟩, by simp [intOf]; omega⟩
    · have hlt' : ¬ (k : Int) < (L2.length : Int) := by omega
      rw [List.take_of_length_le (by omega)] at hc3 S3 hu3 hi3 ⊢
      have hA : Hid (EndV (Mt P (.alt a b) i) (.slice q3 (putAll L1 L2).length c3) wr) := ⟨_, ⟨q3, c3, rfl, hc3, S3, hu3, hi3⟩, (ends_alt ⟨hu1, hi1, E1⟩ ⟨hu2, hi2, E2⟩).2.2⟩
      clear hc3 S3 hu3 hi3
      go_wp2_with fail
      go_ret
      exact ⟨_, rfl, hA.out, hb⟩
set_option maxRecDepth 100000 in
set_option maxHeartbeats 3200000 in
theorem s_ends_thn (a b : Re) (P : List Int) (i : Nat) (ap : Option Addr) (cp : Nat) (hi : i ≤ P.length)
    (IA : Hid (∀ (k : Option Addr × Nat × Nat) (w : World), Kids (fun _ => True) w a k → RowN .i64 ap P w → Calls Tryz.prog 158 #[tv a k, .slice ap P.length cp, .int .i64 i] w fun e w' => ∃ v, e = .returned v ∧ EndV (Mt P a i) v w' ∧ Below w.heap.size w w'))
    (IB : Hid (∀ (j : Nat) (k : Option Addr × Nat × Nat) (w : World), j ≤ P.length → Kids (fun _ => True) w b k → RowN .i64 ap P w → Calls Tryz.prog 158 #[tv b k, .slice ap P.length cp, .int .i64 j] w fun e w' => ∃ v, e = .returned v ∧ EndV (Mt P b j) v w' ∧ Below w.heap.size w w'))
    (k : Option Addr × Nat × Nat) (w : World) (hK : Kids (fun _ => True) w (.thn a b) k) (hR : RowN .i64 ap P w) :
    Calls Tryz.prog 158 #[tv (.thn a b) k, .slice ap P.length cp, .int .i64 i] w fun e w' => ∃ v, e = .returned v ∧ EndV (Mt P (.thn a b) i) v w' ∧ Below w.heap.size w w' := by
  obtain ⟨g, c, ⟨a1, a2, a3⟩, ⟨b1, b2, b3⟩, rfl, hS, hRk, hKa, hKb⟩ := hK
  simp only [tv, Re.kind, Re.num]
  have hW : Below w.heap.size w (w.alloc (.cells #[.int .i64 5, .int .i64 0, .slice (some ⟨g, 0, none⟩) 2 c] 191)) := below_box (Below.refl _ _)
  have M0 := Mut.new w #[.int .i64 5, .int .i64 0, .slice (some ⟨g, 0, none⟩) 2 c] 191
  obtain ⟨hg, u0, u1, u2⟩ := (hRk.below hW).one0
  go_enter Tryz.func158, Tryz.ntmps158
  go_wp2_with fail
  refine (IA.out (a1, a2, a3) _ (hKa.below hW) (hR.below hW)).mono ?_
  rintro e w1 ⟨x1, rfl, ⟨L1, ⟨q1, c1, rfl, hc1, S1, hu1, hi1⟩, E1⟩, d1⟩
  replace M0 := M0.below d1
  have dd1 := below_step hW d1
  have hlen1 := in_len hu1 hi1
  clear u0 u1 u2 hW d1
  go_wp2_with fail
  go_loopw [10, 87] (fun v y wr => ∃ (k : Nat) (L : List Int), y = .int .i64 k ∧ k ≤ L1.length ∧ HeldN v L wr ∧ Hid (∀ x, x ∈ L ↔ InU (Mt P b) L1 k x) ∧ RowN .i64 q1 L1 wr ∧ Mut wr w.heap.size [.int .i64 5, .int .i64 0, .slice (some ⟨g, 0, none⟩) 2 c] ∧ Below w.heap.size w wr) (fun _ y _ => L1.length - (intOf y).toNat)
  case atStart => exact ⟨0, [], rfl, Nat.zero_le _, ⟨none, 0, rfl, Nat.le_refl _, ⟨RowN.nil _ _ _, .inl ⟨rfl, rfl, rfl⟩⟩, List.Pairwise.nil, fun x hx => absurd hx List.not_mem_nil⟩, fun x => ⟨fun h => absurd h List.not_mem_nil, fun h => absurd h (inU_zero x)⟩, S1.1, M0, dd1⟩
  case round =>
    clear S1 M0 dd1
    obtain ⟨k, L, rfl, hk, ⟨q0, c0, rfl, hc0, S0, hu0, hi0⟩, hU, R1, M1, hb⟩ := hrel
    by_cases hlt : k < L1.length
    · obtain ⟨bb, off, hq1, hbb, e0⟩ := R1 k hlt
      subst hq1
      obtain ⟨m, hm, hma⟩ := (E1 _).1 (getD_mem hlt)
      have hmP : m ≤ P.length := mt_bd a i m hma hi
      have hIU := hide (fun (L2 : List Int) (h2 : Ends (Mt P b m) L2) => inU_step (R := Mt P b) (L1 := L1) (k := k) (L2 := L2) (by rw [hm]; exact h2))
      rw [hm] at e0
      clear hm hma
      have hlt' : (k : Int) < (L1.length : Int) := by omega
      obtain ⟨_, v0, v1⟩ := (hRk.below hb).two0
      replace v0 := ((hRk.below hb).two0).1
      replace v1 := ((hRk.below hb).two0).2.1
      have v2 := ((hRk.below hb).two0).2.2
      have m2 := M1.2.1 2 _ rfl
      have hV : Hid (HeldN (.slice q0 L.length c0) L wr) := ⟨q0, c0, rfl, hc0, S0, hu0, hi0⟩
      have hR1 := hide R1
      clear R1 S0 hc0
      go_wp2_with fail
      refine (IB.out m (b1, b2, b3) _ hmP (hKb.below hb) (hR.below hb)).mono ?_
      rintro e w2 ⟨x2, rfl, ⟨L2, ⟨q2, c2, rfl, hc2, S2, hu2, hi2⟩, E2⟩, d2⟩
      have dd2 := hb.trans (d2.mono hb.size)
      have hlen2 := in_len hu2 hi2
      replace hV : Hid (HeldN (.slice q0 L.length c0) L w2) := by
        obtain ⟨q, c, e, h1, h2, h3⟩ := hV.out
        exact ⟨q, c, e, h1, h2.below d2, h3⟩
      have hnew : Hid (∀ x, x ∈ putAll L L2 ↔ InU (Mt P b) L1 (k + 1) x) := fun x => by rw [mem_putAll, hU.out x, hIU.out L2 E2 x]
      rename Hid (RowN .i64 (some ⟨bb, off, none⟩) L1 wr) => R1
      clear v0 v1 v2 m2 e0 hb hIU hU
      go_wp2_with fail
      go_loopw [10, 99] (fun v y wr => ∃ k2 : Nat, y = .int .i64 k2 ∧ k2 ≤ L2.length ∧ HeldN v (putAll L (L2.take k2)) wr ∧ RowN .i64 q2 L2 wr ∧ RowN .i64 (some ⟨bb, off, none⟩) L1 wr ∧ Mut wr w.heap.size [.int .i64 5, .int .i64 0, .slice (some ⟨g, 0, none⟩) 2 c] ∧ Below w.heap.size w wr) (fun _ y _ => L2.length - (intOf y).toNat)
      case atStart => exact ⟨0, rfl, Nat.zero_le _, hV.out, S2.1, R1.out.below d2, M1.below d2, dd2⟩
      case round =>
        clear hV S2 M1 d2 dd2 R1
        obtain ⟨k2, rfl, hk2, ⟨q3, c3, rfl, hc3, S3, hu3, hi3⟩, R2, R1, M1, hb⟩ := hrel
        by_cases hlt2 : k2 < L2.length
        · obtain ⟨b5, off5, rfl, hb5, e0⟩ := R2 k2 hlt2
          have hx := hi2 _ (getD_mem hlt2)
          have hst := hide (putAll_take (o := L) hlt2)
          have hlt2' : (k2 : Int) < (L2.length : Int) := by omega
          have hR2 := hide R2
          have hR1 := hide R1
          have hM1 := hide M1
          generalize putAll L (L2.take k2) = L3 at *
          generalize L2.getD k2 0 = x at *
          have hln := in_len hu3 hi3
          have PU := hide (fun w R => s_l1Put q3 L3 c3 x w (by omega) hc3 R)
          clear R2 hc3 R1 M1
          go_wp2_with fail
          refine (PU.out _ S3).mono ?_
          rintro e w3 ⟨a3, c4, rfl, hc4, S4, b3⟩
          go_wp2_with fail
          exact ⟨⟨k2 + 1, by go_num, by omega, by rw [hst.out]; exact ⟨a3, c4, rfl, hc4, S4, up_put _ hu3, in_put hi3 hx⟩, hR2.out.below b3, hR1.out.below b3, hM1.out.below b3, hb.trans (b3.mono hb.size)⟩, by simp [intOf]; omega⟩
        · have hlt2' : ¬ (k2 : Int) < (L2.length : Int) := by omega
          rw [List.take_of_length_le (by omega)] at hc3 S3 hu3 hi3 ⊢
          have hV : Hid (HeldN (.slice q3 (putAll L L2).length c3) (putAll L L2) wr) := ⟨q3, c3, rfl, hc3, S3, hu3, hi3⟩
          have hR1 := hide R1
          have hM1 := hide M1
          clear hc3 S3 hu3 hi3 R2 R1 M1
          go_wp2_with fail
          exact ⟨⟨k + 1, putAll L L2, by go_num, by omega, hV.out, hnew, hR1.out, hM1.out, hb⟩, by simp [intOf]; omega⟩
    · have hlt' : ¬ (k : Int) < (L1.length : Int) := by omega
      have hkk : k = L1.length := by omega
      have hA : Hid (EndV (Mt P (.thn a b) i) (.slice q0 L.length c0) wr) := ⟨_, ⟨q0, c0, rfl, hc0, S0, hu0, hi0⟩, fun x => by rw [hU.out x, hkk, inU_all E1]; rfl⟩
      clear hc0 S0 hu0 hi0 hkk hU
      go_wp2_with fail
      go_ret
      exact ⟨_, rfl, hA.out, hb⟩
end Go.Proofs.YtocgghhlfmgndaaGreat
