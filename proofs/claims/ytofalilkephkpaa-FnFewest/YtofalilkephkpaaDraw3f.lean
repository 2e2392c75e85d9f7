/- What the specification draws for SetHas and GoodSet. -/
import Derived.Test.YtofalilkephkpaaDraw3d
namespace Go.Proofs.Ytofalilkephkpaa
open Go.RowKit

set_option maxRecDepth 100000 in
theorem d_setHas (v : Value) (len : Nat) (w : World) (hby : BytesAt w.heap.size w v len) :
    Calls Try.prog 24 #[v] w fun e w' => ∃ a cap, ∃ x : Int, ∃ L : List Pf, e = .returned (.tuple #[.slice a L.length cap, .int .i64 x]) ∧ (-1 ≤ x ∧ x ≤ 4294967296) ∧ L.length ≤ 130 ∧ SrcP a L cap w' ∧ Below w.heap.size w w' := by
  obtain ⟨p, cap, rfl, hl, hj⟩ := hby
  go_enter Try.func24, Try.ntmps24
  go_wp2_with fail
  refine (d_prefixes w.heap.size (.slice p len cap) len 0 _ (by omega) ⟨0, 0, by omega, by omega, by simp, by simp [go_sem], by simp [go_sem], by simp [go_sem], by omega, by simp [go_sem], by simp [go_sem], by simp [go_sem]⟩ (bytes_to3 ⟨p, cap, rfl, hl, hj⟩ (below_box (Below.refl _ _)) (by omega))).mono ?_
  rintro e w1 ⟨a, ca, L, rfl, hLl, hL1, hc1, ho1⟩
  have hby1 : BytesAt w.heap.size w1 (.slice p len cap) len := (bytes_to3 ⟨p, cap, rfl, hl, hj⟩ (below_box (Below.refl _ _)) (Nat.le_refl _)).only ho1 (Nat.le_refl _)
  have hb1 : Below w.heap.size w w1 := (below_box (Below.refl _ _)).trans (ho1.below (by simp))
  have hL1 : LooseP (w.heap.size + 1) a L ca w1 := by simpa using hL1
  clear ho1 hj
  go_wp2_with fail
  refine (d_addr w.heap.size (.slice p len cap) len (0 + 700) _ (by omega) hc1 hby1).mono ?_
  rintro e w2 ⟨x, hx, rfl, _, ho2⟩
  have hL2 := hL1.only ho2 (by omega)
  have hb2 : Below w.heap.size w w2 := hb1.trans (ho2.below hb1.size)
  clear ho2 hc1 hL1
  go_wp2_with fail
  refine bodyPost_ret (v := .tuple #[.slice a L.length ca, .int .i64 x]) (by simp [results, Try.results24, go_sem]) rfl ⟨_, _, x, L, rfl, hx, hLl, hL2.src, hb2⟩
set_option maxRecDepth 100000 in
theorem d_goodSet (v : Value) (len : Nat) (w : World) (hby : BytesAt w.heap.size w v len) :
    Calls Try.prog 27 #[v] w fun e w' => ∃ a cap, ∃ L : List Pf, e = .returned (.slice a L.length cap) ∧ L.length ≤ 130 ∧ SrcP a L cap w' ∧ Below w.heap.size w w' := by
  obtain ⟨p, cap, rfl, hl, hj⟩ := hby
  go_enter Try.func27, Try.ntmps27
  go_wp2_with fail
  refine (d_prefixes w.heap.size (.slice p len cap) len 0 _ (by omega) ⟨0, 0, by omega, by omega, by simp, by simp [go_sem], by simp [go_sem], by simp [go_sem], by omega, by simp [go_sem], by simp [go_sem], by simp [go_sem]⟩ (bytes_to3 ⟨p, cap, rfl, hl, hj⟩ (below_box (Below.refl _ _)) (by omega))).mono ?_
  rintro e w1 ⟨a, ca, L, rfl, hLl, hL1, hc1, ho1⟩
  have hby1 : BytesAt w.heap.size w1 (.slice p len cap) len := (bytes_to3 ⟨p, cap, rfl, hl, hj⟩ (below_box (Below.refl _ _)) (Nat.le_refl _)).only ho1 (Nat.le_refl _)
  have hb1 : Below w.heap.size w w1 := (below_box (Below.refl _ _)).trans (ho1.below (by simp))
  have hL1 : LooseP (w.heap.size + 1) a L ca w1 := by simpa using hL1
  clear ho1 hj
  cases hg : goodL L with
  | false =>
    have s3 := hide (fun w hR => s_fewestOf_no a ca L w (by omega) hR hg)
    go_wp2_with fail
    refine (s3.out _ hL1.1).mono ?_
    rintro e w2 ⟨rfl, b2⟩
    have hL2 := hL1.below b2
    have hb2 := below_step hb1 b2
    go_wp2_with fail
    go_ret
    exact ⟨_, _, L, rfl, hLl, hL2.src, hb2⟩
  | true =>
    obtain ⟨g1, g2⟩ := goodL_parts hg
    have hUl : (fewS L).length ≤ 64 := Nat.le_trans (fewS_good g1).2.2 g2
    have s3 := hide (fun w hR => s_fewestOf_yes a ca L w hR hg)
    clear g1
    generalize fewS L = U at *
    go_wp2_with fail
    refine (s3.out _ hL1.1).mono ?_
    rintro e w2 ⟨v2, rfl, o2, b2⟩
    have hL2 := hL1.below b2
    have hb2 := below_step hb1 b2
    have hc2 := cur_below hc1 b2
    have hby2 := hby1.only (Only.of_below (c := w.heap.size) b2) (Nat.le_refl _)
    obtain ⟨ua, uc, rfl, hU2⟩ := LooseP.own o2
    have hz := hb1.size
    have hcl : w.heap.size < w1.heap.size := by obtain ⟨_, _, _, _, h, _⟩ := hc1; exact h
    clear o2 hc1 hL1 s3
    go_wp2_with fail
    refine (d_one w.heap.size (.slice p len cap) len (0 + 700) 2 _ (by omega) (by omega) hc2 hby2).mono ?_
    rintro e w3 ⟨r, rfl, _, ho3⟩
    have hL3 := hL2.only ho3 (by omega)
    have hU3 := hU2.only ho3 (by omega)
    have hb3 : Below w.heap.size w w3 := hb2.trans (ho3.below hb2.size)
    clear ho3 hc2
    cases r with
    | false =>
      go_wp2_with fail
      go_ret
      exact ⟨_, _, L, rfl, hLl, hL3.src, hb3⟩
    | true =>
      go_wp2_with fail
      go_ret
      exact ⟨_, _, U, rfl, by omega, hU3.src, hb3⟩
end Go.Proofs.Ytofalilkephkpaa
