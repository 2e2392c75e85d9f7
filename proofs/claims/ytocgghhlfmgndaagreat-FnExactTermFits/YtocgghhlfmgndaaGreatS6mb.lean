/- What the specification's MatchPath answers. -/
import Derived.Test.YtocgghhlfmgndaaGreatS6ma
namespace Go.Proofs.YtocgghhlfmgndaaGreat
open Go.RowKit

/-- r tells whether a path is a row of a pattern that is read. -/
def MpB (L : List Cl) (P : List Int) (r : Bool) : Prop := r = true ↔ ∃ t, rg L = some t ∧ gpB P = true ∧ Mt P t 0 P.length
theorem mp_some (L : List Cl) (P : List Int) : ∃ r, MpB L P r := by
  by_cases h : ∃ t, rg L = some t ∧ gpB P = true ∧ Mt P t 0 P.length
  · exact ⟨true, fun _ => h, fun _ => rfl⟩
  · exact ⟨false, ⟨fun e => absurd e (by decide), fun k => absurd k h⟩⟩
theorem mp_none {L : List Cl} {P : List Int} {r : Bool} (h : MpB L P r) (hg : rg L = none) : r = false := by
  cases r with
  | false => rfl
  | true => obtain ⟨t, e, _⟩ := h.1 rfl; rw [hg] at e; cases e
theorem mp_bad {L : List Cl} {P : List Int} {r : Bool} (h : MpB L P r) (hg : gpB P = false) : r = false := by
  cases r with
  | false => rfl
  | true => obtain ⟨t, _, e, _⟩ := h.1 rfl; rw [hg] at e; cases e
theorem mp_yes {L : List Cl} {P : List Int} {r : Bool} {t : Re} (h : MpB L P r) (hg : rg L = some t) (hp : gpB P = true) : r = true ↔ Mt P t 0 P.length := by
  refine h.trans ⟨?_, fun k => ⟨t, hg, hp, k⟩⟩
  rintro ⟨t', e, _, k⟩
  rw [hg] at e
  cases e
  exact k
theorem gp_ten {P : List Int} (h : gpB P = true) : P.length ≤ 10 := by
  simp only [gpB, Bool.and_eq_true, decide_eq_true_eq] at h
  exact h.2
set_option maxRecDepth 100000 in
set_option maxHeartbeats 1600000 in
theorem s_matchPath (b off cap : Nat) (L : List Cl) (ap : Option Addr) (cp : Nat) (P : List Int) (r : Bool) (w : World) (hm : L.length ≤ 8589934592) (hlp : P.length ≤ 1048576) (hr : MpB L P r) (hR : RowQ (some ⟨b, off, none⟩) L w) (hP : RowN .i64 ap P w) :
    Calls Tryz.prog 103 #[.slice (some ⟨b, off, none⟩) L.length cap, .slice ap P.length cp] w fun e w' => e = .returned (.tuple #[.bool r, .bool (rgB L && gpB P)]) ∧ Below w.heap.size w w' := by
  have S1 := hide (fun w hR => s_tree L b off cap w hm hR)
  have GP := hide (fun w R => s_l6Path ap P cp w hlp R)
  cases h : rg L with
  | none =>
    rw [mp_none hr h, show rgB L = false from by simp [rgB, h], Bool.false_and]
    rw [h] at S1
    clear hr h GP
    go_enter Tryz.func103, Tryz.ntmps103
    go_wp2_with fail
    refine (S1.out _ hR).mono ?_
    rintro e w1 ⟨x, y, ⟨k1, k2, k3⟩, rfl, b1⟩
    go_wp2_with fail
    exact bodyPost_ret (v := .tuple #[.bool false, .bool false]) (by simp [results, Tryz.results103, go_sem]) rfl ⟨rfl, by first | exact b1 | exact b1.alloc b1.size _⟩
  | some t =>
    rw [show rgB L = true from by simp [rgB, h], Bool.true_and]
    rw [h] at S1
    cases hg : gpB P with
    | false =>
      rw [mp_bad hr hg]
      rw [hg] at GP
      clear hr h hg
      go_enter Tryz.func103, Tryz.ntmps103
      go_wp2_with fail
      refine (S1.out _ hR).mono ?_
      rintro e w1 ⟨⟨k1, k2, k3⟩, rfl, hK, b1⟩
      go_wp2_with fail
      have bb : Below w1.heap.size w1 (w1.alloc (.cells #[.int .i64 t.kind, .int .i64 t.num, .slice k1 k2 k3] 191)) := below_box (Below.refl _ _)
      have d2 := b1.trans (bb.mono b1.size)
      refine (GP.out _ (hP.below d2)).mono ?_
      rintro e w_ ⟨rfl, hw_⟩
      rw [hw_]
      clear hw_ w_
      go_wp2_with fail
      exact bodyPost_ret (v := .tuple #[.bool false, .bool false]) (by simp [results, Tryz.results103, go_sem]) rfl ⟨rfl, d2⟩
    | true =>
      have hy := mp_yes hr h hg
      have h10 := gp_ten hg
      rw [hg] at GP
      have EN := hide (fun k w hK R => s_ends P ap cp h10 t 0 k w (Nat.zero_le _) hK R)
      clear hr h hg
      go_enter Tryz.func103, Tryz.ntmps103
      go_wp2_with fail
      refine (S1.out _ hR).mono ?_
      rintro e w1 ⟨⟨k1, k2, k3⟩, rfl, hK, b1⟩
      have bb : Below w1.heap.size w1 (w1.alloc (.cells #[.int .i64 t.kind, .int .i64 t.num, .slice k1 k2 k3] 191)) := below_box (Below.refl _ _)
      have d2 := b1.trans (bb.mono b1.size)
      have M0 := Mut.new w1 #[.int .i64 t.kind, .int .i64 t.num, .slice k1 k2 k3] 191
      have hK2 := (Kids.mono (S' := fun _ => True) (fun _ _ _ => trivial) t _ hK).below bb
      go_wp2_with fail
      refine (GP.out _ (hP.below d2)).mono ?_
      rintro e w_ ⟨rfl, hw_⟩
      rw [hw_]
      clear hw_ w_
      have m0 := M0.2.1 0 _ rfl
      have m1 := M0.2.1 1 _ rfl
      have m2 := M0.2.1 2 _ rfl
      clear bb M0
      generalize w1.alloc (.cells #[.int .i64 t.kind, .int .i64 t.num, .slice k1 k2 k3] 191) = w2 at *
      go_wp2_with fail
      refine (EN.out _ _ hK2 (hP.below d2)).mono ?_
      rintro e w3 ⟨v3, rfl, ⟨L3, ⟨q3, c3, rfl, hc3, S3, hu3, hi3⟩, E3⟩, b3⟩
      have d3 := d2.trans (b3.mono d2.size)
      have HA := hide (fun w R => s_l1Has q3 L3 c3 (P.length : Int) w (Nat.le_trans (in_len hu3 hi3) (by decide)) R)
      have hh : hasN L3 (P.length : Int) = r := by
        rw [Bool.eq_iff_iff]
        exact (E3.has P.length).trans hy.symm
      rw [hh] at HA
      clear hh hc3 hu3 hi3 E3 hy m0 m1 m2
      go_wp2_with fail
      refine (HA.out _ S3.1).mono ?_
      rintro e w_ ⟨rfl, hw_⟩
      rw [hw_]
      clear hw_ w_
      go_wp2_with fail
      exact bodyPost_ret (v := .tuple #[.bool r, .bool true]) (by simp [results, Tryz.results103, go_sem]) rfl ⟨rfl, d3⟩
end Go.Proofs.YtocgghhlfmgndaaGreat
