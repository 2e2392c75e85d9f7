/- Good readers: what the program's goodGot and GoodReader answer. -/
import Derived.Test.YtoeephmdklmpfaaI5b
import Derived.Test.YtoeephmdklmpfaaMemM
import Derived.Test.YtoeephmdklmpfaaMut4
namespace Go.Proofs.Ytoeephmdklmpfaa
open Go.RowKit

/-- All messages are good. -/
def gotB (L : List Ms) : Bool := L.all fun m => gmB m.1 m.2
theorem got_no {L : List Ms} {k : Nat} (hk : k < L.length) (h : gmB (mAt L k).1 (mAt L k).2 = false) : gotB L = false := by
  unfold gotB
  rw [List.all_eq_false]
  exact ⟨mAt L k, mAt_mem hk, by rw [h]; decide⟩
theorem got_take {L : List Ms} {k : Nat} (hk : k < L.length) (h : gotB (L.take k) = true) (hg : gmB (mAt L k).1 (mAt L k).2 = true) : gotB (L.take (k + 1)) = true := by
  unfold gotB at h ⊢
  rw [take_succM hk, List.all_append, h]
  simp [hg]
set_option maxRecDepth 100000 in
set_option maxHeartbeats 1600000 in
theorem i_goodGot (a : Option Addr) (cap : Nat) (L : List Ms) (w : World) (hl : L.length ≤ 1048576) (hR : RowM a L w) :
    Calls Try.prog 82 #[.slice a L.length cap] w fun e w' => e = .returned (.bool (decide (L.length ≤ 40) && gotB L)) ∧ Below w.heap.size w w' := by
  by_cases h : L.length ≤ 40
  · have h' : ¬ ((L.length : Int) > 40) := by omega
    rw [decide_eq_true h, Bool.true_and]
    go_enter Try.func82, Try.ntmps82
    go_wp2_with fail
    go_loopw [10] (fun i wr => ∃ k : Nat, k ≤ L.length ∧ i = .int .i64 k ∧ gotB (L.take k) = true ∧ Below w.heap.size w wr) (fun i _ => L.length - (intOf i).toNat)
    case atStart => exact ⟨0, Nat.zero_le _, rfl, by simp [gotB], Below.refl _ _⟩
    case round =>
      obtain ⟨k, hk, rfl, hg, hb⟩ := hrel
      by_cases hlt : k < L.length
      · obtain ⟨b, off, rfl, hbw, c0, c1⟩ := hR k hlt
        have c0 := (hb.cell (p := ⟨b, off + k * 2, none⟩) hbw).trans c0
        have c1 := (hb.cell (p := ⟨b, off + k * 2 + 1, none⟩) hbw).trans c1
        have hlt' : (k : Int) < (L.length : Int) := by omega
        have G := hide (fun w => i_goodMsg (mAt L k).1 (mAt L k).2 w)
        have hgH := hide hg
        clear hg hR
        cases hq : gmB (mAt L k).1 (mAt L k).2 with
        | true =>
          rw [hq] at G
          have hn := hide (got_take hlt hgH.out hq)
          clear hq
          go_wp2_with fail
          refine (G.out _).mono ?_
          rintro e w1 ⟨rfl, b1⟩
          clear c0 c1
          go_wp2_with fail
          exact ⟨⟨k + 1, by omega, by go_num, hn.out, below_step hb (below_box b1)⟩, by simp [intOf]; omega⟩
        | false =>
          rw [hq] at G
          have hn := hide (got_no hlt hq)
          clear hq
          go_wp2_with fail
          refine (G.out _).mono ?_
          rintro e w1 ⟨rfl, b1⟩
          clear c0 c1
          go_wp2_with fail
          go_ret
          exact ⟨ret_bool hn.out.symm, below_step hb (below_box b1)⟩
      · have hk' : k = L.length := by omega
        subst hk'
        rw [List.take_length] at hg
        have hgH := hide hg
        clear hg hR
        go_wp2_with fail
        go_ret
        exact ⟨ret_bool hgH.out.symm, hb⟩
  · have h' : (L.length : Int) > 40 := by omega
    rw [decide_eq_false h, Bool.false_and]
    clear hR
    go_enter Try.func82, Try.ntmps82
    go_wp2_with fail
    go_ret
    exact ⟨rfl, Below.refl _ _⟩
theorem gr_bad {X : ByteArray} {L : List Ms} {B : Int} (h : ¬ (0 ≤ B ∧ B ≤ 4)) : grB X L B = false := by
  unfold grB
  rw [decide_eq_false h]
  simp
theorem gr_got {X : ByteArray} {L : List Ms} {B : Int} (h : (decide (L.length ≤ 40) && gotB L) = false) : grB X L B = false := by
  have : grB X L B = ((decide (L.length ≤ 40) && gotB L) && decide (0 ≤ B ∧ B ≤ 4) && decide (B ≠ 0 → X.size = 0) && decide (flt X = 0) && !whB X) := rfl
  rw [this, h]
  simp
theorem gr_set {X : ByteArray} {L : List Ms} {B : Int} (h : (decide (L.length ≤ 40) && gotB L) = true) (hB : 0 ≤ B ∧ B ≤ 4) (h0 : B ≠ 0) : grB X L B = decide (X.size = 0) := by
  have : grB X L B = ((decide (L.length ≤ 40) && gotB L) && decide (0 ≤ B ∧ B ≤ 4) && decide (B ≠ 0 → X.size = 0) && decide (flt X = 0) && !whB X) := rfl
  rw [this, h, decide_eq_true hB]
  by_cases hx : X.size = 0
  · rw [decide_eq_true hx, decide_eq_true (fun _ => hx), flt_nil hx, whB_nil hx]; rfl
  · rw [decide_eq_false hx, decide_eq_false (fun q => hx (q h0))]; simp
theorem gr_zero {X : ByteArray} {L : List Ms} (h : (decide (L.length ≤ 40) && gotB L) = true) : grB X L 0 = (decide (flt X = 0) && !whB X) := by
  have : grB X L 0 = ((decide (L.length ≤ 40) && gotB L) && decide ((0 : Int) ≤ 0 ∧ (0 : Int) ≤ 4) && decide ((0 : Int) ≠ 0 → X.size = 0) && decide (flt X = 0) && !whB X) := rfl
  rw [this, h]
  simp
set_option maxRecDepth 100000 in
set_option maxHeartbeats 1600000 in
theorem i_goodReader (X : ByteArray) (a : Option Addr) (cap : Nat) (L : List Ms) (B : Int) (w : World) (hX : X.size ≤ 2097152) (hl : L.length ≤ 1048576) (hR : RowM a L w) :
    Calls Try.prog 39 #[.agg #[.string X, .slice a L.length cap, .int .i64 B]] w fun e w' => e = .returned (.bool (grB X L B)) ∧ Below w.heap.size w w' := by
  have G := hide (fun w hR => i_goodGot a cap L w hl hR)
  have MB := hide (fun w => i_may X w hX)
  have hR1 := hR.below (below_box (Below.refl _ _) : Below w.heap.size w (w.alloc (.cells #[.string X, .slice a L.length cap, .int .i64 B] 48)))
  clear hR hl hX
  by_cases hB : 0 ≤ B ∧ B ≤ 4
  · have b0 : ¬ (B < 0) := by omega
    have b1 : ¬ (B > 4) := by omega
    have M := Mut.new w #[.string X, .slice a L.length cap, .int .i64 B] 48
    cases hg : (decide (L.length ≤ 40) && gotB L) with
    | true =>
      rw [hg] at G
      by_cases h0 : B = 0
      · subst h0
        have hq := hide (gr_zero (X := X) hg)
        generalize grB X L 0 = r at *
        generalize (decide (flt X = 0) && !whB X) = q at *
        clear hg hB
        go_enter Try.func39, Try.ntmps39
        go_wp2_with fail
        refine (G.out _ hR1).mono ?_
        rintro e w1 ⟨rfl, bb⟩
        have u0 := (M.below bb).2.1 0 _ rfl
        have u2 := (M.below bb).2.1 2 _ rfl
        have d := below_box bb
        clear M bb hR1
        go_wp2_with fail
        refine (MB.out _).mono ?_
        rintro e w_ ⟨rfl, hw_⟩
        rw [hw_]
        clear hw_ w_
        go_wp2_with fail
        go_ret
        exact ⟨ret_bool hq.out.symm, d⟩
      · have hq := hide (gr_set (X := X) hg hB h0)
        have h0' : (B != 0) = true := by simpa using h0
        generalize grB X L B = r at *
        clear hg hB
        go_enter Try.func39, Try.ntmps39
        go_wp2_with fail
        refine (G.out _ hR1).mono ?_
        rintro e w1 ⟨rfl, bb⟩
        have u0 := (M.below bb).2.1 0 _ rfl
        have u2 := (M.below bb).2.1 2 _ rfl
        have d := below_box bb
        clear M bb hR1
        go_wp2_with fail
        go_ret
        exact ⟨ret_bool (by rw [hq.out, toList_nil]), d⟩
    | false =>
      rw [hg] at G
      rw [gr_got hg]
      clear hg hB
      go_enter Try.func39, Try.ntmps39
      go_wp2_with fail
      refine (G.out _ hR1).mono ?_
      rintro e w1 ⟨rfl, bb⟩
      have d := below_box bb
      clear M bb hR1
      go_wp2_with fail
      go_ret
      exact ⟨rfl, d⟩
  · rw [gr_bad hB]
    by_cases b0 : B < 0
    · clear hB
      go_enter Try.func39, Try.ntmps39
      go_wp2_with fail
      go_ret
      exact ⟨rfl, below_box (Below.refl _ _)⟩
    · have b1 : B > 4 := by omega
      clear hB
      go_enter Try.func39, Try.ntmps39
      go_wp2_with fail
      go_ret
      exact ⟨rfl, below_box (Below.refl _ _)⟩
end Go.Proofs.Ytoeephmdklmpfaa
