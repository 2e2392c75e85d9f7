/- Good readers: what the specification's GoodReader answers. -/
import Derived.Test.YtoeephmdklmpfaaS5c
import Derived.Test.YtoeephmdklmpfaaI5g
namespace Go.Proofs.Ytoeephmdklmpfaa
open Go.RowKit

theorem gr_gotS {X : ByteArray} {L : List Ms} {B : Int} (h : gotB L = false) : grB X L B = false := gr_got (by rw [h]; simp)
/-- What the cut tells of a rest. -/
theorem gr_rest {X : ByteArray} (h : flt X = 0 ∧ whB X = false) : cut X = ([], X, 0) := cut_rest h.1 h.2
theorem gr_fail {X : ByteArray} {L : List Ms} {B : Int} (h : ¬ (flt X = 0 ∧ whB X = false)) : grB X L B = false := by
  have : grB X L B = ((decide (L.length ≤ 40) && gotB L) && decide (0 ≤ B ∧ B ≤ 4) && decide (B ≠ 0 → X.size = 0) && decide (flt X = 0) && !whB X) := rfl
  rw [this]
  by_cases h1 : flt X = 0
  · cases h2 : whB X with
    | true => simp
    | false => exact absurd ⟨h1, h2⟩ h
  · rw [decide_eq_false h1]; simp
/-- Where a rest can't be one, messages were cut or there is a code. -/
theorem cut_fail {X : ByteArray} (h : ¬ (flt X = 0 ∧ whB X = false)) : (cut X).1 ≠ [] ∨ ((cut X).1 = [] ∧ (cut X).2.2 ≠ 0) := by
  by_cases h1 : flt X = 0
  · cases h2 : whB X with
    | true => rw [cut_whole h1 h2]; exact .inl (by simp)
    | false => exact absurd ⟨h1, h2⟩ h
  · rw [cut_bad h1]; exact .inr ⟨rfl, h1⟩
set_option maxRecDepth 100000 in
set_option maxHeartbeats 3200000 in
theorem s_goodReader (X : ByteArray) (a : Option Addr) (cap : Nat) (L : List Ms) (B : Int) (w : World) (hX : X.size ≤ 2097152) (hl : L.length ≤ 1048576) (hR : RowM a L w) :
    Calls Try.prog 37 #[.agg #[.string X, .slice a L.length cap, .int .i64 B]] w fun e w' => e = .returned (.bool (grB X L B)) ∧ Below w.heap.size w w' := by
  have C := hide (fun w => s_cut X w hX)
  have IN := hide (fun n lo hi w => s_in n lo hi w)
  have M := Mut.new w #[.string X, .slice a L.length cap, .int .i64 B] 48
  go_enter Try.func37, Try.ntmps37
  go_wp2_with fail
  go_loopw [11] (fun i wr => ∃ k : Nat, k ≤ L.length ∧ i = .int .i64 k ∧ gotB (L.take k) = true ∧ Below w.heap.size w wr ∧ Mut wr w.heap.size [.string X, .slice a L.length cap, .int .i64 B]) (fun i _ => L.length - (intOf i).toNat)
  case atStart => exact ⟨0, Nat.zero_le _, rfl, by simp [gotB], below_box (Below.refl _ _), M⟩
  case round =>
    clear M
    obtain ⟨k, hk, rfl, hg, hb, M⟩ := hrel
    by_cases hlt : k < L.length
    · clear C IN
      obtain ⟨b, off, rfl, hbw, c0, c1⟩ := hR k hlt
      have c0 := (hb.cell (p := ⟨b, off + k * 2, none⟩) hbw).trans c0
      have c1 := (hb.cell (p := ⟨b, off + k * 2 + 1, none⟩) hbw).trans c1
      have hlt' : (k : Int) < (L.length : Int) := by omega
      have G := hide (fun w => s_goodMsg (mAt L k).1 (mAt L k).2 w)
      have hgH := hide hg
      clear hg hR
      cases hq : gmB (mAt L k).1 (mAt L k).2 with
      | true =>
        rw [hq] at G
        have hn := hide (got_take hlt hgH.out hq)
        clear hq
        go_wp2_with fail
        refine (G.out _).mono ?_
        rintro e w1 ⟨rfl, b1⟩
        have M := M.below (below_box b1)
        clear c0 c1
        go_wp2_with fail
        exact ⟨⟨k + 1, by omega, by go_num, hn.out, below_step hb (below_box b1), M⟩, by simp [intOf]; omega⟩
      | false =>
        rw [hq] at G
        have hn := hide (gr_gotS (X := X) (B := B) (got_no hlt hq))
        clear hq M
        go_wp2_with fail
        refine (G.out _).mono ?_
        rintro e w1 ⟨rfl, b1⟩
        clear c0 c1
        go_wp2_with fail
        go_ret
        exact ⟨ret_bool hn.out.symm, below_step hb (below_box b1)⟩
    · have hk' : k = L.length := by omega
      subst hk'
      rw [List.take_length] at hg
      have u0 := M.2.1 0 _ rfl
      clear hR
      by_cases hf : flt X = 0 ∧ whB X = false
      · have hcc := gr_rest hf
        have hq := hide (show grB X L B = (decide (L.length ≤ 40) && inB B 0 4 && (decide (B = 0) || decide (X.size = 0))) by
          have e : grB X L B = ((decide (L.length ≤ 40) && gotB L) && decide (0 ≤ B ∧ B ≤ 4) && decide (B ≠ 0 → X.size = 0) && decide (flt X = 0) && !whB X) := rfl
          rw [e, hg, hf.1, hf.2]
          unfold inB
          by_cases e0 : B = 0
          · simp [e0]
          · by_cases e1 : X.size = 0 <;> simp [e0, e1])
        unfold CutP at C
        rw [hcc] at C
        clear hg hf hcc hX hl
        go_wp2_with fail
        refine (C.out _).mono ?_
        rintro e w1 ⟨v, rfl, ho, b1⟩
        obtain ⟨a', c', rfl, _⟩ := ownM_row ho
        have u0 := (M.below b1).2.1 0 _ rfl
        have u1 := (M.below b1).2.1 1 _ rfl
        have u2 := (M.below b1).2.1 2 _ rfl
        have d := below_step hb b1
        clear M b1 ho C
        go_wp2_with (go_at_call 74; refine (IN.out _ _ _ _).mono ?_; rintro e w' ⟨rfl, rfl⟩)
        all_goals go_ret
        all_goals refine ⟨ret_bool ?_, d⟩
        all_goals rw [hq.out]
        · rename_i h1 h2 h3
          rw [decide_eq_true (show L.length ≤ 40 by omega), h2, h3]
          simp
        · rename_i h1 h2 h3
          rw [decide_eq_true (show L.length ≤ 40 by omega), h2, decide_eq_false h3, toList_nil]
          simp [h3]
        · rename_i h1 h2
          rw [show inB B 0 4 = false by simpa using h2]
          simp
        · rename_i h1
          rw [decide_eq_false (show ¬ L.length ≤ 40 by omega)]
          simp
      · have hq := hide (gr_fail (L := L) (B := B) hf)
        have hcf := cut_fail hf
        clear hg hf hX hl
        unfold CutP at C
        generalize (cut X).1 = P at *
        generalize (cut X).2.1 = Q at *
        generalize (cut X).2.2 = c at *
        go_wp2_with fail
        refine (C.out _).mono ?_
        rintro e w1 ⟨v, rfl, ho, b1⟩
        obtain ⟨a', c', rfl, _⟩ := ownM_row ho
        have u0 := (M.below b1).2.1 0 _ rfl
        have u1 := (M.below b1).2.1 1 _ rfl
        have u2 := (M.below b1).2.1 2 _ rfl
        have d := below_step hb b1
        clear M b1 ho C
        rcases hcf with hp | ⟨rfl, hc⟩
        · have hp' : ((P.length : Int) == 0) = false := by
            cases P with
            | nil => exact absurd rfl hp
            | cons x P => simp; omega
          clear hp
          go_wp2_with fail
          all_goals go_ret
          all_goals exact ⟨ret_bool hq.out.symm, d⟩
        · have hc' : (c == 0) = false := by simpa using hc
          clear hc
          go_wp2_with fail
          all_goals go_ret
          all_goals exact ⟨ret_bool hq.out.symm, d⟩
end Go.Proofs.Ytoeephmdklmpfaa
