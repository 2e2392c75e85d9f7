/- What the program's functions of chapter 1 answer: addresses, covers. -/
import Derived.Test.YtocgghhlfmgndaaGreatJA
import Derived.Test.YtocgghhlfmgndaaGreatJD
/- Terms that fit, plain. -/
namespace Go.Proofs.YtocgghhlfmgndaaGreat

def cvB (a l b m : Int) : Bool := decide (l ≤ m) && hasB a l b
def rnH (p l lo hi pa pl : Int) : Bool := cvB p l pa pl && inB pl lo hi
def anR (n : Nat) (f0 f1 f2 f3 : Nat → Int) (pa pl : Int) : Bool := (List.range n).any fun i => rnH (f0 i) (f1 i) (f2 i) (f3 i) pa pl
def coB (n : Nat) (g : Nat → Int) (c : Int) : Bool := (List.range n).any fun i => g i == c
/-- Whether a term fits a route: by its ranges, by its pattern (r), by its community. -/
def fiB (nr : Nat) (an : Bool) (np : Nat) (r : Bool) (cm : Int) (co : Bool) : Bool := (decide (nr = 0) || an) && (decide (np = 0) || r) && (decide (cm = -1) || co)
theorem any_yes7 {n k : Nat} {p : Nat → Bool} (hk : k < n) (e : p k = true) : (List.range n).any p = true := List.any_eq_true.2 ⟨k, List.mem_range.2 hk, e⟩
theorem any_next7 {k : Nat} {p : Nat → Bool} (h : (List.range k).any p = false) (e : p k = false) : (List.range (k + 1)).any p = false := by
  rw [List.range_succ, List.any_append, h]
  simp [e]
theorem any_or7 {k : Nat} {p : Nat → Bool} : (List.range (k + 1)).any p = ((List.range k).any p || p k) := by
  rw [List.range_succ, List.any_append]
  simp
end Go.Proofs.YtocgghhlfmgndaaGreat

namespace Go.Proofs.YtocgghhlfmgndaaGreat
open Go.RowKit

theorem eq_has (a l x : Int) : (a == x - x % pw l) = hasB a l x := by rw [hasB, beq_swap]
set_option maxRecDepth 100000 in
set_option maxHeartbeats 1600000 in
theorem i_prefixHas (a l b m : Int) (w : World) :
    Calls Tryz.prog 171 #[.agg #[.int .i64 a, .int .i64 l], .agg #[.int .i64 b, .int .i64 m]] w fun e w' =>
      e = .returned (.tuple #[.bool (goodB a l && goodB b m && (decide (l ≤ m) && hasB a l b)), .bool (goodB a l && goodB b m)]) ∧ Below w.heap.size w w' := by
  have s1 := hide (fun w => i_good a l w)
  have s2 := hide (fun w => i_good b m w)
  by_cases hg : goodB a l = true
  · by_cases hx : goodB b m = true
    · obtain ⟨hl, ha, _⟩ := goodB_iff.1 hg
      obtain ⟨hm, hb, _⟩ := goodB_iff.1 hx
      rw [hg] at s1 ⊢
      rw [hx] at s2 ⊢
      simp only [Bool.true_and]
      have s3 := hide (fun w => i_around b l w hl.1 hl.2 hb.1 hb.2)
      have he := eqPrefix_run
      have hgu := eqPrefix_guard
      clear hg hx hl ha hm hb
      by_cases h : l ≤ m
      · have ht : decide (l ≤ m) = true := by simpa using h
        rw [ht]
        simp only [Bool.true_and]
        go_enter Tryz.func171, Tryz.ntmps171
        go_wp2_with fail
        refine (s1.out _).mono ?_
        rintro e w1 ⟨rfl, hb1⟩
        obtain ⟨hc, hf⟩ := bcell hb1
        go_wp2_with fail
        clear hc hf
        refine (s2.out _).mono ?_
        rintro e w2 ⟨rfl, hb2⟩
        have hb := below_step hb1 hb2
        clear hb1 hb2
        obtain ⟨hc, hf⟩ := bcell hb
        go_wp2_with fail
        go_region_held (fun w' => Box2 44 44 w a l b m w') (first | exact box2_of hb.drew | exact box2_of (below_step hb.drew hb0)) ((go_at_call 138; refine (s3.out _).mono ?_; rintro e w' ⟨rfl, hb0⟩))
        all_goals
          go_wp2
          go_ret2
          exact ⟨ret_bools (eq_has a l b) rfl, below_box2 (below_step hb.drew hb0)⟩
      · have ht : decide (l ≤ m) = false := by simpa using h
        rw [ht]
        simp only [Bool.false_and]
        go_enter Tryz.func171, Tryz.ntmps171
        go_wp2_with fail
        refine (s1.out _).mono ?_
        rintro e w1 ⟨rfl, hb1⟩
        obtain ⟨hc, hf⟩ := bcell hb1
        go_wp2_with fail
        clear hc hf
        refine (s2.out _).mono ?_
        rintro e w2 ⟨rfl, hb2⟩
        have hb := below_step hb1 hb2
        clear hb1 hb2
        obtain ⟨hc, hf⟩ := bcell hb
        go_wp2_with fail
        go_quiet ((fail))
        go_wp2
        go_ret2
        exact ⟨rfl, below_box2 (below_drewN hb _)⟩
    · have hx' : goodB b m = false := by simpa using hx
      rw [hg] at s1 ⊢
      rw [hx'] at s2 ⊢
      clear hg hx hx'
      go_enter Tryz.func171, Tryz.ntmps171
      go_wp2_with fail
      refine (s1.out _).mono ?_
      rintro e w1 ⟨rfl, hb1⟩
      obtain ⟨hc, hf⟩ := bcell hb1
      go_wp2_with fail
      clear hc hf
      refine (s2.out _).mono ?_
      rintro e w2 ⟨rfl, hb2⟩
      go_wp2_with fail
      go_ret2
      exact ⟨rfl, below_box2 (below_step hb1 hb2)⟩
  · have hg' : goodB a l = false := by simpa using hg
    rw [hg'] at s1 ⊢
    clear hg hg'
    go_enter Tryz.func171, Tryz.ntmps171
    go_wp2_with fail
    refine (s1.out _).mono ?_
    rintro e w1 ⟨rfl, hb1⟩
    go_wp2_with fail
    go_ret2
    exact ⟨rfl, below_box2 hb1⟩

end Go.Proofs.YtocgghhlfmgndaaGreat
