/- What the specification's l6Arity and l6Read answer. -/
import Derived.Test.YtocgghhlfmgndaaTree6
import Derived.Test.YtocgghhlfmgndaaMemQ
import Derived.Test.YtocgghhlfmgndaaS1
namespace Go.Proofs.Ytocgghhlfmgndaa
open Go.RowKit

def arI (k : Int) : Int := if 1 ≤ k ∧ k ≤ 4 then 0 else if k = 5 ∨ k = 6 then 2 else if k = 7 then 1 else -1
theorem arI_good {k n : Int} (h : gcB k n = true) : arI k = arN k := by
  obtain ⟨k1, k7⟩ := gcB_bd h
  rcases (show k = 1 ∨ k = 2 ∨ k = 3 ∨ k = 4 ∨ k = 5 ∨ k = 6 ∨ k = 7 by omega) with rfl | rfl | rfl | rfl | rfl | rfl | rfl <;> rfl
set_option maxRecDepth 100000 in
set_option maxHeartbeats 1600000 in
theorem s_arity (k : Int) (w : World) : Calls Try.prog 180 #[.int .i64 k] w fun e w' => e = .returned (.int .i64 (arI k)) ∧ w' = w := by
  by_cases h : 1 ≤ k ∧ k ≤ 7
  · rcases (show k = 1 ∨ k = 2 ∨ k = 3 ∨ k = 4 ∨ k = 5 ∨ k = 6 ∨ k = 7 by omega) with rfl | rfl | rfl | rfl | rfl | rfl | rfl
    all_goals
      go_enter Try.func180, Try.ntmps180
      go_wp2_with fail
      go_ret
      exact ⟨rfl, rfl⟩
  · have e1 : (k == 1) = false := by simp; omega
    have e2 : (k == 2) = false := by simp; omega
    have e3 : (k == 3) = false := by simp; omega
    have e4 : (k == 4) = false := by simp; omega
    have e5 : (k == 5) = false := by simp; omega
    have e6 : (k == 6) = false := by simp; omega
    have e7 : (k == 7) = false := by simp; omega
    have ea : arI k = -1 := by unfold arI; rw [if_neg (by omega), if_neg (by omega), if_neg (by omega)]
    rw [ea]
    clear h ea
    go_enter Try.func180, Try.ntmps180
    go_wp2_with fail
    go_ret
    exact ⟨rfl, rfl⟩
def ReadNo (w : World) (e : Ending) (w' : World) : Prop := e = .returned (.tuple #[.agg #[.int .i64 0, .int .i64 0, .slice none 0 0], .int .i64 0]) ∧ Below w.heap.size w w'
def ReadYes (t : Re) (j : Int) (w : World) (e : Ending) (w' : World) : Prop := ∃ k : Option Addr × Nat × Nat, e = .returned (.tuple #[.agg #[.int .i64 t.kind, .int .i64 t.num, .slice k.1 k.2.1 k.2.2], .int .i64 j]) ∧ Kids (fun g => w.heap.size ≤ g) w' t k ∧ Below w.heap.size w w'
def ReadP (n : Nat) : Option (Re × List Cl) → World → Ending → World → Prop
  | none => ReadNo
  | some (t, R) => ReadYes t ((n : Int) - (R.length : Int))
set_option maxRecDepth 100000 in
set_option maxHeartbeats 1600000 in
theorem s_read_end (a : Option Addr) (n cap : Nat) (w : World) : Calls Try.prog 144 #[.slice a n cap, .int .i64 n] w (ReadNo w) := by
  have h : (n : Int) ≥ (n : Int) := by omega
  go_enter Try.func144, Try.ntmps144
  go_wp2_with fail
  exact bodyPost_ret (v := .tuple #[.agg #[.int .i64 0, .int .i64 0, .slice none 0 0], .int .i64 0]) (by simp [results, Try.results144, go_sem]) rfl ⟨rfl, below_box (Below.refl _ _)⟩
set_option maxRecDepth 100000 in
set_option maxHeartbeats 3200000 in
theorem s_read_bad (b off n cap at0 : Nat) (k m : Int) (w : World) (hat : at0 < n) (hb : b < w.heap.size) (c0 : w.cell? ⟨b, off + at0 * 2, none⟩ = some (.int .i64 k)) (c1 : w.cell? ⟨b, off + at0 * 2 + 1, none⟩ = some (.int .i64 m)) (hg : gcB k m = false) :
    Calls Try.prog 144 #[.slice (some ⟨b, off, none⟩) n cap, .int .i64 at0] w (ReadNo w) := by
  have h : ¬ ((at0 : Int) ≥ (n : Int)) := by omega
  have h' : (at0 : Int) < (n : Int) := by omega
  have s1 := hide (fun w => s_arity k w)
  have s2 := hide (fun w => s_in m 1 65535 w)
  have n0 : ¬ b = w.heap.size := by omega
  have n1 : ¬ b = w.heap.size + 1 := by omega
  by_cases hr : 1 ≤ k ∧ k ≤ 7
  · by_cases h3 : k = 3
    · subst h3
      have e2 : inB m 1 65535 = false := by simpa [gcB, inB] using hg
      rw [e2] at s2
      rw [show arI 3 = 0 from rfl] at s1
      clear hg hr
      go_enter Try.func144, Try.ntmps144
      go_wp2_with fail
      refine (s1.out _).mono ?_
      rintro e w1 ⟨rfl, rfl⟩
      go_wp2_with fail
      refine (s2.out _).mono ?_
      rintro e w1 ⟨rfl, rfl⟩
      go_wp2_with fail
      exact bodyPost_ret (v := .tuple #[.agg #[.int .i64 0, .int .i64 0, .slice none 0 0], .int .i64 0]) (by simp [results, Try.results144, go_sem]) rfl ⟨rfl, below_box2 (Below.refl _ _)⟩
    · have e3 : (k == 3) = false := by simpa using h3
      have e3' : (k != 3) = true := by simpa using h3
      have em : (m != 0) = true := by
        have : ¬ m = 0 := by intro h0; subst h0; simp [gcB, h3, hr] at hg
        simpa using this
      have ha : ¬ (arI k < 0) := by
        rcases (show k = 1 ∨ k = 2 ∨ k = 4 ∨ k = 5 ∨ k = 6 ∨ k = 7 by omega) with rfl | rfl | rfl | rfl | rfl | rfl <;> decide
      generalize arI k = ak at *
      clear hg hr h3 s2
      go_enter Try.func144, Try.ntmps144
      go_wp2_with fail
      refine (s1.out _).mono ?_
      rintro e w1 ⟨rfl, rfl⟩
      go_wp2_with fail
      exact bodyPost_ret (v := .tuple #[.agg #[.int .i64 0, .int .i64 0, .slice none 0 0], .int .i64 0]) (by simp [results, Try.results144, go_sem]) rfl ⟨rfl, below_box2 (Below.refl _ _)⟩
  · have ea : arI k = -1 := by unfold arI; rw [if_neg (by omega), if_neg (by omega), if_neg (by omega)]
    rw [ea] at s1
    clear hg hr ea s2
    go_enter Try.func144, Try.ntmps144
    go_wp2_with fail
    refine (s1.out _).mono ?_
    rintro e w1 ⟨rfl, rfl⟩
    go_wp2_with fail
    exact bodyPost_ret (v := .tuple #[.agg #[.int .i64 0, .int .i64 0, .slice none 0 0], .int .i64 0]) (by simp [results, Try.results144, go_sem]) rfl ⟨rfl, below_box2 (Below.refl _ _)⟩
end Go.Proofs.Ytocgghhlfmgndaa
