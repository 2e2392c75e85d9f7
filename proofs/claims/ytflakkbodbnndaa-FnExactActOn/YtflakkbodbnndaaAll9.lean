/- What the specification's l6Read answers at a good cell. -/
import Derived.Test.YtflakkbodbnndaaTree6
import Derived.Test.YtflakkbodbnndaaMemQ
import Derived.Test.YtflakkbodbnndaaAll4
/- What the specification's l6Arity and l6Read answer. -/
namespace Go.Proofs.Ytflakkbodbnndaa
open Go.RowKit

def arI (k : Int) : Int := if 1 ≤ k ∧ k ≤ 4 then 0 else if k = 5 ∨ k = 6 then 2 else if k = 7 then 1 else -1
theorem arI_good {k n : Int} (h : gcB k n = true) : arI k = arN k := by
  obtain ⟨k1, k7⟩ := gcB_bd h
  rcases (show k = 1 ∨ k = 2 ∨ k = 3 ∨ k = 4 ∨ k = 5 ∨ k = 6 ∨ k = 7 by omega) with rfl | rfl | rfl | rfl | rfl | rfl | rfl <;> rfl
set_option maxRecDepth 100000 in
set_option maxHeartbeats 1600000 in
theorem s_arity (k : Int) (w : World) : Calls Try.prog 122 #[.int .i64 k] w fun e w' => e = .returned (.int .i64 (arI k)) ∧ w' = w := by
  by_cases h : 1 ≤ k ∧ k ≤ 7
  · rcases (show k = 1 ∨ k = 2 ∨ k = 3 ∨ k = 4 ∨ k = 5 ∨ k = 6 ∨ k = 7 by omega) with rfl | rfl | rfl | rfl | rfl | rfl | rfl
    all_goals
      go_enter Try.func122, Try.ntmps122
      go_wp2_with fail
      go_ret
      exact ⟨rfl, rfl⟩
  · have e1 : (k == 1) = false := by simp; omega
    have e2 : (k == 2) = false := by simp; omega
    have e3 : (k == 3) = false := by simp; omega
    have e4 : (k == 4) = false := by simp; omega
    have e5 : (k == 5) = false := by simp; omega
    have e6 : (k == 6) = false := by simp; omega
    have e7 : (k == 7) = false := by simp; omega
    have ea : arI k = -1 := by unfold arI; rw [if_neg (by omega), if_neg (by omega), if_neg (by omega)]
    rw [ea]
    clear h ea
    go_enter Try.func122, Try.ntmps122
    go_wp2_with fail
    go_ret
    exact ⟨rfl, rfl⟩
def ReadNo (w : World) (e : Ending) (w' : World) : Prop := e = .returned (.tuple #[.agg #[.int .i64 0, .int .i64 0, .slice none 0 0], .int .i64 0]) ∧ Below w.heap.size w w'
def ReadYes (t : Re) (j : Int) (w : World) (e : Ending) (w' : World) : Prop := ∃ k : Option Addr × Nat × Nat, e = .returned (.tuple #[.agg #[.int .i64 t.kind, .int .i64 t.num, .slice k.1 k.2.1 k.2.2], .int .i64 j]) ∧ Kids (fun g => w.heap.size ≤ g) w' t k ∧ Below w.heap.size w w'
def ReadP (n : Nat) : Option (Re × List Cl) → World → Ending → World → Prop
  | none => ReadNo
  | some (t, R) => ReadYes t ((n : Int) - (R.length : Int))
set_option maxRecDepth 100000 in
set_option maxHeartbeats 1600000 in
theorem s_read_end (a : Option Addr) (n cap : Nat) (w : World) : Calls Try.prog 119 #[.slice a n cap, .int .i64 n] w (ReadNo w) := by
  have h : (n : Int) ≥ (n : Int) := by omega
  go_enter Try.func119, Try.ntmps119
  go_wp2_with fail
  exact bodyPost_ret (v := .tuple #[.agg #[.int .i64 0, .int .i64 0, .slice none 0 0], .int .i64 0]) (by simp [results, Try.results119, go_sem]) rfl ⟨rfl, below_box (Below.refl _ _)⟩
set_option maxRecDepth 100000 in
set_option maxHeartbeats 3200000 in
theorem s_read_bad (b off n cap at0 : Nat) (k m : Int) (w : World) (hat : at0 < n) (hb : b < w.heap.size) (c0 : w.cell? ⟨b, off + at0 * 2, none⟩ = some (.int .i64 k)) (c1 : w.cell? ⟨b, off + at0 * 2 + 1, none⟩ = some (.int .i64 m)) (hg : gcB k m = false) :
    Calls Try.prog 119 #[.slice (some ⟨b, off, none⟩) n cap, .int .i64 at0] w (ReadNo w) := by
  have h : ¬ ((at0 : Int) ≥ (n : Int)) := by omega
  have h' : (at0 : Int) < (n : Int) := by omega
  have s1 := hide (fun w => s_arity k w)
  have s2 := hide (fun w => s_in m 1 65535 w)
  have n0 : ¬ b = w.heap.size := by omega
  have n1 : ¬ b = w.heap.size + 1 := by omega
  by_cases hr : 1 ≤ k ∧ k ≤ 7
  · by_cases h3 : k = 3
    · subst h3
      have e2 : inB m 1 65535 = false := by simpa [gcB, inB] using hg
      rw [e2] at s2
      rw [show arI 3 = 0 from rfl] at s1
      clear hg hr
      go_enter Try.func119, Try.ntmps119
      go_wp2_with fail
      refine (s1.out _).mono ?_
      rintro e w1 ⟨rfl, rfl⟩
      go_wp2_with fail
      refine (s2.out _).mono ?_
      rintro e w1 ⟨rfl, rfl⟩
      go_wp2_with fail
      exact bodyPost_ret (v := .tuple #[.agg #[.int .i64 0, .int .i64 0, .slice none 0 0], .int .i64 0]) (by simp [results, Try.results119, go_sem]) rfl ⟨rfl, below_box2 (Below.refl _ _)⟩
    · have e3 : (k == 3) = false := by simpa using h3
      have e3' : (k != 3) = true := by simpa using h3
      have em : (m != 0) = true := by
        have : ¬ m = 0 := by intro h0; subst h0; simp [gcB, h3, hr] at hg
        simpa using this
      have ha : ¬ (arI k < 0) := by
        rcases (show k = 1 ∨ k = 2 ∨ k = 4 ∨ k = 5 ∨ k = 6 ∨ k = 7 by omega) with rfl | rfl | rfl | rfl | rfl | rfl <;> decide
      generalize arI k = ak at *
      clear hg hr h3 s2
      go_enter Try.func119, Try.ntmps119
      go_wp2_with fail
      refine (s1.out _).mono ?_
      rintro e w1 ⟨rfl, rfl⟩
      go_wp2_with fail
      exact bodyPost_ret (v := .tuple #[.agg #[.int .i64 0, .int .i64 0, .slice none 0 0], .int .i64 0]) (by simp [results, Try.results119, go_sem]) rfl ⟨rfl, below_box2 (Below.refl _ _)⟩
  · have ea : arI k = -1 := by unfold arI; rw [if_neg (by omega), if_neg (by omega), if_neg (by omega)]
    rw [ea] at s1
    clear hg hr ea s2
    go_enter Try.func119, Try.ntmps119
    go_wp2_with fail
    refine (s1.out _).mono ?_
    rintro e w1 ⟨rfl, rfl⟩
    go_wp2_with fail
    exact bodyPost_ret (v := .tuple #[.agg #[.int .i64 0, .int .i64 0, .slice none 0 0], .int .i64 0]) (by simp [results, Try.results119, go_sem]) rfl ⟨rfl, below_box2 (Below.refl _ _)⟩
end Go.Proofs.Ytflakkbodbnndaa

namespace Go.Proofs.Ytflakkbodbnndaa
open Go.RowKit

set_option maxRecDepth 100000 in
set_option maxHeartbeats 3200000 in
theorem s_read_leaf (b off n cap at0 : Nat) (k m : Int) (w : World) (hn : n ≤ 8589934592) (hat : at0 < n) (hb : b < w.heap.size) (c0 : w.cell? ⟨b, off + at0 * 2, none⟩ = some (.int .i64 k)) (c1 : w.cell? ⟨b, off + at0 * 2 + 1, none⟩ = some (.int .i64 m)) (hg : gcB k m = true) (h4 : arN k = 0) :
    Calls Try.prog 119 #[.slice (some ⟨b, off, none⟩) n cap, .int .i64 at0] w (ReadYes (mkT k m []) ((at0 : Int) + 1) w) := by
  have h : ¬ ((at0 : Int) ≥ (n : Int)) := by omega
  have h' : (at0 : Int) < (n : Int) := by omega
  obtain ⟨kk, kn⟩ := mkT_kind (ts := []) hg h4.symm
  have s1 := hide (fun w => s_arity k w)
  have s2 := hide (fun w => s_in m 1 65535 w)
  have ea := arI_good hg
  rw [h4] at ea
  rw [ea] at s1
  have n0 : ¬ b = w.heap.size := by omega
  have n1 : ¬ b = w.heap.size + 1 := by omega
  have P : ∀ e w', e = .returned (.tuple #[.agg #[.int .i64 k, .int .i64 m, .slice none 0 0], .int .i64 ((at0 : Int) + 1)]) ∧ Below w.heap.size w w' → ReadYes (mkT k m []) ((at0 : Int) + 1) w e w' := by
    rintro e w' ⟨rfl, hb⟩
    refine ⟨(none, 0, 0), ?_, kids_leaf _ _ _ _, hb⟩
    rw [kk, kn]
  suffices K : Calls Try.prog 119 #[.slice (some ⟨b, off, none⟩) n cap, .int .i64 at0] w fun e w' => e = .returned (.tuple #[.agg #[.int .i64 k, .int .i64 m, .slice none 0 0], .int .i64 ((at0 : Int) + 1)]) ∧ Below w.heap.size w w' from K.mono P
  clear P kk kn ea h4
  by_cases h3 : k = 3
  · subst h3
    have e2 : inB m 1 65535 = true := by simpa [gcB, inB] using hg
    rw [e2] at s2
    clear hg
    go_enter Try.func119, Try.ntmps119
    go_wp2_with fail
    refine (s1.out _).mono ?_
    rintro e w1 ⟨rfl, rfl⟩
    go_wp2_with fail
    refine (s2.out _).mono ?_
    rintro e w1 ⟨rfl, rfl⟩
    go_wp2_with fail
    go_loopw [1, 7] (fun x y wr => x = .int .i64 ((at0 : Int) + 1) ∧ y = .int .i64 0 ∧ Mut wr w.heap.size [.int .i64 0, .int .i64 0, .slice none 0 0] ∧ Mut wr (w.heap.size + 1 + 1) [.int .i64 3, .int .i64 m, .slice none 0 0] ∧ Below w.heap.size w wr) (fun _ _ _ => 0)
    case atStart => exact ⟨rfl, rfl, ((Mut.new w _ _).alloc _).alloc _, by simpa using Mut.new ((w.alloc (.cells #[.int .i64 0, .int .i64 0, .slice none 0 0] 140)).alloc (.cells #[.int .i64 3, .int .i64 m] 109)) #[.int .i64 3, .int .i64 m, .slice none 0 0] 140, below_box3 (Below.refl _ _)⟩
    case round =>
      obtain ⟨rfl, rfl, M0, M2, hbw⟩ := hrel
      clear s1 s2 c0 c1
      have u0 := M2.2.1 0 _ rfl
      have u1 := M2.2.1 1 _ rfl
      have u2 := M2.2.1 2 _ rfl
      have v0 := M0.2.1 0 _ rfl
      have v1 := M0.2.1 1 _ rfl
      have v2 := M0.2.1 2 _ rfl
      have f0 := M0.2.2 0 (by simp)
      have f1 := M0.2.2 1 (by simp)
      have f2 := M0.2.2 2 (by simp)
      clear M0 M2
      go_wp2_with fail
      refine bodyPost_ret (v := .tuple #[.agg #[.int .i64 3, .int .i64 m, .slice none 0 0], .int .i64 ((at0 : Int) + 1)]) (by simp [results, Try.results119, go_sem, v0, v1, v2]) rfl ⟨rfl, ?_⟩
      exact ((hbw.setCell (Nat.le_refl _) _).setCell (Nat.le_refl _) _).setCell (Nat.le_refl _) _
  · have e3 : (k == 3) = false := by simpa using h3
    have e3' : (k != 3) = true := by simpa using h3
    have em := gcB_zero hg h3
    subst em
    clear hg h3
    go_enter Try.func119, Try.ntmps119
    go_wp2_with fail
    refine (s1.out _).mono ?_
    rintro e w1 ⟨rfl, rfl⟩
    go_wp2_with fail
    go_loopw [1, 7] (fun x y wr => x = .int .i64 ((at0 : Int) + 1) ∧ y = .int .i64 0 ∧ Mut wr w.heap.size [.int .i64 0, .int .i64 0, .slice none 0 0] ∧ Mut wr (w.heap.size + 1 + 1) [.int .i64 k, .int .i64 0, .slice none 0 0] ∧ Below w.heap.size w wr) (fun _ _ _ => 0)
    case atStart => exact ⟨rfl, rfl, ((Mut.new w _ _).alloc _).alloc _, by simpa using Mut.new ((w.alloc (.cells #[.int .i64 0, .int .i64 0, .slice none 0 0] 140)).alloc (.cells #[.int .i64 k, .int .i64 0] 109)) #[.int .i64 k, .int .i64 0, .slice none 0 0] 140, below_box3 (Below.refl _ _)⟩
    case round =>
      obtain ⟨rfl, rfl, M0, M2, hbw⟩ := hrel
      clear s1 s2 c0 c1
      have u0 := M2.2.1 0 _ rfl
      have u1 := M2.2.1 1 _ rfl
      have u2 := M2.2.1 2 _ rfl
      have v0 := M0.2.1 0 _ rfl
      have v1 := M0.2.1 1 _ rfl
      have v2 := M0.2.1 2 _ rfl
      have f0 := M0.2.2 0 (by simp)
      have f1 := M0.2.2 1 (by simp)
      have f2 := M0.2.2 2 (by simp)
      clear M0 M2
      go_wp2_with fail
      refine bodyPost_ret (v := .tuple #[.agg #[.int .i64 k, .int .i64 0, .slice none 0 0], .int .i64 ((at0 : Int) + 1)]) (by simp [results, Try.results119, go_sem, v0, v1, v2]) rfl ⟨rfl, ?_⟩
      exact ((hbw.setCell (Nat.le_refl _) _).setCell (Nat.le_refl _) _).setCell (Nat.le_refl _) _
end Go.Proofs.Ytflakkbodbnndaa
