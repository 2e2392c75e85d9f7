/- How the program reads a pattern: goodCell, takePart, takeTwo, readRegex, GoodRegex, TakesEmpty. -/
import Derived.Test.YtflakkbodbnndaaPart6
namespace Go.Proofs.Ytflakkbodbnndaa
open Go.RowKit

set_option maxRecDepth 100000 in
set_option maxHeartbeats 800000 in
theorem i_isAsn6 (n : Int) (w : World) : Calls Try.prog 57 #[.int .i64 n] w fun e w' => e = .returned (.bool (inB n 1 65535)) ∧ Below w.heap.size w w' := by
  by_cases h1 : 1 ≤ n
  · by_cases h2 : n ≤ 65535
    · rw [inB_t h1 h2]
      go_enter Try.func57, Try.ntmps57
      go_wp2_with fail
      go_ret
      exact ⟨rfl, Below.refl _ _⟩
    · rw [inB_f2 h2]
      go_enter Try.func57, Try.ntmps57
      go_wp2_with fail
      go_ret
      exact ⟨rfl, Below.refl _ _⟩
  · rw [inB_f1 h1]
    go_enter Try.func57, Try.ntmps57
    go_wp2_with fail
    go_ret
    exact ⟨rfl, Below.refl _ _⟩
set_option maxRecDepth 100000 in
set_option maxHeartbeats 1600000 in
theorem i_goodCell (k n : Int) (w : World) : Calls Try.prog 123 #[.agg #[.int .i64 k, .int .i64 n]] w fun e w' => e = .returned (.bool (gcB k n)) ∧ Below w.heap.size w w' := by
  by_cases h3 : k = 3
  · subst h3
    have s1 := hide (fun w => i_isAsn6 n w)
    rw [show gcB 3 n = inB n 1 65535 from by simp [gcB, inB]]
    go_enter Try.func123, Try.ntmps123
    go_wp2_with fail
    refine (s1.out _).mono ?_
    rintro e w1 ⟨rfl, b1⟩
    go_wp2_with fail
    go_ret
    exact ⟨rfl, below_box b1⟩
  · have e3 : (k == 3) = false := by simpa using h3
    by_cases h1 : 1 ≤ k
    · by_cases h7 : k ≤ 7
      · rw [show gcB k n = (n == 0) from by by_cases hn : n = 0 <;> simp [gcB, h3, h1, h7, hn]]
        clear h3
        go_enter Try.func123, Try.ntmps123
        go_wp2_with fail
        go_ret
        exact ⟨rfl, below_box (Below.refl _ _)⟩
      · rw [show gcB k n = false from by simp [gcB, h3, h7]]
        clear h3
        go_enter Try.func123, Try.ntmps123
        go_wp2_with fail
        go_ret
        exact ⟨rfl, below_box (Below.refl _ _)⟩
    · rw [show gcB k n = false from by simp [gcB, h3, h1]]
      clear h3
      go_enter Try.func123, Try.ntmps123
      go_wp2_with fail
      go_ret
      exact ⟨rfl, below_box (Below.refl _ _)⟩
/-- A value of an interface type. -/
def IfV (p : Value) : Prop := p = .nilIface ∨ ∃ T cs, p = .iface T (.agg cs)
def SlV (v : Value) : Prop := ∃ a n c, v = .slice a n c
def TakeNo (w : World) (e : Ending) (w' : World) : Prop := ∃ p v, IfV p ∧ SlV v ∧ e = .returned (.tuple #[p, v, .bool false]) ∧ Below w.heap.size w w'
def TakeYes (t : Re) (R : List Cl) (w : World) (e : Ending) (w' : World) : Prop := ∃ a' c', e = .returned (.tuple #[pv t, .slice a' R.length c', .bool true]) ∧ R.length ≤ c' ∧ RowQ a' R w' ∧ Below w.heap.size w w'
def TwoNo (w : World) (e : Ending) (w' : World) : Prop := ∃ p q v, IfV p ∧ IfV q ∧ SlV v ∧ e = .returned (.tuple #[p, q, v, .bool false]) ∧ Below w.heap.size w w'
def TwoYes (s t : Re) (R : List Cl) (w : World) (e : Ending) (w' : World) : Prop := ∃ a' c', e = .returned (.tuple #[pv s, pv t, .slice a' R.length c', .bool true]) ∧ R.length ≤ c' ∧ RowQ a' R w' ∧ Below w.heap.size w w'
def TakeP : Option (Re × List Cl) → World → Ending → World → Prop
  | none => TakeNo
  | some (t, R) => TakeYes t R
def TwoP : Option (Re × Re × List Cl) → World → Ending → World → Prop
  | none => TwoNo
  | some (s, t, R) => TwoYes s t R
theorem results_tmp4 {fn : Func} {t u v x : Tmp} (h : fn.results = #[.tmp t, .tmp u, .tmp v, .tmp x]) (tmps : Array Value) (P : Program) (w : World) :
    (results fn tmps).run P w = .ok (.tuple #[tmps.getD t undef, tmps.getD u undef, tmps.getD v undef, tmps.getD x undef]) w := by
  simp [results, h]
theorem RowQ.len0 {a : Option Addr} {L : List Cl} {w : World} (h : L.length = 0) : RowQ a L w := fun i hi => absurd hi (by omega)
theorem pv_if (t : Re) : IfV (pv t) := .inr (pv_shape t)

set_option maxRecDepth 100000 in
set_option maxHeartbeats 1600000 in
theorem i_two {f : Nat} (L : List Cl) (hL : L.length ≤ f)
    (S : ∀ (L' : List Cl), L'.length ≤ f → ∀ (a : Option Addr) (cap : Nat) (w : World), L'.length ≤ cap → RowQ a L' w → Calls Try.prog 120 #[.slice a L'.length cap] w (TakeP (rd f L') w))
    (a : Option Addr) (cap : Nat) (w : World) (hc : L.length ≤ cap) (hR : RowQ a L w) :
    Calls Try.prog 124 #[.slice a L.length cap] w (TwoP (rd2 f L) w) := by
  have S1 := hide (S L hL)
  cases h1 : rd f L with
  | none =>
    rw [h1] at S1
    rw [show rd2 f L = none from by simp [rd2, h1]]
    show Calls Try.prog 124 #[.slice a L.length cap] w (TwoNo w)
    go_enter Try.func124, Try.ntmps124
    go_wp2_with fail
    refine (S1.out a cap _ hc hR).mono ?_
    rintro e w1 ⟨p, v, _, ⟨va, vn, vc, rfl⟩, rfl, b1⟩
    go_wp2_with fail
    (try simp only [Exit.inBlock, Exit.then])
    refine bodyPost_ret (results_tmp4 rfl _ _ _) rfl ?_
    exact ⟨_, _, _, .inl rfl, .inl rfl, ⟨_, _, _, rfl⟩, rfl, b1⟩
  | some x =>
    obtain ⟨s, L1⟩ := x
    rw [h1] at S1
    have hl1 : L1.length ≤ L.length := by have := rd_len h1; omega
    have S2 := hide (S L1 (by omega))
    cases h2 : rd f L1 with
    | none =>
      rw [h2] at S2
      rw [show rd2 f L = none from by simp [rd2, h1, h2]]
      show Calls Try.prog 124 #[.slice a L.length cap] w (TwoNo w)
      go_enter Try.func124, Try.ntmps124
      go_wp2_with fail
      refine (S1.out a cap _ hc hR).mono ?_
      rintro e w1 ⟨a1, c1, rfl, hc1, R1, b1⟩
      go_wp2_with fail
      refine (S2.out a1 c1 _ hc1 R1).mono ?_
      rintro e w2 ⟨p, v, hp, ⟨va, vn, vc, rfl⟩, rfl, b2⟩
      go_wp2_with fail
      (try simp only [Exit.inBlock, Exit.then])
      refine bodyPost_ret (results_tmp4 rfl _ _ _) rfl ?_
      exact ⟨_, _, _, pv_if s, hp, ⟨_, _, _, rfl⟩, rfl, below_step b1 b2⟩
    | some y =>
      obtain ⟨t, L2⟩ := y
      rw [h2] at S2
      rw [show rd2 f L = some (s, t, L2) from by simp [rd2, h1, h2]]
      show Calls Try.prog 124 #[.slice a L.length cap] w (TwoYes s t L2 w)
      go_enter Try.func124, Try.ntmps124
      go_wp2_with fail
      refine (S1.out a cap _ hc hR).mono ?_
      rintro e w1 ⟨a1, c1, rfl, hc1, R1, b1⟩
      go_wp2_with fail
      refine (S2.out a1 c1 _ hc1 R1).mono ?_
      rintro e w2 ⟨a2, c2, rfl, hc2, R2, b2⟩
      go_wp2_with fail
      (try simp only [Exit.inBlock, Exit.then])
      refine bodyPost_ret (results_tmp4 rfl _ _ _) rfl ?_
      exact ⟨_, _, rfl, hc2, R2, below_step b1 b2⟩

set_option maxRecDepth 100000 in
set_option maxHeartbeats 3200000 in
theorem i_take_bad (b off : Nat) (k n : Int) (L : List Cl) (cap : Nat) (w : World) (hl : L.length ≤ 1000) (_hc : L.length + 1 ≤ cap) (hR : RowQ (some ⟨b, off, none⟩) ((k, n) :: L) w) (hg : gcB k n = false) :
    Calls Try.prog 120 #[.slice (some ⟨b, off, none⟩) (L.length + 1) cap] w (TakeP (none) w) := by
  obtain ⟨b', off', ea, hb, c0, c1⟩ := hR 0 (by simp)
  simp only [Option.some.injEq, Addr.mk.injEq, and_true] at ea
  obtain ⟨rfl, rfl⟩ := ea
  simp only [qAt_zero, Nat.zero_mul, Nat.add_zero] at c0 c1
  have s1 := hide (fun w => i_goodCell k n w)
  rw [hg] at s1
  have hT := hide hR.tail
  clear hR
  show Calls Try.prog 120 #[.slice (some ⟨b, off, none⟩) (L.length + 1) cap] w (TakeNo w)
  go_enter Try.func120, Try.ntmps120
  go_wp2_with fail
  refine (s1.out _).mono ?_
  rintro e w1 ⟨rfl, b1⟩
  go_wp2_with fail
  go_ret3
  exact ⟨_, _, .inl rfl, ⟨_, _, _, rfl⟩, rfl, b1⟩
set_option maxRecDepth 100000 in
set_option maxHeartbeats 3200000 in
theorem i_take_non (b off : Nat) (L : List Cl) (cap : Nat) (w : World) (hl : L.length ≤ 1000) (hc : L.length + 1 ≤ cap) (hR : RowQ (some ⟨b, off, none⟩) ((1, 0) :: L) w) :
    Calls Try.prog 120 #[.slice (some ⟨b, off, none⟩) (L.length + 1) cap] w (TakeP (some (.non, L)) w) := by
  obtain ⟨b', off', ea, hb, c0, c1⟩ := hR 0 (by simp)
  simp only [Option.some.injEq, Addr.mk.injEq, and_true] at ea
  obtain ⟨rfl, rfl⟩ := ea
  simp only [qAt_zero, Nat.zero_mul, Nat.add_zero] at c0 c1
  have s1 := hide (fun w => i_goodCell 1 0 w)
  rw [show gcB 1 0 = true from rfl] at s1
  have hT := hide hR.tail
  clear hR
  show Calls Try.prog 120 #[.slice (some ⟨b, off, none⟩) (L.length + 1) cap] w (TakeYes (.non) L w)
  go_enter Try.func120, Try.ntmps120
  go_wp2_with fail
  refine (s1.out _).mono ?_
  rintro e w1 ⟨rfl, b1⟩
  obtain ⟨hcc, _⟩ := bcell b1
  go_wp2_with fail
  all_goals
    go_ret3
    refine ⟨_, _, rfl, by omega, ?_, b1⟩
    first | exact (hT.out).below b1 | exact RowQ.len0 (by omega)
set_option maxRecDepth 100000 in
set_option maxHeartbeats 3200000 in
theorem i_take_emp (b off : Nat) (L : List Cl) (cap : Nat) (w : World) (hl : L.length ≤ 1000) (hc : L.length + 1 ≤ cap) (hR : RowQ (some ⟨b, off, none⟩) ((2, 0) :: L) w) :
    Calls Try.prog 120 #[.slice (some ⟨b, off, none⟩) (L.length + 1) cap] w (TakeP (some (.emp, L)) w) := by
  obtain ⟨b', off', ea, hb, c0, c1⟩ := hR 0 (by simp)
  simp only [Option.some.injEq, Addr.mk.injEq, and_true] at ea
  obtain ⟨rfl, rfl⟩ := ea
  simp only [qAt_zero, Nat.zero_mul, Nat.add_zero] at c0 c1
  have s1 := hide (fun w => i_goodCell 2 0 w)
  rw [show gcB 2 0 = true from rfl] at s1
  have hT := hide hR.tail
  clear hR
  show Calls Try.prog 120 #[.slice (some ⟨b, off, none⟩) (L.length + 1) cap] w (TakeYes (.emp) L w)
  go_enter Try.func120, Try.ntmps120
  go_wp2_with fail
  refine (s1.out _).mono ?_
  rintro e w1 ⟨rfl, b1⟩
  obtain ⟨hcc, _⟩ := bcell b1
  go_wp2_with fail
  all_goals
    go_ret3
    refine ⟨_, _, rfl, by omega, ?_, b1⟩
    first | exact (hT.out).below b1 | exact RowQ.len0 (by omega)
set_option maxRecDepth 100000 in
set_option maxHeartbeats 3200000 in
theorem i_take_one (b off : Nat) (n : Int) (L : List Cl) (cap : Nat) (w : World) (hl : L.length ≤ 1000) (hc : L.length + 1 ≤ cap) (hR : RowQ (some ⟨b, off, none⟩) ((3, n) :: L) w) (hg : gcB 3 n = true) :
    Calls Try.prog 120 #[.slice (some ⟨b, off, none⟩) (L.length + 1) cap] w (TakeP (some (.one n, L)) w) := by
  obtain ⟨b', off', ea, hb, c0, c1⟩ := hR 0 (by simp)
  simp only [Option.some.injEq, Addr.mk.injEq, and_true] at ea
  obtain ⟨rfl, rfl⟩ := ea
  simp only [qAt_zero, Nat.zero_mul, Nat.add_zero] at c0 c1
  have s1 := hide (fun w => i_goodCell 3 n w)
  rw [hg] at s1
  have hT := hide hR.tail
  clear hR
  show Calls Try.prog 120 #[.slice (some ⟨b, off, none⟩) (L.length + 1) cap] w (TakeYes (.one n) L w)
  go_enter Try.func120, Try.ntmps120
  go_wp2_with fail
  refine (s1.out _).mono ?_
  rintro e w1 ⟨rfl, b1⟩
  obtain ⟨hcc, _⟩ := bcell b1
  go_wp2_with fail
  all_goals
    go_ret3
    refine ⟨_, _, rfl, by omega, ?_, b1⟩
    first | exact (hT.out).below b1 | exact RowQ.len0 (by omega)
set_option maxRecDepth 100000 in
set_option maxHeartbeats 3200000 in
theorem i_take_any (b off : Nat) (L : List Cl) (cap : Nat) (w : World) (hl : L.length ≤ 1000) (hc : L.length + 1 ≤ cap) (hR : RowQ (some ⟨b, off, none⟩) ((4, 0) :: L) w) :
    Calls Try.prog 120 #[.slice (some ⟨b, off, none⟩) (L.length + 1) cap] w (TakeP (some (.any, L)) w) := by
  obtain ⟨b', off', ea, hb, c0, c1⟩ := hR 0 (by simp)
  simp only [Option.some.injEq, Addr.mk.injEq, and_true] at ea
  obtain ⟨rfl, rfl⟩ := ea
  simp only [qAt_zero, Nat.zero_mul, Nat.add_zero] at c0 c1
  have s1 := hide (fun w => i_goodCell 4 0 w)
  rw [show gcB 4 0 = true from rfl] at s1
  have hT := hide hR.tail
  clear hR
  show Calls Try.prog 120 #[.slice (some ⟨b, off, none⟩) (L.length + 1) cap] w (TakeYes (.any) L w)
  go_enter Try.func120, Try.ntmps120
  go_wp2_with fail
  refine (s1.out _).mono ?_
  rintro e w1 ⟨rfl, b1⟩
  obtain ⟨hcc, _⟩ := bcell b1
  go_wp2_with fail
  all_goals
    go_ret3
    refine ⟨_, _, rfl, by omega, ?_, b1⟩
    first | exact (hT.out).below b1 | exact RowQ.len0 (by omega)
set_option maxRecDepth 100000 in
set_option maxHeartbeats 3200000 in
theorem i_take_thn (b off : Nat) {f : Nat} (L : List Cl) (cap : Nat) (w : World) (hl : L.length ≤ 1000) (hc : L.length + 1 ≤ cap) (hR : RowQ (some ⟨b, off, none⟩) ((5, 0) :: L) w)
    (S : ∀ (a : Option Addr) (cap : Nat) (w : World), L.length ≤ cap → RowQ a L w → Calls Try.prog 124 #[.slice a L.length cap] w (TwoP (rd2 f L) w)) :
    Calls Try.prog 120 #[.slice (some ⟨b, off, none⟩) (L.length + 1) cap] w (TakeP ((rd2 f L).map fun x => (.thn x.1 x.2.1, x.2.2)) w) := by
  obtain ⟨b', off', ea, hb, c0, c1⟩ := hR 0 (by simp)
  simp only [Option.some.injEq, Addr.mk.injEq, and_true] at ea
  obtain ⟨rfl, rfl⟩ := ea
  simp only [qAt_zero, Nat.zero_mul, Nat.add_zero] at c0 c1
  have s1 := hide (fun w => i_goodCell 5 0 w)
  rw [show gcB 5 0 = true from rfl] at s1
  have hT := hide hR.tail
  clear hR
  have S1 := hide S
  clear S
  cases h2 : rd2 f L with
  | none =>
    rw [h2] at S1
    show Calls Try.prog 120 #[.slice (some ⟨b, off, none⟩) (L.length + 1) cap] w (TakeNo w)
    go_enter Try.func120, Try.ntmps120
    go_wp2_with fail
    refine (s1.out _).mono ?_
    rintro e w1 ⟨rfl, b1⟩
    obtain ⟨hcc, _⟩ := bcell b1
    go_wp2_with fail
    all_goals
      refine (S1.out _ _ _ (by omega) (by first | exact (hT.out).below b1 | exact RowQ.len0 (by omega))).mono ?_
      rintro e w2 ⟨p, q, v, hp, hq, ⟨va, vn, vc, rfl⟩, rfl, b2⟩
      rcases hp with rfl | ⟨T1, cs1, rfl⟩
      · rcases hq with rfl | ⟨T2, cs2, rfl⟩
        · go_wp2_with fail
          go_ret3
          exact ⟨_, _, .inr ⟨_, _, rfl⟩, ⟨_, _, _, rfl⟩, rfl, below_step b1 b2⟩
        · go_wp2_with fail
          go_ret3
          exact ⟨_, _, .inr ⟨_, _, rfl⟩, ⟨_, _, _, rfl⟩, rfl, below_step b1 b2⟩
      · rcases hq with rfl | ⟨T2, cs2, rfl⟩
        · go_wp2_with fail
          go_ret3
          exact ⟨_, _, .inr ⟨_, _, rfl⟩, ⟨_, _, _, rfl⟩, rfl, below_step b1 b2⟩
        · go_wp2_with fail
          go_ret3
          exact ⟨_, _, .inr ⟨_, _, rfl⟩, ⟨_, _, _, rfl⟩, rfl, below_step b1 b2⟩
  | some x =>
    obtain ⟨s, t, L2⟩ := x
    rw [h2] at S1
    show Calls Try.prog 120 #[.slice (some ⟨b, off, none⟩) (L.length + 1) cap] w (TakeYes (.thn s t) L2 w)
    unfold TakeYes
    simp only [pv]
    obtain ⟨ta, ca, ea⟩ := pv_shape s
    obtain ⟨tb, cb, eb⟩ := pv_shape t
    rw [ea, eb]
    have ea := hide ea
    have eb := hide eb
    go_enter Try.func120, Try.ntmps120
    go_wp2_with fail
    refine (s1.out _).mono ?_
    rintro e w1 ⟨rfl, b1⟩
    obtain ⟨hcc, _⟩ := bcell b1
    go_wp2_with fail
    all_goals
      refine (S1.out _ _ _ (by omega) (by first | exact (hT.out).below b1 | exact RowQ.len0 (by omega))).mono ?_
      rintro e w2 ⟨a2, c2, rfl, hc2, R2, b2⟩
      rw [ea.out, eb.out]
      go_wp2_with fail
      go_ret3
      exact ⟨_, _, rfl, hc2, R2, below_step b1 b2⟩
set_option maxRecDepth 100000 in
set_option maxHeartbeats 3200000 in
theorem i_take_alt (b off : Nat) {f : Nat} (L : List Cl) (cap : Nat) (w : World) (hl : L.length ≤ 1000) (hc : L.length + 1 ≤ cap) (hR : RowQ (some ⟨b, off, none⟩) ((6, 0) :: L) w)
    (S : ∀ (a : Option Addr) (cap : Nat) (w : World), L.length ≤ cap → RowQ a L w → Calls Try.prog 124 #[.slice a L.length cap] w (TwoP (rd2 f L) w)) :
    Calls Try.prog 120 #[.slice (some ⟨b, off, none⟩) (L.length + 1) cap] w (TakeP ((rd2 f L).map fun x => (.alt x.1 x.2.1, x.2.2)) w) := by
  obtain ⟨b', off', ea, hb, c0, c1⟩ := hR 0 (by simp)
  simp only [Option.some.injEq, Addr.mk.injEq, and_true] at ea
  obtain ⟨rfl, rfl⟩ := ea
  simp only [qAt_zero, Nat.zero_mul, Nat.add_zero] at c0 c1
  have s1 := hide (fun w => i_goodCell 6 0 w)
  rw [show gcB 6 0 = true from rfl] at s1
  have hT := hide hR.tail
  clear hR
  have S1 := hide S
  clear S
  cases h2 : rd2 f L with
  | none =>
    rw [h2] at S1
    show Calls Try.prog 120 #[.slice (some ⟨b, off, none⟩) (L.length + 1) cap] w (TakeNo w)
    go_enter Try.func120, Try.ntmps120
    go_wp2_with fail
    refine (s1.out _).mono ?_
    rintro e w1 ⟨rfl, b1⟩
    obtain ⟨hcc, _⟩ := bcell b1
    go_wp2_with fail
    all_goals
      refine (S1.out _ _ _ (by omega) (by first | exact (hT.out).below b1 | exact RowQ.len0 (by omega))).mono ?_
      rintro e w2 ⟨p, q, v, hp, hq, ⟨va, vn, vc, rfl⟩, rfl, b2⟩
      rcases hp with rfl | ⟨T1, cs1, rfl⟩
      · rcases hq with rfl | ⟨T2, cs2, rfl⟩
        · go_wp2_with fail
          go_ret3
          exact ⟨_, _, .inr ⟨_, _, rfl⟩, ⟨_, _, _, rfl⟩, rfl, below_step b1 b2⟩
        · go_wp2_with fail
          go_ret3
          exact ⟨_, _, .inr ⟨_, _, rfl⟩, ⟨_, _, _, rfl⟩, rfl, below_step b1 b2⟩
      · rcases hq with rfl | ⟨T2, cs2, rfl⟩
        · go_wp2_with fail
          go_ret3
          exact ⟨_, _, .inr ⟨_, _, rfl⟩, ⟨_, _, _, rfl⟩, rfl, below_step b1 b2⟩
        · go_wp2_with fail
          go_ret3
          exact ⟨_, _, .inr ⟨_, _, rfl⟩, ⟨_, _, _, rfl⟩, rfl, below_step b1 b2⟩
  | some x =>
    obtain ⟨s, t, L2⟩ := x
    rw [h2] at S1
    show Calls Try.prog 120 #[.slice (some ⟨b, off, none⟩) (L.length + 1) cap] w (TakeYes (.alt s t) L2 w)
    unfold TakeYes
    simp only [pv]
    obtain ⟨ta, ca, ea⟩ := pv_shape s
    obtain ⟨tb, cb, eb⟩ := pv_shape t
    rw [ea, eb]
    have ea := hide ea
    have eb := hide eb
    go_enter Try.func120, Try.ntmps120
    go_wp2_with fail
    refine (s1.out _).mono ?_
    rintro e w1 ⟨rfl, b1⟩
    obtain ⟨hcc, _⟩ := bcell b1
    go_wp2_with fail
    all_goals
      refine (S1.out _ _ _ (by omega) (by first | exact (hT.out).below b1 | exact RowQ.len0 (by omega))).mono ?_
      rintro e w2 ⟨a2, c2, rfl, hc2, R2, b2⟩
      rw [ea.out, eb.out]
      go_wp2_with fail
      go_ret3
      exact ⟨_, _, rfl, hc2, R2, below_step b1 b2⟩
set_option maxRecDepth 100000 in
set_option maxHeartbeats 3200000 in
theorem i_take_str (b off : Nat) {f : Nat} (L : List Cl) (cap : Nat) (w : World) (hl : L.length ≤ 1000) (hc : L.length + 1 ≤ cap) (hR : RowQ (some ⟨b, off, none⟩) ((7, 0) :: L) w)
    (S : ∀ (a : Option Addr) (cap : Nat) (w : World), L.length ≤ cap → RowQ a L w → Calls Try.prog 120 #[.slice a L.length cap] w (TakeP (rd f L) w)) :
    Calls Try.prog 120 #[.slice (some ⟨b, off, none⟩) (L.length + 1) cap] w (TakeP ((rd f L).map fun x => (.str x.1, x.2)) w) := by
  obtain ⟨b', off', ea, hb, c0, c1⟩ := hR 0 (by simp)
  simp only [Option.some.injEq, Addr.mk.injEq, and_true] at ea
  obtain ⟨rfl, rfl⟩ := ea
  simp only [qAt_zero, Nat.zero_mul, Nat.add_zero] at c0 c1
  have s1 := hide (fun w => i_goodCell 7 0 w)
  rw [show gcB 7 0 = true from rfl] at s1
  have hT := hide hR.tail
  clear hR
  have S1 := hide S
  clear S
  cases h2 : rd f L with
  | none =>
    rw [h2] at S1
    show Calls Try.prog 120 #[.slice (some ⟨b, off, none⟩) (L.length + 1) cap] w (TakeNo w)
    go_enter Try.func120, Try.ntmps120
    go_wp2_with fail
    refine (s1.out _).mono ?_
    rintro e w1 ⟨rfl, b1⟩
    obtain ⟨hcc, _⟩ := bcell b1
    go_wp2_with fail
    all_goals
      refine (S1.out _ _ _ (by omega) (by first | exact (hT.out).below b1 | exact RowQ.len0 (by omega))).mono ?_
      rintro e w2 ⟨p, v, hp, ⟨va, vn, vc, rfl⟩, rfl, b2⟩
      rcases hp with rfl | ⟨T1, cs1, rfl⟩
      · go_wp2_with fail
        go_ret3
        exact ⟨_, _, .inr ⟨_, _, rfl⟩, ⟨_, _, _, rfl⟩, rfl, below_step b1 b2⟩
      · go_wp2_with fail
        go_ret3
        exact ⟨_, _, .inr ⟨_, _, rfl⟩, ⟨_, _, _, rfl⟩, rfl, below_step b1 b2⟩
  | some x =>
    obtain ⟨s, L2⟩ := x
    rw [h2] at S1
    show Calls Try.prog 120 #[.slice (some ⟨b, off, none⟩) (L.length + 1) cap] w (TakeYes (.str s) L2 w)
    unfold TakeYes
    simp only [pv]
    obtain ⟨ta, ca, ea⟩ := pv_shape s
    rw [ea]
    have ea := hide ea
    go_enter Try.func120, Try.ntmps120
    go_wp2_with fail
    refine (s1.out _).mono ?_
    rintro e w1 ⟨rfl, b1⟩
    obtain ⟨hcc, _⟩ := bcell b1
    go_wp2_with fail
    all_goals
      refine (S1.out _ _ _ (by omega) (by first | exact (hT.out).below b1 | exact RowQ.len0 (by omega))).mono ?_
      rintro e w2 ⟨a2, c2, rfl, hc2, R2, b2⟩
      rw [ea.out]
      go_wp2_with fail
      go_ret3
      exact ⟨_, _, rfl, hc2, R2, below_step b1 b2⟩
end Go.Proofs.Ytflakkbodbnndaa
