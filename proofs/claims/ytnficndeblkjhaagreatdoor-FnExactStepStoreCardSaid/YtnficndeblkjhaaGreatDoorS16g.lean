/- Whether an op is well told: the specification. -/
import Derived.Test.YtnficndeblkjhaaGreatDoorGrp5
import Derived.Test.YtnficndeblkjhaaGreatDoorS15a
namespace Go.Proofs.YtnficndeblkjhaaGreatDoor
open Go.RowKit

/-- What the specification asks of an op by itself. -/
def WellX (o : OpX) : Prop := (o.k = 1 ∧ o.N = 0 ∧ Pw o.n o.p ∧ Wd o.v) ∨ (o.k = 2 ∧ o.N = 0 ∧ Pw o.n o.p ∧ o.v.toList = []) ∨ (o.k = 4 ∧ BareX o ∧ 1 ≤ o.N ∧ o.N ≤ 100) ∨ (o.k = 6 ∧ BareX o ∧ 0 ≤ o.N ∧ o.N ≤ 9) ∨ ((o.k = 3 ∨ o.k = 5 ∨ o.k = 7 ∨ o.k = 8) ∧ BareX o ∧ o.N = 0)
theorem well1 {o : OpX} (h : o.k = 1) : WellX o ↔ o.N = 0 ∧ Pw o.n o.p ∧ Wd o.v := by
  unfold WellX; constructor
  · rintro (q | q | q | q | q)
    · exact q.2
    all_goals (exfalso; omega)
  · exact fun q => .inl ⟨h, q⟩
theorem well2 {o : OpX} (h : o.k = 2) : WellX o ↔ o.N = 0 ∧ Pw o.n o.p ∧ o.v.toList = [] := by
  unfold WellX; constructor
  · rintro (q | q | q | q | q)
    · exfalso; omega
    · exact q.2
    all_goals (exfalso; omega)
  · exact fun q => .inr (.inl ⟨h, q⟩)
theorem well4 {o : OpX} (h : o.k = 4) : WellX o ↔ (o.n = 0 ∧ o.v.toList = []) ∧ 1 ≤ o.N ∧ o.N ≤ 100 := by
  unfold WellX; constructor
  · rintro (q | q | q | q | q)
    · exfalso; omega
    · exfalso; omega
    · exact q.2
    all_goals (exfalso; omega)
  · exact fun q => .inr (.inr (.inl ⟨h, q⟩))
theorem well6 {o : OpX} (h : o.k = 6) : WellX o ↔ (o.n = 0 ∧ o.v.toList = []) ∧ 0 ≤ o.N ∧ o.N ≤ 9 := by
  unfold WellX; constructor
  · rintro (q | q | q | q | q)
    · exfalso; omega
    · exfalso; omega
    · exfalso; omega
    · exact q.2
    · exfalso; omega
  · exact fun q => .inr (.inr (.inr (.inl ⟨h, q⟩)))
theorem well3 {o : OpX} (h : o.k = 3 ∨ o.k = 5 ∨ o.k = 7 ∨ o.k = 8) : WellX o ↔ (o.n = 0 ∧ o.v.toList = []) ∧ o.N = 0 := by
  unfold WellX; constructor
  · rintro (q | q | q | q | q)
    · exfalso; omega
    · exfalso; omega
    · exfalso; omega
    · exfalso; omega
    · exact q.2
  · exact fun q => .inr (.inr (.inr (.inr ⟨h, q⟩)))
theorem well9 {o : OpX} (h : ¬ (1 ≤ o.k ∧ o.k ≤ 8)) : ¬ WellX o := by
  unfold WellX
  rintro (q | q | q | q | q)
  all_goals omega
set_option maxRecDepth 100000 in
set_option maxHeartbeats 1600000 in
theorem s_l16Op (o : OpX) (pa : Option Addr) (pc : Nat) (w : World) (hn : o.n ≤ 1048576) (hp : ∀ i, i < o.n → (o.p i).size ≤ maxLen) (hv : o.v.size ≤ maxLen) (hP : RowStr pa o.n o.p w) :
    Calls Tryz.prog 53 #[.agg #[.int .i64 o.k, .slice pa o.n pc, .string o.v, .int .i64 o.N]] w fun e w' => e = .returned (.bool (tB (WellX o))) ∧ Below w.heap.size w w' := by
  have M1 := Mut.new w #[.int .i64 o.k, .slice pa o.n pc, .string o.v, .int .i64 o.N] 38
  have d1 : Below w.heap.size w (w.alloc (.cells #[.int .i64 o.k, .slice pa o.n pc, .string o.v, .int .i64 o.N] 38)) := below_box (Below.refl _ _)
  have PA := hide (fun W R => s_path pa o.n pc o.p W hn hp R)
  have WO := hide (fun W => s_word o.v W hv)
  have k0 := M1.2.1 0 _ rfl
  have k1 := M1.2.1 1 _ rfl
  have k2 := M1.2.1 2 _ rfl
  have k3 := M1.2.1 3 _ rfl
  by_cases hk : o.k = 1
  · have q1 : (o.k == 1) = true := by simp; omega
    have q2 : (o.k == 2) = false := by simp; omega
    have q4 : (o.k == 4) = false := by simp; omega
    have q6 : (o.k == 6) = false := by simp; omega
    have q3 : (o.k == 3) = false := by simp; omega
    have q5 : (o.k == 5) = false := by simp; omega
    have q7 : (o.k == 7) = false := by simp; omega
    have q8 : (o.k == 8) = false := by simp; omega
    replace hk := hide hk
    by_cases hn0 : o.n = 0
    · have z1 : (o.n == 0) = true := by simp [hn0]
      have z2 : ((o.n : Int) == 0) = true := by simp [hn0]
      replace hn0 := hide hn0
      by_cases hv0 : o.v.toList = []
      · have z3 : o.v.toList.isEmpty = true := by simp [hv0]
        replace hv0 := hide hv0
        by_cases hN0 : o.N = 0
        · have z4 : (o.N == 0) = true := by simp [hN0]
          replace hN0 := hide hN0
          by_cases hpw : Pw o.n o.p
          · go_enter Tryz.func53, Tryz.ntmps53
            go_wp2_with fail
            generalize (w.alloc (.cells #[.int .i64 o.k, .slice pa o.n pc, .string o.v, .int .i64 o.N] 38)) = wa at *
            refine (PA.out _ (hP.below d1)).mono ?_
            rintro e w1 ⟨rfl, bb⟩
            replace M1 := M1.below bb
            have d2 := d1.trans (bb.mono d1.size)
            clear bb d1
            replace k2 := M1.2.1 2 _ rfl
            rw [tB_t hpw]
            go_wp2_with fail
            refine (WO.out _).mono ?_
            rintro e w2 ⟨rfl, bb⟩
            have d3 := d2.trans (bb.mono d2.size)
            clear bb d2
            go_wp2_with fail
            go_ret
            refine ⟨?_, d3⟩
            rw [tB_congr (show WellX o ↔ Wd o.v from ⟨fun h => ((well1 hk.out).1 h).2.2, fun h => (well1 hk.out).2 ⟨hN0.out, hpw, h⟩⟩)] <;> rfl
          · go_enter Tryz.func53, Tryz.ntmps53
            go_wp2_with fail
            generalize (w.alloc (.cells #[.int .i64 o.k, .slice pa o.n pc, .string o.v, .int .i64 o.N] 38)) = wa at *
            refine (PA.out _ (hP.below d1)).mono ?_
            rintro e w1 ⟨rfl, bb⟩
            replace M1 := M1.below bb
            have d2 := d1.trans (bb.mono d1.size)
            clear bb d1
            replace k2 := M1.2.1 2 _ rfl
            rw [tB_f hpw]
            go_wp2_with fail
            go_ret
            exact ⟨by rw [tB_f (fun h => by have h := (well1 hk.out).1 h; exact hpw h.2.1)] <;> rfl, d2⟩
        · have z4 : (o.N == 0) = false := by simp [hN0]
          replace hN0 := hide hN0
          go_enter Tryz.func53, Tryz.ntmps53
          go_wp2_with fail
          go_ret
          exact ⟨by rw [tB_f (fun h => by have h := (well1 hk.out).1 h; exact hN0.out h.1)] <;> rfl, d1⟩
      · have z3 : o.v.toList.isEmpty = false := by simp [hv0]
        replace hv0 := hide hv0
        by_cases hN0 : o.N = 0
        · have z4 : (o.N == 0) = true := by simp [hN0]
          replace hN0 := hide hN0
          by_cases hpw : Pw o.n o.p
          · go_enter Tryz.func53, Tryz.ntmps53
            go_wp2_with fail
            generalize (w.alloc (.cells #[.int .i64 o.k, .slice pa o.n pc, .string o.v, .int .i64 o.N] 38)) = wa at *
            refine (PA.out _ (hP.below d1)).mono ?_
            rintro e w1 ⟨rfl, bb⟩
            replace M1 := M1.below bb
            have d2 := d1.trans (bb.mono d1.size)
            clear bb d1
            replace k2 := M1.2.1 2 _ rfl
            rw [tB_t hpw]
            go_wp2_with fail
            refine (WO.out _).mono ?_
            rintro e w2 ⟨rfl, bb⟩
            have d3 := d2.trans (bb.mono d2.size)
            clear bb d2
            go_wp2_with fail
            go_ret
            refine ⟨?_, d3⟩
            rw [tB_congr (show WellX o ↔ Wd o.v from ⟨fun h => ((well1 hk.out).1 h).2.2, fun h => (well1 hk.out).2 ⟨hN0.out, hpw, h⟩⟩)] <;> rfl
          · go_enter Tryz.func53, Tryz.ntmps53
            go_wp2_with fail
            generalize (w.alloc (.cells #[.int .i64 o.k, .slice pa o.n pc, .string o.v, .int .i64 o.N] 38)) = wa at *
            refine (PA.out _ (hP.below d1)).mono ?_
            rintro e w1 ⟨rfl, bb⟩
            replace M1 := M1.below bb
            have d2 := d1.trans (bb.mono d1.size)
            clear bb d1
            replace k2 := M1.2.1 2 _ rfl
            rw [tB_f hpw]
            go_wp2_with fail
            go_ret
            exact ⟨by rw [tB_f (fun h => by have h := (well1 hk.out).1 h; exact hpw h.2.1)] <;> rfl, d2⟩
        · have z4 : (o.N == 0) = false := by simp [hN0]
          replace hN0 := hide hN0
          go_enter Tryz.func53, Tryz.ntmps53
          go_wp2_with fail
          go_ret
          exact ⟨by rw [tB_f (fun h => by have h := (well1 hk.out).1 h; exact hN0.out h.1)] <;> rfl, d1⟩
    · have z1 : (o.n == 0) = false := by simp [hn0]
      have z2 : ((o.n : Int) == 0) = false := by simp; omega
      replace hn0 := hide hn0
      by_cases hv0 : o.v.toList = []
      · have z3 : o.v.toList.isEmpty = true := by simp [hv0]
        replace hv0 := hide hv0
        by_cases hN0 : o.N = 0
        · have z4 : (o.N == 0) = true := by simp [hN0]
          replace hN0 := hide hN0
          by_cases hpw : Pw o.n o.p
          · go_enter Tryz.func53, Tryz.ntmps53
            go_wp2_with fail
            generalize (w.alloc (.cells #[.int .i64 o.k, .slice pa o.n pc, .string o.v, .int .i64 o.N] 38)) = wa at *
            refine (PA.out _ (hP.below d1)).mono ?_
            rintro e w1 ⟨rfl, bb⟩
            replace M1 := M1.below bb
            have d2 := d1.trans (bb.mono d1.size)
            clear bb d1
            replace k2 := M1.2.1 2 _ rfl
            rw [tB_t hpw]
            go_wp2_with fail
            refine (WO.out _).mono ?_
            rintro e w2 ⟨rfl, bb⟩
            have d3 := d2.trans (bb.mono d2.size)
            clear bb d2
            go_wp2_with fail
            go_ret
            refine ⟨?_, d3⟩
            rw [tB_congr (show WellX o ↔ Wd o.v from ⟨fun h => ((well1 hk.out).1 h).2.2, fun h => (well1 hk.out).2 ⟨hN0.out, hpw, h⟩⟩)] <;> rfl
          · go_enter Tryz.func53, Tryz.ntmps53
            go_wp2_with fail
            generalize (w.alloc (.cells #[.int .i64 o.k, .slice pa o.n pc, .string o.v, .int .i64 o.N] 38)) = wa at *
            refine (PA.out _ (hP.below d1)).mono ?_
            rintro e w1 ⟨rfl, bb⟩
            replace M1 := M1.below bb
            have d2 := d1.trans (bb.mono d1.size)
            clear bb d1
            replace k2 := M1.2.1 2 _ rfl
            rw [tB_f hpw]
            go_wp2_with fail
            go_ret
            exact ⟨by rw [tB_f (fun h => by have h := (well1 hk.out).1 h; exact hpw h.2.1)] <;> rfl, d2⟩
        · have z4 : (o.N == 0) = false := by simp [hN0]
          replace hN0 := hide hN0
          go_enter Tryz.func53, Tryz.ntmps53
          go_wp2_with fail
          go_ret
          exact ⟨by rw [tB_f (fun h => by have h := (well1 hk.out).1 h; exact hN0.out h.1)] <;> rfl, d1⟩
      · have z3 : o.v.toList.isEmpty = false := by simp [hv0]
        replace hv0 := hide hv0
        by_cases hN0 : o.N = 0
        · have z4 : (o.N == 0) = true := by simp [hN0]
          replace hN0 := hide hN0
          by_cases hpw : Pw o.n o.p
          · go_enter Tryz.func53, Tryz.ntmps53
            go_wp2_with fail
            generalize (w.alloc (.cells #[.int .i64 o.k, .slice pa o.n pc, .string o.v, .int .i64 o.N] 38)) = wa at *
            refine (PA.out _ (hP.below d1)).mono ?_
            rintro e w1 ⟨rfl, bb⟩
            replace M1 := M1.below bb
            have d2 := d1.trans (bb.mono d1.size)
            clear bb d1
            replace k2 := M1.2.1 2 _ rfl
            rw [tB_t hpw]
            go_wp2_with fail
            refine (WO.out _).mono ?_
            rintro e w2 ⟨rfl, bb⟩
            have d3 := d2.trans (bb.mono d2.size)
            clear bb d2
            go_wp2_with fail
            go_ret
            refine ⟨?_, d3⟩
            rw [tB_congr (show WellX o ↔ Wd o.v from ⟨fun h => ((well1 hk.out).1 h).2.2, fun h => (well1 hk.out).2 ⟨hN0.out, hpw, h⟩⟩)] <;> rfl
          · go_enter Tryz.func53, Tryz.ntmps53
            go_wp2_with fail
            generalize (w.alloc (.cells #[.int .i64 o.k, .slice pa o.n pc, .string o.v, .int .i64 o.N] 38)) = wa at *
            refine (PA.out _ (hP.below d1)).mono ?_
            rintro e w1 ⟨rfl, bb⟩
            replace M1 := M1.below bb
            have d2 := d1.trans (bb.mono d1.size)
            clear bb d1
            replace k2 := M1.2.1 2 _ rfl
            rw [tB_f hpw]
            go_wp2_with fail
            go_ret
            exact ⟨by rw [tB_f (fun h => by have h := (well1 hk.out).1 h; exact hpw h.2.1)] <;> rfl, d2⟩
        · have z4 : (o.N == 0) = false := by simp [hN0]
          replace hN0 := hide hN0
          go_enter Tryz.func53, Tryz.ntmps53
          go_wp2_with fail
          go_ret
          exact ⟨by rw [tB_f (fun h => by have h := (well1 hk.out).1 h; exact hN0.out h.1)] <;> rfl, d1⟩
  have h1 := hk
  clear hk
  by_cases hk : o.k = 2
  · have q1 : (o.k == 1) = false := by simp; omega
    have q2 : (o.k == 2) = true := by simp; omega
    have q4 : (o.k == 4) = false := by simp; omega
    have q6 : (o.k == 6) = false := by simp; omega
    have q3 : (o.k == 3) = false := by simp; omega
    have q5 : (o.k == 5) = false := by simp; omega
    have q7 : (o.k == 7) = false := by simp; omega
    have q8 : (o.k == 8) = false := by simp; omega
    replace hk := hide hk
    by_cases hn0 : o.n = 0
    · have z1 : (o.n == 0) = true := by simp [hn0]
      have z2 : ((o.n : Int) == 0) = true := by simp [hn0]
      replace hn0 := hide hn0
      by_cases hv0 : o.v.toList = []
      · have z3 : o.v.toList.isEmpty = true := by simp [hv0]
        replace hv0 := hide hv0
        by_cases hN0 : o.N = 0
        · have z4 : (o.N == 0) = true := by simp [hN0]
          replace hN0 := hide hN0
          by_cases hpw : Pw o.n o.p
          · go_enter Tryz.func53, Tryz.ntmps53
            go_wp2_with fail
            generalize (w.alloc (.cells #[.int .i64 o.k, .slice pa o.n pc, .string o.v, .int .i64 o.N] 38)) = wa at *
            refine (PA.out _ (hP.below d1)).mono ?_
            rintro e w1 ⟨rfl, bb⟩
            replace M1 := M1.below bb
            have d2 := d1.trans (bb.mono d1.size)
            clear bb d1
            replace k2 := M1.2.1 2 _ rfl
            rw [tB_t hpw]
            go_wp2_with fail
            go_ret
            exact ⟨by rw [tB_t ((well2 hk.out).2 ⟨hN0.out, hpw, hv0.out⟩)] <;> rfl, d2⟩
          · go_enter Tryz.func53, Tryz.ntmps53
            go_wp2_with fail
            generalize (w.alloc (.cells #[.int .i64 o.k, .slice pa o.n pc, .string o.v, .int .i64 o.N] 38)) = wa at *
            refine (PA.out _ (hP.below d1)).mono ?_
            rintro e w1 ⟨rfl, bb⟩
            replace M1 := M1.below bb
            have d2 := d1.trans (bb.mono d1.size)
            clear bb d1
            replace k2 := M1.2.1 2 _ rfl
            rw [tB_f hpw]
            go_wp2_with fail
            go_ret
            exact ⟨by rw [tB_f (fun h => by have h := (well2 hk.out).1 h; exact hpw h.2.1)] <;> rfl, d2⟩
        · have z4 : (o.N == 0) = false := by simp [hN0]
          replace hN0 := hide hN0
          go_enter Tryz.func53, Tryz.ntmps53
          go_wp2_with fail
          go_ret
          exact ⟨by rw [tB_f (fun h => by have h := (well2 hk.out).1 h; exact hN0.out h.1)] <;> rfl, d1⟩
      · have z3 : o.v.toList.isEmpty = false := by simp [hv0]
        replace hv0 := hide hv0
        by_cases hN0 : o.N = 0
        · have z4 : (o.N == 0) = true := by simp [hN0]
          replace hN0 := hide hN0
          by_cases hpw : Pw o.n o.p
          · go_enter Tryz.func53, Tryz.ntmps53
            go_wp2_with fail
            generalize (w.alloc (.cells #[.int .i64 o.k, .slice pa o.n pc, .string o.v, .int .i64 o.N] 38)) = wa at *
            refine (PA.out _ (hP.below d1)).mono ?_
            rintro e w1 ⟨rfl, bb⟩
            replace M1 := M1.below bb
            have d2 := d1.trans (bb.mono d1.size)
            clear bb d1
            replace k2 := M1.2.1 2 _ rfl
            rw [tB_t hpw]
            go_wp2_with fail
            go_ret
            exact ⟨by rw [tB_f (fun h => by have h := (well2 hk.out).1 h; exact hv0.out h.2.2)] <;> rfl, d2⟩
          · go_enter Tryz.func53, Tryz.ntmps53
            go_wp2_with fail
            generalize (w.alloc (.cells #[.int .i64 o.k, .slice pa o.n pc, .string o.v, .int .i64 o.N] 38)) = wa at *
            refine (PA.out _ (hP.below d1)).mono ?_
            rintro e w1 ⟨rfl, bb⟩
            replace M1 := M1.below bb
            have d2 := d1.trans (bb.mono d1.size)
            clear bb d1
            replace k2 := M1.2.1 2 _ rfl
            rw [tB_f hpw]
            go_wp2_with fail
            go_ret
            exact ⟨by rw [tB_f (fun h => by have h := (well2 hk.out).1 h; exact hpw h.2.1)] <;> rfl, d2⟩
        · have z4 : (o.N == 0) = false := by simp [hN0]
          replace hN0 := hide hN0
          go_enter Tryz.func53, Tryz.ntmps53
          go_wp2_with fail
          go_ret
          exact ⟨by rw [tB_f (fun h => by have h := (well2 hk.out).1 h; exact hN0.out h.1)] <;> rfl, d1⟩
    · have z1 : (o.n == 0) = false := by simp [hn0]
      have z2 : ((o.n : Int) == 0) = false := by simp; omega
      replace hn0 := hide hn0
      by_cases hv0 : o.v.toList = []
      · have z3 : o.v.toList.isEmpty = true := by simp [hv0]
        replace hv0 := hide hv0
        by_cases hN0 : o.N = 0
        · have z4 : (o.N == 0) = true := by simp [hN0]
          replace hN0 := hide hN0
          by_cases hpw : Pw o.n o.p
          · go_enter Tryz.func53, Tryz.ntmps53
            go_wp2_with fail
            generalize (w.alloc (.cells #[.int .i64 o.k, .slice pa o.n pc, .string o.v, .int .i64 o.N] 38)) = wa at *
            refine (PA.out _ (hP.below d1)).mono ?_
            rintro e w1 ⟨rfl, bb⟩
            replace M1 := M1.below bb
            have d2 := d1.trans (bb.mono d1.size)
            clear bb d1
            replace k2 := M1.2.1 2 _ rfl
            rw [tB_t hpw]
            go_wp2_with fail
            go_ret
            exact ⟨by rw [tB_t ((well2 hk.out).2 ⟨hN0.out, hpw, hv0.out⟩)] <;> rfl, d2⟩
          · go_enter Tryz.func53, Tryz.ntmps53
            go_wp2_with fail
            generalize (w.alloc (.cells #[.int .i64 o.k, .slice pa o.n pc, .string o.v, .int .i64 o.N] 38)) = wa at *
            refine (PA.out _ (hP.below d1)).mono ?_
            rintro e w1 ⟨rfl, bb⟩
            replace M1 := M1.below bb
            have d2 := d1.trans (bb.mono d1.size)
            clear bb d1
            replace k2 := M1.2.1 2 _ rfl
            rw [tB_f hpw]
            go_wp2_with fail
            go_ret
            exact ⟨by rw [tB_f (fun h => by have h := (well2 hk.out).1 h; exact hpw h.2.1)] <;> rfl, d2⟩
        · have z4 : (o.N == 0) = false := by simp [hN0]
          replace hN0 := hide hN0
          go_enter Tryz.func53, Tryz.ntmps53
          go_wp2_with fail
          go_ret
          exact ⟨by rw [tB_f (fun h => by have h := (well2 hk.out).1 h; exact hN0.out h.1)] <;> rfl, d1⟩
      · have z3 : o.v.toList.isEmpty = false := by simp [hv0]
        replace hv0 := hide hv0
        by_cases hN0 : o.N = 0
        · have z4 : (o.N == 0) = true := by simp [hN0]
          replace hN0 := hide hN0
          by_cases hpw : Pw o.n o.p
          · go_enter Tryz.func53, Tryz.ntmps53
            go_wp2_with fail
            generalize (w.alloc (.cells #[.int .i64 o.k, .slice pa o.n pc, .string o.v, .int .i64 o.N] 38)) = wa at *
            refine (PA.out _ (hP.below d1)).mono ?_
            rintro e w1 ⟨rfl, bb⟩
            replace M1 := M1.below bb
            have d2 := d1.trans (bb.mono d1.size)
            clear bb d1
            replace k2 := M1.2.1 2 _ rfl
            rw [tB_t hpw]
            go_wp2_with fail
            go_ret
            exact ⟨by rw [tB_f (fun h => by have h := (well2 hk.out).1 h; exact hv0.out h.2.2)] <;> rfl, d2⟩
          · go_enter Tryz.func53, Tryz.ntmps53
            go_wp2_with fail
            generalize (w.alloc (.cells #[.int .i64 o.k, .slice pa o.n pc, .string o.v, .int .i64 o.N] 38)) = wa at *
            refine (PA.out _ (hP.below d1)).mono ?_
            rintro e w1 ⟨rfl, bb⟩
            replace M1 := M1.below bb
            have d2 := d1.trans (bb.mono d1.size)
            clear bb d1
            replace k2 := M1.2.1 2 _ rfl
            rw [tB_f hpw]
            go_wp2_with fail
            go_ret
            exact ⟨by rw [tB_f (fun h => by have h := (well2 hk.out).1 h; exact hpw h.2.1)] <;> rfl, d2⟩
        · have z4 : (o.N == 0) = false := by simp [hN0]
          replace hN0 := hide hN0
          go_enter Tryz.func53, Tryz.ntmps53
          go_wp2_with fail
          go_ret
          exact ⟨by rw [tB_f (fun h => by have h := (well2 hk.out).1 h; exact hN0.out h.1)] <;> rfl, d1⟩
  have h2 := hk
  clear hk
  by_cases hk : o.k = 4
  · have q1 : (o.k == 1) = false := by simp; omega
    have q2 : (o.k == 2) = false := by simp; omega
    have q4 : (o.k == 4) = true := by simp; omega
    have q6 : (o.k == 6) = false := by simp; omega
    have q3 : (o.k == 3) = false := by simp; omega
    have q5 : (o.k == 5) = false := by simp; omega
    have q7 : (o.k == 7) = false := by simp; omega
    have q8 : (o.k == 8) = false := by simp; omega
    replace hk := hide hk
    by_cases hn0 : o.n = 0
    · have z1 : (o.n == 0) = true := by simp [hn0]
      have z2 : ((o.n : Int) == 0) = true := by simp [hn0]
      replace hn0 := hide hn0
      by_cases hv0 : o.v.toList = []
      · have z3 : o.v.toList.isEmpty = true := by simp [hv0]
        replace hv0 := hide hv0
        by_cases hN0 : o.N = 0
        · have z4 : (o.N == 0) = true := by simp [hN0]
          replace hN0 := hide hN0
          go_enter Tryz.func53, Tryz.ntmps53
          go_wp2_with fail
          generalize (w.alloc (.cells #[.int .i64 o.k, .slice pa o.n pc, .string o.v, .int .i64 o.N] 38)) = wa at *
          refine (s_in15 _ _ _ _).mono ?_
          rintro e w1 ⟨rfl, rfl⟩
          go_wp2_with fail
          go_ret
          refine ⟨?_, d1⟩
          have hd : (decide (1 ≤ o.N) && decide (o.N ≤ 100)) = tB (WellX o) := by
            rw [← Bool.decide_and]
            exact tB_of (fun h => by simp only [decide_eq_true_eq]; exact ((well4 hk.out).1 h).2) (fun h => by simp only [decide_eq_false_iff_not]; exact fun q => h ((well4 hk.out).2 ⟨⟨hn0.out, hv0.out⟩, q⟩))
          rw [← hd] <;> rfl
        · have z4 : (o.N == 0) = false := by simp [hN0]
          replace hN0 := hide hN0
          go_enter Tryz.func53, Tryz.ntmps53
          go_wp2_with fail
          generalize (w.alloc (.cells #[.int .i64 o.k, .slice pa o.n pc, .string o.v, .int .i64 o.N] 38)) = wa at *
          refine (s_in15 _ _ _ _).mono ?_
          rintro e w1 ⟨rfl, rfl⟩
          go_wp2_with fail
          go_ret
          refine ⟨?_, d1⟩
          have hd : (decide (1 ≤ o.N) && decide (o.N ≤ 100)) = tB (WellX o) := by
            rw [← Bool.decide_and]
            exact tB_of (fun h => by simp only [decide_eq_true_eq]; exact ((well4 hk.out).1 h).2) (fun h => by simp only [decide_eq_false_iff_not]; exact fun q => h ((well4 hk.out).2 ⟨⟨hn0.out, hv0.out⟩, q⟩))
          rw [← hd] <;> rfl
      · have z3 : o.v.toList.isEmpty = false := by simp [hv0]
        replace hv0 := hide hv0
        by_cases hN0 : o.N = 0
        · have z4 : (o.N == 0) = true := by simp [hN0]
          replace hN0 := hide hN0
          go_enter Tryz.func53, Tryz.ntmps53
          go_wp2_with fail
          go_ret
          exact ⟨by rw [tB_f (fun h => by have h := (well4 hk.out).1 h; exact hv0.out h.1.2)] <;> rfl, d1⟩
        · have z4 : (o.N == 0) = false := by simp [hN0]
          replace hN0 := hide hN0
          go_enter Tryz.func53, Tryz.ntmps53
          go_wp2_with fail
          go_ret
          exact ⟨by rw [tB_f (fun h => by have h := (well4 hk.out).1 h; exact hv0.out h.1.2)] <;> rfl, d1⟩
    · have z1 : (o.n == 0) = false := by simp [hn0]
      have z2 : ((o.n : Int) == 0) = false := by simp; omega
      replace hn0 := hide hn0
      by_cases hv0 : o.v.toList = []
      · have z3 : o.v.toList.isEmpty = true := by simp [hv0]
        replace hv0 := hide hv0
        by_cases hN0 : o.N = 0
        · have z4 : (o.N == 0) = true := by simp [hN0]
          replace hN0 := hide hN0
          go_enter Tryz.func53, Tryz.ntmps53
          go_wp2_with fail
          go_ret
          exact ⟨by rw [tB_f (fun h => by have h := (well4 hk.out).1 h; exact hn0.out h.1.1)] <;> rfl, d1⟩
        · have z4 : (o.N == 0) = false := by simp [hN0]
          replace hN0 := hide hN0
          go_enter Tryz.func53, Tryz.ntmps53
          go_wp2_with fail
          go_ret
          exact ⟨by rw [tB_f (fun h => by have h := (well4 hk.out).1 h; exact hn0.out h.1.1)] <;> rfl, d1⟩
      · have z3 : o.v.toList.isEmpty = false := by simp [hv0]
        replace hv0 := hide hv0
        by_cases hN0 : o.N = 0
        · have z4 : (o.N == 0) = true := by simp [hN0]
          replace hN0 := hide hN0
          go_enter Tryz.func53, Tryz.ntmps53
          go_wp2_with fail
          go_ret
          exact ⟨by rw [tB_f (fun h => by have h := (well4 hk.out).1 h; exact hn0.out h.1.1)] <;> rfl, d1⟩
        · have z4 : (o.N == 0) = false := by simp [hN0]
          replace hN0 := hide hN0
          go_enter Tryz.func53, Tryz.ntmps53
          go_wp2_with fail
          go_ret
          exact ⟨by rw [tB_f (fun h => by have h := (well4 hk.out).1 h; exact hn0.out h.1.1)] <;> rfl, d1⟩
  have h4 := hk
  clear hk
  by_cases hk : o.k = 6
  · have q1 : (o.k == 1) = false := by simp; omega
    have q2 : (o.k == 2) = false := by simp; omega
    have q4 : (o.k == 4) = false := by simp; omega
    have q6 : (o.k == 6) = true := by simp; omega
    have q3 : (o.k == 3) = false := by simp; omega
    have q5 : (o.k == 5) = false := by simp; omega
    have q7 : (o.k == 7) = false := by simp; omega
    have q8 : (o.k == 8) = false := by simp; omega
    replace hk := hide hk
    by_cases hn0 : o.n = 0
    · have z1 : (o.n == 0) = true := by simp [hn0]
      have z2 : ((o.n : Int) == 0) = true := by simp [hn0]
      replace hn0 := hide hn0
      by_cases hv0 : o.v.toList = []
      · have z3 : o.v.toList.isEmpty = true := by simp [hv0]
        replace hv0 := hide hv0
        by_cases hN0 : o.N = 0
        · have z4 : (o.N == 0) = true := by simp [hN0]
          replace hN0 := hide hN0
          go_enter Tryz.func53, Tryz.ntmps53
          go_wp2_with fail
          generalize (w.alloc (.cells #[.int .i64 o.k, .slice pa o.n pc, .string o.v, .int .i64 o.N] 38)) = wa at *
          refine (s_in15 _ _ _ _).mono ?_
          rintro e w1 ⟨rfl, rfl⟩
          go_wp2_with fail
          go_ret
          refine ⟨?_, d1⟩
          have hd : (decide (0 ≤ o.N) && decide (o.N ≤ 9)) = tB (WellX o) := by
            rw [← Bool.decide_and]
            exact tB_of (fun h => by simp only [decide_eq_true_eq]; exact ((well6 hk.out).1 h).2) (fun h => by simp only [decide_eq_false_iff_not]; exact fun q => h ((well6 hk.out).2 ⟨⟨hn0.out, hv0.out⟩, q⟩))
          rw [← hd] <;> rfl
        · have z4 : (o.N == 0) = false := by simp [hN0]
          replace hN0 := hide hN0
          go_enter Tryz.func53, Tryz.ntmps53
          go_wp2_with fail
          generalize (w.alloc (.cells #[.int .i64 o.k, .slice pa o.n pc, .string o.v, .int .i64 o.N] 38)) = wa at *
          refine (s_in15 _ _ _ _).mono ?_
          rintro e w1 ⟨rfl, rfl⟩
          go_wp2_with fail
          go_ret
          refine ⟨?_, d1⟩
          have hd : (decide (0 ≤ o.N) && decide (o.N ≤ 9)) = tB (WellX o) := by
            rw [← Bool.decide_and]
            exact tB_of (fun h => by simp only [decide_eq_true_eq]; exact ((well6 hk.out).1 h).2) (fun h => by simp only [decide_eq_false_iff_not]; exact fun q => h ((well6 hk.out).2 ⟨⟨hn0.out, hv0.out⟩, q⟩))
          rw [← hd] <;> rfl
      · have z3 : o.v.toList.isEmpty = false := by simp [hv0]
        replace hv0 := hide hv0
        by_cases hN0 : o.N = 0
        · have z4 : (o.N == 0) = true := by simp [hN0]
          replace hN0 := hide hN0
          go_enter Tryz.func53, Tryz.ntmps53
          go_wp2_with fail
          go_ret
          exact ⟨by rw [tB_f (fun h => by have h := (well6 hk.out).1 h; exact hv0.out h.1.2)] <;> rfl, d1⟩
        · have z4 : (o.N == 0) = false := by simp [hN0]
          replace hN0 := hide hN0
          go_enter Tryz.func53, Tryz.ntmps53
          go_wp2_with fail
          go_ret
          exact ⟨by rw [tB_f (fun h => by have h := (well6 hk.out).1 h; exact hv0.out h.1.2)] <;> rfl, d1⟩
    · have z1 : (o.n == 0) = false := by simp [hn0]
      have z2 : ((o.n : Int) == 0) = false := by simp; omega
      replace hn0 := hide hn0
      by_cases hv0 : o.v.toList = []
      · have z3 : o.v.toList.isEmpty = true := by simp [hv0]
        replace hv0 := hide hv0
        by_cases hN0 : o.N = 0
        · have z4 : (o.N == 0) = true := by simp [hN0]
          replace hN0 := hide hN0
          go_enter Tryz.func53, Tryz.ntmps53
          go_wp2_with fail
          go_ret
          exact ⟨by rw [tB_f (fun h => by have h := (well6 hk.out).1 h; exact hn0.out h.1.1)] <;> rfl, d1⟩
        · have z4 : (o.N == 0) = false := by simp [hN0]
          replace hN0 := hide hN0
          go_enter Tryz.func53, Tryz.ntmps53
          go_wp2_with fail
          go_ret
          exact ⟨by rw [tB_f (fun h => by have h := (well6 hk.out).1 h; exact hn0.out h.1.1)] <;> rfl, d1⟩
      · have z3 : o.v.toList.isEmpty = false := by simp [hv0]
        replace hv0 := hide hv0
        by_cases hN0 : o.N = 0
        · have z4 : (o.N == 0) = true := by simp [hN0]
          replace hN0 := hide hN0
          go_enter Tryz.func53, Tryz.ntmps53
          go_wp2_with fail
          go_ret
          exact ⟨by rw [tB_f (fun h => by have h := (well6 hk.out).1 h; exact hn0.out h.1.1)] <;> rfl, d1⟩
        · have z4 : (o.N == 0) = false := by simp [hN0]
          replace hN0 := hide hN0
          go_enter Tryz.func53, Tryz.ntmps53
          go_wp2_with fail
          go_ret
          exact ⟨by rw [tB_f (fun h => by have h := (well6 hk.out).1 h; exact hn0.out h.1.1)] <;> rfl, d1⟩
  have h6 := hk
  clear hk
  by_cases hk : o.k = 3
  · have q1 : (o.k == 1) = false := by simp; omega
    have q2 : (o.k == 2) = false := by simp; omega
    have q4 : (o.k == 4) = false := by simp; omega
    have q6 : (o.k == 6) = false := by simp; omega
    have q3 : (o.k == 3) = true := by simp; omega
    have q5 : (o.k == 5) = false := by simp; omega
    have q7 : (o.k == 7) = false := by simp; omega
    have q8 : (o.k == 8) = false := by simp; omega
    replace hk := hide hk
    by_cases hn0 : o.n = 0
    · have z1 : (o.n == 0) = true := by simp [hn0]
      have z2 : ((o.n : Int) == 0) = true := by simp [hn0]
      replace hn0 := hide hn0
      by_cases hv0 : o.v.toList = []
      · have z3 : o.v.toList.isEmpty = true := by simp [hv0]
        replace hv0 := hide hv0
        by_cases hN0 : o.N = 0
        · have z4 : (o.N == 0) = true := by simp [hN0]
          replace hN0 := hide hN0
          go_enter Tryz.func53, Tryz.ntmps53
          go_wp2_with fail
          go_ret
          exact ⟨by rw [tB_t ((well3 (by have h := hk.out; omega)).2 ⟨⟨hn0.out, hv0.out⟩, hN0.out⟩)] <;> rfl, d1⟩
        · have z4 : (o.N == 0) = false := by simp [hN0]
          replace hN0 := hide hN0
          go_enter Tryz.func53, Tryz.ntmps53
          go_wp2_with fail
          go_ret
          exact ⟨by rw [tB_f (fun h => by have h := (well3 (by have h := hk.out; omega)).1 h; exact hN0.out h.2)] <;> rfl, d1⟩
      · have z3 : o.v.toList.isEmpty = false := by simp [hv0]
        replace hv0 := hide hv0
        by_cases hN0 : o.N = 0
        · have z4 : (o.N == 0) = true := by simp [hN0]
          replace hN0 := hide hN0
          go_enter Tryz.func53, Tryz.ntmps53
          go_wp2_with fail
          go_ret
          exact ⟨by rw [tB_f (fun h => by have h := (well3 (by have h := hk.out; omega)).1 h; exact hv0.out h.1.2)] <;> rfl, d1⟩
        · have z4 : (o.N == 0) = false := by simp [hN0]
          replace hN0 := hide hN0
          go_enter Tryz.func53, Tryz.ntmps53
          go_wp2_with fail
          go_ret
          exact ⟨by rw [tB_f (fun h => by have h := (well3 (by have h := hk.out; omega)).1 h; exact hv0.out h.1.2)] <;> rfl, d1⟩
    · have z1 : (o.n == 0) = false := by simp [hn0]
      have z2 : ((o.n : Int) == 0) = false := by simp; omega
      replace hn0 := hide hn0
      by_cases hv0 : o.v.toList = []
      · have z3 : o.v.toList.isEmpty = true := by simp [hv0]
        replace hv0 := hide hv0
        by_cases hN0 : o.N = 0
        · have z4 : (o.N == 0) = true := by simp [hN0]
          replace hN0 := hide hN0
          go_enter Tryz.func53, Tryz.ntmps53
          go_wp2_with fail
          go_ret
          exact ⟨by rw [tB_f (fun h => by have h := (well3 (by have h := hk.out; omega)).1 h; exact hn0.out h.1.1)] <;> rfl, d1⟩
        · have z4 : (o.N == 0) = false := by simp [hN0]
          replace hN0 := hide hN0
          go_enter Tryz.func53, Tryz.ntmps53
          go_wp2_with fail
          go_ret
          exact ⟨by rw [tB_f (fun h => by have h := (well3 (by have h := hk.out; omega)).1 h; exact hn0.out h.1.1)] <;> rfl, d1⟩
      · have z3 : o.v.toList.isEmpty = false := by simp [hv0]
        replace hv0 := hide hv0
        by_cases hN0 : o.N = 0
        · have z4 : (o.N == 0) = true := by simp [hN0]
          replace hN0 := hide hN0
          go_enter Tryz.func53, Tryz.ntmps53
          go_wp2_with fail
          go_ret
          exact ⟨by rw [tB_f (fun h => by have h := (well3 (by have h := hk.out; omega)).1 h; exact hn0.out h.1.1)] <;> rfl, d1⟩
        · have z4 : (o.N == 0) = false := by simp [hN0]
          replace hN0 := hide hN0
          go_enter Tryz.func53, Tryz.ntmps53
          go_wp2_with fail
          go_ret
          exact ⟨by rw [tB_f (fun h => by have h := (well3 (by have h := hk.out; omega)).1 h; exact hn0.out h.1.1)] <;> rfl, d1⟩
  have h3 := hk
  clear hk
  by_cases hk : o.k = 5
  · have q1 : (o.k == 1) = false := by simp; omega
    have q2 : (o.k == 2) = false := by simp; omega
    have q4 : (o.k == 4) = false := by simp; omega
    have q6 : (o.k == 6) = false := by simp; omega
    have q3 : (o.k == 3) = false := by simp; omega
    have q5 : (o.k == 5) = true := by simp; omega
    have q7 : (o.k == 7) = false := by simp; omega
    have q8 : (o.k == 8) = false := by simp; omega
    replace hk := hide hk
    by_cases hn0 : o.n = 0
    · have z1 : (o.n == 0) = true := by simp [hn0]
      have z2 : ((o.n : Int) == 0) = true := by simp [hn0]
      replace hn0 := hide hn0
      by_cases hv0 : o.v.toList = []
      · have z3 : o.v.toList.isEmpty = true := by simp [hv0]
        replace hv0 := hide hv0
        by_cases hN0 : o.N = 0
        · have z4 : (o.N == 0) = true := by simp [hN0]
          replace hN0 := hide hN0
          go_enter Tryz.func53, Tryz.ntmps53
          go_wp2_with fail
          go_ret
          exact ⟨by rw [tB_t ((well3 (by have h := hk.out; omega)).2 ⟨⟨hn0.out, hv0.out⟩, hN0.out⟩)] <;> rfl, d1⟩
        · have z4 : (o.N == 0) = false := by simp [hN0]
          replace hN0 := hide hN0
          go_enter Tryz.func53, Tryz.ntmps53
          go_wp2_with fail
          go_ret
          exact ⟨by rw [tB_f (fun h => by have h := (well3 (by have h := hk.out; omega)).1 h; exact hN0.out h.2)] <;> rfl, d1⟩
      · have z3 : o.v.toList.isEmpty = false := by simp [hv0]
        replace hv0 := hide hv0
        by_cases hN0 : o.N = 0
        · have z4 : (o.N == 0) = true := by simp [hN0]
          replace hN0 := hide hN0
          go_enter Tryz.func53, Tryz.ntmps53
          go_wp2_with fail
          go_ret
          exact ⟨by rw [tB_f (fun h => by have h := (well3 (by have h := hk.out; omega)).1 h; exact hv0.out h.1.2)] <;> rfl, d1⟩
        · have z4 : (o.N == 0) = false := by simp [hN0]
          replace hN0 := hide hN0
          go_enter Tryz.func53, Tryz.ntmps53
          go_wp2_with fail
          go_ret
          exact ⟨by rw [tB_f (fun h => by have h := (well3 (by have h := hk.out; omega)).1 h; exact hv0.out h.1.2)] <;> rfl, d1⟩
    · have z1 : (o.n == 0) = false := by simp [hn0]
      have z2 : ((o.n : Int) == 0) = false := by simp; omega
      replace hn0 := hide hn0
      by_cases hv0 : o.v.toList = []
      · have z3 : o.v.toList.isEmpty = true := by simp [hv0]
        replace hv0 := hide hv0
        by_cases hN0 : o.N = 0
        · have z4 : (o.N == 0) = true := by simp [hN0]
          replace hN0 := hide hN0
          go_enter Tryz.func53, Tryz.ntmps53
          go_wp2_with fail
          go_ret
          exact ⟨by rw [tB_f (fun h => by have h := (well3 (by have h := hk.out; omega)).1 h; exact hn0.out h.1.1)] <;> rfl, d1⟩
        · have z4 : (o.N == 0) = false := by simp [hN0]
          replace hN0 := hide hN0
          go_enter Tryz.func53, Tryz.ntmps53
          go_wp2_with fail
          go_ret
          exact ⟨by rw [tB_f (fun h => by have h := (well3 (by have h := hk.out; omega)).1 h; exact hn0.out h.1.1)] <;> rfl, d1⟩
      · have z3 : o.v.toList.isEmpty = false := by simp [hv0]
        replace hv0 := hide hv0
        by_cases hN0 : o.N = 0
        · have z4 : (o.N == 0) = true := by simp [hN0]
          replace hN0 := hide hN0
          go_enter Tryz.func53, Tryz.ntmps53
          go_wp2_with fail
          go_ret
          exact ⟨by rw [tB_f (fun h => by have h := (well3 (by have h := hk.out; omega)).1 h; exact hn0.out h.1.1)] <;> rfl, d1⟩
        · have z4 : (o.N == 0) = false := by simp [hN0]
          replace hN0 := hide hN0
          go_enter Tryz.func53, Tryz.ntmps53
          go_wp2_with fail
          go_ret
          exact ⟨by rw [tB_f (fun h => by have h := (well3 (by have h := hk.out; omega)).1 h; exact hn0.out h.1.1)] <;> rfl, d1⟩
  have h5 := hk
  clear hk
  by_cases hk : o.k = 7
  · have q1 : (o.k == 1) = false := by simp; omega
    have q2 : (o.k == 2) = false := by simp; omega
    have q4 : (o.k == 4) = false := by simp; omega
    have q6 : (o.k == 6) = false := by simp; omega
    have q3 : (o.k == 3) = false := by simp; omega
    have q5 : (o.k == 5) = false := by simp; omega
    have q7 : (o.k == 7) = true := by simp; omega
    have q8 : (o.k == 8) = false := by simp; omega
    replace hk := hide hk
    by_cases hn0 : o.n = 0
    · have z1 : (o.n == 0) = true := by simp [hn0]
      have z2 : ((o.n : Int) == 0) = true := by simp [hn0]
      replace hn0 := hide hn0
      by_cases hv0 : o.v.toList = []
      · have z3 : o.v.toList.isEmpty = true := by simp [hv0]
        replace hv0 := hide hv0
        by_cases hN0 : o.N = 0
        · have z4 : (o.N == 0) = true := by simp [hN0]
          replace hN0 := hide hN0
          go_enter Tryz.func53, Tryz.ntmps53
          go_wp2_with fail
          go_ret
          exact ⟨by rw [tB_t ((well3 (by have h := hk.out; omega)).2 ⟨⟨hn0.out, hv0.out⟩, hN0.out⟩)] <;> rfl, d1⟩
        · have z4 : (o.N == 0) = false := by simp [hN0]
          replace hN0 := hide hN0
          go_enter Tryz.func53, Tryz.ntmps53
          go_wp2_with fail
          go_ret
          exact ⟨by rw [tB_f (fun h => by have h := (well3 (by have h := hk.out; omega)).1 h; exact hN0.out h.2)] <;> rfl, d1⟩
      · have z3 : o.v.toList.isEmpty = false := by simp [hv0]
        replace hv0 := hide hv0
        by_cases hN0 : o.N = 0
        · have z4 : (o.N == 0) = true := by simp [hN0]
          replace hN0 := hide hN0
          go_enter Tryz.func53, Tryz.ntmps53
          go_wp2_with fail
          go_ret
          exact ⟨by rw [tB_f (fun h => by have h := (well3 (by have h := hk.out; omega)).1 h; exact hv0.out h.1.2)] <;> rfl, d1⟩
        · have z4 : (o.N == 0) = false := by simp [hN0]
          replace hN0 := hide hN0
          go_enter Tryz.func53, Tryz.ntmps53
          go_wp2_with fail
          go_ret
          exact ⟨by rw [tB_f (fun h => by have h := (well3 (by have h := hk.out; omega)).1 h; exact hv0.out h.1.2)] <;> rfl, d1⟩
    · have z1 : (o.n == 0) = false := by simp [hn0]
      have z2 : ((o.n : Int) == 0) = false := by simp; omega
      replace hn0 := hide hn0
      by_cases hv0 : o.v.toList = []
      · have z3 : o.v.toList.isEmpty = true := by simp [hv0]
        replace hv0 := hide hv0
        by_cases hN0 : o.N = 0
        · have z4 : (o.N == 0) = true := by simp [hN0]
          replace hN0 := hide hN0
          go_enter Tryz.func53, Tryz.ntmps53
          go_wp2_with fail
          go_ret
          exact ⟨by rw [tB_f (fun h => by have h := (well3 (by have h := hk.out; omega)).1 h; exact hn0.out h.1.1)] <;> rfl, d1⟩
        · have z4 : (o.N == 0) = false := by simp [hN0]
          replace hN0 := hide hN0
          go_enter Tryz.func53, Tryz.ntmps53
          go_wp2_with fail
          go_ret
          exact ⟨by rw [tB_f (fun h => by have h := (well3 (by have h := hk.out; omega)).1 h; exact hn0.out h.1.1)] <;> rfl, d1⟩
      · have z3 : o.v.toList.isEmpty = false := by simp [hv0]
        replace hv0 := hide hv0
        by_cases hN0 : o.N = 0
        · have z4 : (o.N == 0) = true := by simp [hN0]
          replace hN0 := hide hN0
          go_enter Tryz.func53, Tryz.ntmps53
          go_wp2_with fail
          go_ret
          exact ⟨by rw [tB_f (fun h => by have h := (well3 (by have h := hk.out; omega)).1 h; exact hn0.out h.1.1)] <;> rfl, d1⟩
        · have z4 : (o.N == 0) = false := by simp [hN0]
          replace hN0 := hide hN0
          go_enter Tryz.func53, Tryz.ntmps53
          go_wp2_with fail
          go_ret
          exact ⟨by rw [tB_f (fun h => by have h := (well3 (by have h := hk.out; omega)).1 h; exact hn0.out h.1.1)] <;> rfl, d1⟩
  have h7 := hk
  clear hk
  by_cases hk : o.k = 8
  · have q1 : (o.k == 1) = false := by simp; omega
    have q2 : (o.k == 2) = false := by simp; omega
    have q4 : (o.k == 4) = false := by simp; omega
    have q6 : (o.k == 6) = false := by simp; omega
    have q3 : (o.k == 3) = false := by simp; omega
    have q5 : (o.k == 5) = false := by simp; omega
    have q7 : (o.k == 7) = false := by simp; omega
    have q8 : (o.k == 8) = true := by simp; omega
    replace hk := hide hk
    by_cases hn0 : o.n = 0
    · have z1 : (o.n == 0) = true := by simp [hn0]
      have z2 : ((o.n : Int) == 0) = true := by simp [hn0]
      replace hn0 := hide hn0
      by_cases hv0 : o.v.toList = []
      · have z3 : o.v.toList.isEmpty = true := by simp [hv0]
        replace hv0 := hide hv0
        by_cases hN0 : o.N = 0
        · have z4 : (o.N == 0) = true := by simp [hN0]
          replace hN0 := hide hN0
          go_enter Tryz.func53, Tryz.ntmps53
          go_wp2_with fail
          go_ret
          exact ⟨by rw [tB_t ((well3 (by have h := hk.out; omega)).2 ⟨⟨hn0.out, hv0.out⟩, hN0.out⟩)] <;> rfl, d1⟩
        · have z4 : (o.N == 0) = false := by simp [hN0]
          replace hN0 := hide hN0
          go_enter Tryz.func53, Tryz.ntmps53
          go_wp2_with fail
          go_ret
          exact ⟨by rw [tB_f (fun h => by have h := (well3 (by have h := hk.out; omega)).1 h; exact hN0.out h.2)] <;> rfl, d1⟩
      · have z3 : o.v.toList.isEmpty = false := by simp [hv0]
        replace hv0 := hide hv0
        by_cases hN0 : o.N = 0
        · have z4 : (o.N == 0) = true := by simp [hN0]
          replace hN0 := hide hN0
          go_enter Tryz.func53, Tryz.ntmps53
          go_wp2_with fail
          go_ret
          exact ⟨by rw [tB_f (fun h => by have h := (well3 (by have h := hk.out; omega)).1 h; exact hv0.out h.1.2)] <;> rfl, d1⟩
        · have z4 : (o.N == 0) = false := by simp [hN0]
          replace hN0 := hide hN0
          go_enter Tryz.func53, Tryz.ntmps53
          go_wp2_with fail
          go_ret
          exact ⟨by rw [tB_f (fun h => by have h := (well3 (by have h := hk.out; omega)).1 h; exact hv0.out h.1.2)] <;> rfl, d1⟩
    · have z1 : (o.n == 0) = false := by simp [hn0]
      have z2 : ((o.n : Int) == 0) = false := by simp; omega
      replace hn0 := hide hn0
      by_cases hv0 : o.v.toList = []
      · have z3 : o.v.toList.isEmpty = true := by simp [hv0]
        replace hv0 := hide hv0
        by_cases hN0 : o.N = 0
        · have z4 : (o.N == 0) = true := by simp [hN0]
          replace hN0 := hide hN0
          go_enter Tryz.func53, Tryz.ntmps53
          go_wp2_with fail
          go_ret
          exact ⟨by rw [tB_f (fun h => by have h := (well3 (by have h := hk.out; omega)).1 h; exact hn0.out h.1.1)] <;> rfl, d1⟩
        · have z4 : (o.N == 0) = false := by simp [hN0]
          replace hN0 := hide hN0
          go_enter Tryz.func53, Tryz.ntmps53
          go_wp2_with fail
          go_ret
          exact ⟨by rw [tB_f (fun h => by have h := (well3 (by have h := hk.out; omega)).1 h; exact hn0.out h.1.1)] <;> rfl, d1⟩
      · have z3 : o.v.toList.isEmpty = false := by simp [hv0]
        replace hv0 := hide hv0
        by_cases hN0 : o.N = 0
        · have z4 : (o.N == 0) = true := by simp [hN0]
          replace hN0 := hide hN0
          go_enter Tryz.func53, Tryz.ntmps53
          go_wp2_with fail
          go_ret
          exact ⟨by rw [tB_f (fun h => by have h := (well3 (by have h := hk.out; omega)).1 h; exact hn0.out h.1.1)] <;> rfl, d1⟩
        · have z4 : (o.N == 0) = false := by simp [hN0]
          replace hN0 := hide hN0
          go_enter Tryz.func53, Tryz.ntmps53
          go_wp2_with fail
          go_ret
          exact ⟨by rw [tB_f (fun h => by have h := (well3 (by have h := hk.out; omega)).1 h; exact hn0.out h.1.1)] <;> rfl, d1⟩
  have h8 := hk
  clear hk
  have hk : ¬ (1 ≤ o.k ∧ o.k ≤ 8) := by omega
  have q1 : (o.k == 1) = false := by simp; omega
  have q2 : (o.k == 2) = false := by simp; omega
  have q4 : (o.k == 4) = false := by simp; omega
  have q6 : (o.k == 6) = false := by simp; omega
  have q3 : (o.k == 3) = false := by simp; omega
  have q5 : (o.k == 5) = false := by simp; omega
  have q7 : (o.k == 7) = false := by simp; omega
  have q8 : (o.k == 8) = false := by simp; omega
  replace hk := hide hk
  clear h1
  clear h2
  clear h4
  clear h6
  clear h3
  clear h5
  clear h7
  clear h8
  by_cases hn0 : o.n = 0
  · have z1 : (o.n == 0) = true := by simp [hn0]
    have z2 : ((o.n : Int) == 0) = true := by simp [hn0]
    replace hn0 := hide hn0
    by_cases hv0 : o.v.toList = []
    · have z3 : o.v.toList.isEmpty = true := by simp [hv0]
      replace hv0 := hide hv0
      by_cases hN0 : o.N = 0
      · have z4 : (o.N == 0) = true := by simp [hN0]
        replace hN0 := hide hN0
        go_enter Tryz.func53, Tryz.ntmps53
        go_wp2_with fail
        go_ret
        exact ⟨by rw [tB_f (well9 hk.out)] <;> rfl, d1⟩
      · have z4 : (o.N == 0) = false := by simp [hN0]
        replace hN0 := hide hN0
        go_enter Tryz.func53, Tryz.ntmps53
        go_wp2_with fail
        go_ret
        exact ⟨by rw [tB_f (well9 hk.out)] <;> rfl, d1⟩
    · have z3 : o.v.toList.isEmpty = false := by simp [hv0]
      replace hv0 := hide hv0
      by_cases hN0 : o.N = 0
      · have z4 : (o.N == 0) = true := by simp [hN0]
        replace hN0 := hide hN0
        go_enter Tryz.func53, Tryz.ntmps53
        go_wp2_with fail
        go_ret
        exact ⟨by rw [tB_f (well9 hk.out)] <;> rfl, d1⟩
      · have z4 : (o.N == 0) = false := by simp [hN0]
        replace hN0 := hide hN0
        go_enter Tryz.func53, Tryz.ntmps53
        go_wp2_with fail
        go_ret
        exact ⟨by rw [tB_f (well9 hk.out)] <;> rfl, d1⟩
  · have z1 : (o.n == 0) = false := by simp [hn0]
    have z2 : ((o.n : Int) == 0) = false := by simp; omega
    replace hn0 := hide hn0
    by_cases hv0 : o.v.toList = []
    · have z3 : o.v.toList.isEmpty = true := by simp [hv0]
      replace hv0 := hide hv0
      by_cases hN0 : o.N = 0
      · have z4 : (o.N == 0) = true := by simp [hN0]
        replace hN0 := hide hN0
        go_enter Tryz.func53, Tryz.ntmps53
        go_wp2_with fail
        go_ret
        exact ⟨by rw [tB_f (well9 hk.out)] <;> rfl, d1⟩
      · have z4 : (o.N == 0) = false := by simp [hN0]
        replace hN0 := hide hN0
        go_enter Tryz.func53, Tryz.ntmps53
        go_wp2_with fail
        go_ret
        exact ⟨by rw [tB_f (well9 hk.out)] <;> rfl, d1⟩
    · have z3 : o.v.toList.isEmpty = false := by simp [hv0]
      replace hv0 := hide hv0
      by_cases hN0 : o.N = 0
      · have z4 : (o.N == 0) = true := by simp [hN0]
        replace hN0 := hide hN0
        go_enter Tryz.func53, Tryz.ntmps53
        go_wp2_with fail
        go_ret
        exact ⟨by rw [tB_f (well9 hk.out)] <;> rfl, d1⟩
      · have z4 : (o.N == 0) = false := by simp [hN0]
        replace hN0 := hide hN0
        go_enter Tryz.func53, Tryz.ntmps53
        go_wp2_with fail
        go_ret
        exact ⟨by rw [tB_f (well9 hk.out)] <;> rfl, d1⟩
end Go.Proofs.YtnficndeblkjhaaGreatDoor
