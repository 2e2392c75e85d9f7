/- Lists of lists of whole numbers in memory, and what the laws do with them: their size, a copy, a comparison. -/
import Derived.Test.YtelehmkmdbhcfaaOff8
import Derived.Lib.QuietBelow
namespace Go.Proofs.Ytelehmkmdbhcfaa
open Go.RowKit

/-- A list of numbers. -/
structure Lc where
  n : Nat
  f : Nat → Int
def lc0 : Lc := ⟨0, fun _ => 0⟩
/-- m lists at a. -/
def RowLL (a : Option Addr) (m : Nat) (T : Nat → Lc) (w : World) : Prop := ∀ i, i < m → ∃ (b off : Nat) (a0 : Option Addr) (c0 : Nat), a = some ⟨b, off, none⟩ ∧ b < w.heap.size ∧ w.cell? ⟨b, off + i, none⟩ = some (.slice a0 (T i).n c0) ∧ RowInt a0 (T i).n (T i).f w
theorem RowLL.below {a : Option Addr} {m : Nat} {T : Nat → Lc} {w w' : World} (h : RowLL a m T w) (k : Below w.heap.size w w') : RowLL a m T w' := by
  intro i hi
  obtain ⟨b, off, a0, c0, ha, hb, h0, ht⟩ := h i hi
  obtain ⟨hc, _⟩ := bcell k
  exact ⟨b, off, a0, c0, ha, Nat.lt_of_lt_of_le hb k.size, (hc _ _ hb).trans h0, ht.below k⟩
def LowL (m : Nat) (T : Nat → Lc) : Prop := ∀ i, i < m → (T i).n ≤ 1048576
def MaxL (m : Nat) (T : Nat → Lc) : Prop := ∀ i, i < m → (T i).n ≤ maxLen
/-- How much is in the first k lists. -/
def totL (T : Nat → Lc) : Nat → Nat
  | 0 => 0
  | k + 1 => totL T k + (T k).n
theorem totL_mono (T : Nat → Lc) {k n : Nat} (h : k ≤ n) : totL T k ≤ totL T n := by
  induction n with
  | zero => have : k = 0 := by omega
            subst this; exact Nat.le_refl _
  | succ n ih =>
    by_cases e : k = n + 1
    · subst e; exact Nat.le_refl _
    · exact Nat.le_trans (ih (by omega)) (Nat.le_add_right _ _)
theorem lowL_of {T : Nat → Lc} {n : Nat} (h : totL T n ≤ 1048576) : LowL n T := by
  intro i hi
  have h1 := totL_mono T (show i + 1 ≤ n by omega)
  have h2 : totL T (i + 1) = totL T i + (T i).n := rfl
  omega
/-- The first k lists of a copy in block c; each in a block of its own behind it, all ahead of hi. -/
def RowLO (c k : Nat) (X : Nat → Nat) (hi : Nat) (T : Nat → Lc) (w : World) : Prop := hi ≤ w.heap.size ∧ ∀ i, i < k → c < X i ∧ X i < hi ∧ (∀ j, j < i → X j < X i) ∧ c < w.heap.size ∧
  w.cell? ⟨c, i, none⟩ = some (.slice (some ⟨X i, 0, none⟩) (T i).n (T i).n) ∧ OutInt (X i) (T i).n (T i).n (T i).f w
theorem RowLO.below {c k : Nat} {X : Nat → Nat} {hi : Nat} {T : Nat → Lc} {w w' : World} (h : RowLO c k X hi T w) (b : Below w.heap.size w w') : RowLO c k X hi T w' := by
  refine ⟨Nat.le_trans h.1 b.size, fun i hi => ?_⟩
  obtain ⟨hc, _⟩ := bcell b
  obtain ⟨h1, h3, hj, h4, c0, o1⟩ := h.2 i hi
  exact ⟨h1, h3, hj, Nat.lt_of_lt_of_le h4 b.size, (hc _ _ h4).trans c0, o1.below b⟩
theorem RowLO.row {c n : Nat} {X : Nat → Nat} {hi : Nat} {T : Nat → Lc} {w : World} (h : RowLO c n X hi T w) : RowLL (some ⟨c, 0, none⟩) n T w := by
  intro i hi
  obtain ⟨h1, h3, hj, h4, c0, o1⟩ := h.2 i hi
  exact ⟨c, 0, _, _, rfl, h4, by rw [Nat.zero_add]; exact c0, o1.row⟩
theorem RowLO.set {c k : Nat} {X : Nat → Nat} {hi : Nat} {T : Nat → Lc} {w : World} (h : RowLO c k X hi T w) {q : Nat} (hq : k ≤ q) (v : Value) : RowLO c k X hi T (w.setCell ⟨c, q, none⟩ v) := by
  refine ⟨by simpa using h.1, fun i hi => ?_⟩
  obtain ⟨h1, h3, hj, h4, c0, o1⟩ := h.2 i hi
  refine ⟨h1, h3, hj, by simpa using h4, ?_, o1.other (by omega) _ _⟩
  rw [World.cell?_setCell_other _ _ _ _ (by simp <;> omega)]; exact c0
theorem RowLO.next {c n k : Nat} {X : Nat → Nat} {hi hi' : Nat} {T : Nat → Lc} {w : World} (h : RowLO c k X hi T w) (F : FreeB c n w) (hk : k < n) {x : Nat} (h1 : c < x) (h3 : hi ≤ x) (h4 : x < hi') (h5 : hi' ≤ w.heap.size)
    (o1 : OutInt x (T k).n (T k).n (T k).f w) :
    RowLO c (k + 1) (fun i => if i = k then x else X i) hi' T (w.setCell ⟨c, k, none⟩ (.slice (some ⟨x, 0, none⟩) (T k).n (T k).n)) := by
  refine ⟨by simpa using h5, fun i hi0 => ?_⟩
  by_cases e : i = k
  · subst e
    obtain ⟨⟨v0, e0⟩, _⟩ := F.2 i (by omega)
    have hF := F.1
    clear F
    have hjj : ∀ j, j < i → (if j = i then x else X j) < x := by
      intro j hj
      rw [if_neg (by omega)]
      have := (h.2 j hj).2.1
      omega
    simp only [if_true]
    refine ⟨h1, h4, hjj, by simpa using hF, ?_, o1.other (by omega) _ _⟩
    simp [go_sem, e0]
  · have hq := (h.set (q := k) (Nat.le_refl _) (.slice (some ⟨x, 0, none⟩) (T k).n (T k).n)).2 i (by omega)
    obtain ⟨g1, g3, gj, g4, rest⟩ := hq
    simp only [if_neg e]
    refine ⟨g1, by omega, fun j hj => ?_, g4, rest⟩
    rw [if_neg (by omega)]
    exact gj j hj
theorem RowLO.other {c k : Nat} {X : Nat → Nat} {hi : Nat} {T : Nat → Lc} {w : World} (h : RowLO c k X hi T w) {d : Nat} (hd : d < c) (o : Nat) (v : Value) : RowLO c k X hi T (w.setCell ⟨d, o, none⟩ v) := by
  refine ⟨by simpa using h.1, fun i hi => ?_⟩
  obtain ⟨h1, h3, hj, h4, c0, o1⟩ := h.2 i hi
  refine ⟨h1, h3, hj, by simpa using h4, ?_, o1.other (by omega) _ _⟩
  rw [World.cell?_setCell_other _ _ _ _ (by simp <;> omega)]; exact c0
theorem RowLO.hi {c k : Nat} {X : Nat → Nat} {hi hi' : Nat} {T : Nat → Lc} {w : World} (h : RowLO c k X hi T w) (e : hi' = hi) : RowLO c k X hi' T w := e ▸ h
theorem FreeB.other {c n : Nat} {w : World} (h : FreeB c n w) {d : Nat} (hd : c ≠ d) (j : Nat) (x : Value) : FreeB c n (w.setCell ⟨d, j, none⟩ x) := by
  refine ⟨by simpa using h.1, fun q hq => ?_⟩
  obtain ⟨⟨v, hv⟩, hz⟩ := h.2 q hq
  exact ⟨⟨v, by rw [World.cell?_setCell_other _ _ _ _ (by simp <;> omega)]; exact hv⟩, by simpa [go_sem] using hz⟩
set_option maxRecDepth 100000 in
set_option maxHeartbeats 1600000 in
theorem w_szIntSS (a : Option Addr) (n c : Nat) (T : Nat → Lc) (m : Int) (w : World) (hn : n ≤ maxLen) (hx : MaxL n T) (hm : m ≤ 1048576) (hm0 : 0 ≤ m) (hR : RowLL a n T w) :
    Calls Try.prog 17 #[.slice a n c, .int .i64 m] w fun e w' => e = .returned (.int .i64 (if (n : Int) + (totL T n : Int) ≤ m then m - (n : Int) - (totL T n : Int) else -1)) ∧ Below w.heap.size w w' := by
  unfold maxLen at hn
  generalize hRv : (if (n : Int) + (totL T n : Int) ≤ m then m - (n : Int) - (totL T n : Int) else -1) = R
  have hY : Hid ((n : Int) + (totL T n : Int) ≤ m → R = m - (n : Int) - (totL T n : Int)) := fun h => by rw [← hRv, if_pos h]
  have hN0 : Hid (¬ (n : Int) + (totL T n : Int) ≤ m → R = -1) := fun h => by rw [← hRv, if_neg h]
  clear hRv
  by_cases h0 : (n : Int) ≤ m
  · have q0 : ¬ (m - (n : Int) < 0) := by omega
    go_enter Try.func17, Try.ntmps17
    go_wp2_with fail
    go_loopw [1, 5] (fun x y wr => ∃ k : Nat, x = .int .i64 (m - (n : Int) - (totL T k : Int)) ∧ y = .int .i64 k ∧ k ≤ n ∧ (n : Int) + (totL T k : Int) ≤ m ∧ Below w.heap.size w wr) (fun _ y _ => n - (intOf y).toNat)
    case atStart => exact ⟨0, by simp [totL], rfl, Nat.zero_le _, by simp [totL]; omega, Below.refl _ _⟩
    case round =>
      obtain ⟨k, rfl, rfl, hk, hle, hb⟩ := hrel
      by_cases hlt : k < n
      · obtain ⟨b, off, a0, c0, rfl, hbw, u0, _⟩ := hR k hlt
        replace u0 := (hb.cell (p := ⟨b, off + k, none⟩) hbw).trans u0
        have hlt' : (k : Int) < (n : Int) := by omega
        have l1 := hx k hlt
        have ST := hide (fun w => w_szIntS a0 (T k).n c0 (m - (n : Int) - (totL T k : Int)) w l1 (by omega) (by omega))
        have hs : Hid (totL T (k + 1) = totL T k + (T k).n) := rfl
        have hmo := hide (totL_mono T (show k + 1 ≤ n by omega))
        generalize totL T k = tk at *
        generalize (T k).n = t at *
        by_cases e : (t : Int) ≤ m - (n : Int) - (tk : Int)
        · rw [if_pos e] at ST
          have q1 : ¬ (m - (n : Int) - (tk : Int) - (t : Int) < 0) := by omega
          have hN : Hid (m - (n : Int) - (tk : Int) - (t : Int) = m - (n : Int) - (totL T (k + 1) : Int) ∧ (n : Int) + (totL T (k + 1) : Int) ≤ m) := by
            have := hs.out
            exact ⟨by omega, by omega⟩
          clear hs hmo l1 e
          go_wp2_with fail
          refine (ST.out _).mono ?_
          rintro e w3 ⟨rfl, hw3⟩
          rw [hw3]; clear hw3 w3
          go_wp2_with fail
          exact ⟨⟨k + 1, by rw [hN.out.1], by go_num, by omega, hN.out.2, hb⟩, by simp [intOf]; omega⟩
        · rw [if_neg e] at ST
          have hE := hide (hN0.out (by have h1 := hs.out; have h2 := hmo.out; omega))
          clear hs hmo l1 e
          go_wp2_with fail
          refine (ST.out _).mono ?_
          rintro e w3 ⟨rfl, hw3⟩
          rw [hw3]; clear hw3 w3
          go_wp2_with fail
          go_ret
          exact ⟨by rw [hE.out]; rfl, hb⟩
      · have hlt' : ¬ (k : Int) < (n : Int) := by omega
        obtain rfl : k = n := by omega
        have hE := hide (hY.out hle)
        go_wp2_with fail
        go_ret
        exact ⟨by rw [hE.out]; rfl, hb⟩
  · have q0 : m - (n : Int) < 0 := by omega
    have hE := hide (hN0.out (by omega))
    go_enter Try.func17, Try.ntmps17
    go_wp2_with fail
    go_ret
    exact ⟨by rw [hE.out]; rfl, Below.refl _ _⟩
set_option maxRecDepth 100000 in
set_option maxHeartbeats 3200000 in
theorem w_eqIntSS (a a' : Option Addr) (n c c' : Nat) (T : Nat → Lc) (w : World) (hn : n ≤ 1048576) (hl : LowL n T) (hR : RowLL a n T w) (hQ : RowLL a' n T w) :
    Calls Try.prog 30 #[.slice a n c, .slice a' n c'] w fun e w' => e = .returned (.bool true) ∧ Below w.heap.size w w' := by
  have hne : ((n : Int) != (n : Int)) = false := by simp
  go_enter Try.func30, Try.ntmps30
  go_wp2_with fail
  go_loopw [5] (fun i wr => ∃ k : Nat, k ≤ n ∧ i = .int .i64 k ∧ Below w.heap.size w wr) (fun i _ => n - (intOf i).toNat)
  case atStart => exact ⟨0, Nat.zero_le _, rfl, Below.refl _ _⟩
  case round =>
    obtain ⟨k, hk, rfl, hb⟩ := hrel
    by_cases hlt : k < n
    · obtain ⟨b, off, a0, c0, rfl, hbw, u0, ht⟩ := hR k hlt
      obtain ⟨b', off', d0, e0, rfl, hbw', v0, hu⟩ := hQ k hlt
      replace u0 := cell_regrown ((hb.cell (p := ⟨b, off + k, none⟩) hbw).trans u0)
      replace v0 := cell_regrown ((hb.cell (p := ⟨b', off' + k, none⟩) hbw').trans v0)
      have hlt' : (k : Int) < (n : Int) := by omega
      have l1 := hl k hlt
      have E := hide (fun w hT hU => w_eqIntS a0 d0 (T k).n c0 e0 (T k).f w (by omega) hT hU)
      have hT := hide (ht.below hb)
      have hU := hide (hu.below hb)
      clear hR hQ l1 ht hu
      generalize T k = t at *
      go_wp2_with fail
      refine wp_region_quiet_below (by kernel_rfl) (by kernel_rfl) ?_
      repeat (first | go_big_quiet_step (((go_at_call 10; exact Calls.regrown_of (E.out _ (hT.out.below (below_regrown _ _ _)) (hU.out.below (below_regrown _ _ _)))))) | quiet_step (((go_at_call 10; exact Calls.regrown_of (E.out _ (hT.out.below (below_regrown _ _ _)) (hU.out.below (below_regrown _ _ _)))))))
      refine wpQuiet_nil ?_
      intro _ hw'
      obtain ⟨⟨dq, osq⟩, hw''⟩ := hw'
      subst hw''
      have hq := below_regrown wr dq osq
      generalize Go.Sort.grow (redrawn wr dq) osq = wq at hq ⊢
      have hbq := hb.trans (hq.mono hb.size)
      clear hq u0 v0
      go_wp2_with fail
      exact ⟨⟨k + 1, by omega, by go_num, hbq⟩, by simp [intOf]; omega⟩
    · have hlt' : ¬ (k : Int) < (n : Int) := by omega
      go_wp2_with fail
      go_ret
      exact ⟨rfl, hb⟩
set_option maxRecDepth 100000 in
set_option maxHeartbeats 3200000 in
theorem w_toIntSS (a : Option Addr) (n c : Nat) (T : Nat → Lc) (w : World) (hn : n ≤ 1048576) (hl : LowL n T) (hR : RowLL a n T w) :
    Calls Try.prog 22 #[.slice a n c] w fun e w' => e = .returned (.slice (some ⟨w.heap.size, 0, none⟩) n n) ∧ (∃ X, RowLO w.heap.size n X w'.heap.size T w') ∧ FreeB w.heap.size n w' ∧ Below w.heap.size w w' := by
  have hinfo : (Try.prog.info? 28).map (fun i => (i.zero, i.size, i.bytes)) = some (some (.slice none 0 0), 1, 24) := by kernel_rfl
  obtain ⟨i, hi, hzz⟩ := Option.map_eq_some_iff.1 hinfo
  simp only [Prod.mk.injEq] at hzz
  obtain ⟨hz, hsz, hby⟩ := hzz
  have hmk := fun w : World => run_make (P := Try.prog) w 22 28 i _ Try.underlying22 hi hz .i64 .i64 (n : Int) (n : Int) (by omega) (by omega) (by rw [hby]; omega) (by omega)
  rw [hsz] at hmk
  clear hi hz hsz hby hinfo
  simp only [Int.toNat_natCast, Nat.mul_one, Value.cells] at hmk
  go_enter Try.func22, Try.ntmps22
  go_wp2_with fail
  clear hmk
  go_loopw [4] (fun y wr => ∃ k : Nat, y = .int .i64 k ∧ k ≤ n ∧ (∃ X, RowLO w.heap.size k X wr.heap.size T wr) ∧ FreeB w.heap.size n wr ∧ Below w.heap.size w wr) (fun y _ => n - (intOf y).toNat)
  case atStart => exact ⟨0, rfl, Nat.zero_le _, ⟨fun _ => 0, Nat.le_refl _, fun i hi => absurd hi (by omega)⟩, by
    have h := FreeB.new w (madeCells #[.slice none 0 0] n) 28
    simpa [madeCells] using h, below_box (Below.refl _ _)⟩
  case round =>
    obtain ⟨k, rfl, hk, ⟨X, RT⟩, FC, hb⟩ := hrel
    by_cases hlt : k < n
    · obtain ⟨b, off, a0, c0, rfl, hbw, u0, ht⟩ := hR k hlt
      replace u0 := (hb.cell (p := ⟨b, off + k, none⟩) hbw).trans u0
      have hlt' : (k : Int) < (n : Int) := by omega
      have l1 := hl k hlt
      have TT := hide (fun w hT => w_toIntS a0 (T k).n c0 (T k).f w l1 hT)
      have hT := hide (ht.below hb)
      have hRT := hide RT
      have hFC := hide FC
      clear l1 ht hR RT FC
      go_wp2_with fail
      refine (TT.out _ hT.out).mono ?_
      rintro e w3 ⟨rfl, b3, o1⟩
      have lt0 := hFC.out.1
      have FC := hFC.out.below b3
      have RT := hide (hRT.out.below b3)
      have d3 := hb.trans (b3.mono hb.size)
      have ly := o1.1
      obtain ⟨⟨p0, e0⟩, g0⟩ := FC.2 k (by omega)
      have hN := hide (RT.out.next (hi' := w3.heap.size) FC hlt lt0 (Nat.le_refl _) ly (Nat.le_refl _) o1)
      have hF := hide (FC.set k (.slice (some ⟨wr.heap.size, 0, none⟩) (T k).n (T k).n))
      clear b3 hRT hFC RT FC hb
      go_wp2_with fail
      exact ⟨⟨k + 1, by go_num, by omega, ⟨_, by simpa using hN.out⟩, hF.out, d3.setCell (Nat.le_refl _) _⟩, by simp [intOf]; omega⟩
    · have hlt' : ¬ (k : Int) < (n : Int) := by omega
      obtain rfl : k = n := by omega
      go_wp2_with fail
      go_ret
      exact ⟨rfl, ⟨X, RT⟩, FC, hb⟩
set_option maxRecDepth 100000 in
set_option maxHeartbeats 800000 in
theorem w_szAlgebra (W : Int) (a : Option Addr) (n c : Nat) (T : Nat → Lc) (m : Int) (w : World) (hn : n ≤ maxLen) (hx : MaxL n T) (hm : m ≤ 1048576) (hm0 : 0 ≤ m) (hR : RowLL a n T w) :
    Calls Try.prog 4 #[.agg #[.int .i64 W, .slice a n c], .int .i64 m] w fun e w' => e = .returned (.int .i64 (if (n : Int) + (totL T n : Int) ≤ m then m - (n : Int) - (totL T n : Int) else -1)) ∧ Below w.heap.size w w' := by
  have s0 := hide (fun w R => w_szIntSS a n c T m w hn hx hm hm0 R)
  have R1 := hR.below (below_box (o := .cells #[.int .i64 W, .slice a n c] 24) (Below.refl _ _))
  by_cases e0 : (n : Int) + (totL T n : Int) ≤ m
  · rw [if_pos e0] at s0
    rw [if_pos e0]
    have q0 : ¬ (m - (n : Int) - (totL T n : Int) < 0) := by omega
    clear e0 hn hx hm hm0 hR
    go_enter Try.func4, Try.ntmps4
    go_wp2_with fail
    refine (s0.out _ R1).mono ?_
    rintro e w1 ⟨rfl, b1⟩
    go_wp2_with fail
    go_ret
    exact ⟨rfl, below_box b1⟩
  · rw [if_neg e0] at s0
    rw [if_neg e0]
    clear e0 hn hx hm hm0 hR
    go_enter Try.func4, Try.ntmps4
    go_wp2_with fail
    refine (s0.out _ R1).mono ?_
    rintro e w1 ⟨rfl, b1⟩
    go_wp2_with fail
    go_ret
    exact ⟨rfl, below_box b1⟩
set_option maxRecDepth 100000 in
set_option maxHeartbeats 1600000 in
theorem w_eqAlgebra (W : Int) (a a' : Option Addr) (n c c' : Nat) (T : Nat → Lc) (w : World) (hn : n ≤ 1048576) (hl : LowL n T) (hR : RowLL a n T w) (hQ : RowLL a' n T w) :
    Calls Try.prog 11 #[.agg #[.int .i64 W, .slice a n c], .agg #[.int .i64 W, .slice a' n c']] w fun e w' => e = .returned (.bool true) ∧ Below w.heap.size w w' := by
  have s1 := hide (fun w R Q => w_eqIntSS a a' n c c' T w hn hl R Q)
  have k0 : (W != W) = false := by simp
  clear hn hl
  have d0 : Below w.heap.size w ((w.alloc (.cells #[.int .i64 W, .slice a n c] 31)).alloc (.cells #[.int .i64 W, .slice a' n c'] 31)) := below_box2 (Below.refl _ _)
  go_enter Try.func11, Try.ntmps11
  go_wp2_with fail
  refine (s1.out _ (hR.below d0) (hQ.below d0)).mono ?_
  rintro e w3 ⟨rfl, hb3⟩
  have d3 := d0.trans (hb3.mono d0.size)
  go_wp2_with fail
  go_ret
  exact ⟨rfl, d3⟩
set_option maxRecDepth 100000 in
set_option maxHeartbeats 1600000 in
theorem w_toAlgebra (W : Int) (a : Option Addr) (n c : Nat) (T : Nat → Lc) (w : World) (hn : n ≤ 1048576) (hl : LowL n T) (hR : RowLL a n T w) :
    Calls Try.prog 7 #[.agg #[.int .i64 W, .slice a n c]] w fun e w' => ∃ q, e = .returned (.agg #[.int .i64 W, .slice (some ⟨q, 0, none⟩) n n]) ∧ w.heap.size ≤ q ∧ (∃ X, RowLO q n X w'.heap.size T w') ∧ FreeB q n w' ∧ Below w.heap.size w w' := by
  have s1 := hide (fun w R => w_toIntSS a n c T w hn hl R)
  clear hn hl
  go_enter Try.func7, Try.ntmps7
  go_wp2_with fail
  have M1 := (Mut.new (w.alloc (.cells #[.int .i64 W, .slice a n c] 24)) #[.int .i64 0, .slice none 0 0] 31).alloc (.cells #[.int .i64 W, .slice none 0 0] 31)
  have M2 := Mut.new ((w.alloc (.cells #[.int .i64 W, .slice a n c] 24)).alloc (.cells #[.int .i64 0, .slice none 0 0] 31)) #[.int .i64 W, .slice none 0 0] 31
  have d2 : Below w.heap.size w (((w.alloc (.cells #[.int .i64 W, .slice a n c] 24)).alloc (.cells #[.int .i64 0, .slice none 0 0] 31)).alloc (.cells #[.int .i64 W, .slice none 0 0] 31)) := below_box3 (Below.refl _ _)
  simp only [World.size_alloc] at M1 M2
  generalize ((w.alloc (.cells #[.int .i64 W, .slice a n c] 24)).alloc (.cells #[.int .i64 0, .slice none 0 0] 31)).alloc (.cells #[.int .i64 W, .slice none 0 0] 31) = w3 at *
  refine (s1.out _ (hR.below d2)).mono ?_
  rintro e w4 ⟨rfl, ⟨X, o1⟩, F1, hb4⟩
  have hlt := M2.1
  have M1 := M1.below hb4
  have M2 := M2.below hb4
  have d3 := d2.trans (hb4.mono d2.size)
  have hle := d2.size
  clear hb4 d2
  have v0 := M2.2.1 0 _ rfl
  have x0 := M2.2.2 0 (by simp)
  have y0 := M1.2.1 0 _ rfl
  have f0 := M1.2.2 0 (by simp)
  have v1 := M2.2.1 1 _ rfl
  have x1 := M2.2.2 1 (by simp)
  have y1 := M1.2.1 1 _ rfl
  have f1 := M1.2.2 1 (by simp)
  clear M1 M2
  go_wp2_with fail
  exact bodyPost_ret (v := .agg #[.int .i64 W, .slice (some ⟨w3.heap.size, 0, none⟩) n n]) (by simp [results, Try.results7, go_sem, *]) rfl ⟨_, rfl, by omega, ⟨X, by
    refine RowLO.hi (RowLO.other (RowLO.other (RowLO.other o1 ?_ _ _) ?_ _ _) ?_ _ _) (by simp) <;> omega⟩, by
    refine FreeB.other (FreeB.other (FreeB.other F1 ?_ _ _) ?_ _ _) ?_ _ _ <;> omega, by
    refine Below.setCell (Below.setCell (Below.setCell d3 ?_ _) ?_ _) ?_ _ <;> (simp; try omega)⟩
end Go.Proofs.Ytelehmkmdbhcfaa
