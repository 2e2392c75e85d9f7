/- Lists of lists of whole numbers in memory, and what the laws do with them: their size, a copy, a comparison. -/
import Derived.Test.YtlhdeeihpaogkaaOff8
import Derived.Lib.QuietBelow
namespace Go.Proofs.Ytlhdeeihpaogkaa
open Go.RowKit

/-- A list of numbers. -/
structure Lc where
  n : Nat
  f : Nat → Int
def lc0 : Lc := ⟨0, fun _ => 0⟩
/-- m lists at a. -/
def RowLL (a : Option Addr) (m : Nat) (T : Nat → Lc) (w : World) : Prop := ∀ i, i < m → ∃ (b off : Nat) (a0 : Option Addr) (c0 : Nat), a = some ⟨b, off, none⟩ ∧ b < w.heap.size ∧ w.cell? ⟨b, off + i, none⟩ = some (.slice a0 (T i).n c0) ∧ RowInt a0 (T i).n (T i).f w
theorem RowLL.below {a : Option Addr} {m : Nat} {T : Nat → Lc} {w w' : World} (h : RowLL a m T w) (k : Below w.heap.size w w') : RowLL a m T w' := by
  intro i hi
  obtain ⟨b, off, a0, c0, ha, hb, h0, ht⟩ := h i hi
  obtain ⟨hc, _⟩ := bcell k
  exact ⟨b, off, a0, c0, ha, Nat.lt_of_lt_of_le hb k.size, (hc _ _ hb).trans h0, ht.below k⟩
def LowL (m : Nat) (T : Nat → Lc) : Prop := ∀ i, i < m → (T i).n ≤ 1048576
def MaxL (m : Nat) (T : Nat → Lc) : Prop := ∀ i, i < m → (T i).n ≤ maxLen
/-- How much is in the first k lists. -/
def totL (T : Nat → Lc) : Nat → Nat
  | 0 => 0
  | k + 1 => totL T k + (T k).n
theorem totL_mono (T : Nat → Lc) {k n : Nat} (h : k ≤ n) : totL T k ≤ totL T n := by
  induction n with
  | zero => have : k = 0 := by omega
            subst this; exact Nat.le_refl _
  | succ n ih =>
    by_cases e : k = n + 1
    · subst e; exact Nat.le_refl _
    · exact Nat.le_trans (ih (by omega)) (Nat.le_add_right _ _)
theorem lowL_of {T : Nat → Lc} {n : Nat} (h : totL T n ≤ 1048576) : LowL n T := by
  intro i hi
  have h1 := totL_mono T (show i + 1 ≤ n by omega)
  have h2 : totL T (i + 1) = totL T i + (T i).n := rfl
  omega
/-- The first k lists of a copy in block c; each in a block of its own behind it, all ahead of hi. -/
def RowLO (c k : Nat) (X : Nat → Nat) (hi : Nat) (T : Nat → Lc) (w : World) : Prop := hi ≤ w.heap.size ∧ ∀ i, i < k → c < X i ∧ X i < hi ∧ (∀ j, j < i → X j < X i) ∧ c < w.heap.size ∧
  w.cell? ⟨c, i, none⟩ = some (.slice (some ⟨X i, 0, none⟩) (T i).n (T i).n) ∧ OutInt (X i) (T i).n (T i).n (T i).f w
theorem RowLO.below {c k : Nat} {X : Nat → Nat} {hi : Nat} {T : Nat → Lc} {w w' : World} (h : RowLO c k X hi T w) (b : Below w.heap.size w w') : RowLO c k X hi T w' := by
  refine ⟨Nat.le_trans h.1 b.size, fun i hi => ?_⟩
  obtain ⟨hc, _⟩ := bcell b
  obtain ⟨h1, h3, hj, h4, c0, o1⟩ := h.2 i hi
  exact ⟨h1, h3, hj, Nat.lt_of_lt_of_le h4 b.size, (hc _ _ h4).trans c0, o1.below b⟩
theorem RowLO.row {c n : Nat} {X : Nat → Nat} {hi : Nat} {T : Nat → Lc} {w : World} (h : RowLO c n X hi T w) : RowLL (some ⟨c, 0, none⟩) n T w := by
  intro i hi
  obtain ⟨h1, h3, hj, h4, c0, o1⟩ := h.2 i hi
  exact ⟨c, 0, _, _, rfl, h4, by rw [Nat.zero_add]; exact c0, o1.row⟩
theorem RowLO.set {c k : Nat} {X : Nat → Nat} {hi : Nat} {T : Nat → Lc} {w : World} (h : RowLO c k X hi T w) {q : Nat} (hq : k ≤ q) (v : Value) : RowLO c k X hi T (w.setCell ⟨c, q, none⟩ v) := by
  refine ⟨by simpa using h.1, fun i hi => ?_⟩
  obtain ⟨h1, h3, hj, h4, c0, o1⟩ := h.2 i hi
  refine ⟨h1, h3, hj, by simpa using h4, ?_, o1.other (by omega) _ _⟩
  rw [World.cell?_setCell_other _ _ _ _ (by simp <;> omega)]; exact c0
theorem RowLO.next {c n k : Nat} {X : Nat → Nat} {hi hi' : Nat} {T : Nat → Lc} {w : World} (h : RowLO c k X hi T w) (F : FreeB c n w) (hk : k < n) {x : Nat} (h1 : c < x) (h3 : hi ≤ x) (h4 : x < hi') (h5 : hi' ≤ w.heap.size)
    (o1 : OutInt x (T k).n (T k).n (T k).f w) :
    RowLO c (k + 1) (fun i => if i = k then x else X i) hi' T (w.setCell ⟨c, k, none⟩ (.slice (some ⟨x, 0, none⟩) (T k).n (T k).n)) := by
  refine ⟨by simpa using h5, fun i hi0 => ?_⟩
  by_cases e : i = k
  · subst e
    obtain ⟨⟨v0, e0⟩, _⟩ := F.2 i (by omega)
    have hF := F.1
    clear F
    have hjj : ∀ j, j < i → (if j = i then x else X j) < x := by
      intro j hj
      rw [if_neg (by omega)]
      have := (h.2 j hj).2.1
      omega
    simp only [if_true]
    refine ⟨h1, h4, hjj, by simpa using hF, ?_, o1.other (by omega) _ _⟩
    simp [go_sem, e0]
  · have hq := (h.set (q := k) (Nat.le_refl _) (.slice (some ⟨x, 0, none⟩) (T k).n (T k).n)).2 i (by omega)
    obtain ⟨g1, g3, gj, g4, rest⟩ := hq
    simp only [if_neg e]
    refine ⟨g1, by omega, fun j hj => ?_, g4, rest⟩
    rw [if_neg (by omega)]
    exact gj j hj
theorem RowLO.other {c k : Nat} {X : Nat → Nat} {hi : Nat} {T : Nat → Lc} {w : World} (h : RowLO c k X hi T w) {d : Nat} (hd : d < c) (o : Nat) (v : Value) : RowLO c k X hi T (w.setCell ⟨d, o, none⟩ v) := by
  refine ⟨by simpa using h.1, fun i hi => ?_⟩
  obtain ⟨h1, h3, hj, h4, c0, o1⟩ := h.2 i hi
  refine ⟨h1, h3, hj, by simpa using h4, ?_, o1.other (by omega) _ _⟩
  rw [World.cell?_setCell_other _ _ _ _ (by simp <;> omega)]; exact c0
theorem RowLO.hi {c k : Nat} {X : Nat → Nat} {hi hi' : Nat} {T : Nat → Lc} {w : World} (h : RowLO c k X hi T w) (e : hi' = hi) : RowLO c k X hi' T w := e ▸ h
theorem FreeB.other {c n : Nat} {w : World} (h : FreeB c n w) {d : Nat} (hd : c ≠ d) (j : Nat) (x : Value) : FreeB c n (w.setCell ⟨d, j, none⟩ x) := by
  refine ⟨by simpa using h.1, fun q hq => ?_⟩
  obtain ⟨⟨v, hv⟩, hz⟩ := h.2 q hq
  exact ⟨⟨v, by rw [World.cell?_setCell_other _ _ _ _ (by simp <;> omega)]; exact hv⟩, by simpa [go_sem] using hz⟩
set_option maxRecDepth 100000 in
set_option maxHeartbeats 3200000 in
theorem w_eqIntSS (a a' : Option Addr) (n c c' : Nat) (T : Nat → Lc) (w : World) (hn : n ≤ 1048576) (hl : LowL n T) (hR : RowLL a n T w) (hQ : RowLL a' n T w) :
    Calls Try.prog 17 #[.slice a n c, .slice a' n c'] w fun e w' => e = .returned (.bool true) ∧ Below w.heap.size w w' := by
  have hne : ((n : Int) != (n : Int)) = false := by simp
  go_enter Try.func17, Try.ntmps17
  go_wp2_with fail
  go_loopw [5] (fun i wr => ∃ k : Nat, k ≤ n ∧ i = .int .i64 k ∧ Below w.heap.size w wr) (fun i _ => n - (intOf i).toNat)
  case atStart => exact ⟨0, Nat.zero_le _, rfl, Below.refl _ _⟩
  case round =>
    obtain ⟨k, hk, rfl, hb⟩ := hrel
    by_cases hlt : k < n
    · obtain ⟨b, off, a0, c0, rfl, hbw, u0, ht⟩ := hR k hlt
      obtain ⟨b', off', d0, e0, rfl, hbw', v0, hu⟩ := hQ k hlt
      replace u0 := cell_regrown ((hb.cell (p := ⟨b, off + k, none⟩) hbw).trans u0)
      replace v0 := cell_regrown ((hb.cell (p := ⟨b', off' + k, none⟩) hbw').trans v0)
      have hlt' : (k : Int) < (n : Int) := by omega
      have l1 := hl k hlt
      have E := hide (fun w hT hU => w_eqIntS a0 d0 (T k).n c0 e0 (T k).f w (by omega) hT hU)
      have hT := hide (ht.below hb)
      have hU := hide (hu.below hb)
      clear hR hQ l1 ht hu
      generalize T k = t at *
      go_wp2_with fail
      refine wp_region_quiet_below (by kernel_rfl) (by kernel_rfl) ?_
      repeat (first | go_big_quiet_step (((go_at_call 43; exact Calls.regrown_of (E.out _ (hT.out.below (below_regrown _ _ _)) (hU.out.below (below_regrown _ _ _)))))) | quiet_step (((go_at_call 43; exact Calls.regrown_of (E.out _ (hT.out.below (below_regrown _ _ _)) (hU.out.below (below_regrown _ _ _)))))))
      refine wpQuiet_nil ?_
      intro _ hw'
      obtain ⟨⟨dq, osq⟩, hw''⟩ := hw'
      subst hw''
      have hq := below_regrown wr dq osq
      generalize Go.Sort.grow (redrawn wr dq) osq = wq at hq ⊢
      have hbq := hb.trans (hq.mono hb.size)
      clear hq u0 v0
      go_wp2_with fail
      exact ⟨⟨k + 1, by omega, by go_num, hbq⟩, by simp [intOf]; omega⟩
    · have hlt' : ¬ (k : Int) < (n : Int) := by omega
      go_wp2_with fail
      go_ret
      exact ⟨rfl, hb⟩
end Go.Proofs.Ytlhdeeihpaogkaa
