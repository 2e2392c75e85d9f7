/- Problems (lists of lists of lists of numbers) in memory, and what the laws do with them: their size, a copy, a comparison. -/
import Derived.Test.YtelehmkmdbhcfaaAl9
import Derived.Test.YtelehmkmdbhcfaaMark8
namespace Go.Proofs.Ytelehmkmdbhcfaa
open Go.RowKit

/-- A node's paths. -/
structure Pl where
  n : Nat
  T : Nat → Lc
def pl0 : Pl := ⟨0, fun _ => lc0⟩
def Pl.tot (p : Pl) : Nat := p.n + totL p.T p.n
/-- m lists of paths at a. -/
def RowS3 (a : Option Addr) (m : Nat) (U : Nat → Pl) (w : World) : Prop := ∀ i, i < m → ∃ (b off : Nat) (a0 : Option Addr) (c0 : Nat), a = some ⟨b, off, none⟩ ∧ b < w.heap.size ∧ w.cell? ⟨b, off + i, none⟩ = some (.slice a0 (U i).n c0) ∧ RowLL a0 (U i).n (U i).T w
theorem RowS3.below {a : Option Addr} {m : Nat} {U : Nat → Pl} {w w' : World} (h : RowS3 a m U w) (k : Below w.heap.size w w') : RowS3 a m U w' := by
  intro i hi
  obtain ⟨b, off, a0, c0, ha, hb, h0, ht⟩ := h i hi
  obtain ⟨hc, _⟩ := bcell k
  exact ⟨b, off, a0, c0, ha, Nat.lt_of_lt_of_le hb k.size, (hc _ _ hb).trans h0, ht.below k⟩
def LowS (m : Nat) (U : Nat → Pl) : Prop := ∀ i, i < m → (U i).n ≤ 1048576 ∧ LowL (U i).n (U i).T
def MaxS (m : Nat) (U : Nat → Pl) : Prop := ∀ i, i < m → (U i).n ≤ maxLen ∧ MaxL (U i).n (U i).T
/-- How much is in the first k lists. -/
def totS (U : Nat → Pl) : Nat → Nat
  | 0 => 0
  | k + 1 => totS U k + (U k).tot
theorem totS_mono (U : Nat → Pl) {k n : Nat} (h : k ≤ n) : totS U k ≤ totS U n := by
  induction n with
  | zero => have : k = 0 := by omega
            subst this; exact Nat.le_refl _
  | succ n ih =>
    by_cases e : k = n + 1
    · subst e; exact Nat.le_refl _
    · exact Nat.le_trans (ih (by omega)) (Nat.le_add_right _ _)
theorem lowS_of {U : Nat → Pl} {n : Nat} (h : totS U n ≤ 1048576) : LowS n U := by
  intro i hi
  have h1 := totS_mono U (show i + 1 ≤ n by omega)
  have h2 : totS U (i + 1) = totS U i + (U i).tot := rfl
  have h3 : (U i).tot = (U i).n + totL (U i).T (U i).n := rfl
  exact ⟨by omega, lowL_of (by omega)⟩
theorem RowLO.onlyS {P : Nat → Prop} {c k : Nat} {X : Nat → Nat} {hi : Nat} {T : Nat → Lc} {w w' : World} (h : RowLO c k X hi T w) (b : OnlyS P w w') (hn : ∀ q, c ≤ q → q < hi → ¬ P q) : RowLO c k X hi T w' := by
  refine ⟨Nat.le_trans h.1 b.2.2.2.1, fun i hi => ?_⟩
  obtain ⟨h1, h3, hj, h4, c0, o1⟩ := h.2 i hi
  exact ⟨h1, h3, hj, Nat.lt_of_lt_of_le h4 b.2.2.2.1, (b.cell h4 (hn c (Nat.le_refl _) (by omega))).trans c0, o1.onlyS b (hn _ (by omega) h3)⟩
/-- Lists i of a copy in block c: each in a block of its own, what it holds behind it and ahead of H i. -/
def OneS (c : Nat) (X H : Nat → Nat) (hi : Nat) (U : Nat → Pl) (w : World) (i : Nat) : Prop := c < X i ∧ X i < H i ∧ H i ≤ hi ∧ (∀ j, j < i → H j ≤ X i) ∧ c < w.heap.size ∧
  w.cell? ⟨c, i, none⟩ = some (.slice (some ⟨X i, 0, none⟩) (U i).n (U i).n) ∧ ∃ Y, RowLO (X i) (U i).n Y (H i) (U i).T w
def RowSO (c k : Nat) (X H : Nat → Nat) (hi : Nat) (U : Nat → Pl) (w : World) : Prop := hi ≤ w.heap.size ∧ ∀ i, i < k → OneS c X H hi U w i
theorem OneS.below {c : Nat} {X H : Nat → Nat} {hi : Nat} {U : Nat → Pl} {w w' : World} {i : Nat} (h : OneS c X H hi U w i) (b : Below w.heap.size w w') : OneS c X H hi U w' i := by
  obtain ⟨hc, _⟩ := bcell b
  obtain ⟨h1, h2, h3, hj, h4, c0, Y, o1⟩ := h
  exact ⟨h1, h2, h3, hj, Nat.lt_of_lt_of_le h4 b.size, (hc _ _ h4).trans c0, Y, o1.below b⟩
theorem RowSO.below {c k : Nat} {X H : Nat → Nat} {hi : Nat} {U : Nat → Pl} {w w' : World} (h : RowSO c k X H hi U w) (b : Below w.heap.size w w') : RowSO c k X H hi U w' :=
  ⟨Nat.le_trans h.1 b.size, fun i hi => (h.2 i hi).below b⟩
theorem OneS.onlyS {P : Nat → Prop} {c : Nat} {X H : Nat → Nat} {hi : Nat} {U : Nat → Pl} {w w' : World} {i : Nat} (h : OneS c X H hi U w i) (b : OnlyS P w w') (hc : ¬ P c) (hn : ∀ q, X i ≤ q → q < H i → ¬ P q) : OneS c X H hi U w' i := by
  obtain ⟨h1, h2, h3, hj, h4, c0, Y, o1⟩ := h
  exact ⟨h1, h2, h3, hj, Nat.lt_of_lt_of_le h4 b.2.2.2.1, (b.cell h4 hc).trans c0, Y, o1.onlyS b hn⟩
theorem RowSO.row {c n : Nat} {X H : Nat → Nat} {hi : Nat} {U : Nat → Pl} {w : World} (h : RowSO c n X H hi U w) : RowS3 (some ⟨c, 0, none⟩) n U w := by
  intro i hi
  obtain ⟨h1, h2, h3, hj, h4, c0, Y, o1⟩ := h.2 i hi
  exact ⟨c, 0, _, _, rfl, h4, by rw [Nat.zero_add]; exact c0, o1.row⟩
theorem RowSO.set {c k : Nat} {X H : Nat → Nat} {hi : Nat} {U : Nat → Pl} {w : World} (h : RowSO c k X H hi U w) {q : Nat} (hq : k ≤ q) (v : Value) : RowSO c k X H hi U (w.setCell ⟨c, q, none⟩ v) := by
  refine ⟨by simpa using h.1, fun i hi => ?_⟩
  obtain ⟨h1, h2, h3, hj, h4, c0, Y, o1⟩ := h.2 i hi
  refine ⟨h1, h2, h3, hj, by simpa using h4, ?_, Y, o1.other (by omega) _ _⟩
  rw [World.cell?_setCell_other _ _ _ _ (by simp <;> omega)]; exact c0
theorem RowSO.next {c n k : Nat} {X H : Nat → Nat} {hi hi' : Nat} {U : Nat → Pl} {w : World} (h : RowSO c k X H hi U w) (F : FreeB c n w) (hk : k < n) {x : Nat} (h1 : c < x) (h3 : hi ≤ x) (h4 : x < hi') (h5 : hi' ≤ w.heap.size)
    {Y : Nat → Nat} (o1 : RowLO x (U k).n Y hi' (U k).T w) :
    RowSO c (k + 1) (fun i => if i = k then x else X i) (fun i => if i = k then hi' else H i) hi' U (w.setCell ⟨c, k, none⟩ (.slice (some ⟨x, 0, none⟩) (U k).n (U k).n)) := by
  refine ⟨by simpa using h5, fun i hi0 => ?_⟩
  by_cases e : i = k
  · subst e
    obtain ⟨⟨v0, e0⟩, _⟩ := F.2 i (by omega)
    have hF := F.1
    clear F
    have hjj : ∀ j, j < i → (if j = i then hi' else H j) ≤ x := by
      intro j hj
      rw [if_neg (by omega)]
      have := (h.2 j hj).2.2.1
      omega
    unfold OneS
    simp only [if_true]
    refine ⟨h1, h4, Nat.le_refl _, hjj, by simpa using hF, ?_, Y, o1.other (by omega) _ _⟩
    simp [go_sem, e0]
  · have hq := (h.set (q := k) (Nat.le_refl _) (.slice (some ⟨x, 0, none⟩) (U k).n (U k).n)).2 i (by omega)
    obtain ⟨g1, g2, g3, gj, g4, rest⟩ := hq
    unfold OneS
    simp only [if_neg e]
    refine ⟨g1, g2, by omega, fun j hj => ?_, g4, rest⟩
    rw [if_neg (by omega)]
    exact gj j hj
theorem RowSO.other {c k : Nat} {X H : Nat → Nat} {hi : Nat} {U : Nat → Pl} {w : World} (h : RowSO c k X H hi U w) {d : Nat} (hd : d < c) (o : Nat) (v : Value) : RowSO c k X H hi U (w.setCell ⟨d, o, none⟩ v) := by
  refine ⟨by simpa using h.1, fun i hi => ?_⟩
  obtain ⟨h1, h2, h3, hj, h4, c0, Y, o1⟩ := h.2 i hi
  refine ⟨h1, h2, h3, hj, by simpa using h4, ?_, Y, o1.other (by omega) _ _⟩
  rw [World.cell?_setCell_other _ _ _ _ (by simp <;> omega)]; exact c0
theorem RowSO.hi {c k : Nat} {X H : Nat → Nat} {hi hi' : Nat} {U : Nat → Pl} {w : World} (h : RowSO c k X H hi U w) (e : hi' = hi) : RowSO c k X H hi' U w := e ▸ h
set_option maxRecDepth 100000 in
set_option maxHeartbeats 1600000 in
theorem w_markIntSS (c n cap : Nat) (X : Nat → Nat) (hi : Nat) (T : Nat → Lc) (k0 : Int) (w : World) (hn : n ≤ 1048576) (hl : LowL n T) (h0 : 0 ≤ k0) (h1 : k0 + (totL T n : Int) ≤ 10000000) (hR : RowLO c n X hi T w) :
    Calls Try.prog 32 #[.slice (some ⟨c, 0, none⟩) n cap, .int .i64 k0] w fun e w' => e = .returned (.int .i64 (k0 + (totL T n : Int))) ∧ OnlyS (fun b => c < b ∧ b < hi) w w' := by
  go_enter Try.func32, Try.ntmps32
  go_wp2_with fail
  go_loopw [1, 5] (fun x y wr => ∃ k : Nat, x = .int .i64 (k0 + (totL T k : Int)) ∧ y = .int .i64 k ∧ k ≤ n ∧ Hid (∀ i, k ≤ i → i < n → c < X i ∧ X i < hi ∧ (∀ j, j < i → X j < X i) ∧ c < wr.heap.size ∧ wr.cell? ⟨c, i, none⟩ = some (.slice (some ⟨X i, 0, none⟩) (T i).n (T i).n) ∧ OutInt (X i) (T i).n (T i).n (T i).f wr) ∧ OnlyS (fun b => c < b ∧ b < hi) w wr) (fun _ y _ => n - (intOf y).toNat)
  case atStart => exact ⟨0, by simp [totL], rfl, Nat.zero_le _, fun i _ hi => hR.2 i hi, OnlyS.refl _ _⟩
  case round =>
    obtain ⟨k, rfl, rfl, hk, hall, hb⟩ := hrel
    by_cases hlt : k < n
    · obtain ⟨g1, g2, g3, g4, u0, o1⟩ := hall.out k (Nat.le_refl _) hlt
      have hlt' : (k : Int) < (n : Int) := by omega
      have hmo := totL_mono T (show k + 1 ≤ n by omega)
      have hs : totL T (k + 1) = totL T k + (T k).n := rfl
      have l1 := hl k hlt
      have MK := hide (fun w O => w_markIntS (X k) (T k).n (T k).n (T k).f (k0 + (totL T k : Int)) w (by omega) (by omega) (by omega) O)
      have hO := hide o1
      have hE : Hid (k0 + (totL T k : Int) + ((T k).n : Int) = k0 + (totL T (k + 1) : Int)) := by show _ = _; omega
      clear l1 hs hmo o1
      generalize totL T k = tk at *
      go_wp2_with fail
      refine (MK.out _ hO.out).mono ?_
      rintro e w3 ⟨rfl, b3, o3⟩
      have hN : Hid (∀ i, k + 1 ≤ i → i < n → c < X i ∧ X i < hi ∧ (∀ j, j < i → X j < X i) ∧ c < w3.heap.size ∧ w3.cell? ⟨c, i, none⟩ = some (.slice (some ⟨X i, 0, none⟩) (T i).n (T i).n) ∧ OutInt (X i) (T i).n (T i).n (T i).f w3) := by
        intro i h1 h2
        obtain ⟨f1, f2, f3, f4, f5, f6⟩ := hall.out i (by omega) h2
        have f7 := f3 k (by omega)
        exact ⟨f1, f2, f3, Nat.lt_of_lt_of_le f4 b3.2.2.2.1, (b3.cell f4 (by omega)).trans f5, f6.only b3 (by omega)⟩
      have hb3 : OnlyS (fun b => c < b ∧ b < hi) w w3 := hb.trans (OnlyS.of_only b3 ⟨g1, g2⟩)
      clear hall b3 o3 hb
      go_wp2_with fail
      exact ⟨⟨k + 1, by rw [hE.out], by go_num, by omega, hN, hb3⟩, by simp [intOf]; omega⟩
    · have hlt' : ¬ (k : Int) < (n : Int) := by omega
      obtain rfl : k = n := by omega
      go_wp2_with fail
      go_ret
      exact ⟨rfl, hb⟩
end Go.Proofs.Ytelehmkmdbhcfaa
