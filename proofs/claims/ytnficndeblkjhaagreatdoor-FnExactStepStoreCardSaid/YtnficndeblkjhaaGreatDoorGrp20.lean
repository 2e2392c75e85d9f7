/- An op as an argument: its size, a copy, whether two are one, marks. -/
import Derived.Test.YtnficndeblkjhaaGreatDoorI16y
import Derived.Test.YtnficndeblkjhaaGreatDoorS16k
import Derived.Test.YtnficndeblkjhaaGreatDoorGrp5
/- StepStore of both sides, in one form. -/
namespace Go.Proofs.YtnficndeblkjhaaGreatDoor
open Go.RowKit

/-- A store that holds nothing. -/
def sto0 : Sto := ⟨cf0, cf0, 0, fun _ => cf0, 0⟩
/-- What StepStore answers. -/
noncomputable def stA (s : Sto) (o : OpX) : Sto × Bool := if tB (GS s) && (stepX s o).2 then ((stepX s o).1, true) else (sto0, false)
theorem stA_no {s : Sto} {o : OpX} (h : ¬ GS s) : stA s o = (sto0, false) := by
  unfold stA
  rw [tB_f h]
  rfl
theorem stA_not {s : Sto} {o : OpX} (h : (stepX s o).2 = false) : stA s o = (sto0, false) := by
  unfold stA
  rw [h, Bool.and_false]
  rfl
theorem stA_yes {s : Sto} {o : OpX} (h : GS s) (k : (stepX s o).2 = true) : stA s o = ((stepX s o).1, true) := by
  unfold stA
  rw [tB_t h, k]
  rfl
theorem totF_le16 {T : Nat → Lf} {m : Nat} : ∀ {n : Nat}, (∀ i, i < n → (T i).n ≤ m) → totF T n ≤ n * m
  | 0, _ => Nat.zero_le _
  | n + 1, h => by
    have h1 := totF_le16 (T := T) (m := m) (n := n) (fun i hi => h i (by omega))
    have h2 := h n (by omega)
    show totF T n + (T n).n ≤ (n + 1) * m
    rw [Nat.succ_mul]
    omega
theorem totX_le {H : Nat → Cf} {m : Nat} : ∀ {n : Nat}, (∀ i, i < n → szc (H i) ≤ m) → totX H n ≤ n * m
  | 0, _ => Nat.zero_le _
  | n + 1, h => by
    have h1 := totX_le (H := H) (m := m) (n := n) (fun i hi => h i (by omega))
    have h2 := h n (by omega)
    show totX H n + szc (H n) ≤ (n + 1) * m
    rw [Nat.succ_mul]
    omega
theorem OkC.sz {c : Cf} (h : OkC c) : szc c ≤ 180 := by
  have h1 := totF_le16 (T := c.T) (m := 5) (n := c.n) (fun i hi => (h.2 i hi).2.1)
  have h2 := h.1
  unfold szc
  omega
theorem OkC.lowCf {c : Cf} (h : OkC c) : LowCf c := ⟨Nat.le_trans h.sz (by omega), h.low.2⟩
theorem OkS.lowSt {s : Sto} (h : OkS s) : LowSt s := by
  obtain ⟨h1, h2, _, h4, h5, _⟩ := h
  have h6 := totX_le (H := s.H) (m := 180) (n := s.h) (fun i hi => (h5 i hi).sz)
  exact ⟨h1.lowCf, h2.lowCf, by omega, fun i hi => (h5 i hi).lowCf, by omega⟩
theorem low_sto0 : LowSt sto0 := ⟨⟨Nat.zero_le _, fun _ hi => absurd hi (Nat.not_lt_zero _)⟩, ⟨Nat.zero_le _, fun _ hi => absurd hi (Nat.not_lt_zero _)⟩, Nat.zero_le _, fun _ hi => absurd hi (Nat.not_lt_zero _), Nat.zero_le _⟩
theorem low_stA (s : Sto) (o : OpX) : LowSt (stA s o).1 := by
  unfold stA
  split
  · rename_i h
    simp only [Bool.and_eq_true] at h
    by_cases hg : GS s
    · exact (stepX_ok hg.ok).lowSt
    · rw [tB_f hg] at h
      exact absurd h.1 (by simp)
  · exact low_sto0
theorem ans_sto0 (w : World) {lo hi : Nat} (h : lo ≤ hi) (k : hi ≤ w.heap.size) : AnsSt zSt sto0 lo hi w :=
  ⟨none, 0, none, 0, none, 0, lo, lo, rfl, Nat.le_refl _, Nat.le_refl _, h, k, Nat.le_refl _, ⟨fun _ hi => absurd hi (Nat.not_lt_zero _), .inl rfl⟩, ⟨fun _ hi => absurd hi (Nat.not_lt_zero _), .inl rfl⟩, ⟨k, h, .inl rfl⟩⟩
theorem i_stepStore (v : Value) (s : Sto) (o : OpX) (pa : Option Addr) (pc : Nat) (w : World) (hl : LowSt s) (hR : RowSt true v s w) (gl gr : Addr) (hG : GW gl gr w) (hP : RowStr pa o.n o.p w) (hpc : o.n ≤ pc) :
    Calls Tryz.prog 10 #[v, .agg #[.int .i64 o.k, .slice pa o.n pc, .string o.v, .int .i64 o.N]] w fun e w' => ∃ v', e = .returned (.tuple #[v', .bool (stA s o).2]) ∧ AnsSt v' (stA s o).1 w.heap.size w'.heap.size w' ∧ Below w.heap.size w w' := by
  by_cases hg : GS s
  · refine (i_stepStoreY v s o pa pc w hl hR hg gl gr hG hP hpc).mono ?_
    rintro e w' ⟨hb, ⟨h1, rfl⟩ | ⟨h1, v', rfl, h2⟩⟩
    · rw [stA_not h1]
      exact ⟨_, rfl, ans_sto0 w' hb.size (Nat.le_refl _), hb⟩
    · rw [stA_yes hg h1]
      exact ⟨_, rfl, h2, hb⟩
  · refine (i_stepStoreN v s o pa pc w hl hR hg).mono ?_
    rintro e w' ⟨rfl, hb⟩
    rw [stA_no hg]
    exact ⟨_, rfl, ans_sto0 w' hb.size (Nat.le_refl _), hb⟩
theorem s_stepStore (v : Value) (s : Sto) (o : OpX) (pa : Option Addr) (pc : Nat) (w : World) (hl : LowSt s) (hR : RowSt true v s w) (hn : o.n ≤ 1048576) (hp : ∀ i, i < o.n → (o.p i).size ≤ maxLen) (hv : o.v.size ≤ maxLen) (hQ : RowStr pa o.n o.p w) :
    Calls Tryz.prog 7 #[v, .agg #[.int .i64 o.k, .slice pa o.n pc, .string o.v, .int .i64 o.N]] w fun e w' => ∃ v', e = .returned (.tuple #[v', .bool (stA s o).2]) ∧ AnsSt v' (stA s o).1 w.heap.size w'.heap.size w' ∧ Below w.heap.size w w' := by
  by_cases hg : GS s
  · refine (s_stepStoreY v s o pa pc w hl hR hg hn hp hv hQ).mono ?_
    rintro e w' ⟨hb, ⟨h1, rfl⟩ | ⟨h1, v', rfl, h2⟩⟩
    · rw [stA_not h1]
      exact ⟨_, rfl, ans_sto0 w' hb.size (Nat.le_refl _), hb⟩
    · rw [stA_yes hg h1]
      exact ⟨_, rfl, h2, hb⟩
  · refine (s_stepStoreN v s o pa pc w hl hR hg).mono ?_
    rintro e w' ⟨rfl, hb⟩
    rw [stA_no hg]
    exact ⟨_, rfl, ans_sto0 w' hb.size (Nat.le_refl _), hb⟩
end Go.Proofs.YtnficndeblkjhaaGreatDoor

/- Commands as arguments: their size, a copy. -/
namespace Go.Proofs.YtnficndeblkjhaaGreatDoor
open Go.RowKit

/-- N commands at a; nothing is said of the room in their paths. -/
def RowCX (a : Option Addr) (N : Nat) (T : Nat → Cm15) (w : World) : Prop := ∀ i, i < N → ∃ (b off : Nat) (a0 : Option Addr) (c0 : Nat), a = some ⟨b, off, none⟩ ∧ b < w.heap.size ∧
  w.cell? ⟨b, off + i * 3, none⟩ = some (.bool (T i).s) ∧ w.cell? ⟨b, off + i * 3 + 1, none⟩ = some (.slice a0 (T i).t.n c0) ∧ w.cell? ⟨b, off + i * 3 + 2, none⟩ = some (.string (T i).t.v) ∧ RowStr a0 (T i).t.n (T i).t.p w
theorem RowCX.below {a : Option Addr} {N : Nat} {T : Nat → Cm15} {w w' : World} (h : RowCX a N T w) (k : Below w.heap.size w w') : RowCX a N T w' := by
  intro i hi
  obtain ⟨b, off, a0, c0, ha, hb, h0, h1, h2, ht⟩ := h i hi
  obtain ⟨hc, _⟩ := bcell k
  exact ⟨b, off, a0, c0, ha, Nat.lt_of_lt_of_le hb k.size, (hc _ _ hb).trans h0, (hc _ _ hb).trans h1, (hc _ _ hb).trans h2, ht.below k⟩
def LowCX (N : Nat) (T : Nat → Cm15) : Prop := ∀ i, i < N → OkF (T i).t 1048576
def MaxCX (N : Nat) (T : Nat → Cm15) : Prop := ∀ i, i < N → OkF (T i).t maxLen
/-- The first k commands of a copy in block c; each path in a block of its own behind it, all ahead of hi. -/
def RowCO (c k : Nat) (X : Nat → Nat) (hi : Nat) (T : Nat → Cm15) (w : World) : Prop := hi ≤ w.heap.size ∧ ∀ i, i < k → c < X i ∧ X i < hi ∧ (∀ j, j < i → X j < X i) ∧ c < w.heap.size ∧
  w.cell? ⟨c, i * 3, none⟩ = some (.bool (T i).s) ∧ w.cell? ⟨c, i * 3 + 1, none⟩ = some (.slice (some ⟨X i, 0, none⟩) (T i).t.n (T i).t.n) ∧ w.cell? ⟨c, i * 3 + 2, none⟩ = some (.string (T i).t.v) ∧ OutStr (X i) (T i).t.n (T i).t.n (T i).t.p w
theorem RowCO.below {c k : Nat} {X : Nat → Nat} {hi : Nat} {T : Nat → Cm15} {w w' : World} (h : RowCO c k X hi T w) (b : Below w.heap.size w w') : RowCO c k X hi T w' := by
  refine ⟨Nat.le_trans h.1 b.size, fun i hi => ?_⟩
  obtain ⟨hc, _⟩ := bcell b
  obtain ⟨h1, h3, hj, h4, c0, c1, c2, o1⟩ := h.2 i hi
  exact ⟨h1, h3, hj, Nat.lt_of_lt_of_le h4 b.size, (hc _ _ h4).trans c0, (hc _ _ h4).trans c1, (hc _ _ h4).trans c2, o1.below b⟩
theorem RowCO.row {c n : Nat} {X : Nat → Nat} {hi : Nat} {T : Nat → Cm15} {w : World} (h : RowCO c n X hi T w) : RowC (some ⟨c, 0, none⟩) n T w := by
  intro i hi
  obtain ⟨h1, h3, hj, h4, c0, c1, c2, o1⟩ := h.2 i hi
  exact ⟨c, 0, _, _, rfl, h4, by rw [Nat.zero_add]; exact c0, by rw [Nat.zero_add]; exact c1, by rw [Nat.zero_add]; exact c2, Nat.le_refl _, o1.row⟩
theorem RowCO.set {c k : Nat} {X : Nat → Nat} {hi : Nat} {T : Nat → Cm15} {w : World} (h : RowCO c k X hi T w) {q : Nat} (hq : k * 3 ≤ q) (v : Value) : RowCO c k X hi T (w.setCell ⟨c, q, none⟩ v) := by
  refine ⟨by simpa using h.1, fun i hi => ?_⟩
  obtain ⟨h1, h3, hj, h4, c0, c1, c2, o1⟩ := h.2 i hi
  refine ⟨h1, h3, hj, by simpa using h4, ?_, ?_, ?_, o1.other (by omega) _ _⟩
  · rw [World.cell?_setCell_other _ _ _ _ (by simp <;> omega)]; exact c0
  · rw [World.cell?_setCell_other _ _ _ _ (by simp <;> omega)]; exact c1
  · rw [World.cell?_setCell_other _ _ _ _ (by simp <;> omega)]; exact c2
theorem RowCO.next {c n k : Nat} {X : Nat → Nat} {hi hi' : Nat} {T : Nat → Cm15} {w : World} (h : RowCO c k X hi T w) (F : FreeC c (n * 3) w) (hk : k < n) {x : Nat} (h1 : c < x) (h3 : hi ≤ x) (h4 : x < hi') (h5 : hi' ≤ w.heap.size)
    (o1 : OutStr x (T k).t.n (T k).t.n (T k).t.p w) :
    RowCO c (k + 1) (fun i => if i = k then x else X i) hi' T (((w.setCell ⟨c, k * 3, none⟩ (.bool (T k).s)).setCell ⟨c, k * 3 + 1, none⟩ (.slice (some ⟨x, 0, none⟩) (T k).t.n (T k).t.n)).setCell ⟨c, k * 3 + 2, none⟩ (.string (T k).t.v)) := by
  refine ⟨by simpa using h5, fun i hi0 => ?_⟩
  by_cases e : i = k
  · subst e
    obtain ⟨⟨v0, e0⟩, _⟩ := F.2 (i * 3) (by omega)
    obtain ⟨⟨v1, e1⟩, _⟩ := F.2 (i * 3 + 1) (by omega)
    obtain ⟨⟨v2, e2⟩, _⟩ := F.2 (i * 3 + 2) (by omega)
    have hF := F.1
    clear F
    have hjj : ∀ j, j < i → (if j = i then x else X j) < x := by
      intro j hj
      rw [if_neg (by omega)]
      have := (h.2 j hj).2.1
      omega
    simp only [if_true]
    refine ⟨h1, h4, hjj, by simpa using hF, ?_, ?_, ?_, ((o1.other (by omega) _ _).other (by omega) _ _).other (by omega) _ _⟩
    · simp [go_sem, e0]
    · simp [go_sem, e1]
    · simp [go_sem, e2]
  · have hq := (((h.set (q := k * 3) (Nat.le_refl _) (.bool (T k).s)).set (q := k * 3 + 1) (by omega) (.slice (some ⟨x, 0, none⟩) (T k).t.n (T k).t.n)).set (q := k * 3 + 2) (by omega) (.string (T k).t.v)).2 i (by omega)
    obtain ⟨g1, g3, gj, g4, rest⟩ := hq
    simp only [if_neg e]
    refine ⟨g1, by omega, fun j hj => ?_, g4, rest⟩
    rw [if_neg (by omega)]
    exact gj j hj
theorem RowCO.other {c k : Nat} {X : Nat → Nat} {hi : Nat} {T : Nat → Cm15} {w : World} (h : RowCO c k X hi T w) {d : Nat} (hd : d < c) (o : Nat) (v : Value) : RowCO c k X hi T (w.setCell ⟨d, o, none⟩ v) := by
  refine ⟨by simpa using h.1, fun i hi => ?_⟩
  obtain ⟨h1, h3, hj, h4, c0, c1, c2, o1⟩ := h.2 i hi
  refine ⟨h1, h3, hj, by simpa using h4, ?_, ?_, ?_, o1.other (by omega) _ _⟩
  · rw [World.cell?_setCell_other _ _ _ _ (by simp <;> omega)]; exact c0
  · rw [World.cell?_setCell_other _ _ _ _ (by simp <;> omega)]; exact c1
  · rw [World.cell?_setCell_other _ _ _ _ (by simp <;> omega)]; exact c2
theorem RowCO.own {c n : Nat} {X : Nat → Nat} {hi : Nat} {T : Nat → Cm15} {w : World} (h : RowCO c n X hi T w) (F : FreeC c (n * 3) w) : RowCA c n X (fun i => (T i).t.n) T w ∧ SepF c n X ∧ ∀ k, BlkF c n X k → k = c ∨ (c < k ∧ k < hi) := by
  refine ⟨fun i hi => ?_, fun i hi => ?_, fun k hk => ?_⟩
  · obtain ⟨h1, h3, hj, h4, c0, c1, c2, o1⟩ := h.2 i hi
    refine ⟨⟨h4, fun q v hv => ?_, fun q hq => ?_⟩, Nat.le_refl _, o1⟩
    · match q, hv with
      | 0, hv => simp at hv; rw [← hv]; exact c0
      | 1, hv => simp at hv; rw [← hv]; exact c1
      | 2, hv => simp at hv; rw [← hv]; exact c2
      | q + 3, hv => simp at hv
    · simp at hq
      exact (F.2 _ (by omega)).2
  · obtain ⟨h1, h3, hj, _⟩ := h.2 i hi
    refine ⟨by omega, fun j hjn hji => ?_⟩
    obtain ⟨g1, g3, gj, _⟩ := h.2 j hjn
    rcases Nat.lt_or_gt_of_ne hji with hlt | hlt
    · have := hj j hlt
      omega
    · have := gj i hlt
      omega
  · rcases hk with rfl | ⟨i, hi, rfl⟩
    · exact Or.inl rfl
    · obtain ⟨h1, h3, _⟩ := h.2 i hi
      exact Or.inr ⟨by omega, by omega⟩
end Go.Proofs.YtnficndeblkjhaaGreatDoor

namespace Go.Proofs.YtnficndeblkjhaaGreatDoor
open Go.RowKit

set_option maxRecDepth 100000 in
set_option maxHeartbeats 800000 in
theorem w_szOp (k N : Int) (a0 : Option Addr) (n c0 : Nat) (f : Nat → ByteArray) (v : ByteArray) (m : Int) (w : World) (hn : OkF ⟨n, f, v⟩ maxLen) (h0 : 0 ≤ m) (hm : m ≤ 1048576) (hR : RowStr a0 n f w) :
    Calls Tryz.prog 6 #[.agg #[.int .i64 k, .slice a0 n c0, .string v, .int .i64 N], .int .i64 m] w fun e w' => ∃ r : Int, e = .returned (.int .i64 r) ∧ (r = -1 ∨ (0 ≤ r ∧ r + n ≤ m ∧ (∀ i, i < n → (f i).size ≤ 1048576) ∧ v.size ≤ 1048576)) ∧ Below w.heap.size w w' := by
  obtain ⟨h1, h2, h3⟩ := hn
  dsimp only at h1 h2 h3
  unfold maxLen at h3
  have s0 := hide (fun w R => w_szStrS a0 n c0 f m w h1 h0 hm R h2)
  have R1 := hR.below (below_box (o := .cells #[.int .i64 k, .slice a0 n c0, .string v, .int .i64 N] 28) (Below.refl _ _))
  have M1 := Mut.new w #[.int .i64 k, .slice a0 n c0, .string v, .int .i64 N] 28
  have d1 : Below w.heap.size w (w.alloc (.cells #[.int .i64 k, .slice a0 n c0, .string v, .int .i64 N] 28)) := below_box (Below.refl _ _)
  clear h1 h2 hR
  go_enter Tryz.func6, Tryz.ntmps6
  go_wp2_with fail
  generalize (w.alloc (.cells #[.int .i64 k, .slice a0 n c0, .string v, .int .i64 N] 28)) = w1 at *
  refine (s0.out _ R1).mono ?_
  rintro e w2 ⟨r, rfl, hr, b1⟩
  replace M1 := M1.below b1
  have u1 := M1.2.1 2 _ rfl
  have d2 := d1.trans (b1.mono d1.size)
  clear b1 d1 s0 R1
  rcases hr with rfl | ⟨r0, r1, r2⟩
  · go_wp2_with fail
    go_ret
    exact ⟨-1, rfl, Or.inl rfl, d2⟩
  · have hn0 : ¬ (r < 0) := by omega
    by_cases e : (v.size : Int) ≤ r
    · have hn1 : ¬ (r - (v.size : Int) < 0) := by omega
      go_wp2_with fail
      go_ret
      exact ⟨_, rfl, Or.inr ⟨by omega, by omega, r2, by omega⟩, d2⟩
    · have hn1 : r - (v.size : Int) < 0 := by omega
      go_wp2_with fail
      go_ret
      exact ⟨-1, rfl, Or.inl rfl, d2⟩
set_option maxRecDepth 100000 in
set_option maxHeartbeats 1600000 in
theorem w_toOp (k N : Int) (a0 : Option Addr) (n c0 : Nat) (f : Nat → ByteArray) (v : ByteArray) (w : World) (h0 : n ≤ 1048576) (R : RowStr a0 n f w) :
    Calls Tryz.prog 9 #[.agg #[.int .i64 k, .slice a0 n c0, .string v, .int .i64 N]] w fun e w' => ∃ x, e = .returned (.agg #[.int .i64 k, .slice (some ⟨x, 0, none⟩) n n, .string v, .int .i64 N]) ∧ w.heap.size ≤ x ∧ OutStr x n n f w' ∧ Below w.heap.size w w' := by
  have s1 := hide (fun w R => w_toStringS a0 n c0 f w h0 R)
  clear h0
  go_enter Tryz.func9, Tryz.ntmps9
  go_wp2_with fail
  have M0 := Mut.new w #[.int .i64 k, .slice a0 n c0, .string v, .int .i64 N] 28
  have M1 := Mut.new (w.alloc (.cells #[.int .i64 k, .slice a0 n c0, .string v, .int .i64 N] 28)) #[.int .i64 0, .slice none 0 0, .string ⟨#[]⟩, .int .i64 0] 38
  have M2 := Mut.new ((w.alloc (.cells #[.int .i64 k, .slice a0 n c0, .string v, .int .i64 N] 28)).alloc (.cells #[.int .i64 0, .slice none 0 0, .string ⟨#[]⟩, .int .i64 0] 38)) #[.int .i64 k, .slice none 0 0, .string ⟨#[]⟩, .int .i64 0] 38
  replace M0 := (M0.alloc (.cells #[.int .i64 0, .slice none 0 0, .string ⟨#[]⟩, .int .i64 0] 38)).alloc (.cells #[.int .i64 k, .slice none 0 0, .string ⟨#[]⟩, .int .i64 0] 38)
  replace M1 := M1.alloc (.cells #[.int .i64 k, .slice none 0 0, .string ⟨#[]⟩, .int .i64 0] 38)
  have d2 : Below w.heap.size w (((w.alloc (.cells #[.int .i64 k, .slice a0 n c0, .string v, .int .i64 N] 28)).alloc (.cells #[.int .i64 0, .slice none 0 0, .string ⟨#[]⟩, .int .i64 0] 38)).alloc (.cells #[.int .i64 k, .slice none 0 0, .string ⟨#[]⟩, .int .i64 0] 38)) := below_box3 (Below.refl _ _)
  simp only [World.size_alloc] at M1 M2
  generalize (((w.alloc (.cells #[.int .i64 k, .slice a0 n c0, .string v, .int .i64 N] 28)).alloc (.cells #[.int .i64 0, .slice none 0 0, .string ⟨#[]⟩, .int .i64 0] 38)).alloc (.cells #[.int .i64 k, .slice none 0 0, .string ⟨#[]⟩, .int .i64 0] 38)) = w3 at *
  refine (s1.out _ (R.below d2)).mono ?_
  rintro e w4 ⟨rfl, b4, o1⟩
  have hle := d2.size
  have hlt := M2.1
  replace M0 := M0.below b4
  replace M1 := M1.below b4
  replace M2 := M2.below b4
  have d3 := d2.trans (b4.mono d2.size)
  clear b4 d2 s1
  have u2 := M0.2.1 2 _ rfl
  have u3 := M0.2.1 3 _ rfl
  have v0 := M2.2.1 0 _ rfl
  have v1 := M2.2.1 1 _ rfl
  have v2 := M2.2.1 2 _ rfl
  have v3 := M2.2.1 3 _ rfl
  have x0 := M2.2.2 0 (by simp)
  have x1 := M2.2.2 1 (by simp)
  have x2 := M2.2.2 2 (by simp)
  have x3 := M2.2.2 3 (by simp)
  have y0 := M1.2.1 0 _ rfl
  have y1 := M1.2.1 1 _ rfl
  have y2 := M1.2.1 2 _ rfl
  have y3 := M1.2.1 3 _ rfl
  have f0 := M1.2.2 0 (by simp)
  have f1 := M1.2.2 1 (by simp)
  have f2 := M1.2.2 2 (by simp)
  have f3 := M1.2.2 3 (by simp)
  clear M0 M1 M2
  go_wp2_with fail
  exact bodyPost_ret (v := .agg #[.int .i64 k, .slice (some ⟨w3.heap.size, 0, none⟩) n n, .string v, .int .i64 N]) (by simp [results, Tryz.results9, go_sem, *]) rfl ⟨_, rfl, by omega, by
    refine OutStr.other (OutStr.other (OutStr.other (OutStr.other (OutStr.other (OutStr.other (OutStr.other o1 ?_ _ _) ?_ _ _) ?_ _ _) ?_ _ _) ?_ _ _) ?_ _ _) ?_ _ _ <;> omega, by
    refine Below.setCell (Below.setCell (Below.setCell (Below.setCell (Below.setCell (Below.setCell (Below.setCell d3 ?_ _) ?_ _) ?_ _) ?_ _) ?_ _) ?_ _) ?_ _ <;> (simp; try omega)⟩
set_option maxRecDepth 100000 in
set_option maxHeartbeats 800000 in
theorem w_markOp (k N : Int) (x n c0 : Nat) (f : Nat → ByteArray) (v : ByteArray) (k0 : Nat) (w : World) (hl : n ≤ 4294967296) (h0 : 1 ≤ k0) (h1 : k0 ≤ 100000000000) (hO : OutStr x n n f w) :
    Calls Tryz.prog 14 #[.agg #[.int .i64 k, .slice (some ⟨x, 0, none⟩) n c0, .string v, .int .i64 N], .int .i64 k0] w fun e w' => e = .returned (.int .i64 (k0 + (n : Int))) ∧ OnlyP (fun q => q = x) w w' := by
  have s0 := hide (fun w R => w_markStringS x n c0 f k0 w hl h0 h1 R)
  have d1 : Below w.heap.size w (w.alloc (.cells #[.int .i64 k, .slice (some ⟨x, 0, none⟩) n c0, .string v, .int .i64 N] 38)) := below_box (Below.refl _ _)
  have O1 := hO.below d1
  clear hl h0 h1 hO
  go_enter Tryz.func14, Tryz.ntmps14
  go_wp2_with fail
  generalize (w.alloc (.cells #[.int .i64 k, .slice (some ⟨x, 0, none⟩) n c0, .string v, .int .i64 N] 38)) = w1 at *
  refine (s0.out _ O1).mono ?_
  rintro e w2 ⟨rfl, o2, _⟩
  have on := (OnlyP.of_below (P := fun q => q = x) d1).trans (OnlyP.of_only o2 rfl)
  clear o2 s0 d1
  go_wp2_with fail
  go_ret
  exact ⟨rfl, on⟩
set_option maxRecDepth 100000 in
set_option maxHeartbeats 1600000 in
theorem w_eqOp (k N : Int) (a0 a1 : Option Addr) (n c0 c1 : Nat) (f : Nat → ByteArray) (v : ByteArray) (w : World) (hn : n ≤ 1048576) (R : RowStr a0 n f w) (Q : RowStr a1 n f w) :
    Calls Tryz.prog 12 #[.agg #[.int .i64 k, .slice a0 n c0, .string v, .int .i64 N], .agg #[.int .i64 k, .slice a1 n c1, .string v, .int .i64 N]] w fun e w' => e = .returned (.bool true) ∧ Below w.heap.size w w' := by
  have s1 := hide (fun w R Q => w_eqStringS a0 a1 n c0 c1 f w (by omega) R Q)
  have q0 : (k != k) = false := by simp
  have q1 : (N != N) = false := by simp
  clear hn
  have d0 : Below w.heap.size w ((w.alloc (.cells #[.int .i64 k, .slice a0 n c0, .string v, .int .i64 N] 38)).alloc (.cells #[.int .i64 k, .slice a1 n c1, .string v, .int .i64 N] 38)) := below_box2 (Below.refl _ _)
  have M0 := (Mut.new w #[.int .i64 k, .slice a0 n c0, .string v, .int .i64 N] 38).alloc (.cells #[.int .i64 k, .slice a1 n c1, .string v, .int .i64 N] 38)
  have M1 := Mut.new (w.alloc (.cells #[.int .i64 k, .slice a0 n c0, .string v, .int .i64 N] 38)) #[.int .i64 k, .slice a1 n c1, .string v, .int .i64 N] 38
  simp only [World.size_alloc] at M1
  go_enter Tryz.func12, Tryz.ntmps12
  go_wp2_with fail
  generalize (w.alloc (.cells #[.int .i64 k, .slice a0 n c0, .string v, .int .i64 N] 38)).alloc (.cells #[.int .i64 k, .slice a1 n c1, .string v, .int .i64 N] 38) = w2 at *
  refine (s1.out _ (R.below d0) (Q.below d0)).mono ?_
  rintro e w3 ⟨rfl, hb3⟩
  have d3 := d0.trans (hb3.mono d0.size)
  have u1 := (M0.below hb3).2.1 2 _ rfl
  have v1 := (M1.below hb3).2.1 2 _ rfl
  have u3 := (M0.below hb3).2.1 3 _ rfl
  have v3 := (M1.below hb3).2.1 3 _ rfl
  clear M0 M1 hb3 d0 s1
  go_wp2_with fail
  go_ret
  exact ⟨rfl, d3⟩
end Go.Proofs.YtnficndeblkjhaaGreatDoor
