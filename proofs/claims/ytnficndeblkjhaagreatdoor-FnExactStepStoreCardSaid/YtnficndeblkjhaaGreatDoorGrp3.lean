/- Leaves chosen out of others, in plain words and in memory. -/
import Derived.Test.YtnficndeblkjhaaGreatDoorLeaf15
import Derived.Test.YtnficndeblkjhaaGreatDoorGrp1
import Derived.ChangeKeysEq
import Derived.Laws.AppendOwnNone
import Derived.Maps.AppendAt
import Derived.Deep.AppendLies
import Derived.Test.YtnficndeblkjhaaGreatDoorGrp2
/- Stores, in plain words. -/
namespace Go.Proofs.YtnficndeblkjhaaGreatDoor
open Go.RowKit

/-- A configuration: how many leaves, and which. -/
structure Cf where
  n : Nat
  T : Nat → Lf
def cf0 : Cf := ⟨0, fun _ => lf0⟩
/-- A store: its candidate, what runs, the history, the ticks left. -/
structure Sto where
  C : Cf
  R : Cf
  h : Nat
  H : Nat → Cf
  l : Int
/-- One leaf is another one. -/
def SameF (s t : Lf) : Prop := s.v = t.v ∧ s.n = t.n ∧ Bg s.n s.p t.n t.p
/-- One configuration is another one. -/
def SameC (a b : Cf) : Prop := a.n = b.n ∧ ∀ i, i < a.n → SameF (a.T i) (b.T i)
/-- A good store. -/
def GS (s : Sto) : Prop := GC s.C.n s.C.T ∧ GC s.R.n s.R.T ∧ 1 ≤ s.h ∧ s.h ≤ 10 ∧ (∀ i, i < s.h → GC (s.H i).n (s.H i).T) ∧ ((SameC s.R (s.H 0) ∧ s.l = 0) ∨ (¬ SameC s.R (s.H 0) ∧ 1 ≤ s.l ∧ s.l ≤ 100))
/-- How much a configuration holds. -/
def szc (c : Cf) : Nat := c.n + totF c.T c.n
def totX (H : Nat → Cf) : Nat → Nat
  | 0 => 0
  | k + 1 => totX H k + szc (H k)
theorem totX_mono (H : Nat → Cf) {k n : Nat} (h : k ≤ n) : totX H k ≤ totX H n := by
  induction n with
  | zero => have : k = 0 := by omega
            subst this; exact Nat.le_refl _
  | succ n ih =>
    by_cases e : k = n + 1
    · subst e; exact Nat.le_refl _
    · exact Nat.le_trans (ih (by omega)) (Nat.le_add_right _ _)
def MaxCf (c : Cf) : Prop := c.n ≤ maxLen ∧ MaxF c.n c.T
/-- All is short. -/
def LowCf (c : Cf) : Prop := szc c ≤ 1048576 ∧ LowF c.n c.T
theorem LowCf.n {c : Cf} (h : LowCf c) : c.n ≤ 1048576 := Nat.le_trans (Nat.le_add_right _ _) h.1
def LowSt (s : Sto) : Prop := LowCf s.C ∧ LowCf s.R ∧ s.h ≤ 1048576 ∧ (∀ i, i < s.h → LowCf (s.H i)) ∧ totX s.H s.h ≤ 1048576
def MaxSt (s : Sto) : Prop := MaxCf s.C ∧ MaxCf s.R ∧ s.h ≤ maxLen ∧ ∀ i, i < s.h → MaxCf (s.H i)
/-- h lists of leaves at a. -/
def RowX (K : Bool) (a : Option Addr) (h : Nat) (H : Nat → Cf) (w : World) : Prop := ∀ i, i < h → ∃ (b off : Nat) (a0 : Option Addr) (c0 : Nat), a = some ⟨b, off, none⟩ ∧ b < w.heap.size ∧ w.cell? ⟨b, off + i, none⟩ = some (.slice a0 (H i).n c0) ∧ RowF K a0 (H i).n (H i).T w
theorem RowX.below {K : Bool} {a : Option Addr} {h : Nat} {H : Nat → Cf} {w w' : World} (R : RowX K a h H w) (k : Below w.heap.size w w') : RowX K a h H w' := by
  intro i hi
  obtain ⟨b, off, a0, c0, ha, hb, h0, hr⟩ := R i hi
  exact ⟨b, off, a0, c0, ha, Nat.lt_of_lt_of_le hb k.size, ((bcell k).1 _ _ hb).trans h0, hr.below k⟩
theorem RowX.any {K : Bool} {a : Option Addr} {h : Nat} {H : Nat → Cf} {w : World} (R : RowX K a h H w) : RowX false a h H w := by
  intro i hi
  obtain ⟨b, off, a0, c0, ha, hb, h0, hr⟩ := R i hi
  exact ⟨b, off, a0, c0, ha, hb, h0, hr.any⟩
theorem RowX.less {K : Bool} {a : Option Addr} {h h' : Nat} {H : Nat → Cf} {w : World} (R : RowX K a h H w) (k : h' ≤ h) : RowX K a h' H w := fun i hi => R i (by omega)
/-- A store as a value. -/
def stV (s : Sto) (ca : Option Addr) (kc : Nat) (ra : Option Addr) (kr : Nat) (ha : Option Addr) (kh : Nat) : Value := .agg #[.slice ca s.C.n kc, .slice ra s.R.n kr, .slice ha s.h kh, .int .i64 s.l]
/-- A value that is the store. -/
def RowSt (K : Bool) (v : Value) (s : Sto) (w : World) : Prop := ∃ ca kc ra kr ha kh, v = stV s ca kc ra kr ha kh ∧ RowF K ca s.C.n s.C.T w ∧ RowF K ra s.R.n s.R.T w ∧ RowX K ha s.h s.H w ∧ s.h ≤ kh
theorem RowSt.below {K : Bool} {v : Value} {s : Sto} {w w' : World} (h : RowSt K v s w) (k : Below w.heap.size w w') : RowSt K v s w' := by
  obtain ⟨ca, kc, ra, kr, ha, kh, e, h1, h2, h3, h4⟩ := h
  exact ⟨ca, kc, ra, kr, ha, kh, e, h1.below k, h2.below k, h3.below k, h4⟩
theorem RowSt.any {K : Bool} {v : Value} {s : Sto} {w : World} (h : RowSt K v s w) : RowSt false v s w := by
  obtain ⟨ca, kc, ra, kr, ha, kh, e, h1, h2, h3, h4⟩ := h
  exact ⟨ca, kc, ra, kr, ha, kh, e, h1.any, h2.any, h3.any, h4⟩
end Go.Proofs.YtnficndeblkjhaaGreatDoor

/- What is got of a configuration, in plain words. -/
namespace Go.Proofs.YtnficndeblkjhaaGreatDoor
open Go.RowKit

/-- The first of n numbers of which P holds. -/
noncomputable def fst15 (P : Nat → Prop) : Nat → Option Nat
  | 0 => none
  | n + 1 => match fst15 P n with
    | some i => some i
    | none => if tB (P n) then some n else none
theorem fst15_none {P : Nat → Prop} : ∀ {n : Nat}, (∀ i, i < n → ¬ P i) → fst15 P n = none
  | 0, _ => rfl
  | n + 1, h => by
    have ih := fst15_none (n := n) (fun i hi => h i (by omega))
    show (match fst15 P n with | some i => some i | none => if tB (P n) then some n else none) = none
    rw [ih]
    simp [tB_f (h n (by omega))]
theorem fst15_some {P : Nat → Prop} {j : Nat} : ∀ {n : Nat}, j < n → P j → (∀ i, i < j → ¬ P i) → fst15 P n = some j
  | 0, h, _, _ => absurd h (Nat.not_lt_zero _)
  | n + 1, h, hP, hn => by
    show (match fst15 P n with | some i => some i | none => if tB (P n) then some n else none) = some j
    by_cases e : j = n
    · subst e
      rw [fst15_none hn]
      simp [tB_t hP]
    · rw [fst15_some (by omega) hP hn]
/-- Leaf t has this path. -/
def SameP (t : Lf) (n : Nat) (p : Nat → ByteArray) : Prop := t.n = n ∧ Bg t.n t.p n p
/-- The value of a path. -/
noncomputable def valA (N : Nat) (T : Nat → Lf) (n : Nat) (p : Nat → ByteArray) : ByteArray × Bool := match fst15 (fun i => SameP (T i) n p) N with
  | some i => ((T i).v, true)
  | none => (⟨#[]⟩, false)
theorem valA_none {N : Nat} {T : Nat → Lf} {n : Nat} {p : Nat → ByteArray} (h : ∀ i, i < N → ¬ SameP (T i) n p) : valA N T n p = (⟨#[]⟩, false) := by
  unfold valA
  rw [fst15_none h]
theorem valA_some {N : Nat} {T : Nat → Lf} {n : Nat} {p : Nat → ByteArray} {j : Nat} (hj : j < N) (h : SameP (T j) n p) (hn : ∀ i, i < j → ¬ SameP (T i) n p) : valA N T n p = ((T j).v, true) := by
  unfold valA
  rw [fst15_some hj h hn]
theorem valA_size {N : Nat} {T : Nat → Lf} {n m : Nat} {p : Nat → ByteArray} (h : ∀ i, i < N → (T i).v.size ≤ m) : (valA N T n p).1.size ≤ m := by
  unfold valA
  by_cases hx : ∃ j, j < N ∧ SameP (T j) n p
  · cases e : fst15 (fun i => SameP (T i) n p) N with
    | none => exact Nat.zero_le _
    | some i =>
      have hi : ∀ {M : Nat} {k : Nat}, fst15 (fun i => SameP (T i) n p) M = some k → k < M := by
        intro M
        induction M with
        | zero => intro k h; cases h
        | succ M ih =>
          intro k h
          have h' : (match fst15 (fun i => SameP (T i) n p) M with | some i => some i | none => if tB (SameP (T M) n p) then some M else none) = some k := h
          cases e2 : fst15 (fun i => SameP (T i) n p) M with
          | some j =>
            rw [e2] at h'
            simp at h'
            subst h'
            have := ih e2
            omega
          | none =>
            rw [e2] at h'
            dsimp only at h'
            by_cases hb : tB (SameP (T M) n p) = true
            · rw [if_pos hb] at h'
              simp at h'
              omega
            · rw [if_neg hb] at h'
              cases h'
      exact h i (hi e)
  · rw [fst15_none (fun i hi k => hx ⟨i, hi, k⟩)]
    exact Nat.zero_le _
/-- What GetAt answers. -/
noncomputable def getA (N : Nat) (T : Nat → Lf) (n : Nat) (p : Nat → ByteArray) : ByteArray × Bool := if tB (GC N T ∧ Pw n p) then valA N T n p else (⟨#[]⟩, false)
end Go.Proofs.YtnficndeblkjhaaGreatDoor

/- Lists of strings in memory: as they lie, and in memory of one's own; what append does with them. -/
namespace Go.Proofs.YtnficndeblkjhaaGreatDoor
open Go.RowKit

def tcells (L : List ByteArray) : List Value := L.map .string
theorem tc_len (L : List ByteArray) : (tcells L).length = L.length := by simp [tcells]
theorem tc_app (L M : List ByteArray) : tcells (L ++ M) = tcells L ++ tcells M := by simp [tcells]
theorem tc_one (L : List ByteArray) : ∀ u ∈ tcells L, u.oneCell' = true := by
  intro u hu
  simp only [tcells, List.mem_map] at hu
  obtain ⟨x, _, rfl⟩ := hu
  rfl
theorem tc_at {L : List ByteArray} {i : Nat} (h : i < L.length) : (tcells L)[i]? = some (.string (L.getD i ByteArray.empty)) := by
  simp [tcells, List.getElem?_eq_getElem h]

/-- The strings L lie at a. -/
def RowT (a : Option Addr) (L : List ByteArray) (w : World) : Prop := ∀ i, i < L.length → ∃ b off, a = some ⟨b, off, none⟩ ∧ b < w.heap.size ∧ w.cell? ⟨b, off + i, none⟩ = some (.string (L.getD i ByteArray.empty))
theorem RowT.below {a : Option Addr} {L : List ByteArray} {w w' : World} (h : RowT a L w) (hb : Below w.heap.size w w') : RowT a L w' := by
  intro i hi
  obtain ⟨b, off, ha, hlt, h0⟩ := h i hi
  exact ⟨b, off, ha, Nat.lt_of_lt_of_le hlt hb.size, ((bcell hb).1 _ _ hlt).trans h0⟩
theorem RowT.base {a : Option Addr} {base : Nat} {L : List ByteArray} {w w' : World} (h : RowT a L w) (hb : ∀ b off, a = some ⟨b, off, none⟩ → b < base) (d : Below base w w') : RowT a L w' := by
  intro i hi
  obtain ⟨b, off, ha, hlt, h0⟩ := h i hi
  exact ⟨b, off, ha, Nat.lt_of_lt_of_le hlt d.size, (d.cell (p := ⟨b, off + i, none⟩) (hb b off ha)).trans h0⟩
theorem RowT.nil (a : Option Addr) (w : World) : RowT a [] w := fun _ hi => absurd hi (Nat.not_lt_zero _)
theorem RowT.take {a : Option Addr} {L : List ByteArray} {w : World} (h : RowT a L w) (n : Nat) : RowT a (L.take n) w := by
  intro i hi
  rw [List.length_take] at hi
  obtain ⟨b, off, ha, hlt, h0⟩ := h i (by omega)
  refine ⟨b, off, ha, hlt, ?_⟩
  rw [h0]
  congr 2
  rw [List.getD_eq_getElem?_getD, List.getD_eq_getElem?_getD, List.getElem?_take]
  rw [if_pos (by omega)]
theorem RowT.cells {b off : Nat} {L : List ByteArray} {w : World} (h : RowT (some ⟨b, off, none⟩) L w) : ∀ j u, (tcells L)[j]? = some u → w.cell? ((⟨b, off, none⟩ : Addr).add j) = some u := by
  intro j u hu
  have hj : j < L.length := by
    have := (List.getElem?_eq_some_iff.1 hu).1
    rwa [tc_len] at this
  obtain ⟨b', off', ha, _, h0⟩ := h j hj
  simp only [Option.some.injEq, Addr.mk.injEq, and_true] at ha
  obtain ⟨rfl, rfl⟩ := ha
  rw [tc_at hj] at hu
  have hadd : (⟨b, off, none⟩ : Addr).add j = ⟨b, off + j, none⟩ := by
    simp only [Addr.add]
    split
    · rename_i h; rw [h]; simp
    · rfl
  rw [hadd, h0]
  exact hu

/-- The list L lies in memory of one's own. -/
def OwnT (e : TypeId) (base : Nat) (v : Value) (L : List ByteArray) (w : World) : Prop := w.ownsRow base e 1 v L.length (tcells L)
theorem ownT_nil (e : TypeId) (base : Nat) (w : World) : OwnT e base (.slice none 0 0) [] w := World.ownsRow_nil w base e 1
theorem ownT_below {e : TypeId} {w w' : World} {base : Nat} {v : Value} {L : List ByteArray} (h : OwnT e base v L w) (hb : Below w.heap.size w w') : OwnT e base v L w' :=
  World.ownsRow.kept h (row := none) ⟨hb.os, hb.tape, hb.output, hb.size, fun k hk _ => hb.block k hk⟩ (by cases hv : v.ownBlock with
    | none => exact .inl rfl
    | some b => exact .inr (by simp))
theorem ownT_base {e : TypeId} {w : World} {base base' : Nat} {v : Value} {L : List ByteArray} (h : OwnT e base v L w) (hb : base' ≤ base) : OwnT e base' v L w := by
  refine ⟨h.1, ?_⟩
  rcases h.2 with h | ⟨g, cap, cur, h1, h2, h3⟩
  · exact .inl h
  · exact .inr ⟨g, cap, cur, h1, Nat.le_trans hb h2, h3⟩
theorem ownT_shape {e : TypeId} {w : World} {base : Nat} {v : Value} {L : List ByteArray} (h : OwnT e base v L w) (h0 : L ≠ []) : ∃ g cap, v = .slice (some ⟨g, 0, none⟩) L.length cap ∧ base ≤ g ∧ g < w.heap.size := by
  rcases h.2 with ⟨_, h1⟩ | ⟨g, cap, cur, rfl, hb, hg, _⟩
  · exact absurd (List.eq_nil_of_length_eq_zero h1) h0
  · exact ⟨g, cap, rfl, hb, (Array.getElem?_eq_some_iff.1 hg).1⟩
theorem ownT_at {e : TypeId} {w : World} {base g cap : Nat} {L : List ByteArray} (h : OwnT e base (.slice (some ⟨g, 0, none⟩) L.length cap) L w) {i : Nat} (hi : i < L.length) : w.cell? ⟨g, i, none⟩ = some (.string (L.getD i ByteArray.empty)) :=
  (World.ownsRow.cellAt (show w.ownsRow base e 1 (.slice (some ⟨g, 0, none⟩) L.length cap) L.length (tcells L) from h) i (by omega)).trans (tc_at hi)
theorem ownT_row {e : TypeId} {w : World} {base : Nat} {v : Value} {L : List ByteArray} (h : OwnT e base v L w) : ∃ a cap, v = .slice a L.length cap ∧ RowT a L w ∧ ((a = none ∧ cap = 0 ∧ L = []) ∨ ∃ g, a = some ⟨g, 0, none⟩ ∧ base ≤ g ∧ g < w.heap.size) := by
  by_cases h0 : L = []
  · subst h0
    rcases h.2 with ⟨rfl, h1⟩ | ⟨g, cap, cur, rfl, hb, hg, _⟩
    · exact ⟨none, 0, rfl, RowT.nil _ _, .inl ⟨rfl, rfl, rfl⟩⟩
    · exact ⟨some ⟨g, 0, none⟩, cap, rfl, RowT.nil _ _, .inr ⟨g, rfl, hb, (Array.getElem?_eq_some_iff.1 hg).1⟩⟩
  · obtain ⟨g, cap, rfl, hb, hg⟩ := ownT_shape h h0
    exact ⟨some ⟨g, 0, none⟩, cap, rfl, fun i hi => ⟨g, 0, rfl, hg, by rw [Nat.zero_add]; exact ownT_at h hi⟩, .inr ⟨g, rfl, hb, hg⟩⟩
theorem grown_belowT {e : TypeId} {w w' : World} {base : Nat} {v : Value} {L : List ByteArray} (h : OwnT e base v L w) (hg : w.grownBy w' v.ownBlock) (hb : base ≤ w.heap.size) : Below base w w' := by
  refine ⟨hg.os, hg.tape, hg.output, hg.size, fun k hk => hg.block k (by omega) (fun e => ?_)⟩
  rcases h.2 with ⟨rfl, _⟩ | ⟨g, cap, cur, rfl, hbg, _⟩
  · simp [Value.ownBlock] at e
  · simp [Value.ownBlock] at e
    omega
/-- A block that was made whole. -/
theorem ownT_made (e : TypeId) (w : World) (L : List ByteArray) (hL : L.length ≤ maxLen) : OwnT e w.heap.size (.slice (some ⟨w.heap.size, 0, none⟩) L.length L.length) L (w.alloc (.cells (tcells L).toArray e)) :=
  ⟨by rw [tc_len, Nat.mul_one], .inr ⟨w.heap.size, L.length, (tcells L).toArray, rfl, Nat.le_refl _, heap_alloc_new w _, Nat.le_refl _, hL, by simp [tc_len], by
    rw [Nat.mul_one, ← tc_len L]
    simp⟩⟩

/-- A source of an append: nil, or at an address. -/
def SrcT (a : Option Addr) (M : List ByteArray) (c : Nat) (w : World) : Prop := RowT a M w ∧ ((a = none ∧ M = [] ∧ c = 0) ∨ ∃ b off, a = some ⟨b, off, none⟩)
theorem SrcT.below {a : Option Addr} {M : List ByteArray} {c : Nat} {w w' : World} (h : SrcT a M c w) (hb : Below w.heap.size w w') : SrcT a M c w' := ⟨h.1.below hb, h.2⟩
theorem SrcT.own {e : TypeId} {w : World} {base : Nat} {v : Value} {L : List ByteArray} (h : OwnT e base v L w) : ∃ a cap, v = .slice a L.length cap ∧ SrcT a L cap w := by
  obtain ⟨a, cap, h1, h2, h3⟩ := ownT_row h
  refine ⟨a, cap, h1, h2, ?_⟩
  rcases h3 with ⟨e1, e2, e3⟩ | ⟨g, e1, _⟩
  · exact .inl ⟨e1, e3, e2⟩
  · exact .inr ⟨g, 0, e1⟩

/-- What is known of a type of strings. -/
def StrT (P : Program) (t e : TypeId) (bytes : Nat) : Prop := P.underlying t = some (.slice e) ∧ (P.info? e).map (fun i => (i.zero, i.size, i.bytes)) = some (some (.string ByteArray.empty), 1, bytes)
theorem run_appT {P : Program} {t e : TypeId} {bytes : Nat} (hT : StrT P t e bytes) (ty : TypeId) (w : World) (base : Nat) (v : Value) (L : List ByteArray) (hown : OwnT e base v L w) (sa : Option Addr) (M : List ByteArray) (c : Nat) (hM : SrcT sa M c w)
    (hlen : L.length + M.length ≤ 8589934593) (hby : bytes ≤ 16) (hbase : base ≤ w.heap.size) :
    ∃ v' w', (Builtin.append_ #[t, t] ty #[v, .slice sa M.length c]).run P w = .ok v' w' ∧ OwnT e base v' (L ++ M) w' ∧ Below base w w' ∧ w.grownBy w' v.ownBlock ∧ (v'.ownBlock = v.ownBlock ∨ v'.ownBlock = some w.heap.size) := by
  obtain ⟨ht, hinfo⟩ := hT
  obtain ⟨i, hi, hz⟩ := Option.map_eq_some_iff.1 hinfo
  simp only [Prod.mk.injEq] at hz
  obtain ⟨hz0, hz1, hz2⟩ := hz
  have hnb : (L.length + M.length) * bytes ≤ 140737488355328 := by
    have := Nat.mul_le_mul_left (L.length + M.length) hby
    omega
  rcases hM with ⟨hR, ⟨rfl, rfl, rfl⟩ | ⟨b, off, rfl⟩⟩
  · have hrun := run_append_owned_none (P := P) (w := w) base t ty e i 1 ht hi v L.length (tcells L) hown
    exact ⟨v, w, hrun, by simpa using hown, Below.refl _ _, ⟨rfl, rfl, rfl, Nat.le_refl _, fun _ _ _ => rfl⟩, .inl rfl⟩
  · obtain ⟨v', w', hr, h2, h3, _, h5⟩ := run_append_own_at (P := P) w base t ty e i (.string ByteArray.empty) 1 bytes ht hi hz0 hz1 hz2 rfl (by decide) v L.length (tcells L) hown ⟨b, off, none⟩ M.length c (tcells M) (by rw [tc_len, Nat.mul_one]) hR.cells (tc_one M) (by unfold maxLen; omega) hnb hbase
    refine ⟨v', w', hr, ?_, grown_belowT hown h3 hbase, h3, h5⟩
    unfold OwnT
    rw [tc_app, List.length_append]
    exact h2
theorem wp_appT {P : Program} {t e : TypeId} {bytes : Nat} (hT : StrT P t e bytes) {o : Oper} {a : Act} {w : World} {K : Act → World → Prop} {Q : Exit → Act → World → Prop} (s x : Operand)
    (ho : o.op = .call { callee := .builtin .append, args := #[s, x], argTypes := #[t, t] })
    (base : Nat) (v : Value) (L : List ByteArray) (hs : a.eval s = v) (hown : OwnT e base v L w) (sa : Option Addr) (M : List ByteArray) (n c : Nat) (hx : a.eval x = .slice sa n c) (hn : n = M.length) (hM : SrcT sa M c w)
    (hlen : L.length + M.length ≤ 8589934593) (hby : bytes ≤ 16) (hbase : base ≤ w.heap.size)
    (h : ∀ v' w', OwnT e base v' (L ++ M) w' → Below base w w' → w.grownBy w' v.ownBlock → (v'.ownBlock = v.ownBlock ∨ v'.ownBlock = some w.heap.size) → K (a.put o.dst v') w') : o.wp P a w K Q := by
  subst hn
  obtain ⟨v', w', hr, h2, h3, h4, h5⟩ := run_appT hT o.type w base v L hown sa M c hM hlen hby hbase
  unfold Oper.wp execOp
  simp only [ho, resolve, invoke, builtin, Sem.run_bind, Sem.run_pure, Result.andThen_ok, List.map_toArray, List.map_cons, List.map_nil, hs, hx, hr]
  exact h v' w' h2 h3 h4 h5
theorem wpList_appT {P : Program} {t e : TypeId} {bytes : Nat} (hT : StrT P t e bytes) {ops : Array Oper} {rest : List Oper} {o : Oper} {a : Act} {w : World} {Q : Exit → Act → World → Prop} (hgd : o.guard = none) (s x : Operand)
    (ho : o.op = .call { callee := .builtin .append, args := #[s, x], argTypes := #[t, t] })
    (base : Nat) (v : Value) (L : List ByteArray) (hs : a.eval s = v) (hown : OwnT e base v L w) (sa : Option Addr) (M : List ByteArray) (n c : Nat) (hx : a.eval x = .slice sa n c) (hn : n = M.length) (hM : SrcT sa M c w)
    (hlen : L.length + M.length ≤ 8589934593) (hby : bytes ≤ 16) (hbase : base ≤ w.heap.size)
    (h : ∀ v' w', OwnT e base v' (L ++ M) w' → Below base w w' → w.grownBy w' v.ownBlock → (v'.ownBlock = v.ownBlock ∨ v'.ownBlock = some w.heap.size) → wpList P ops Q rest (a.put o.dst v') w') : wpList P ops Q (o :: rest) a w :=
  wpList_plain hgd fun _ hK => wp_appT hT s x ho base v L hs hown sa M n c hx hn hM hlen hby hbase fun v' w' h2 h3 h4 h5 => hK _ _ (h v' w' h2 h3 h4 h5)
theorem step_appT {P : Program} {t e : TypeId} {bytes : Nat} (hT : StrT P t e bytes) {ops : Array Oper} {o : Oper} {a : Act} {w : World} {K : Act → World → Prop} {Q : Exit → Act → World → Prop} {E : Prop} (hgd : o.guard = none) (s x : Operand)
    (ho : o.op = .call { callee := .builtin .append, args := #[s, x], argTypes := #[t, t] })
    (base : Nat) (v : Value) (L : List ByteArray) (hs : a.eval s = v) (hown : OwnT e base v L w) (sa : Option Addr) (M : List ByteArray) (n c : Nat) (hx : a.eval x = .slice sa n c) (hn : n = M.length) (hM : SrcT sa M c w)
    (hlen : L.length + M.length ≤ 8589934593) (hby : bytes ≤ 16) (hbase : base ≤ w.heap.size)
    (h : ∀ v' w', OwnT e base v' (L ++ M) w' → Below base w w' → w.grownBy w' v.ownBlock → (v'.ownBlock = v.ownBlock ∨ v'.ownBlock = some w.heap.size) → K (a.put o.dst v') w') :
    if Region.wanted o (yielded ops a.tmps) = true then Oper.wp P o a w K Q else E := by
  have hw : Region.wanted o (yielded ops a.tmps) = true := by simp [Region.wanted, hgd]
  rw [if_pos hw]
  exact wp_appT hT s x ho base v L hs hown sa M n c hx hn hM hlen hby hbase h
theorem strT : StrT Tryz.prog 26 9 16 := ⟨Tryz.underlying26, by kernel_rfl⟩
end Go.Proofs.YtnficndeblkjhaaGreatDoor

/- Lists of one's own whose elements are any cells (m cells an element): where they lie, and what append does with them. -/
namespace Go.Proofs.YtnficndeblkjhaaGreatDoor
open Go.RowKit

/-- The cells xs lie at a. -/
def RowW (a : Option Addr) (xs : List Value) (w : World) : Prop := ∀ j u, xs[j]? = some u → ∃ b off, a = some ⟨b, off, none⟩ ∧ b < w.heap.size ∧ w.cell? ⟨b, off + j, none⟩ = some u
theorem RowW.below {a : Option Addr} {xs : List Value} {w w' : World} (h : RowW a xs w) (hb : Below w.heap.size w w') : RowW a xs w' := by
  intro j u hu
  obtain ⟨b, off, ha, hlt, h0⟩ := h j u hu
  exact ⟨b, off, ha, Nat.lt_of_lt_of_le hlt hb.size, ((bcell hb).1 _ _ hlt).trans h0⟩
theorem RowW.mut {b : Nat} {xs : List Value} {w : World} (h : Mut w b xs) : RowW (some ⟨b, 0, none⟩) xs w :=
  fun j u hu => ⟨b, 0, rfl, h.1, by rw [Nat.zero_add]; exact h.2.1 j u hu⟩
theorem RowW.nil (a : Option Addr) (w : World) : RowW a [] w := fun j u hu => by simp at hu
theorem RowW.cells {b off : Nat} {xs : List Value} {w : World} (h : RowW (some ⟨b, off, none⟩) xs w) : ∀ j u, xs[j]? = some u → w.cell? ((⟨b, off, none⟩ : Addr).add j) = some u := by
  intro j u hu
  obtain ⟨b', off', ha, _, h0⟩ := h j u hu
  simp only [Option.some.injEq, Addr.mk.injEq, and_true] at ha
  obtain ⟨rfl, rfl⟩ := ha
  have hadd : (⟨b, off, none⟩ : Addr).add j = ⟨b, off + j, none⟩ := by
    simp only [Addr.add]
    split
    · rename_i h; rw [h]; simp
    · rfl
  rw [hadd, h0]

/-- A list of n elements of m cells in memory of one's own; xs: all the cells. -/
def OwnW (e : TypeId) (m base : Nat) (v : Value) (n : Nat) (xs : List Value) (w : World) : Prop := w.ownsRow base e m v n xs
theorem ownW_nil (e : TypeId) (m base : Nat) (w : World) : OwnW e m base (.slice none 0 0) 0 [] w := World.ownsRow_nil w base e m
theorem ownW_below {e : TypeId} {m n : Nat} {w w' : World} {base : Nat} {v : Value} {xs : List Value} (h : OwnW e m base v n xs w) (hb : Below w.heap.size w w') : OwnW e m base v n xs w' :=
  World.ownsRow.kept h (row := none) ⟨hb.os, hb.tape, hb.output, hb.size, fun k hk _ => hb.block k hk⟩ (by cases hv : v.ownBlock with
    | none => exact .inl rfl
    | some b => exact .inr (by simp))
theorem ownW_base {e : TypeId} {m n : Nat} {w : World} {base base' : Nat} {v : Value} {xs : List Value} (h : OwnW e m base v n xs w) (hb : base' ≤ base) : OwnW e m base' v n xs w := by
  refine ⟨h.1, ?_⟩
  rcases h.2 with h | ⟨g, cap, cur, h1, h2, h3⟩
  · exact .inl h
  · exact .inr ⟨g, cap, cur, h1, Nat.le_trans hb h2, h3⟩
theorem ownW_row {e : TypeId} {m n : Nat} {w : World} {base : Nat} {v : Value} {xs : List Value} (h : OwnW e m base v n xs w) : ∃ a cap, v = .slice a n cap ∧ RowW a xs w ∧ ((a = none ∧ cap = 0 ∧ n = 0) ∨ ∃ g, a = some ⟨g, 0, none⟩ ∧ base ≤ g ∧ g < w.heap.size ∧ n ≤ cap ∧ ∀ j, w.frozen? ⟨g, j, none⟩ = false) := by
  rcases h.2 with ⟨rfl, h1⟩ | ⟨g, cap, cur, rfl, hb, hg, hc, hx, _⟩
  · subst h1
    have e0 : xs = [] := List.eq_nil_of_length_eq_zero (by rw [h.1, Nat.zero_mul])
    subst e0
    exact ⟨none, 0, rfl, RowW.nil _ _, .inl ⟨rfl, rfl, rfl⟩⟩
  · have hgl : g < w.heap.size := (Array.getElem?_eq_some_iff.1 hg).1
    refine ⟨some ⟨g, 0, none⟩, cap, rfl, fun j u hu => ?_, .inr ⟨g, rfl, hb, hgl, hc, fun j => World.ownsRow.frozenAt (show w.ownsRow base e m (.slice (some ⟨g, 0, none⟩) n cap) n xs from h) j⟩⟩
    have hj : j < xs.length := (List.getElem?_eq_some_iff.1 hu).1
    refine ⟨g, 0, rfl, hgl, ?_⟩
    rw [Nat.zero_add]
    exact (World.ownsRow.cellAt (show w.ownsRow base e m (.slice (some ⟨g, 0, none⟩) n cap) n xs from h) j (by rw [← h.1]; exact hj)).trans hu
theorem grown_belowW {e : TypeId} {m n : Nat} {w w' : World} {base : Nat} {v : Value} {xs : List Value} (h : OwnW e m base v n xs w) (hg : w.grownBy w' v.ownBlock) (hb : base ≤ w.heap.size) : Below base w w' := by
  refine ⟨hg.os, hg.tape, hg.output, hg.size, fun k hk => hg.block k (by omega) (fun e => ?_)⟩
  rcases h.2 with ⟨rfl, _⟩ | ⟨g, cap, cur, rfl, hbg, _⟩
  · simp [Value.ownBlock] at e
  · simp [Value.ownBlock] at e
    omega
/-- A list of one's own where nothing turned but one block that is not its own. -/
theorem ownW_only {e : TypeId} {m n c : Nat} {w w' : World} {base : Nat} {v : Value} {xs : List Value} (h : OwnW e m base v n xs w) (hb : Only c w w') (hc : v.ownBlock ≠ some c) : OwnW e m base v n xs w' :=
  World.ownsRow.kept h (row := some c) ⟨hb.1, hb.2.1, hb.2.2.1, hb.2.2.2.1, fun k hk hn => hb.2.2.2.2 k hk (fun e => hn (by rw [e]))⟩ (.inr hc)
/-- Nothing that was there has turned but blocks of P. -/
def OnlyP (P : Nat → Prop) (w w' : World) : Prop :=
  w'.os = w.os ∧ w'.tape = w.tape ∧ w'.output = w.output ∧ w.heap.size ≤ w'.heap.size ∧ ∀ k, k < w.heap.size → ¬ P k → w'.heap[k]? = w.heap[k]?
theorem OnlyP.refl (P : Nat → Prop) (w : World) : OnlyP P w w := ⟨rfl, rfl, rfl, Nat.le_refl _, fun _ _ _ => rfl⟩
theorem OnlyP.trans {P : Nat → Prop} {a b d : World} (h : OnlyP P a b) (k : OnlyP P b d) : OnlyP P a d := by
  obtain ⟨h1, h2, h3, h4, h5⟩ := h
  obtain ⟨k1, k2, k3, k4, k5⟩ := k
  exact ⟨k1.trans h1, k2.trans h2, k3.trans h3, Nat.le_trans h4 k4, fun i hi hc => (k5 i (Nat.lt_of_lt_of_le hi h4) hc).trans (h5 i hi hc)⟩
theorem OnlyP.of_below {P : Nat → Prop} {w w' : World} (h : Below w.heap.size w w') : OnlyP P w w' := ⟨h.os, h.tape, h.output, h.size, fun k hk _ => h.block k hk⟩
theorem OnlyP.of_grown {P : Nat → Prop} {w w' : World} {r : Option Nat} (h : w.grownBy w' r) (hr : ∀ k, r = some k → P k) : OnlyP P w w' := ⟨h.os, h.tape, h.output, h.size, fun k hk hc => h.block k hk (fun e => hc (hr k e.symm))⟩
theorem OnlyP.of_only {P : Nat → Prop} {c : Nat} {w w' : World} (h : Only c w w') (hc : P c) : OnlyP P w w' :=
  ⟨h.1, h.2.1, h.2.2.1, h.2.2.2.1, fun k hk hn => h.2.2.2.2 k hk (fun e => hn (e ▸ hc))⟩
theorem OnlyP.mono {P Q : Nat → Prop} {w w' : World} (h : OnlyP P w w') (hq : ∀ k, k < w.heap.size → P k → Q k) : OnlyP Q w w' :=
  ⟨h.1, h.2.1, h.2.2.1, h.2.2.2.1, fun k hk hn => h.2.2.2.2 k hk (fun e => hn (hq k hk e))⟩
theorem OnlyP.cell {P : Nat → Prop} {w w' : World} (h : OnlyP P w w') {b o : Nat} (hb : b < w.heap.size) (hc : ¬ P b) : w'.cell? ⟨b, o, none⟩ = w.cell? ⟨b, o, none⟩ := World.cell?_of_block (w := w) (h.2.2.2.2 b hb hc)
theorem OnlyP.frozen {P : Nat → Prop} {w w' : World} (h : OnlyP P w w') {b o : Nat} (hb : b < w.heap.size) (hc : ¬ P b) : w'.frozen? ⟨b, o, none⟩ = w.frozen? ⟨b, o, none⟩ := World.frozen?_of_block (w := w) (h.2.2.2.2 b hb hc)
theorem OnlyP.below {P : Nat → Prop} {base : Nat} {w w' : World} (h : OnlyP P w w') (hc : ∀ k, k < w.heap.size → P k → base ≤ k) (hb : base ≤ w.heap.size) : Below base w w' :=
  ⟨h.1, h.2.1, h.2.2.1, h.2.2.2.1, fun k hk => h.2.2.2.2 k (by omega) (fun e => by have := hc k (by omega) e; omega)⟩
theorem Mut.onlyP {P : Nat → Prop} {w w' : World} {b : Nat} {vs : List Value} (h : Mut w b vs) (k : OnlyP P w w') (hn : ¬ P b) : Mut w' b vs :=
  ⟨Nat.lt_of_lt_of_le h.1 k.2.2.2.1, fun i v hv => (k.cell h.1 hn).trans (h.2.1 i v hv), fun i hi => (k.frozen h.1 hn).trans (h.2.2 i hi)⟩
theorem ownW_onlyP {P : Nat → Prop} {e : TypeId} {m n : Nat} {w w' : World} {base : Nat} {v : Value} {xs : List Value} (h : OwnW e m base v n xs w) (hb : OnlyP P w w') (hc : ∀ k, v.ownBlock = some k → ¬ P k) : OwnW e m base v n xs w' := by
  refine ⟨h.1, ?_⟩
  rcases h.2 with h | ⟨g, cap, cur, h1, h2, h3, h4⟩
  · exact .inl h
  · exact .inr ⟨g, cap, cur, h1, h2, (hb.2.2.2.2 g (Array.getElem?_eq_some_iff.1 h3).1 (hc g (by rw [h1]; rfl))).trans h3, h4⟩
theorem ownW_lt {e : TypeId} {m n : Nat} {w : World} {base : Nat} {v : Value} {xs : List Value} (h : OwnW e m base v n xs w) {k : Nat} (hk : v.ownBlock = some k) : base ≤ k ∧ k < w.heap.size := by
  rcases h.2 with ⟨rfl, _⟩ | ⟨g, cap, cur, rfl, h2, h3, _⟩
  · simp [Value.ownBlock] at hk
  · simp [Value.ownBlock] at hk
    subst hk
    exact ⟨h2, (Array.getElem?_eq_some_iff.1 h3).1⟩
/-- What is known of a type of elements of m cells. -/
def AggT (P : Program) (t e : TypeId) (z : Value) (m bytes : Nat) : Prop := P.underlying t = some (.slice e) ∧ (P.info? e).map (fun i => (i.zero, i.size, i.bytes)) = some (some z, m, bytes) ∧ z.cells.size = m ∧ 0 < m
theorem run_appW {P : Program} {t e : TypeId} {z : Value} {m bytes : Nat} (hT : AggT P t e z m bytes) (ty : TypeId) (w : World) (base : Nat) (v : Value) (n : Nat) (xs : List Value) (hown : OwnW e m base v n xs w) (b off k c : Nat) (ys : List Value) (hl : ys.length = k * m) (hR : RowW (some ⟨b, off, none⟩) ys w) (h1 : ∀ u ∈ ys, u.oneCell' = true)
    (hlen : n + k ≤ 8589934593) (hby : bytes ≤ 8192) (hbase : base ≤ w.heap.size) :
    ∃ v' w', (Builtin.append_ #[t, t] ty #[v, .slice (some ⟨b, off, none⟩) k c]).run P w = .ok v' w' ∧ OwnW e m base v' (n + k) (xs ++ ys) w' ∧ Below base w w' ∧ w.grownBy w' v.ownBlock ∧ (v'.ownBlock = v.ownBlock ∨ v'.ownBlock = some w.heap.size) := by
  obtain ⟨ht, hinfo, hzs, hm⟩ := hT
  obtain ⟨i, hi, hz⟩ := Option.map_eq_some_iff.1 hinfo
  simp only [Prod.mk.injEq] at hz
  obtain ⟨hz0, hz1, hz2⟩ := hz
  have hnb : (n + k) * bytes ≤ 140737488355328 := by
    have := Nat.mul_le_mul_left (n + k) hby
    omega
  obtain ⟨v', w', hr, h2, h3, _, h5⟩ := run_append_own_at (P := P) w base t ty e i z m bytes ht hi hz0 hz1 hz2 hzs hm v n xs hown ⟨b, off, none⟩ k c ys hl hR.cells h1 (by unfold maxLen; omega) hnb hbase
  exact ⟨v', w', hr, h2, grown_belowW hown h3 hbase, h3, h5⟩
theorem wp_appW {P : Program} {t e : TypeId} {z : Value} {m bytes : Nat} (hT : AggT P t e z m bytes) {o : Oper} {a : Act} {w : World} {K : Act → World → Prop} {Q : Exit → Act → World → Prop} (s x : Operand)
    (ho : o.op = .call { callee := .builtin .append, args := #[s, x], argTypes := #[t, t] })
    (base : Nat) (v : Value) (n : Nat) (xs : List Value) (hs : a.eval s = v) (hown : OwnW e m base v n xs w) (b off k c : Nat) (ys : List Value) (hx : a.eval x = .slice (some ⟨b, off, none⟩) k c) (hl : ys.length = k * m) (hR : RowW (some ⟨b, off, none⟩) ys w) (h1 : ∀ u ∈ ys, u.oneCell' = true)
    (hlen : n + k ≤ 8589934593) (hby : bytes ≤ 8192) (hbase : base ≤ w.heap.size)
    (h : ∀ v' w', OwnW e m base v' (n + k) (xs ++ ys) w' → Below base w w' → w.grownBy w' v.ownBlock → (v'.ownBlock = v.ownBlock ∨ v'.ownBlock = some w.heap.size) → K (a.put o.dst v') w') : o.wp P a w K Q := by
  obtain ⟨v', w', hr, h2, h3, h4, h5⟩ := run_appW hT o.type w base v n xs hown b off k c ys hl hR h1 hlen hby hbase
  unfold Oper.wp execOp
  simp only [ho, resolve, invoke, builtin, Sem.run_bind, Sem.run_pure, Result.andThen_ok, List.map_toArray, List.map_cons, List.map_nil, hs, hx, hr]
  exact h v' w' h2 h3 h4 h5
theorem wpList_appW {P : Program} {t e : TypeId} {z : Value} {m bytes : Nat} (hT : AggT P t e z m bytes) {ops : Array Oper} {rest : List Oper} {o : Oper} {a : Act} {w : World} {Q : Exit → Act → World → Prop} (hgd : o.guard = none) (s x : Operand)
    (ho : o.op = .call { callee := .builtin .append, args := #[s, x], argTypes := #[t, t] })
    (base : Nat) (v : Value) (n : Nat) (xs : List Value) (hs : a.eval s = v) (hown : OwnW e m base v n xs w) (b off k c : Nat) (ys : List Value) (hx : a.eval x = .slice (some ⟨b, off, none⟩) k c) (hl : ys.length = k * m) (hR : RowW (some ⟨b, off, none⟩) ys w) (h1 : ∀ u ∈ ys, u.oneCell' = true)
    (hlen : n + k ≤ 8589934593) (hby : bytes ≤ 8192) (hbase : base ≤ w.heap.size)
    (h : ∀ v' w', OwnW e m base v' (n + k) (xs ++ ys) w' → Below base w w' → w.grownBy w' v.ownBlock → (v'.ownBlock = v.ownBlock ∨ v'.ownBlock = some w.heap.size) → wpList P ops Q rest (a.put o.dst v') w') : wpList P ops Q (o :: rest) a w :=
  wpList_plain hgd fun _ hK => wp_appW hT s x ho base v n xs hs hown b off k c ys hx hl hR h1 hlen hby hbase fun v' w' h2 h3 h4 h5 => hK _ _ (h v' w' h2 h3 h4 h5)
theorem step_appW {P : Program} {t e : TypeId} {z : Value} {m bytes : Nat} (hT : AggT P t e z m bytes) {ops : Array Oper} {o : Oper} {a : Act} {w : World} {K : Act → World → Prop} {Q : Exit → Act → World → Prop} {E : Prop} (hgd : o.guard = none) (s x : Operand)
    (ho : o.op = .call { callee := .builtin .append, args := #[s, x], argTypes := #[t, t] })
    (base : Nat) (v : Value) (n : Nat) (xs : List Value) (hs : a.eval s = v) (hown : OwnW e m base v n xs w) (b off k c : Nat) (ys : List Value) (hx : a.eval x = .slice (some ⟨b, off, none⟩) k c) (hl : ys.length = k * m) (hR : RowW (some ⟨b, off, none⟩) ys w) (h1 : ∀ u ∈ ys, u.oneCell' = true)
    (hlen : n + k ≤ 8589934593) (hby : bytes ≤ 8192) (hbase : base ≤ w.heap.size)
    (h : ∀ v' w', OwnW e m base v' (n + k) (xs ++ ys) w' → Below base w w' → w.grownBy w' v.ownBlock → (v'.ownBlock = v.ownBlock ∨ v'.ownBlock = some w.heap.size) → K (a.put o.dst v') w') :
    if Region.wanted o (yielded ops a.tmps) = true then Oper.wp P o a w K Q else E := by
  have hw : Region.wanted o (yielded ops a.tmps) = true := by simp [Region.wanted, hgd]
  rw [if_pos hw]
  exact wp_appW hT s x ho base v n xs hs hown b off k c ys hx hl hR h1 hlen hby hbase h
end Go.Proofs.YtnficndeblkjhaaGreatDoor

/- Lists of leaves of one's own that grow, each with a path of its own. -/
namespace Go.Proofs.YtnficndeblkjhaaGreatDoor
open Go.RowKit

theorem Mut.grown15 {w w' : World} {b : Nat} {vs : List Value} {r : Option Nat} (h : Mut w b vs) (hg : w.grownBy w' r) (hr : r ≠ some b) : Mut w' b vs := h.onlyP (OnlyP.of_grown (P := fun k => r = some k) hg (fun _ hk => hk)) (fun e => hr e)
theorem OutStr.grown {w w' : World} {c n k : Nat} {f : Nat → ByteArray} {r : Option Nat} (h : OutStr c n k f w) (hg : w.grownBy w' r) (hr : r ≠ some c) : OutStr c n k f w' := by
  have q := OnlyP.of_grown (P := fun k => r = some k) hg (fun _ hk => hk)
  refine ⟨Nat.lt_of_lt_of_le h.1 hg.size, fun i hi => ?_⟩
  obtain ⟨⟨x, h0, hx⟩, g0⟩ := h.2 i hi
  exact ⟨⟨x, (q.cell h.1 (fun e => hr e)).trans h0, hx⟩, (q.frozen h.1 (fun e => hr e)).trans g0⟩
theorem OutStr.onlyP {P : Nat → Prop} {w w' : World} {c n k : Nat} {f : Nat → ByteArray} (h : OutStr c n k f w) (q : OnlyP P w w') (hr : ¬ P c) : OutStr c n k f w' := by
  refine ⟨Nat.lt_of_lt_of_le h.1 q.2.2.2.1, fun i hi => ?_⟩
  obtain ⟨⟨x, h0, hx⟩, g0⟩ := h.2 i hi
  exact ⟨⟨x, (q.cell h.1 hr).trans h0, hx⟩, (q.frozen h.1 hr).trans g0⟩
/-- A list of strings of one's own is a block that may be written. -/
theorem ownT_out {e : TypeId} {base : Nat} {v : Value} {L : List ByteArray} {w : World} (h : OwnT e base v L w) (h0 : L ≠ []) : ∃ g cap, v = .slice (some ⟨g, 0, none⟩) L.length cap ∧ L.length ≤ cap ∧ base ≤ g ∧ OutStr g L.length L.length (fun i => L.getD i ByteArray.empty) w := by
  obtain ⟨a, cap, hv, _, hc⟩ := ownW_row (show OwnW e 1 base v L.length (tcells L) w from h)
  rcases hc with ⟨_, _, e0⟩ | ⟨g, rfl, hg, hgl, hcap, hf⟩
  · exact absurd (List.eq_nil_of_length_eq_zero e0) h0
  · subst hv
    exact ⟨g, cap, rfl, hcap, hg, hgl, fun i hi => ⟨⟨_, ownT_at h hi, fun _ => rfl⟩, hf i⟩⟩
theorem RowT.of_str {a : Option Addr} {n : Nat} {f : Nat → ByteArray} {w : World} (h : RowStr a n f w) : RowT a (listS n f) w := by
  intro i hi
  rw [listS_len] at hi
  obtain ⟨b, off, ha, hb, h0⟩ := h i hi
  refine ⟨b, off, ha, hb, ?_⟩
  rw [h0, List.getD_eq_getElem?_getD]
  unfold listS
  rw [List.getElem?_map, List.getElem?_range hi]
  rfl
theorem listS_at {n : Nat} {f : Nat → ByteArray} {i : Nat} (h : i < n) : (listS n f).getD i ByteArray.empty = f i := by
  rw [List.getD_eq_getElem?_getD]
  unfold listS
  rw [List.getElem?_map, List.getElem?_range h]
  rfl
theorem ownT_outS {e : TypeId} {base : Nat} {v : Value} {n : Nat} {f : Nat → ByteArray} {w : World} (h : OwnT e base v (listS n f) w) (h0 : 1 ≤ n) : ∃ g cap, v = .slice (some ⟨g, 0, none⟩) n cap ∧ n ≤ cap ∧ base ≤ g ∧ OutStr g n n f w := by
  have hl := listS_len n f
  obtain ⟨g, cap, hv, hc, hg, hO⟩ := ownT_out h (fun e => by rw [e] at hl; simp at hl; omega)
  rw [hl] at hv hc hO
  refine ⟨g, cap, hv, hc, hg, hO.1, fun i hi => ?_⟩
  obtain ⟨⟨x, h1, h2⟩, h3⟩ := hO.2 i hi
  exact ⟨⟨x, h1, fun _ => (h2 hi).trans (listS_at hi)⟩, h3⟩

/-- A leaf, the block of its path, and the room in it. -/
structure El15 where
  t : Lf
  x : Nat
  k : Nat
def elf (e : El15) : List Value := [.slice (some ⟨e.x, 0, none⟩) e.t.n e.k, .string e.t.v]
def efs : List El15 → List Value
  | [] => []
  | e :: L => elf e ++ efs L
theorem efs_app : ∀ (L : List El15) (e : El15), efs (L ++ [e]) = efs L ++ elf e
  | [], e => by simp [efs]
  | x :: L, e => by simp [efs, efs_app L e]
theorem efs_at : ∀ {L : List El15} {i : Nat} (h : i < L.length), (efs L)[i * 2]? = some (.slice (some ⟨(L[i]).x, 0, none⟩) (L[i]).t.n (L[i]).k) ∧ (efs L)[i * 2 + 1]? = some (.string (L[i]).t.v)
  | [], i, h => absurd h (Nat.not_lt_zero _)
  | x :: L, 0, _ => ⟨rfl, rfl⟩
  | x :: L, i + 1, h => by
    have hi : i < L.length := by simpa using h
    obtain ⟨h1, h2⟩ := efs_at hi
    have e : efs (x :: L) = .slice (some ⟨x.x, 0, none⟩) x.t.n x.k :: .string x.t.v :: efs L := rfl
    rw [e]
    exact ⟨by rw [show (i + 1) * 2 = i * 2 + 1 + 1 by omega]; simpa using h1, by rw [show (i + 1) * 2 + 1 = i * 2 + 1 + 1 + 1 by omega]; simpa using h2⟩
theorem elf_one (e : El15) : ∀ u ∈ elf e, u.oneCell' = true := by
  intro u hu
  simp only [elf, List.mem_cons, List.not_mem_nil, or_false] at hu
  rcases hu with rfl | rfl <;> rfl
/-- The leaf at a place. -/
def TF (L : List Lf) (i : Nat) : Lf := L.getD i lf0
theorem TF_eq {L : List Lf} {i : Nat} (h : i < L.length) : TF L i = L[i] := by
  unfold TF
  rw [List.getD_eq_getElem?_getD, List.getElem?_eq_getElem h]
  rfl
/-- The first n leaves. -/
def lsF (n : Nat) (T : Nat → Lf) : List Lf := (List.range n).map T
theorem lsF_succ (n : Nat) (T : Nat → Lf) : lsF (n + 1) T = lsF n T ++ [T n] := by simp [lsF, List.range_succ]
theorem lsF_len (n : Nat) (T : Nat → Lf) : (lsF n T).length = n := by simp [lsF]
theorem lsF_at {n : Nat} {T : Nat → Lf} {i : Nat} (h : i < n) : TF (lsF n T) i = T i := by
  rw [TF_eq (by rw [lsF_len]; exact h)]
  simp [lsF]
theorem leafT : AggT Tryz.prog 31 87 (.agg #[.slice none 0 0, .string ByteArray.empty]) 2 40 := ⟨Tryz.underlying31, by kernel_rfl, rfl, by decide⟩
/-- A list of leaves of one's own, the paths too. -/
def LsF (base : Nat) (v : Value) (L : List El15) (w : World) : Prop := OwnW 87 2 base v L.length (efs L) w ∧ (∀ e, e ∈ L → base ≤ e.x ∧ e.t.n ≤ e.k ∧ OutStr e.x e.t.n e.t.n e.t.p w) ∧ (∀ b, v.ownBlock = some b → ∀ e, e ∈ L → e.x ≠ b) ∧ L.Pairwise (fun a b => a.x ≠ b.x)
theorem LsF.nil (base : Nat) (w : World) : LsF base (.slice none 0 0) [] w := ⟨ownW_nil _ _ _ _, fun e h => by simp at h, fun b h => by simp [Value.ownBlock] at h, .nil⟩
theorem LsF.below {base : Nat} {v : Value} {L : List El15} {w w' : World} (h : LsF base v L w) (hb : Below w.heap.size w w') : LsF base v L w' :=
  ⟨ownW_below h.1 hb, fun e he => ⟨(h.2.1 e he).1, (h.2.1 e he).2.1, (h.2.1 e he).2.2.below hb⟩, h.2.2.1, h.2.2.2⟩
theorem LsF.base {base base' : Nat} {v : Value} {L : List El15} {w : World} (h : LsF base v L w) (hb : base' ≤ base) : LsF base' v L w :=
  ⟨ownW_base h.1 hb, fun e he => ⟨Nat.le_trans hb (h.2.1 e he).1, (h.2.1 e he).2⟩, h.2.2.1, h.2.2.2⟩
theorem LsF.lt {base : Nat} {v : Value} {L : List El15} {w : World} (h : LsF base v L w) {e : El15} (he : e ∈ L) : e.x < w.heap.size := (h.2.1 e he).2.2.1
theorem LsF.onlyP {P : Nat → Prop} {base : Nat} {v : Value} {L : List El15} {w w' : World} (h : LsF base v L w) (hb : OnlyP P w w') (hP : ∀ k, base ≤ k → k < w.heap.size → ¬ P k) : LsF base v L w' :=
  ⟨ownW_onlyP h.1 hb (fun k hk => by have := ownW_lt h.1 hk; exact hP k this.1 this.2), fun e he => ⟨(h.2.1 e he).1, (h.2.1 e he).2.1, (h.2.1 e he).2.2.onlyP hb (hP _ (h.2.1 e he).1 (h.2.1 e he).2.2.1)⟩, h.2.2.1, h.2.2.2⟩
theorem LsF.push {base : Nat} {v v' : Value} {L : List El15} {w w' : World} (h : LsF base v L w) {e : El15} (hb : base ≤ e.x) (hk : e.t.n ≤ e.k) (hO : OutStr e.x e.t.n e.t.n e.t.p w) (hx : ∀ z, z ∈ L → z.x ≠ e.x) (hv : v.ownBlock ≠ some e.x)
    (own' : OwnW 87 2 base v' (L.length + 1) (efs L ++ elf e) w') (g : w.grownBy w' v.ownBlock) (o : v'.ownBlock = v.ownBlock ∨ v'.ownBlock = some w.heap.size) : LsF base v' (L ++ [e]) w' := by
  have hv2 : ∀ z, z ∈ L → v.ownBlock ≠ some z.x := fun z hz q => h.2.2.1 _ q z hz rfl
  refine ⟨by rw [List.length_append, efs_app]; exact own', ?_, ?_, ?_⟩
  · intro z hz
    rcases List.mem_append.1 hz with hz | hz
    · obtain ⟨h1, h2, h3⟩ := h.2.1 z hz
      exact ⟨h1, h2, h3.grown g (hv2 z hz)⟩
    · obtain rfl : z = e := by simpa using hz
      exact ⟨hb, hk, hO.grown g hv⟩
  · intro b hbb z hz
    have hlt : z.x < w.heap.size := by
      rcases List.mem_append.1 hz with hz | hz
      · exact h.lt hz
      · obtain rfl : z = e := by simpa using hz
        exact hO.1
    rcases o with o | o
    · rw [o] at hbb
      rcases List.mem_append.1 hz with hz | hz
      · exact h.2.2.1 b hbb z hz
      · obtain rfl : z = e := by simpa using hz
        exact fun q => hv (by rw [hbb, q])
    · rw [o] at hbb
      simp at hbb
      omega
  · rw [List.pairwise_append]
    refine ⟨h.2.2.2, List.pairwise_singleton _ _, fun z hz y hy => ?_⟩
    obtain rfl : y = e := by simpa using hy
    exact hx z hz
/-- As rows of leaves. -/
theorem LsF.row {base : Nat} {v : Value} {L : List El15} {w : World} (h : LsF base v L w) : ∃ a cap, v = .slice a L.length cap ∧ RowF true a L.length (TF (L.map (·.t))) w := by
  obtain ⟨a, cap, rfl, hr, _⟩ := ownW_row h.1
  refine ⟨a, cap, rfl, fun i hi => ?_⟩
  obtain ⟨e1, e2⟩ := efs_at hi
  obtain ⟨b, off, ha, hb, c0⟩ := hr _ _ e1
  obtain ⟨b', off', ha', _, c1⟩ := hr _ _ e2
  rw [ha] at ha'
  simp only [Option.some.injEq, Addr.mk.injEq, and_true] at ha'
  obtain ⟨rfl, rfl⟩ := ha'
  obtain ⟨_, h2, h3⟩ := h.2.1 _ (List.getElem_mem hi)
  rw [TF_eq (by simpa using hi)]
  simp only [List.getElem_map]
  exact ⟨b, off, _, _, ha, hb, c0, c1, fun _ => h2, h3.row⟩
end Go.Proofs.YtnficndeblkjhaaGreatDoor

namespace Go.Proofs.YtnficndeblkjhaaGreatDoor
open Go.RowKit

/-- Of the first k those of which P holds. -/
noncomputable def flt15 {A : Type} (P : Nat → Prop) (U : Nat → A) : Nat → List A
  | 0 => []
  | k + 1 => if tB (P k) then flt15 P U k ++ [U k] else flt15 P U k
theorem flt15_yes {A : Type} {P : Nat → Prop} {U : Nat → A} {k : Nat} (h : P k) : flt15 P U (k + 1) = flt15 P U k ++ [U k] := if_pos (tB_t h)
theorem flt15_no {A : Type} {P : Nat → Prop} {U : Nat → A} {k : Nat} (h : ¬ P k) : flt15 P U (k + 1) = flt15 P U k := if_neg (by simp [tB_f h])
theorem flt15_len {A : Type} (P : Nat → Prop) (U : Nat → A) : ∀ k, (flt15 P U k).length ≤ k
  | 0 => Nat.le_refl _
  | k + 1 => by
    have ih := flt15_len P U k
    by_cases h : P k
    · rw [flt15_yes h, List.length_append, List.length_singleton]; omega
    · rw [flt15_no h]; omega
theorem flt15_mem {A : Type} {P : Nat → Prop} {U : Nat → A} {x : A} : ∀ {k : Nat}, x ∈ flt15 P U k → ∃ i, i < k ∧ P i ∧ x = U i
  | 0, h => by simp [flt15] at h
  | k + 1, h => by
    by_cases hp : P k
    · rw [flt15_yes hp] at h
      rcases List.mem_append.1 h with h | h
      · obtain ⟨i, h1, h2⟩ := flt15_mem h
        exact ⟨i, by omega, h2⟩
      · exact ⟨k, by omega, hp, by simpa using h⟩
    · rw [flt15_no hp] at h
      obtain ⟨i, h1, h2⟩ := flt15_mem h
      exact ⟨i, by omega, h2⟩
/-- How many words a list of leaves has. -/
def sumF : List Lf → Nat
  | [] => 0
  | t :: L => t.n + sumF L
theorem sumF_app : ∀ (L M : List Lf), sumF (L ++ M) = sumF L + sumF M
  | [], M => by simp [sumF]
  | t :: L, M => by simp [sumF, sumF_app L M]; omega
theorem flt15_sum {P : Nat → Prop} {U T : Nat → Lf} (h : ∀ i, (U i).n ≤ (T i).n) : ∀ k, sumF (flt15 P U k) ≤ totF T k
  | 0 => Nat.le_refl _
  | k + 1 => by
    have ih := flt15_sum (P := P) h k
    have h2 : totF T (k + 1) = totF T k + (T k).n := rfl
    by_cases hp : P k
    · rw [flt15_yes hp, sumF_app]
      have := h k
      simp only [sumF]
      omega
    · rw [flt15_no hp]; omega
theorem totF_app : ∀ (L M : List Lf) (k : Nat), k ≤ L.length → totF (TF (L ++ M)) k = totF (TF L) k
  | _, _, 0, _ => rfl
  | L, M, k + 1, h => by
    show totF (TF (L ++ M)) k + (TF (L ++ M) k).n = totF (TF L) k + (TF L k).n
    rw [totF_app L M k (by omega), TF_eq (by simp; omega), TF_eq (by omega)]
    simp [List.getElem_append_left (show k < L.length by omega)]
theorem totF_sum_rev : ∀ (L : List Lf), totF (TF L.reverse) L.length = sumF L.reverse
  | [] => rfl
  | t :: L => by
    have ih := totF_sum_rev L
    rw [List.reverse_cons, sumF_app]
    show totF (TF (L.reverse ++ [t])) L.length + (TF (L.reverse ++ [t]) L.length).n = _
    rw [totF_app _ _ _ (by simp), ih, TF_eq (by simp)]
    simp [sumF]
theorem totF_sum (L : List Lf) : totF (TF L) L.length = sumF L := by
  have := totF_sum_rev L.reverse
  simpa using this
/-- What DeleteAt answers. -/
noncomputable def delL (N : Nat) (T : Nat → Lf) (n : Nat) (p : Nat → ByteArray) : List Lf := flt15 (fun i => ¬ Bg n p (T i).n (T i).p) T N
noncomputable def delA (N : Nat) (T : Nat → Lf) (n : Nat) (p : Nat → ByteArray) : List Lf × Bool := if tB (GC N T ∧ Pw n p ∧ (delL N T n p).length ≠ N) then (delL N T n p, true) else ([], false)
/-- A leaf without its first n words. -/
def cutF (n : Nat) (t : Lf) : Lf := ⟨t.n - n, fun i => t.p (n + i), t.v⟩
noncomputable def undL (N : Nat) (T : Nat → Lf) (n : Nat) (p : Nat → ByteArray) : List Lf := flt15 (fun i => n < (T i).n ∧ Bg n p (T i).n (T i).p) (fun i => cutF n (T i)) N
/-- What Under answers. -/
noncomputable def undA (N : Nat) (T : Nat → Lf) (n : Nat) (p : Nat → ByteArray) : List Lf × Bool := if tB (GC N T ∧ Pw n p) then (undL N T n p, decide (0 < (undL N T n p).length)) else ([], false)

/-- A leaf whose path lies anywhere. -/
structure Al15 where
  t : Lf
  a : Option Addr
  k : Nat
def alf (e : Al15) : List Value := [.slice e.a e.t.n e.k, .string e.t.v]
def afs : List Al15 → List Value
  | [] => []
  | e :: L => alf e ++ afs L
theorem afs_app : ∀ (L : List Al15) (e : Al15), afs (L ++ [e]) = afs L ++ alf e
  | [], e => by simp [afs]
  | x :: L, e => by simp [afs, afs_app L e]
theorem afs_at : ∀ {L : List Al15} {i : Nat} (h : i < L.length), (afs L)[i * 2]? = some (.slice (L[i]).a (L[i]).t.n (L[i]).k) ∧ (afs L)[i * 2 + 1]? = some (.string (L[i]).t.v)
  | [], i, h => absurd h (Nat.not_lt_zero _)
  | x :: L, 0, _ => ⟨rfl, rfl⟩
  | x :: L, i + 1, h => by
    have hi : i < L.length := by simpa using h
    obtain ⟨h1, h2⟩ := afs_at hi
    have e : afs (x :: L) = .slice x.a x.t.n x.k :: .string x.t.v :: afs L := rfl
    rw [e]
    exact ⟨by rw [show (i + 1) * 2 = i * 2 + 1 + 1 by omega]; simpa using h1, by rw [show (i + 1) * 2 + 1 = i * 2 + 1 + 1 + 1 by omega]; simpa using h2⟩
theorem alf_one (e : Al15) : ∀ u ∈ alf e, u.oneCell' = true := by
  intro u hu
  simp only [alf, List.mem_cons, List.not_mem_nil, or_false] at hu
  rcases hu with rfl | rfl <;> rfl
/-- A list of one's own, of leaves whose paths lie in an older world w0. -/
def AlF (base : Nat) (v : Value) (M : List Al15) (w0 w : World) : Prop := OwnW 87 2 base v M.length (afs M) w ∧ ∀ e, e ∈ M → e.t.n ≤ e.k ∧ RowStr e.a e.t.n e.t.p w0
theorem AlF.nil (base : Nat) (w0 w : World) : AlF base (.slice none 0 0) [] w0 w := ⟨ownW_nil _ _ _ _, fun e h => by simp at h⟩
theorem AlF.below {base : Nat} {v : Value} {M : List Al15} {w0 w w' : World} (h : AlF base v M w0 w) (hb : Below w.heap.size w w') : AlF base v M w0 w' := ⟨ownW_below h.1 hb, h.2⟩
theorem AlF.push {base : Nat} {v v' : Value} {M : List Al15} {w0 w w' : World} (h : AlF base v M w0 w) (e : Al15) (hk : e.t.n ≤ e.k) (hR : RowStr e.a e.t.n e.t.p w0) (own' : OwnW 87 2 base v' (M.length + 1) (afs M ++ alf e) w') : AlF base v' (M ++ [e]) w0 w' := by
  refine ⟨by rw [List.length_append, afs_app]; exact own', fun z hz => ?_⟩
  rcases List.mem_append.1 hz with hz | hz
  · exact h.2 z hz
  · obtain rfl : z = e := by simpa using hz
    exact ⟨hk, hR⟩
theorem AlF.row {base : Nat} {v : Value} {M : List Al15} {w0 w : World} (h : AlF base v M w0 w) (hb : Below w0.heap.size w0 w) : ∃ a cap, v = .slice a M.length cap ∧ RowF true a M.length (TF (M.map (·.t))) w := by
  obtain ⟨a, cap, rfl, hr, _⟩ := ownW_row h.1
  refine ⟨a, cap, rfl, fun i hi => ?_⟩
  obtain ⟨e1, e2⟩ := afs_at hi
  obtain ⟨b, off, ha, hb1, c0⟩ := hr _ _ e1
  obtain ⟨b', off', ha', _, c1⟩ := hr _ _ e2
  rw [ha] at ha'
  simp only [Option.some.injEq, Addr.mk.injEq, and_true] at ha'
  obtain ⟨rfl, rfl⟩ := ha'
  obtain ⟨h2, h3⟩ := h.2 _ (List.getElem_mem hi)
  rw [TF_eq (by simpa using hi)]
  simp only [List.getElem_map]
  exact ⟨b, off, _, _, ha, hb1, c0, c1, fun _ => h2, h3.below hb⟩
/-- Out of a list of one's own, in a newer list. -/
theorem LsF.sub {base base2 : Nat} {v v0 : Value} {L0 L : List El15} {w4 w : World} (h : LsF base v0 L0 w4) (hb : Below w4.heap.size w4 w) (own : OwnW 87 2 base2 v L.length (efs L) w) (h2 : w4.heap.size ≤ base2) (h1 : base ≤ base2) (hs : L.Sublist L0) : LsF base v L w :=
  ⟨ownW_base own h1, fun e he => ⟨(h.2.1 e (hs.mem he)).1, (h.2.1 e (hs.mem he)).2.1, (h.2.1 e (hs.mem he)).2.2.below hb⟩, fun b hbb e he => by
    have h3 := (ownW_lt own hbb).1
    have h4 := h.lt (hs.mem he)
    omega, h.2.2.2.sublist hs⟩
end Go.Proofs.YtnficndeblkjhaaGreatDoor
