/- Lists of offers whose memory is their own: marked, and looked at again. -/
import Derived.Test.YtflakkbodbnndaaAll3
namespace Go.Proofs.Ytflakkbodbnndaa
open Go.RowKit

/-- Nothing that was there has turned but blocks of P. -/
def OnlyS (P : Nat → Prop) (w w' : World) : Prop :=
  w'.os = w.os ∧ w'.tape = w.tape ∧ w'.output = w.output ∧ w.heap.size ≤ w'.heap.size ∧ ∀ k, k < w.heap.size → ¬ P k → w'.heap[k]? = w.heap[k]?
theorem OnlyS.refl (P : Nat → Prop) (w : World) : OnlyS P w w := ⟨rfl, rfl, rfl, Nat.le_refl _, fun _ _ _ => rfl⟩
theorem OnlyS.trans {P : Nat → Prop} {a b d : World} (h : OnlyS P a b) (k : OnlyS P b d) : OnlyS P a d := by
  obtain ⟨h1, h2, h3, h4, h5⟩ := h
  obtain ⟨k1, k2, k3, k4, k5⟩ := k
  exact ⟨k1.trans h1, k2.trans h2, k3.trans h3, Nat.le_trans h4 k4, fun i hi hc => (k5 i (Nat.lt_of_lt_of_le hi h4) hc).trans (h5 i hi hc)⟩
theorem OnlyS.of_only {P : Nat → Prop} {c : Nat} {w w' : World} (h : Only c w w') (hc : P c) : OnlyS P w w' :=
  ⟨h.1, h.2.1, h.2.2.1, h.2.2.2.1, fun k hk hn => h.2.2.2.2 k hk (fun e => hn (e ▸ hc))⟩
theorem OnlyS.set {P : Nat → Prop} {w w' : World} (h : OnlyS P w w') {c : Nat} (hc : P c) (o : Nat) (v : Value) : OnlyS P w (w'.setCell ⟨c, o, none⟩ v) :=
  h.trans (OnlyS.of_only ((Only.refl c w').setCell o v) hc)
theorem OnlyS.mono {P Q : Nat → Prop} {w w' : World} (h : OnlyS P w w') (hq : ∀ k, P k → Q k) : OnlyS Q w w' :=
  ⟨h.1, h.2.1, h.2.2.1, h.2.2.2.1, fun k hk hn => h.2.2.2.2 k hk (fun e => hn (hq k e))⟩
theorem OnlyS.cell {P : Nat → Prop} {w w' : World} (h : OnlyS P w w') {b o : Nat} (hb : b < w.heap.size) (hc : ¬ P b) : w'.cell? ⟨b, o, none⟩ = w.cell? ⟨b, o, none⟩ := World.cell?_of_block (w := w) (h.2.2.2.2 b hb hc)
theorem OnlyS.frozen {P : Nat → Prop} {w w' : World} (h : OnlyS P w w') {b o : Nat} (hb : b < w.heap.size) (hc : ¬ P b) : w'.frozen? ⟨b, o, none⟩ = w.frozen? ⟨b, o, none⟩ := World.frozen?_of_block (w := w) (h.2.2.2.2 b hb hc)
theorem OnlyS.below {P : Nat → Prop} {base : Nat} {w w' : World} (h : OnlyS P w w') (hc : ∀ k, P k → base ≤ k) (hb : base ≤ w.heap.size) : Below base w w' :=
  ⟨h.1, h.2.1, h.2.2.1, h.2.2.2.1, fun k hk => h.2.2.2.2 k (by omega) (fun e => by have := hc k e; omega)⟩
theorem OutInt.onlyS {P : Nat → Prop} {c n k : Nat} {f : Nat → Int} {w w' : World} (h : OutInt c n k f w) (hb : OnlyS P w w') (hn : ¬ P c) : OutInt c n k f w' := by
  refine ⟨Nat.lt_of_lt_of_le h.1 hb.2.2.2.1, fun i hi => ?_⟩
  obtain ⟨⟨x, h0, hk⟩, g0⟩ := h.2 i hi
  exact ⟨⟨x, (hb.cell h.1 hn).trans h0, hk⟩, (hb.frozen h.1 hn).trans g0⟩

/-- Cells of block b from off on; they may be written. -/
def MutO (w : World) (b off : Nat) (vs : List Value) : Prop := b < w.heap.size ∧ (∀ i v, vs[i]? = some v → w.cell? ⟨b, off + i, none⟩ = some v) ∧ ∀ i, i < vs.length → w.frozen? ⟨b, off + i, none⟩ = false
theorem MutO.below {w w' : World} {b off : Nat} {vs : List Value} (h : MutO w b off vs) (k : Below w.heap.size w w') : MutO w' b off vs :=
  ⟨Nat.lt_of_lt_of_le h.1 k.size, fun i v hv => ((bcell k).1 _ _ h.1).trans (h.2.1 i v hv), fun i hi => ((bcell k).2 _ _ h.1).trans (h.2.2 i hi)⟩
theorem MutO.only {w w' : World} {b c off : Nat} {vs : List Value} (h : MutO w b off vs) (k : Only c w w') (hn : b ≠ c) : MutO w' b off vs :=
  ⟨Nat.lt_of_lt_of_le h.1 k.2.2.2.1, fun i v hv => (k.cell h.1 hn).trans (h.2.1 i v hv), fun i hi => (k.frozen h.1 hn).trans (h.2.2 i hi)⟩
theorem MutO.onlyS {P : Nat → Prop} {w w' : World} {b off : Nat} {vs : List Value} (h : MutO w b off vs) (k : OnlyS P w w') (hn : ¬ P b) : MutO w' b off vs :=
  ⟨Nat.lt_of_lt_of_le h.1 k.2.2.2.1, fun i v hv => (k.cell h.1 hn).trans (h.2.1 i v hv), fun i hi => (k.frozen h.1 hn).trans (h.2.2 i hi)⟩
theorem MutO.far {w : World} {b off : Nat} {vs : List Value} (h : MutO w b off vs) {q : Nat} (hq : q < off ∨ off + vs.length ≤ q) (v : Value) : MutO (w.setCell ⟨b, q, none⟩ v) b off vs := by
  refine ⟨by simpa using h.1, fun i u hu => ?_, fun i hi => ?_⟩
  · have hi := (List.getElem?_eq_some_iff.1 hu).1
    rw [World.cell?_setCell_other _ _ _ _ (by simp <;> omega)]
    exact h.2.1 i u hu
  · have := h.2.2 i hi
    simpa [go_sem] using this
theorem MutO.set {w : World} {b off : Nat} {vs : List Value} (h : MutO w b off vs) (j : Nat) (v : Value) : MutO (w.setCell ⟨b, off + j, none⟩ v) b off (vs.set j v) := by
  refine ⟨by simpa using h.1, fun i u hu => ?_, fun i hi => ?_⟩
  · by_cases e : j = i
    · subst e
      have hj : j < vs.length := by
        have := (List.getElem?_eq_some_iff.1 hu).1
        simpa using this
      rw [List.getElem?_set_self hj] at hu
      simp at hu
      subst hu
      obtain ⟨x, hx⟩ : ∃ x, vs[j]? = some x := ⟨_, List.getElem?_eq_getElem hj⟩
      have := h.2.1 j x hx
      simp [go_sem, this]
    · rw [List.getElem?_set_ne e] at hu
      rw [World.cell?_setCell_other _ _ _ _ (by simp <;> omega)]
      exact h.2.1 i u hu
  · have := h.2.2 i (by simpa using hi)
    simpa [go_sem] using this
/-- An offer's cells. -/
def ovO (t : Oc) (x k y l : Nat) : List Value := [.int .i64 t.pe, .int .i64 t.o, .slice (some ⟨x, 0, none⟩) t.n0 k, .int .i64 t.nx, .int .i64 t.md, .int .i64 t.pf, .slice (some ⟨y, 0, none⟩) t.n1 l]
theorem mutO_of7 {w : World} {b off : Nat} {t : Oc} {x k y l : Nat} (hb : b < w.heap.size) (h0 : w.cell? ⟨b, off, none⟩ = some (.int .i64 t.pe)) (h1 : w.cell? ⟨b, off + 1, none⟩ = some (.int .i64 t.o)) (h2 : w.cell? ⟨b, off + 2, none⟩ = some (.slice (some ⟨x, 0, none⟩) t.n0 k)) (h3 : w.cell? ⟨b, off + 3, none⟩ = some (.int .i64 t.nx)) (h4 : w.cell? ⟨b, off + 4, none⟩ = some (.int .i64 t.md)) (h5 : w.cell? ⟨b, off + 5, none⟩ = some (.int .i64 t.pf)) (h6 : w.cell? ⟨b, off + 6, none⟩ = some (.slice (some ⟨y, 0, none⟩) t.n1 l)) (hz : ∀ i, i < 7 → w.frozen? ⟨b, off + i, none⟩ = false) : MutO w b off (ovO t x k y l) := by
  refine ⟨hb, fun i v hv => ?_, fun i hi => hz i hi⟩
  unfold ovO at hv
  match i, hv with
  | 0, hv => simp at hv; rw [← hv]; simpa using h0
  | 1, hv => simp at hv; rw [← hv]; exact h1
  | 2, hv => simp at hv; rw [← hv]; exact h2
  | 3, hv => simp at hv; rw [← hv]; exact h3
  | 4, hv => simp at hv; rw [← hv]; exact h4
  | 5, hv => simp at hv; rw [← hv]; exact h5
  | 6, hv => simp at hv; rw [← hv]; exact h6
  | i + 7, hv => simp at hv

/-- The blocks of a list of offers. -/
def BlkO (c n : Nat) (X Y : Nat → Nat) (b : Nat) : Prop := b = c ∨ ∃ i, i < n ∧ (b = X i ∨ b = Y i)
/-- The blocks of the lists are each another one's. -/
def SepO (c n : Nat) (X Y : Nat → Nat) : Prop := ∀ i, i < n → X i ≠ c ∧ Y i ≠ c ∧ X i ≠ Y i ∧ ∀ j, j < n → j ≠ i → X j ≠ X i ∧ X j ≠ Y i ∧ Y j ≠ X i ∧ Y j ≠ Y i
/-- n offers in block c, their lists in blocks X, Y; all may be written. -/
def OneOA (c : Nat) (X Y K L : Nat → Nat) (T : Nat → Oc) (w : World) (i : Nat) : Prop := MutO w c (i * 7) (ovO (T i) (X i) (K i) (Y i) (L i)) ∧ OutInt (X i) (T i).n0 (T i).n0 (T i).f w ∧ OutInt (Y i) (T i).n1 (T i).n1 (T i).g w
def RowOA (c n : Nat) (X Y : Nat → Nat) (K L : Nat → Nat) (T : Nat → Oc) (w : World) : Prop := ∀ i, i < n → OneOA c X Y K L T w i
theorem RowOA.below {c n : Nat} {X Y K L : Nat → Nat} {T : Nat → Oc} {w w' : World} (h : RowOA c n X Y K L T w) (b : Below w.heap.size w w') : RowOA c n X Y K L T w' :=
  fun i hi => ⟨(h i hi).1.below b, (h i hi).2.1.below b, (h i hi).2.2.below b⟩
theorem RowOA.onlyS {P : Nat → Prop} {c n : Nat} {X Y K L : Nat → Nat} {T : Nat → Oc} {w w' : World} (h : RowOA c n X Y K L T w) (b : OnlyS P w w') (hn : ∀ k, BlkO c n X Y k → ¬ P k) : RowOA c n X Y K L T w' :=
  fun i hi => ⟨(h i hi).1.onlyS b (hn c (Or.inl rfl)), (h i hi).2.1.onlyS b (hn _ (Or.inr ⟨i, hi, Or.inl rfl⟩)), (h i hi).2.2.onlyS b (hn _ (Or.inr ⟨i, hi, Or.inr rfl⟩))⟩
theorem RowOA.row {c n : Nat} {X Y K L : Nat → Nat} {T : Nat → Oc} {w : World} (h : RowOA c n X Y K L T w) : RowO (some ⟨c, 0, none⟩) n T w := by
  intro i hi
  obtain ⟨M, o1, o2⟩ := h i hi
  exact ⟨c, 0, _, _, _, _, rfl, M.1, by rw [Nat.zero_add]; exact M.2.1 0 _ rfl, by rw [Nat.zero_add]; exact M.2.1 1 _ rfl, by rw [Nat.zero_add]; exact M.2.1 2 _ rfl, by rw [Nat.zero_add]; exact M.2.1 3 _ rfl, by rw [Nat.zero_add]; exact M.2.1 4 _ rfl, by rw [Nat.zero_add]; exact M.2.1 5 _ rfl, by rw [Nat.zero_add]; exact M.2.1 6 _ rfl, o1.row, o2.row⟩
theorem RowOO.own {c n : Nat} {X Y : Nat → Nat} {hi : Nat} {T : Nat → Oc} {w : World} (h : RowOO c n X Y hi T w) (F : FreeB c (n * 7) w) : RowOA c n X Y (fun i => (T i).n0) (fun i => (T i).n1) T w ∧ SepO c n X Y ∧ ∀ k, BlkO c n X Y k → k = c ∨ (c < k ∧ k < hi) := by
  refine ⟨fun i hi => ?_, fun i hi => ?_, fun k hk => ?_⟩
  · obtain ⟨h1, h2, h3, hj, h4, c0, c1, c2, c3, c4, c5, c6, o1, o2⟩ := h.2 i hi
    exact ⟨mutO_of7 h4 c0 c1 c2 c3 c4 c5 c6 (fun q hq => (F.2 _ (by omega)).2), o1, o2⟩
  · obtain ⟨h1, h2, h3, hj, _⟩ := h.2 i hi
    refine ⟨by omega, by omega, by omega, fun j hjn hji => ?_⟩
    obtain ⟨g1, g2, g3, gj, _⟩ := h.2 j hjn
    rcases Nat.lt_or_gt_of_ne hji with hlt | hlt
    · have := hj j hlt
      exact ⟨by omega, by omega, by omega, by omega⟩
    · have := gj i hlt
      exact ⟨by omega, by omega, by omega, by omega⟩
  · rcases hk with rfl | ⟨i, hi, rfl | rfl⟩
    · exact Or.inl rfl
    · obtain ⟨h1, h2, h3, _⟩ := h.2 i hi
      exact Or.inr ⟨by omega, by omega⟩
    · obtain ⟨h1, h2, h3, _⟩ := h.2 i hi
      exact Or.inr ⟨by omega, by omega⟩
/-- All but offer k. -/
def OthO (c n : Nat) (X Y K L : Nat → Nat) (T : Nat → Oc) (k : Nat) (w : World) : Prop := ∀ i, i < n → i ≠ k → OneOA c X Y K L T w i
theorem OthO.set {c n : Nat} {X Y K L : Nat → Nat} {T : Nat → Oc} {k : Nat} {w : World} (h : OthO c n X Y K L T k w) (hs : SepO c n X Y) (j : Nat) (hj : j < 7) (v : Value) : OthO c n X Y K L T k (w.setCell ⟨c, k * 7 + j, none⟩ v) := by
  intro i hi hne
  obtain ⟨M, o1, o2⟩ := h i hi hne
  obtain ⟨s1, s2, _⟩ := hs i hi
  refine ⟨M.far ?_ v, o1.other s1 _ _, o2.other s2 _ _⟩
  show k * 7 + j < i * 7 ∨ i * 7 + 7 ≤ k * 7 + j
  omega
theorem OthO.onlyX {c n : Nat} {X Y K L : Nat → Nat} {T : Nat → Oc} {k : Nat} {w w' : World} (h : OthO c n X Y K L T k w) (hs : SepO c n X Y) (hk : k < n) (b : Only (X k) w w') : OthO c n X Y K L T k w' := by
  intro i hi hne
  obtain ⟨M, o1, o2⟩ := h i hi hne
  obtain ⟨s1, s2, s3, s4⟩ := hs k hk
  obtain ⟨t1, t2, t3, t4⟩ := s4 i hi hne
  exact ⟨M.only b (fun e => s1 e.symm), o1.only b t1, o2.only b t3⟩
theorem OthO.onlyY {c n : Nat} {X Y K L : Nat → Nat} {T : Nat → Oc} {k : Nat} {w w' : World} (h : OthO c n X Y K L T k w) (hs : SepO c n X Y) (hk : k < n) (b : Only (Y k) w w') : OthO c n X Y K L T k w' := by
  intro i hi hne
  obtain ⟨M, o1, o2⟩ := h i hi hne
  obtain ⟨s1, s2, s3, s4⟩ := hs k hk
  obtain ⟨t1, t2, t3, t4⟩ := s4 i hi hne
  exact ⟨M.only b (fun e => s2 e.symm), o1.only b t2, o2.only b t4⟩
/-- The first mark of offer k. -/
def kmO (T : Nat → Oc) (k : Nat) : Nat := 1 + 5 * k + totO T k
/-- A marked offer. -/
def mkO (k : Int) (t : Oc) : Oc := ⟨k, k + 1, k + 1 + 1 + (t.n0 : Int), k + 1 + 1 + (t.n0 : Int) + 1, k + 1 + 1 + (t.n0 : Int) + 1 + 1, t.n0, fun j => k + 1 + 1 + (j : Int), t.n1, fun j => k + 1 + 1 + (t.n0 : Int) + 1 + 1 + 1 + (j : Int)⟩
theorem kmO_succ (T : Nat → Oc) (k : Nat) : ((kmO T (k + 1) : Nat) : Int) = (kmO T k : Int) + 1 + 1 + ((T k).n0 : Int) + 1 + 1 + 1 + ((T k).n1 : Int) := by
  unfold kmO
  have h2 : totO T (k + 1) = totO T k + (T k).tot := rfl
  have h3 : (T k).tot = (T k).n0 + (T k).n1 := rfl
  omega
theorem kmO_le (T : Nat → Oc) {k n : Nat} (h : k ≤ n) (hn : n ≤ 1048576) (ht : totO T n ≤ 1048576) : kmO T k ≤ 10000000 := by
  unfold kmO
  have := totO_mono T h
  omega
/-- The first k offers marked. -/
def halfO (T : Nat → Oc) (k : Nat) (i : Nat) : Oc := if i < k then mkO (kmO T i : Int) (T i) else T i
theorem halfO_lt {T : Nat → Oc} {k i : Nat} (h : i < k) : halfO T k i = mkO (kmO T i : Int) (T i) := if_pos h
theorem halfO_ge {T : Nat → Oc} {k i : Nat} (h : ¬ i < k) : halfO T k i = T i := if_neg h
theorem halfO_zero (T : Nat → Oc) : halfO T 0 = T := by
  funext i
  exact halfO_ge (by omega)
theorem halfO_other {T : Nat → Oc} {k i : Nat} (h : i ≠ k) : halfO T (k + 1) i = halfO T k i := by
  unfold halfO
  by_cases e : i < k
  · rw [if_pos e, if_pos (by omega)]
  · rw [if_neg e, if_neg (by omega)]
theorem RowOA.step {c n : Nat} {X Y K L : Nat → Nat} {T : Nat → Oc} {k : Nat} {w : World} (h : OthO c n X Y K L (halfO T k) k w)
    (M : MutO w c (k * 7) (ovO (mkO (kmO T k : Int) (T k)) (X k) (K k) (Y k) (L k))) (o1 : OutInt (X k) (T k).n0 (T k).n0 (fun j => (kmO T k : Int) + 1 + 1 + (j : Int)) w)
    (o2 : OutInt (Y k) (T k).n1 (T k).n1 (fun j => (kmO T k : Int) + 1 + 1 + ((T k).n0 : Int) + 1 + 1 + 1 + (j : Int)) w) : RowOA c n X Y K L (halfO T (k + 1)) w := by
  intro i hi
  unfold OneOA
  by_cases e : i = k
  · subst e
    rw [halfO_lt (Nat.lt_succ_self i)]
    exact ⟨M, o1, o2⟩
  · rw [halfO_other e]
    exact h i hi e
end Go.Proofs.Ytflakkbodbnndaa
