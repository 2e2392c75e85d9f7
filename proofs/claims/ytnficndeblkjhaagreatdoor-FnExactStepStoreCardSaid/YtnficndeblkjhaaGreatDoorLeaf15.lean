/- Leaves in memory: a list of strings and a string each; their size, a copy, a comparison. -/
import Derived.Test.YtnficndeblkjhaaGreatDoorGrp2
import Derived.Lib.QuietBelow
namespace Go.Proofs.YtnficndeblkjhaaGreatDoor
open Go.RowKit

/-- N leaves at a; where K is true their paths have at least as much room as they are long. -/
def RowF (K : Bool) (a : Option Addr) (N : Nat) (T : Nat → Lf) (w : World) : Prop := ∀ i, i < N → ∃ (b off : Nat) (a0 : Option Addr) (c0 : Nat), a = some ⟨b, off, none⟩ ∧ b < w.heap.size ∧
  w.cell? ⟨b, off + i * 2, none⟩ = some (.slice a0 (T i).n c0) ∧ w.cell? ⟨b, off + i * 2 + 1, none⟩ = some (.string (T i).v) ∧ (K = true → (T i).n ≤ c0) ∧ RowStr a0 (T i).n (T i).p w
theorem RowF.below {K : Bool} {a : Option Addr} {N : Nat} {T : Nat → Lf} {w w' : World} (h : RowF K a N T w) (k : Below w.heap.size w w') : RowF K a N T w' := by
  intro i hi
  obtain ⟨b, off, a0, c0, ha, hb, h0, h1, hK, ht⟩ := h i hi
  obtain ⟨hc, _⟩ := bcell k
  exact ⟨b, off, a0, c0, ha, Nat.lt_of_lt_of_le hb k.size, (hc _ _ hb).trans h0, (hc _ _ hb).trans h1, hK, ht.below k⟩
theorem RowF.any {K : Bool} {a : Option Addr} {N : Nat} {T : Nat → Lf} {w : World} (h : RowF K a N T w) : RowF false a N T w := by
  intro i hi
  obtain ⟨b, off, a0, c0, ha, hb, h0, h1, _, ht⟩ := h i hi
  exact ⟨b, off, a0, c0, ha, hb, h0, h1, fun e => (by cases e), ht⟩
/-- All is short. -/
def OkF (t : Lf) (m : Nat) : Prop := t.n ≤ m ∧ (∀ i, i < t.n → (t.p i).size ≤ m) ∧ t.v.size ≤ m
def LowF (N : Nat) (T : Nat → Lf) : Prop := ∀ i, i < N → OkF (T i) 1048576
def MaxF (N : Nat) (T : Nat → Lf) : Prop := ∀ i, i < N → OkF (T i) maxLen
/-- How many words the first k leaves have. -/
def totF (T : Nat → Lf) : Nat → Nat
  | 0 => 0
  | k + 1 => totF T k + (T k).n
theorem totF_mono (T : Nat → Lf) {k n : Nat} (h : k ≤ n) : totF T k ≤ totF T n := by
  induction n with
  | zero => have : k = 0 := by omega
            subst this; exact Nat.le_refl _
  | succ n ih =>
    by_cases e : k = n + 1
    · subst e; exact Nat.le_refl _
    · exact Nat.le_trans (ih (by omega)) (Nat.le_add_right _ _)
/-- A block of n cells that may be written. -/
def FreeC (c n : Nat) (w : World) : Prop := c < w.heap.size ∧ ∀ q, q < n → (∃ v, w.cell? ⟨c, q, none⟩ = some v) ∧ w.frozen? ⟨c, q, none⟩ = false
theorem FreeC.below {c n : Nat} {w w' : World} (h : FreeC c n w) (k : Below w.heap.size w w') : FreeC c n w' := by
  obtain ⟨hc, hf⟩ := bcell k
  refine ⟨Nat.lt_of_lt_of_le h.1 k.size, fun q hq => ?_⟩
  obtain ⟨⟨v, hv⟩, hz⟩ := h.2 q hq
  exact ⟨⟨v, (hc _ _ h.1).trans hv⟩, (hf _ _ h.1).trans hz⟩
theorem FreeC.set {c n : Nat} {w : World} (h : FreeC c n w) (j : Nat) (x : Value) : FreeC c n (w.setCell ⟨c, j, none⟩ x) := by
  refine ⟨by simpa using h.1, fun q hq => ?_⟩
  obtain ⟨⟨v, hv⟩, hz⟩ := h.2 q hq
  refine ⟨?_, by simpa [go_sem] using hz⟩
  by_cases e : j = q
  · subst e
    exact ⟨x, by simp [go_sem, hv]⟩
  · exact ⟨v, by rw [World.cell?_setCell_other _ _ _ _ (by simp <;> omega)]; exact hv⟩
theorem FreeC.new (w : World) (cs : Array Value) (t : TypeId) : FreeC w.heap.size cs.size (w.alloc (.cells cs t)) :=
  ⟨by simp, fun q hq => ⟨⟨cs[q], by simp [go_sem, hq]⟩, by simp [go_sem]⟩⟩

theorem FreeC.other {c n : Nat} {w : World} (h : FreeC c n w) {d : Nat} (hd : c ≠ d) (j : Nat) (x : Value) : FreeC c n (w.setCell ⟨d, j, none⟩ x) := by
  refine ⟨by simpa using h.1, fun q hq => ?_⟩
  obtain ⟨⟨v, hv⟩, hz⟩ := h.2 q hq
  exact ⟨⟨v, by rw [World.cell?_setCell_other _ _ _ _ (by simp <;> omega)]; exact hv⟩, by simpa [go_sem] using hz⟩

/-- The first k leaves of a copy in block c; each path in a block of its own behind it, all ahead of hi. -/
def RowFO (c k : Nat) (X : Nat → Nat) (hi : Nat) (T : Nat → Lf) (w : World) : Prop := hi ≤ w.heap.size ∧ ∀ i, i < k → c < X i ∧ X i < hi ∧ (∀ j, j < i → X j < X i) ∧ c < w.heap.size ∧
  w.cell? ⟨c, i * 2, none⟩ = some (.slice (some ⟨X i, 0, none⟩) (T i).n (T i).n) ∧ w.cell? ⟨c, i * 2 + 1, none⟩ = some (.string (T i).v) ∧ OutStr (X i) (T i).n (T i).n (T i).p w
theorem RowFO.below {c k : Nat} {X : Nat → Nat} {hi : Nat} {T : Nat → Lf} {w w' : World} (h : RowFO c k X hi T w) (b : Below w.heap.size w w') : RowFO c k X hi T w' := by
  refine ⟨Nat.le_trans h.1 b.size, fun i hi => ?_⟩
  obtain ⟨hc, _⟩ := bcell b
  obtain ⟨h1, h3, hj, h4, c0, c1, o1⟩ := h.2 i hi
  exact ⟨h1, h3, hj, Nat.lt_of_lt_of_le h4 b.size, (hc _ _ h4).trans c0, (hc _ _ h4).trans c1, o1.below b⟩
theorem RowFO.row {c n : Nat} {X : Nat → Nat} {hi : Nat} {T : Nat → Lf} {w : World} (h : RowFO c n X hi T w) : RowF true (some ⟨c, 0, none⟩) n T w := by
  intro i hi
  obtain ⟨h1, h3, hj, h4, c0, c1, o1⟩ := h.2 i hi
  exact ⟨c, 0, _, _, rfl, h4, by rw [Nat.zero_add]; exact c0, by rw [Nat.zero_add]; exact c1, fun _ => Nat.le_refl _, o1.row⟩
theorem OutStr.other {c n k d : Nat} {f : Nat → ByteArray} {w : World} (h : OutStr c n k f w) (hd : c ≠ d) (o : Nat) (v : Value) : OutStr c n k f (w.setCell ⟨d, o, none⟩ v) := by
  refine ⟨by have := h.1; simpa using this, fun i hi => ?_⟩
  obtain ⟨⟨x, h0, hx⟩, g0⟩ := h.2 i hi
  refine ⟨⟨x, ?_, hx⟩, by simpa [go_sem] using g0⟩
  rw [World.cell?_setCell_other _ _ _ _ (by simp <;> omega)]; exact h0
theorem RowFO.set {c k : Nat} {X : Nat → Nat} {hi : Nat} {T : Nat → Lf} {w : World} (h : RowFO c k X hi T w) {q : Nat} (hq : k * 2 ≤ q) (v : Value) : RowFO c k X hi T (w.setCell ⟨c, q, none⟩ v) := by
  refine ⟨by simpa using h.1, fun i hi => ?_⟩
  obtain ⟨h1, h3, hj, h4, c0, c1, o1⟩ := h.2 i hi
  refine ⟨h1, h3, hj, by simpa using h4, ?_, ?_, o1.other (by omega) _ _⟩
  · rw [World.cell?_setCell_other _ _ _ _ (by simp <;> omega)]; exact c0
  · rw [World.cell?_setCell_other _ _ _ _ (by simp <;> omega)]; exact c1
theorem RowFO.next {c n k : Nat} {X : Nat → Nat} {hi hi' : Nat} {T : Nat → Lf} {w : World} (h : RowFO c k X hi T w) (F : FreeC c (n * 2) w) (hk : k < n) {x : Nat} (h1 : c < x) (h3 : hi ≤ x) (h4 : x < hi') (h5 : hi' ≤ w.heap.size)
    (o1 : OutStr x (T k).n (T k).n (T k).p w) :
    RowFO c (k + 1) (fun i => if i = k then x else X i) hi' T ((w.setCell ⟨c, k * 2, none⟩ (.slice (some ⟨x, 0, none⟩) (T k).n (T k).n)).setCell ⟨c, k * 2 + 1, none⟩ (.string (T k).v)) := by
  refine ⟨by simpa using h5, fun i hi0 => ?_⟩
  by_cases e : i = k
  · subst e
    obtain ⟨⟨v0, e0⟩, _⟩ := F.2 (i * 2) (by omega)
    obtain ⟨⟨v1, e1⟩, _⟩ := F.2 (i * 2 + 1) (by omega)
    have hF := F.1
    clear F
    have hjj : ∀ j, j < i → (if j = i then x else X j) < x := by
      intro j hj
      rw [if_neg (by omega)]
      have := (h.2 j hj).2.1
      omega
    simp only [if_true]
    refine ⟨h1, h4, hjj, by simpa using hF, ?_, ?_, (o1.other (by omega) _ _).other (by omega) _ _⟩
    · simp [go_sem, e0]
    · simp [go_sem, e1]
  · have hq := ((h.set (q := k * 2) (Nat.le_refl _) (.slice (some ⟨x, 0, none⟩) (T k).n (T k).n)).set (q := k * 2 + 1) (by omega) (.string (T k).v)).2 i (by omega)
    obtain ⟨g1, g3, gj, g4, rest⟩ := hq
    simp only [if_neg e]
    refine ⟨g1, by omega, fun j hj => ?_, g4, rest⟩
    rw [if_neg (by omega)]
    exact gj j hj
theorem RowFO.other {c k : Nat} {X : Nat → Nat} {hi : Nat} {T : Nat → Lf} {w : World} (h : RowFO c k X hi T w) {d : Nat} (hd : d < c) (o : Nat) (v : Value) : RowFO c k X hi T (w.setCell ⟨d, o, none⟩ v) := by
  refine ⟨by simpa using h.1, fun i hi => ?_⟩
  obtain ⟨h1, h3, hj, h4, c0, c1, o1⟩ := h.2 i hi
  refine ⟨h1, h3, hj, by simpa using h4, ?_, ?_, o1.other (by omega) _ _⟩
  · rw [World.cell?_setCell_other _ _ _ _ (by simp <;> omega)]; exact c0
  · rw [World.cell?_setCell_other _ _ _ _ (by simp <;> omega)]; exact c1
set_option maxRecDepth 100000 in
set_option maxHeartbeats 800000 in
theorem w_szLeaf (a0 : Option Addr) (n c : Nat) (f : Nat → ByteArray) (v : ByteArray) (m : Int) (w : World) (hn : OkF ⟨n, f, v⟩ maxLen) (h0 : 0 ≤ m) (hm : m ≤ 1048576) (hR : RowStr a0 n f w) :
    Calls Tryz.prog 49 #[.agg #[.slice a0 n c, .string v], .int .i64 m] w fun e w' => ∃ r : Int, e = .returned (.int .i64 r) ∧ (r = -1 ∨ (0 ≤ r ∧ r + n ≤ m ∧ (∀ i, i < n → (f i).size ≤ 1048576) ∧ v.size ≤ 1048576)) ∧ Below w.heap.size w w' := by
  obtain ⟨h1, h2, h3⟩ := hn
  dsimp only at h1 h2 h3
  unfold maxLen at h3
  have s0 := hide (fun w R => w_szStrS a0 n c f m w h1 h0 hm R h2)
  have R1 := hR.below (below_box (o := .cells #[.slice a0 n c, .string v] 79) (Below.refl _ _))
  have M1 := Mut.new w #[.slice a0 n c, .string v] 79
  have d1 : Below w.heap.size w (w.alloc (.cells #[.slice a0 n c, .string v] 79)) := below_box (Below.refl _ _)
  clear h1 h2 hR
  go_enter Tryz.func49, Tryz.ntmps49
  go_wp2_with fail
  generalize w.alloc (.cells #[.slice a0 n c, .string v] 79) = w1 at *
  refine (s0.out _ R1).mono ?_
  rintro e w2 ⟨r, rfl, hr, b1⟩
  replace M1 := M1.below b1
  have u1 := M1.2.1 1 _ rfl
  have d2 := d1.trans (b1.mono d1.size)
  clear b1 d1 s0 R1
  rcases hr with rfl | ⟨r0, r1, r2⟩
  · go_wp2_with fail
    go_ret
    exact ⟨-1, rfl, Or.inl rfl, d2⟩
  · have hn0 : ¬ (r < 0) := by omega
    by_cases e : (v.size : Int) ≤ r
    · have hn1 : ¬ (r - (v.size : Int) < 0) := by omega
      go_wp2_with fail
      go_ret
      exact ⟨_, rfl, Or.inr ⟨by omega, by omega, r2, by omega⟩, d2⟩
    · have hn1 : r - (v.size : Int) < 0 := by omega
      go_wp2_with fail
      go_ret
      exact ⟨-1, rfl, Or.inl rfl, d2⟩
set_option maxRecDepth 100000 in
set_option maxHeartbeats 1600000 in
theorem w_szLeafS (a : Option Addr) (n c : Nat) (T : Nat → Lf) (m : Int) (w : World) (hn : n ≤ maxLen) (hx : MaxF n T) (hm : m ≤ 1048576) (hm0 : 0 ≤ m) (hR : RowF false a n T w) :
    Calls Tryz.prog 25 #[.slice a n c, .int .i64 m] w fun e w' => ∃ r : Int, e = .returned (.int .i64 r) ∧ (r = -1 ∨ (0 ≤ r ∧ r + n + totF T n ≤ m ∧ LowF n T)) ∧ Below w.heap.size w w' := by
  unfold maxLen at hn
  by_cases h0 : (n : Int) ≤ m
  · have q0 : ¬ (m - (n : Int) < 0) := by omega
    go_enter Tryz.func25, Tryz.ntmps25
    go_wp2_with fail
    go_loopw [1, 5] (fun x y wr => ∃ (k : Nat) (l : Int), x = .int .i64 l ∧ y = .int .i64 k ∧ k ≤ n ∧ 0 ≤ l ∧ l + n + totF T k ≤ m ∧ Hid (LowF k T) ∧ Below w.heap.size w wr) (fun _ y _ => n - (intOf y).toNat)
    case atStart => exact ⟨0, _, rfl, rfl, Nat.zero_le _, by omega, by show (m - (n : Int)) + n + ((0 : Nat) : Int) ≤ m; omega, fun i hi => absurd hi (by omega), Below.refl _ _⟩
    case round =>
      clear q0
      obtain ⟨k, l, rfl, rfl, hk, l0, l1, hL, hb⟩ := hrel
      by_cases hlt : k < n
      · obtain ⟨b, off, a0, c0, rfl, hbw, u0, u1, _, R0⟩ := hR k hlt
        replace u0 := (hb.cell (p := ⟨b, off + k * 2, none⟩) hbw).trans u0
        replace u1 := (hb.cell (p := ⟨b, off + k * 2 + 1, none⟩) hbw).trans u1
        have R0 := hide (R0.below hb)
        have hlt' : (k : Int) < (n : Int) := by omega
        have l2 := hx k hlt
        have ST := hide (fun w R => w_szLeaf a0 (T k).n c0 (T k).p (T k).v l w l2 l0 (by omega) R)
        have hs : Hid (totF T (k + 1) = totF T k + (T k).n) := rfl
        have hL2 := hide (fun (h : OkF (T k) 1048576) i (hi : i < k + 1) => (show OkF (T i) 1048576 from by
          by_cases e : i = k
          · subst e; exact h
          · exact hL.out i (by omega)))
        clear hR hx hL l2
        generalize T k = t at *
        go_wp2_with fail
        refine (ST.out _ R0.out).mono ?_
        rintro e w3 ⟨r, rfl, hr, b3⟩
        have d3 := hb.trans (b3.mono hb.size)
        clear b3 u0 u1
        rcases hr with rfl | ⟨r0, r1, r2, r3⟩
        · go_wp2_with fail
          go_ret
          exact ⟨-1, rfl, Or.inl rfl, d3⟩
        · have hN : Hid (r + n + totF T (k + 1) ≤ m) := by
            have := hs.out
            show _ ≤ _
            omega
          have hL3 := hide (hL2.out ⟨by omega, r2, r3⟩)
          have hn0 : ¬ (r < 0) := by omega
          clear hs hL2 r2 r3 r1
          go_wp2_with fail
          exact ⟨⟨k + 1, r, rfl, by go_num, by omega, r0, hN.out, hL3.out, d3⟩, by simp [intOf]; omega⟩
      · have hlt' : ¬ (k : Int) < (n : Int) := by omega
        obtain rfl : k = n := by omega
        clear hR
        go_wp2_with fail
        go_ret
        exact ⟨l, rfl, Or.inr ⟨l0, l1, hL.out⟩, hb⟩
  · have q0 : m - (n : Int) < 0 := by omega
    clear hR
    go_enter Tryz.func25, Tryz.ntmps25
    go_wp2_with fail
    go_ret
    exact ⟨-1, rfl, Or.inl rfl, Below.refl _ _⟩
set_option maxRecDepth 100000 in
set_option maxHeartbeats 1600000 in
theorem w_toLeaf (a0 : Option Addr) (n c0 : Nat) (f : Nat → ByteArray) (v : ByteArray) (w : World) (h0 : n ≤ 1048576) (R : RowStr a0 n f w) :
    Calls Tryz.prog 58 #[.agg #[.slice a0 n c0, .string v]] w fun e w' => ∃ x, e = .returned (.agg #[.slice (some ⟨x, 0, none⟩) n n, .string v]) ∧ w.heap.size ≤ x ∧ OutStr x n n f w' ∧ Below w.heap.size w w' := by
  have s1 := hide (fun w R => w_toStringS a0 n c0 f w h0 R)
  clear h0
  go_enter Tryz.func58, Tryz.ntmps58
  go_wp2_with fail
  have M0 := Mut.new w #[.slice a0 n c0, .string v] 79
  have M1 := Mut.new (w.alloc (.cells #[.slice a0 n c0, .string v] 79)) #[.slice none 0 0, .string ⟨#[]⟩] 87
  have M2 := Mut.new ((w.alloc (.cells #[.slice a0 n c0, .string v] 79)).alloc (.cells #[.slice none 0 0, .string ⟨#[]⟩] 87)) #[.slice none 0 0, .string ⟨#[]⟩] 87
  replace M0 := (M0.alloc (.cells #[.slice none 0 0, .string ⟨#[]⟩] 87)).alloc (.cells #[.slice none 0 0, .string ⟨#[]⟩] 87)
  replace M1 := M1.alloc (.cells #[.slice none 0 0, .string ⟨#[]⟩] 87)
  have d2 : Below w.heap.size w (((w.alloc (.cells #[.slice a0 n c0, .string v] 79)).alloc (.cells #[.slice none 0 0, .string ⟨#[]⟩] 87)).alloc (.cells #[.slice none 0 0, .string ⟨#[]⟩] 87)) := below_box3 (Below.refl _ _)
  simp only [World.size_alloc] at M1 M2
  generalize ((w.alloc (.cells #[.slice a0 n c0, .string v] 79)).alloc (.cells #[.slice none 0 0, .string ⟨#[]⟩] 87)).alloc (.cells #[.slice none 0 0, .string ⟨#[]⟩] 87) = w3 at *
  refine (s1.out _ (R.below d2)).mono ?_
  rintro e w4 ⟨rfl, b4, o1⟩
  have hle := d2.size
  have hlt := M2.1
  replace M0 := M0.below b4
  replace M1 := M1.below b4
  replace M2 := M2.below b4
  have d3 := d2.trans (b4.mono d2.size)
  clear b4 d2 s1
  have u1 := M0.2.1 1 _ rfl
  have v0 := M2.2.1 0 _ rfl
  have x0 := M2.2.2 0 (by simp)
  have y0 := M1.2.1 0 _ rfl
  have f0 := M1.2.2 0 (by simp)
  have v1 := M2.2.1 1 _ rfl
  have x1 := M2.2.2 1 (by simp)
  have y1 := M1.2.1 1 _ rfl
  have f1 := M1.2.2 1 (by simp)
  clear M0 M1 M2
  go_wp2_with fail
  exact bodyPost_ret (v := .agg #[.slice (some ⟨w3.heap.size, 0, none⟩) n n, .string v]) (by simp [results, Tryz.results58, go_sem, *]) rfl ⟨_, rfl, by omega, by
    refine OutStr.other (OutStr.other (OutStr.other (OutStr.other o1 ?_ _ _) ?_ _ _) ?_ _ _) ?_ _ _ <;> omega, by
    refine Below.setCell (Below.setCell (Below.setCell (Below.setCell d3 ?_ _) ?_ _) ?_ _) ?_ _ <;> (simp; try omega)⟩
set_option maxRecDepth 100000 in
set_option maxHeartbeats 3200000 in
theorem w_toLeafS (a : Option Addr) (n c : Nat) (T : Nat → Lf) (w : World) (hn : n ≤ 1048576) (hl : LowF n T) (hR : RowF false a n T w) :
    Calls Tryz.prog 31 #[.slice a n c] w fun e w' => e = .returned (.slice (some ⟨w.heap.size, 0, none⟩) n n) ∧ (∃ X, RowFO w.heap.size n X w'.heap.size T w') ∧ FreeC w.heap.size (n * 2) w' ∧ Below w.heap.size w w' := by
  have hinfo : (Tryz.prog.info? 87).map (fun i => (i.zero, i.size, i.bytes)) = some (some (.agg #[.slice none 0 0, .string ByteArray.empty]), 2, 40) := by kernel_rfl
  obtain ⟨i, hi, hzz⟩ := Option.map_eq_some_iff.1 hinfo
  simp only [Prod.mk.injEq] at hzz
  obtain ⟨hz, hsz, hby⟩ := hzz
  have hmk := fun w : World => run_make (P := Tryz.prog) w 31 87 i _ Tryz.underlying31 hi hz .i64 .i64 (n : Int) (n : Int) (by omega) (by omega) (by rw [hby]; omega) (by omega)
  rw [hsz] at hmk
  clear hi hz hsz hby hinfo
  go_enter Tryz.func31, Tryz.ntmps31
  go_wp2_with fail
  clear hmk
  go_loopw [4] (fun y wr => ∃ k : Nat, y = .int .i64 k ∧ k ≤ n ∧ (∃ X, RowFO w.heap.size k X wr.heap.size T wr) ∧ FreeC w.heap.size (n * 2) wr ∧ Below w.heap.size w wr) (fun y _ => n - (intOf y).toNat)
  case atStart => exact ⟨0, rfl, Nat.zero_le _, ⟨fun _ => 0, Nat.le_refl _, fun i hi => absurd hi (by omega)⟩, by
    have h := FreeC.new w (madeCells #[.slice none 0 0, .string ByteArray.empty] (n * 2)) 87
    simpa [madeCells] using h, below_box (Below.refl _ _)⟩
  case round =>
    obtain ⟨k, rfl, hk, ⟨X, RT⟩, FC, hb⟩ := hrel
    by_cases hlt : k < n
    · obtain ⟨b, off, a0, c0, rfl, hbw, u0, u1, _, ht⟩ := hR k hlt
      replace u0 := (hb.cell (p := ⟨b, off + k * 2, none⟩) hbw).trans u0
      replace u1 := (hb.cell (p := ⟨b, off + k * 2 + 1, none⟩) hbw).trans u1
      have hlt' : (k : Int) < (n : Int) := by omega
      have l1 := (hl k hlt).1
      have TT := hide (fun w hT => w_toLeaf a0 (T k).n c0 (T k).p (T k).v w l1 hT)
      have hT := hide (ht.below hb)
      have hRT := hide RT
      have hFC := hide FC
      clear l1 ht hR RT FC
      go_wp2_with fail
      refine (TT.out _ hT.out).mono ?_
      rintro e w3 ⟨x, rfl, hx, o1, b3⟩
      have lt0 := hFC.out.1
      have FC := hFC.out.below b3
      have RT := hide (hRT.out.below b3)
      have d3 := hb.trans (b3.mono hb.size)
      have ly := o1.1
      obtain ⟨⟨p0, e0⟩, g0⟩ := FC.2 (k * 2) (by omega)
      obtain ⟨⟨p1, e1⟩, g1⟩ := FC.2 (k * 2 + 1) (by omega)
      have hN := hide (RT.out.next (hi' := w3.heap.size) FC hlt (by omega) hx ly (Nat.le_refl _) o1)
      have hF := hide ((FC.set (k * 2) (.slice (some ⟨x, 0, none⟩) (T k).n (T k).n)).set (k * 2 + 1) (.string (T k).v))
      clear b3 hRT hFC RT FC hb
      go_wp2_with fail
      exact ⟨⟨k + 1, by go_num, by omega, ⟨_, by simpa using hN.out⟩, hF.out, (d3.setCell (Nat.le_refl _) _).setCell (Nat.le_refl _) _⟩, by simp [intOf]; omega⟩
    · have hlt' : ¬ (k : Int) < (n : Int) := by omega
      obtain rfl : k = n := by omega
      go_wp2_with fail
      go_ret
      exact ⟨rfl, ⟨X, RT⟩, FC, hb⟩
set_option maxRecDepth 100000 in
set_option maxHeartbeats 800000 in
theorem w_eqLeaf (a0 b0 : Option Addr) (c0 e0 : Nat) (t : Lf) (w : World) (h0 : t.n ≤ 4294967296) (R : RowStr a0 t.n t.p w) (Q : RowStr b0 t.n t.p w) :
    Calls Tryz.prog 76 #[.agg #[.slice a0 t.n c0, .string t.v], .agg #[.slice b0 t.n e0, .string t.v]] w fun e w' => e = .returned (.bool true) ∧ Below w.heap.size w w' := by
  have s1 := hide (fun w R Q => w_eqStringS a0 b0 t.n c0 e0 t.p w h0 R Q)
  clear h0
  have d0 : Below w.heap.size w ((w.alloc (.cells #[.slice a0 t.n c0, .string t.v] 87)).alloc (.cells #[.slice b0 t.n e0, .string t.v] 87)) := below_box2 (Below.refl _ _)
  have M0 := (Mut.new w #[.slice a0 t.n c0, .string t.v] 87).alloc (.cells #[.slice b0 t.n e0, .string t.v] 87)
  have M1 := Mut.new (w.alloc (.cells #[.slice a0 t.n c0, .string t.v] 87)) #[.slice b0 t.n e0, .string t.v] 87
  simp only [World.size_alloc] at M1
  go_enter Tryz.func76, Tryz.ntmps76
  go_wp2_with fail
  generalize (w.alloc (.cells #[.slice a0 t.n c0, .string t.v] 87)).alloc (.cells #[.slice b0 t.n e0, .string t.v] 87) = w2 at *
  refine (s1.out _ (R.below d0) (Q.below d0)).mono ?_
  rintro e w3 ⟨rfl, hb3⟩
  have d3 := d0.trans (hb3.mono d0.size)
  have u1 := (M0.below hb3).2.1 1 _ rfl
  have v1 := (M1.below hb3).2.1 1 _ rfl
  clear M0 M1 hb3 d0 s1
  go_wp2_with fail
  go_ret
  exact ⟨rfl, d3⟩
set_option maxRecDepth 100000 in
set_option maxHeartbeats 3200000 in
theorem w_eqLeafS (a a' : Option Addr) (n c c' : Nat) (T : Nat → Lf) (w : World) (hn : n ≤ 1048576) (hl : LowF n T) (hR : RowF false a n T w) (hQ : RowF false a' n T w) :
    Calls Tryz.prog 38 #[.slice a n c, .slice a' n c'] w fun e w' => e = .returned (.bool true) ∧ Below w.heap.size w w' := by
  have hne : ((n : Int) != (n : Int)) = false := by simp
  go_enter Tryz.func38, Tryz.ntmps38
  go_wp2_with fail
  go_loopw [5] (fun i wr => ∃ k : Nat, k ≤ n ∧ i = .int .i64 k ∧ Below w.heap.size w wr) (fun i _ => n - (intOf i).toNat)
  case atStart => exact ⟨0, Nat.zero_le _, rfl, Below.refl _ _⟩
  case round =>
    obtain ⟨k, hk, rfl, hb⟩ := hrel
    by_cases hlt : k < n
    · obtain ⟨b, off, a0, c0, rfl, hbw, u0, u1, _, ht⟩ := hR k hlt
      obtain ⟨b', off', d0, e0, rfl, hbw', v0, v1, _, hu⟩ := hQ k hlt
      replace u0 := cell_regrown ((hb.cell (p := ⟨b, off + k * 2, none⟩) hbw).trans u0)
      replace u1 := cell_regrown ((hb.cell (p := ⟨b, off + k * 2 + 1, none⟩) hbw).trans u1)
      replace v0 := cell_regrown ((hb.cell (p := ⟨b', off' + k * 2, none⟩) hbw').trans v0)
      replace v1 := cell_regrown ((hb.cell (p := ⟨b', off' + k * 2 + 1, none⟩) hbw').trans v1)
      have hlt' : (k : Int) < (n : Int) := by omega
      have l1 := (hl k hlt).1
      have E := hide (fun w hT hU => w_eqLeaf a0 d0 c0 e0 (T k) w (by omega) hT hU)
      have hT := hide (ht.below hb)
      have hU := hide (hu.below hb)
      clear hR hQ l1 ht hu
      generalize T k = t at *
      go_wp2_with fail
      refine wp_region_quiet_below (by kernel_rfl) (by kernel_rfl) ?_
      repeat (first | go_big_quiet_step (((go_at_call 76; exact Calls.regrown_of (E.out _ (hT.out.below (below_regrown _ _ _)) (hU.out.below (below_regrown _ _ _)))))) | quiet_step (((go_at_call 76; exact Calls.regrown_of (E.out _ (hT.out.below (below_regrown _ _ _)) (hU.out.below (below_regrown _ _ _)))))))
      refine wpQuiet_nil ?_
      intro _ hw'
      obtain ⟨⟨dq, osq⟩, hw''⟩ := hw'
      subst hw''
      have hq := below_regrown wr dq osq
      generalize Go.Sort.grow (redrawn wr dq) osq = wq at hq ⊢
      have hbq := hb.trans (hq.mono hb.size)
      clear hq u0 v0 u1 v1
      go_wp2_with fail
      exact ⟨⟨k + 1, by omega, by go_num, hbq⟩, by simp [intOf]; omega⟩
    · have hlt' : ¬ (k : Int) < (n : Int) := by omega
      go_wp2_with fail
      go_ret
      exact ⟨rfl, hb⟩
end Go.Proofs.YtnficndeblkjhaaGreatDoor
