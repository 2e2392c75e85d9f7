/- Commands as arguments: their size, a copy. -/
import Derived.Test.YtcfmnfoognopnaaAnsC15
namespace Go.Proofs.Ytcfmnfoognopnaa
open Go.RowKit

/-- N commands at a; nothing is said of the room in their paths. -/
def RowCX (a : Option Addr) (N : Nat) (T : Nat → Cm15) (w : World) : Prop := ∀ i, i < N → ∃ (b off : Nat) (a0 : Option Addr) (c0 : Nat), a = some ⟨b, off, none⟩ ∧ b < w.heap.size ∧
  w.cell? ⟨b, off + i * 3, none⟩ = some (.bool (T i).s) ∧ w.cell? ⟨b, off + i * 3 + 1, none⟩ = some (.slice a0 (T i).t.n c0) ∧ w.cell? ⟨b, off + i * 3 + 2, none⟩ = some (.string (T i).t.v) ∧ RowStr a0 (T i).t.n (T i).t.p w
theorem RowCX.below {a : Option Addr} {N : Nat} {T : Nat → Cm15} {w w' : World} (h : RowCX a N T w) (k : Below w.heap.size w w') : RowCX a N T w' := by
  intro i hi
  obtain ⟨b, off, a0, c0, ha, hb, h0, h1, h2, ht⟩ := h i hi
  obtain ⟨hc, _⟩ := bcell k
  exact ⟨b, off, a0, c0, ha, Nat.lt_of_lt_of_le hb k.size, (hc _ _ hb).trans h0, (hc _ _ hb).trans h1, (hc _ _ hb).trans h2, ht.below k⟩
def LowCX (N : Nat) (T : Nat → Cm15) : Prop := ∀ i, i < N → OkF (T i).t 1048576
def MaxCX (N : Nat) (T : Nat → Cm15) : Prop := ∀ i, i < N → OkF (T i).t maxLen
/-- The first k commands of a copy in block c; each path in a block of its own behind it, all ahead of hi. -/
def RowCO (c k : Nat) (X : Nat → Nat) (hi : Nat) (T : Nat → Cm15) (w : World) : Prop := hi ≤ w.heap.size ∧ ∀ i, i < k → c < X i ∧ X i < hi ∧ (∀ j, j < i → X j < X i) ∧ c < w.heap.size ∧
  w.cell? ⟨c, i * 3, none⟩ = some (.bool (T i).s) ∧ w.cell? ⟨c, i * 3 + 1, none⟩ = some (.slice (some ⟨X i, 0, none⟩) (T i).t.n (T i).t.n) ∧ w.cell? ⟨c, i * 3 + 2, none⟩ = some (.string (T i).t.v) ∧ OutStr (X i) (T i).t.n (T i).t.n (T i).t.p w
theorem RowCO.below {c k : Nat} {X : Nat → Nat} {hi : Nat} {T : Nat → Cm15} {w w' : World} (h : RowCO c k X hi T w) (b : Below w.heap.size w w') : RowCO c k X hi T w' := by
  refine ⟨Nat.le_trans h.1 b.size, fun i hi => ?_⟩
  obtain ⟨hc, _⟩ := bcell b
  obtain ⟨h1, h3, hj, h4, c0, c1, c2, o1⟩ := h.2 i hi
  exact ⟨h1, h3, hj, Nat.lt_of_lt_of_le h4 b.size, (hc _ _ h4).trans c0, (hc _ _ h4).trans c1, (hc _ _ h4).trans c2, o1.below b⟩
theorem RowCO.row {c n : Nat} {X : Nat → Nat} {hi : Nat} {T : Nat → Cm15} {w : World} (h : RowCO c n X hi T w) : RowC (some ⟨c, 0, none⟩) n T w := by
  intro i hi
  obtain ⟨h1, h3, hj, h4, c0, c1, c2, o1⟩ := h.2 i hi
  exact ⟨c, 0, _, _, rfl, h4, by rw [Nat.zero_add]; exact c0, by rw [Nat.zero_add]; exact c1, by rw [Nat.zero_add]; exact c2, Nat.le_refl _, o1.row⟩
theorem RowCO.set {c k : Nat} {X : Nat → Nat} {hi : Nat} {T : Nat → Cm15} {w : World} (h : RowCO c k X hi T w) {q : Nat} (hq : k * 3 ≤ q) (v : Value) : RowCO c k X hi T (w.setCell ⟨c, q, none⟩ v) := by
  refine ⟨by simpa using h.1, fun i hi => ?_⟩
  obtain ⟨h1, h3, hj, h4, c0, c1, c2, o1⟩ := h.2 i hi
  refine ⟨h1, h3, hj, by simpa using h4, ?_, ?_, ?_, o1.other (by omega) _ _⟩
  · rw [World.cell?_setCell_other _ _ _ _ (by simp <;> omega)]; exact c0
  · rw [World.cell?_setCell_other _ _ _ _ (by simp <;> omega)]; exact c1
  · rw [World.cell?_setCell_other _ _ _ _ (by simp <;> omega)]; exact c2
theorem RowCO.next {c n k : Nat} {X : Nat → Nat} {hi hi' : Nat} {T : Nat → Cm15} {w : World} (h : RowCO c k X hi T w) (F : FreeC c (n * 3) w) (hk : k < n) {x : Nat} (h1 : c < x) (h3 : hi ≤ x) (h4 : x < hi') (h5 : hi' ≤ w.heap.size)
    (o1 : OutStr x (T k).t.n (T k).t.n (T k).t.p w) :
    RowCO c (k + 1) (fun i => if i = k then x else X i) hi' T (((w.setCell ⟨c, k * 3, none⟩ (.bool (T k).s)).setCell ⟨c, k * 3 + 1, none⟩ (.slice (some ⟨x, 0, none⟩) (T k).t.n (T k).t.n)).setCell ⟨c, k * 3 + 2, none⟩ (.string (T k).t.v)) := by
  refine ⟨by simpa using h5, fun i hi0 => ?_⟩
  by_cases e : i = k
  · subst e
    obtain ⟨⟨v0, e0⟩, _⟩ := F.2 (i * 3) (by omega)
    obtain ⟨⟨v1, e1⟩, _⟩ := F.2 (i * 3 + 1) (by omega)
    obtain ⟨⟨v2, e2⟩, _⟩ := F.2 (i * 3 + 2) (by omega)
    have hF := F.1
    clear F
    have hjj : ∀ j, j < i → (if j = i then x else X j) < x := by
      intro j hj
      rw [if_neg (by omega)]
      have := (h.2 j hj).2.1
      omega
    simp only [if_true]
    refine ⟨h1, h4, hjj, by simpa using hF, ?_, ?_, ?_, ((o1.other (by omega) _ _).other (by omega) _ _).other (by omega) _ _⟩
    · simp [go_sem, e0]
    · simp [go_sem, e1]
    · simp [go_sem, e2]
  · have hq := (((h.set (q := k * 3) (Nat.le_refl _) (.bool (T k).s)).set (q := k * 3 + 1) (by omega) (.slice (some ⟨x, 0, none⟩) (T k).t.n (T k).t.n)).set (q := k * 3 + 2) (by omega) (.string (T k).t.v)).2 i (by omega)
    obtain ⟨g1, g3, gj, g4, rest⟩ := hq
    simp only [if_neg e]
    refine ⟨g1, by omega, fun j hj => ?_, g4, rest⟩
    rw [if_neg (by omega)]
    exact gj j hj
theorem RowCO.other {c k : Nat} {X : Nat → Nat} {hi : Nat} {T : Nat → Cm15} {w : World} (h : RowCO c k X hi T w) {d : Nat} (hd : d < c) (o : Nat) (v : Value) : RowCO c k X hi T (w.setCell ⟨d, o, none⟩ v) := by
  refine ⟨by simpa using h.1, fun i hi => ?_⟩
  obtain ⟨h1, h3, hj, h4, c0, c1, c2, o1⟩ := h.2 i hi
  refine ⟨h1, h3, hj, by simpa using h4, ?_, ?_, ?_, o1.other (by omega) _ _⟩
  · rw [World.cell?_setCell_other _ _ _ _ (by simp <;> omega)]; exact c0
  · rw [World.cell?_setCell_other _ _ _ _ (by simp <;> omega)]; exact c1
  · rw [World.cell?_setCell_other _ _ _ _ (by simp <;> omega)]; exact c2
theorem RowCO.own {c n : Nat} {X : Nat → Nat} {hi : Nat} {T : Nat → Cm15} {w : World} (h : RowCO c n X hi T w) (F : FreeC c (n * 3) w) : RowCA c n X (fun i => (T i).t.n) T w ∧ SepF c n X ∧ ∀ k, BlkF c n X k → k = c ∨ (c < k ∧ k < hi) := by
  refine ⟨fun i hi => ?_, fun i hi => ?_, fun k hk => ?_⟩
  · obtain ⟨h1, h3, hj, h4, c0, c1, c2, o1⟩ := h.2 i hi
    refine ⟨⟨h4, fun q v hv => ?_, fun q hq => ?_⟩, Nat.le_refl _, o1⟩
    · match q, hv with
      | 0, hv => simp at hv; rw [← hv]; exact c0
      | 1, hv => simp at hv; rw [← hv]; exact c1
      | 2, hv => simp at hv; rw [← hv]; exact c2
      | q + 3, hv => simp at hv
    · simp at hq
      exact (F.2 _ (by omega)).2
  · obtain ⟨h1, h3, hj, _⟩ := h.2 i hi
    refine ⟨by omega, fun j hjn hji => ?_⟩
    obtain ⟨g1, g3, gj, _⟩ := h.2 j hjn
    rcases Nat.lt_or_gt_of_ne hji with hlt | hlt
    · have := hj j hlt
      omega
    · have := gj i hlt
      omega
  · rcases hk with rfl | ⟨i, hi, rfl⟩
    · exact Or.inl rfl
    · obtain ⟨h1, h3, _⟩ := h.2 i hi
      exact Or.inr ⟨by omega, by omega⟩
set_option maxRecDepth 100000 in
set_option maxHeartbeats 800000 in
theorem w_szCommand (a0 : Option Addr) (n c : Nat) (f : Nat → ByteArray) (v : ByteArray) (bs : Bool) (m : Int) (w : World) (hn : OkF ⟨n, f, v⟩ maxLen) (h0 : 0 ≤ m) (hm : m ≤ 1048576) (hR : RowStr a0 n f w) :
    Calls Try.prog 25 #[.agg #[.bool bs, .slice a0 n c, .string v], .int .i64 m] w fun e w' => ∃ r : Int, e = .returned (.int .i64 r) ∧ (r = -1 ∨ (0 ≤ r ∧ r + n ≤ m ∧ (∀ i, i < n → (f i).size ≤ 1048576) ∧ v.size ≤ 1048576)) ∧ Below w.heap.size w w' := by
  obtain ⟨h1, h2, h3⟩ := hn
  dsimp only at h1 h2 h3
  unfold maxLen at h3
  have s0 := hide (fun w R => w_szStrS a0 n c f m w h1 h0 hm R h2)
  have R1 := hR.below (below_box (o := .cells #[.bool bs, .slice a0 n c, .string v] 44) (Below.refl _ _))
  have M1 := Mut.new w #[.bool bs, .slice a0 n c, .string v] 44
  have d1 : Below w.heap.size w (w.alloc (.cells #[.bool bs, .slice a0 n c, .string v] 44)) := below_box (Below.refl _ _)
  clear h1 h2 hR
  go_enter Try.func25, Try.ntmps25
  go_wp2_with fail
  generalize w.alloc (.cells #[.bool bs, .slice a0 n c, .string v] 44) = w1 at *
  refine (s0.out _ R1).mono ?_
  rintro e w2 ⟨r, rfl, hr, b1⟩
  replace M1 := M1.below b1
  have u1 := M1.2.1 2 _ rfl
  have d2 := d1.trans (b1.mono d1.size)
  clear b1 d1 s0 R1
  rcases hr with rfl | ⟨r0, r1, r2⟩
  · go_wp2_with fail
    go_ret
    exact ⟨-1, rfl, Or.inl rfl, d2⟩
  · have hn0 : ¬ (r < 0) := by omega
    by_cases e : (v.size : Int) ≤ r
    · have hn1 : ¬ (r - (v.size : Int) < 0) := by omega
      go_wp2_with fail
      go_ret
      exact ⟨_, rfl, Or.inr ⟨by omega, by omega, r2, by omega⟩, d2⟩
    · have hn1 : r - (v.size : Int) < 0 := by omega
      go_wp2_with fail
      go_ret
      exact ⟨-1, rfl, Or.inl rfl, d2⟩
set_option maxRecDepth 100000 in
set_option maxHeartbeats 1600000 in
theorem w_szCommandS (a : Option Addr) (n c : Nat) (T : Nat → Cm15) (m : Int) (w : World) (hn : n ≤ maxLen) (hx : MaxCX n T) (hm : m ≤ 1048576) (hm0 : 0 ≤ m) (hR : RowCX a n T w) :
    Calls Try.prog 19 #[.slice a n c, .int .i64 m] w fun e w' => ∃ r : Int, e = .returned (.int .i64 r) ∧ (r = -1 ∨ (0 ≤ r ∧ r + n + totC T n ≤ m ∧ LowCX n T)) ∧ Below w.heap.size w w' := by
  unfold maxLen at hn
  by_cases h0 : (n : Int) ≤ m
  · have q0 : ¬ (m - (n : Int) < 0) := by omega
    go_enter Try.func19, Try.ntmps19
    go_wp2_with fail
    go_loopw [1, 5] (fun x y wr => ∃ (k : Nat) (l : Int), x = .int .i64 l ∧ y = .int .i64 k ∧ k ≤ n ∧ 0 ≤ l ∧ l + n + totC T k ≤ m ∧ Hid (LowCX k T) ∧ Below w.heap.size w wr) (fun _ y _ => n - (intOf y).toNat)
    case atStart => exact ⟨0, _, rfl, rfl, Nat.zero_le _, by omega, by show (m - (n : Int)) + n + ((0 : Nat) : Int) ≤ m; omega, fun i hi => absurd hi (by omega), Below.refl _ _⟩
    case round =>
      clear q0
      obtain ⟨k, l, rfl, rfl, hk, l0, l1, hL, hb⟩ := hrel
      by_cases hlt : k < n
      · obtain ⟨b, off, a0, c0, rfl, hbw, us, u0, u1, R0⟩ := hR k hlt
        replace us := (hb.cell (p := ⟨b, off + k * 3, none⟩) hbw).trans us
        replace u0 := (hb.cell (p := ⟨b, off + k * 3 + 1, none⟩) hbw).trans u0
        replace u1 := (hb.cell (p := ⟨b, off + k * 3 + 2, none⟩) hbw).trans u1
        have R0 := hide (R0.below hb)
        have hlt' : (k : Int) < (n : Int) := by omega
        have l2 := hx k hlt
        have ST := hide (fun w R => w_szCommand a0 (T k).t.n c0 (T k).t.p (T k).t.v (T k).s l w l2 l0 (by omega) R)
        have hs : Hid (totC T (k + 1) = totC T k + (T k).t.n) := rfl
        have hL2 := hide (fun (h : OkF (T k).t 1048576) i (hi : i < k + 1) => (show OkF (T i).t 1048576 from by
          by_cases e : i = k
          · subst e; exact h
          · exact hL.out i (by omega)))
        clear hR hx hL l2
        generalize T k = t at *
        go_wp2_with fail
        refine (ST.out _ R0.out).mono ?_
        rintro e w3 ⟨r, rfl, hr, b3⟩
        have d3 := hb.trans (b3.mono hb.size)
        clear b3 us u0 u1
        rcases hr with rfl | ⟨r0, r1, r2, r3⟩
        · go_wp2_with fail
          go_ret
          exact ⟨-1, rfl, Or.inl rfl, d3⟩
        · have hN : Hid (r + n + totC T (k + 1) ≤ m) := by
            have := hs.out
            show _ ≤ _
            omega
          have hL3 := hide (hL2.out ⟨by omega, r2, r3⟩)
          have hn0 : ¬ (r < 0) := by omega
          clear hs hL2 r2 r3 r1
          go_wp2_with fail
          exact ⟨⟨k + 1, r, rfl, by go_num, by omega, r0, hN.out, hL3.out, d3⟩, by simp [intOf]; omega⟩
      · have hlt' : ¬ (k : Int) < (n : Int) := by omega
        obtain rfl : k = n := by omega
        clear hR
        go_wp2_with fail
        go_ret
        exact ⟨l, rfl, Or.inr ⟨l0, l1, hL.out⟩, hb⟩
  · have q0 : m - (n : Int) < 0 := by omega
    clear hR
    go_enter Try.func19, Try.ntmps19
    go_wp2_with fail
    go_ret
    exact ⟨-1, rfl, Or.inl rfl, Below.refl _ _⟩
set_option maxRecDepth 100000 in
set_option maxHeartbeats 1600000 in
theorem w_toCommand (a0 : Option Addr) (n c0 : Nat) (f : Nat → ByteArray) (v : ByteArray) (bs : Bool) (w : World) (h0 : n ≤ 1048576) (R : RowStr a0 n f w) :
    Calls Try.prog 27 #[.agg #[.bool bs, .slice a0 n c0, .string v]] w fun e w' => ∃ x, e = .returned (.agg #[.bool bs, .slice (some ⟨x, 0, none⟩) n n, .string v]) ∧ w.heap.size ≤ x ∧ OutStr x n n f w' ∧ Below w.heap.size w w' := by
  have s1 := hide (fun w R => w_toStringS a0 n c0 f w h0 R)
  clear h0
  go_enter Try.func27, Try.ntmps27
  go_wp2_with fail
  have M0 := Mut.new w #[.bool bs, .slice a0 n c0, .string v] 44
  have M1 := Mut.new (w.alloc (.cells #[.bool bs, .slice a0 n c0, .string v] 44)) #[.bool false, .slice none 0 0, .string ⟨#[]⟩] 48
  have M2 := Mut.new ((w.alloc (.cells #[.bool bs, .slice a0 n c0, .string v] 44)).alloc (.cells #[.bool false, .slice none 0 0, .string ⟨#[]⟩] 48)) #[.bool bs, .slice none 0 0, .string ⟨#[]⟩] 48
  replace M0 := (M0.alloc (.cells #[.bool false, .slice none 0 0, .string ⟨#[]⟩] 48)).alloc (.cells #[.bool bs, .slice none 0 0, .string ⟨#[]⟩] 48)
  replace M1 := M1.alloc (.cells #[.bool bs, .slice none 0 0, .string ⟨#[]⟩] 48)
  have d2 : Below w.heap.size w (((w.alloc (.cells #[.bool bs, .slice a0 n c0, .string v] 44)).alloc (.cells #[.bool false, .slice none 0 0, .string ⟨#[]⟩] 48)).alloc (.cells #[.bool bs, .slice none 0 0, .string ⟨#[]⟩] 48)) := below_box3 (Below.refl _ _)
  simp only [World.size_alloc] at M1 M2
  generalize ((w.alloc (.cells #[.bool bs, .slice a0 n c0, .string v] 44)).alloc (.cells #[.bool false, .slice none 0 0, .string ⟨#[]⟩] 48)).alloc (.cells #[.bool bs, .slice none 0 0, .string ⟨#[]⟩] 48) = w3 at *
  refine (s1.out _ (R.below d2)).mono ?_
  rintro e w4 ⟨rfl, b4, o1⟩
  have hle := d2.size
  have hlt := M2.1
  replace M0 := M0.below b4
  replace M1 := M1.below b4
  replace M2 := M2.below b4
  have d3 := d2.trans (b4.mono d2.size)
  clear b4 d2 s1
  have u1 := M0.2.1 2 _ rfl
  have v0 := M2.2.1 0 _ rfl
  have x0 := M2.2.2 0 (by simp)
  have y0 := M1.2.1 0 _ rfl
  have f0 := M1.2.2 0 (by simp)
  have v1 := M2.2.1 1 _ rfl
  have x1 := M2.2.2 1 (by simp)
  have y1 := M1.2.1 1 _ rfl
  have f1 := M1.2.2 1 (by simp)
  have v2 := M2.2.1 2 _ rfl
  have x2 := M2.2.2 2 (by simp)
  have y2 := M1.2.1 2 _ rfl
  have f2 := M1.2.2 2 (by simp)
  clear M0 M1 M2
  go_wp2_with fail
  exact bodyPost_ret (v := .agg #[.bool bs, .slice (some ⟨w3.heap.size, 0, none⟩) n n, .string v]) (by simp [results, Try.results27, go_sem, *]) rfl ⟨_, rfl, by omega, by
    refine OutStr.other (OutStr.other (OutStr.other (OutStr.other (OutStr.other o1 ?_ _ _) ?_ _ _) ?_ _ _) ?_ _ _) ?_ _ _ <;> omega, by
    refine Below.setCell (Below.setCell (Below.setCell (Below.setCell (Below.setCell d3 ?_ _) ?_ _) ?_ _) ?_ _) ?_ _ <;> (simp; try omega)⟩
set_option maxRecDepth 100000 in
set_option maxHeartbeats 3200000 in
theorem w_toCommandS (a : Option Addr) (n c : Nat) (T : Nat → Cm15) (w : World) (hn : n ≤ 1048576) (hl : LowCX n T) (hR : RowCX a n T w) :
    Calls Try.prog 21 #[.slice a n c] w fun e w' => e = .returned (.slice (some ⟨w.heap.size, 0, none⟩) n n) ∧ (∃ X, RowCO w.heap.size n X w'.heap.size T w') ∧ FreeC w.heap.size (n * 3) w' ∧ Below w.heap.size w w' := by
  have hinfo : (Try.prog.info? 48).map (fun i => (i.zero, i.size, i.bytes)) = some (some (.agg #[.bool false, .slice none 0 0, .string ByteArray.empty]), 3, 48) := by kernel_rfl
  obtain ⟨i, hi, hzz⟩ := Option.map_eq_some_iff.1 hinfo
  simp only [Prod.mk.injEq] at hzz
  obtain ⟨hz, hsz, hby⟩ := hzz
  have hmk := fun w : World => run_make (P := Try.prog) w 38 48 i _ Try.underlying38 hi hz .i64 .i64 (n : Int) (n : Int) (by omega) (by omega) (by rw [hby]; omega) (by omega)
  rw [hsz] at hmk
  clear hi hz hsz hby hinfo
  go_enter Try.func21, Try.ntmps21
  go_wp2_with fail
  clear hmk
  go_loopw [4] (fun y wr => ∃ k : Nat, y = .int .i64 k ∧ k ≤ n ∧ (∃ X, RowCO w.heap.size k X wr.heap.size T wr) ∧ FreeC w.heap.size (n * 3) wr ∧ Below w.heap.size w wr) (fun y _ => n - (intOf y).toNat)
  case atStart => exact ⟨0, rfl, Nat.zero_le _, ⟨fun _ => 0, Nat.le_refl _, fun i hi => absurd hi (by omega)⟩, by
    have h := FreeC.new w (madeCells #[.bool false, .slice none 0 0, .string ByteArray.empty] (n * 3)) 48
    simpa [madeCells] using h, below_box (Below.refl _ _)⟩
  case round =>
    obtain ⟨k, rfl, hk, ⟨X, RT⟩, FC, hb⟩ := hrel
    by_cases hlt : k < n
    · obtain ⟨b, off, a0, c0, rfl, hbw, us, u0, u1, ht⟩ := hR k hlt
      replace us := (hb.cell (p := ⟨b, off + k * 3, none⟩) hbw).trans us
      replace u0 := (hb.cell (p := ⟨b, off + k * 3 + 1, none⟩) hbw).trans u0
      replace u1 := (hb.cell (p := ⟨b, off + k * 3 + 2, none⟩) hbw).trans u1
      have hlt' : (k : Int) < (n : Int) := by omega
      have l1 := (hl k hlt).1
      have TT := hide (fun w hT => w_toCommand a0 (T k).t.n c0 (T k).t.p (T k).t.v (T k).s w l1 hT)
      have hT := hide (ht.below hb)
      have hRT := hide RT
      have hFC := hide FC
      clear l1 ht hR RT FC
      go_wp2_with fail
      refine (TT.out _ hT.out).mono ?_
      rintro e w3 ⟨x, rfl, hx, o1, b3⟩
      have lt0 := hFC.out.1
      have FC := hFC.out.below b3
      have RT := hide (hRT.out.below b3)
      have d3 := hb.trans (b3.mono hb.size)
      have ly := o1.1
      obtain ⟨⟨p0, e0⟩, g0⟩ := FC.2 (k * 3) (by omega)
      obtain ⟨⟨p1, e1⟩, g1⟩ := FC.2 (k * 3 + 1) (by omega)
      obtain ⟨⟨p2, e2⟩, g2⟩ := FC.2 (k * 3 + 2) (by omega)
      have hN := hide (RT.out.next (hi' := w3.heap.size) FC hlt (by omega) hx ly (Nat.le_refl _) o1)
      have hF := hide (((FC.set (k * 3) (.bool (T k).s)).set (k * 3 + 1) (.slice (some ⟨x, 0, none⟩) (T k).t.n (T k).t.n)).set (k * 3 + 2) (.string (T k).t.v))
      clear b3 hRT hFC RT FC hb
      go_wp2_with fail
      exact ⟨⟨k + 1, by go_num, by omega, ⟨_, by simpa using hN.out⟩, hF.out, ((d3.setCell (Nat.le_refl _) _).setCell (Nat.le_refl _) _).setCell (Nat.le_refl _) _⟩, by simp [intOf]; omega⟩
    · have hlt' : ¬ (k : Int) < (n : Int) := by omega
      obtain rfl : k = n := by omega
      go_wp2_with fail
      go_ret
      exact ⟨rfl, ⟨X, RT⟩, FC, hb⟩
end Go.Proofs.Ytcfmnfoognopnaa
