/- Problems (lists of lists of lists of numbers) in memory, and what the laws do with them: their size, a copy, a comparison. -/
import Derived.Test.YtcnlabedlcmilaaAl9
import Derived.Test.YtcnlabedlcmilaaMark8
namespace Go.Proofs.Ytcnlabedlcmilaa
open Go.RowKit

/-- A node's paths. -/
structure Pl where
  n : Nat
  T : Nat → Lc
def pl0 : Pl := ⟨0, fun _ => lc0⟩
def Pl.tot (p : Pl) : Nat := p.n + totL p.T p.n
/-- m lists of paths at a. -/
def RowS3 (a : Option Addr) (m : Nat) (U : Nat → Pl) (w : World) : Prop := ∀ i, i < m → ∃ (b off : Nat) (a0 : Option Addr) (c0 : Nat), a = some ⟨b, off, none⟩ ∧ b < w.heap.size ∧ w.cell? ⟨b, off + i, none⟩ = some (.slice a0 (U i).n c0) ∧ RowLL a0 (U i).n (U i).T w
theorem RowS3.below {a : Option Addr} {m : Nat} {U : Nat → Pl} {w w' : World} (h : RowS3 a m U w) (k : Below w.heap.size w w') : RowS3 a m U w' := by
  intro i hi
  obtain ⟨b, off, a0, c0, ha, hb, h0, ht⟩ := h i hi
  obtain ⟨hc, _⟩ := bcell k
  exact ⟨b, off, a0, c0, ha, Nat.lt_of_lt_of_le hb k.size, (hc _ _ hb).trans h0, ht.below k⟩
def LowS (m : Nat) (U : Nat → Pl) : Prop := ∀ i, i < m → (U i).n ≤ 1048576 ∧ LowL (U i).n (U i).T
def MaxS (m : Nat) (U : Nat → Pl) : Prop := ∀ i, i < m → (U i).n ≤ maxLen ∧ MaxL (U i).n (U i).T
/-- How much is in the first k lists. -/
def totS (U : Nat → Pl) : Nat → Nat
  | 0 => 0
  | k + 1 => totS U k + (U k).tot
theorem totS_mono (U : Nat → Pl) {k n : Nat} (h : k ≤ n) : totS U k ≤ totS U n := by
  induction n with
  | zero => have : k = 0 := by omega
            subst this; exact Nat.le_refl _
  | succ n ih =>
    by_cases e : k = n + 1
    · subst e; exact Nat.le_refl _
    · exact Nat.le_trans (ih (by omega)) (Nat.le_add_right _ _)
theorem lowS_of {U : Nat → Pl} {n : Nat} (h : totS U n ≤ 1048576) : LowS n U := by
  intro i hi
  have h1 := totS_mono U (show i + 1 ≤ n by omega)
  have h2 : totS U (i + 1) = totS U i + (U i).tot := rfl
  have h3 : (U i).tot = (U i).n + totL (U i).T (U i).n := rfl
  exact ⟨by omega, lowL_of (by omega)⟩
theorem RowLO.onlyS {P : Nat → Prop} {c k : Nat} {X : Nat → Nat} {hi : Nat} {T : Nat → Lc} {w w' : World} (h : RowLO c k X hi T w) (b : OnlyS P w w') (hn : ∀ q, c ≤ q → q < hi → ¬ P q) : RowLO c k X hi T w' := by
  refine ⟨Nat.le_trans h.1 b.2.2.2.1, fun i hi => ?_⟩
  obtain ⟨h1, h3, hj, h4, c0, o1⟩ := h.2 i hi
  exact ⟨h1, h3, hj, Nat.lt_of_lt_of_le h4 b.2.2.2.1, (b.cell h4 (hn c (Nat.le_refl _) (by omega))).trans c0, o1.onlyS b (hn _ (by omega) h3)⟩
/-- Lists i of a copy in block c: each in a block of its own, what it holds behind it and ahead of H i. -/
def OneS (c : Nat) (X H : Nat → Nat) (hi : Nat) (U : Nat → Pl) (w : World) (i : Nat) : Prop := c < X i ∧ X i < H i ∧ H i ≤ hi ∧ (∀ j, j < i → H j ≤ X i) ∧ c < w.heap.size ∧
  w.cell? ⟨c, i, none⟩ = some (.slice (some ⟨X i, 0, none⟩) (U i).n (U i).n) ∧ ∃ Y, RowLO (X i) (U i).n Y (H i) (U i).T w
def RowSO (c k : Nat) (X H : Nat → Nat) (hi : Nat) (U : Nat → Pl) (w : World) : Prop := hi ≤ w.heap.size ∧ ∀ i, i < k → OneS c X H hi U w i
theorem OneS.below {c : Nat} {X H : Nat → Nat} {hi : Nat} {U : Nat → Pl} {w w' : World} {i : Nat} (h : OneS c X H hi U w i) (b : Below w.heap.size w w') : OneS c X H hi U w' i := by
  obtain ⟨hc, _⟩ := bcell b
  obtain ⟨h1, h2, h3, hj, h4, c0, Y, o1⟩ := h
  exact ⟨h1, h2, h3, hj, Nat.lt_of_lt_of_le h4 b.size, (hc _ _ h4).trans c0, Y, o1.below b⟩
theorem RowSO.below {c k : Nat} {X H : Nat → Nat} {hi : Nat} {U : Nat → Pl} {w w' : World} (h : RowSO c k X H hi U w) (b : Below w.heap.size w w') : RowSO c k X H hi U w' :=
  ⟨Nat.le_trans h.1 b.size, fun i hi => (h.2 i hi).below b⟩
theorem OneS.onlyS {P : Nat → Prop} {c : Nat} {X H : Nat → Nat} {hi : Nat} {U : Nat → Pl} {w w' : World} {i : Nat} (h : OneS c X H hi U w i) (b : OnlyS P w w') (hc : ¬ P c) (hn : ∀ q, X i ≤ q → q < H i → ¬ P q) : OneS c X H hi U w' i := by
  obtain ⟨h1, h2, h3, hj, h4, c0, Y, o1⟩ := h
  exact ⟨h1, h2, h3, hj, Nat.lt_of_lt_of_le h4 b.2.2.2.1, (b.cell h4 hc).trans c0, Y, o1.onlyS b hn⟩
theorem RowSO.row {c n : Nat} {X H : Nat → Nat} {hi : Nat} {U : Nat → Pl} {w : World} (h : RowSO c n X H hi U w) : RowS3 (some ⟨c, 0, none⟩) n U w := by
  intro i hi
  obtain ⟨h1, h2, h3, hj, h4, c0, Y, o1⟩ := h.2 i hi
  exact ⟨c, 0, _, _, rfl, h4, by rw [Nat.zero_add]; exact c0, o1.row⟩
theorem RowSO.set {c k : Nat} {X H : Nat → Nat} {hi : Nat} {U : Nat → Pl} {w : World} (h : RowSO c k X H hi U w) {q : Nat} (hq : k ≤ q) (v : Value) : RowSO c k X H hi U (w.setCell ⟨c, q, none⟩ v) := by
  refine ⟨by simpa using h.1, fun i hi => ?_⟩
  obtain ⟨h1, h2, h3, hj, h4, c0, Y, o1⟩ := h.2 i hi
  refine ⟨h1, h2, h3, hj, by simpa using h4, ?_, Y, o1.other (by omega) _ _⟩
  rw [World.cell?_setCell_other _ _ _ _ (by simp <;> omega)]; exact c0
theorem RowSO.next {c n k : Nat} {X H : Nat → Nat} {hi hi' : Nat} {U : Nat → Pl} {w : World} (h : RowSO c k X H hi U w) (F : FreeB c n w) (hk : k < n) {x : Nat} (h1 : c < x) (h3 : hi ≤ x) (h4 : x < hi') (h5 : hi' ≤ w.heap.size)
    {Y : Nat → Nat} (o1 : RowLO x (U k).n Y hi' (U k).T w) :
    RowSO c (k + 1) (fun i => if i = k then x else X i) (fun i => if i = k then hi' else H i) hi' U (w.setCell ⟨c, k, none⟩ (.slice (some ⟨x, 0, none⟩) (U k).n (U k).n)) := by
  refine ⟨by simpa using h5, fun i hi0 => ?_⟩
  by_cases e : i = k
  · subst e
    obtain ⟨⟨v0, e0⟩, _⟩ := F.2 i (by omega)
    have hF := F.1
    clear F
    have hjj : ∀ j, j < i → (if j = i then hi' else H j) ≤ x := by
      intro j hj
      rw [if_neg (by omega)]
      have := (h.2 j hj).2.2.1
      omega
    unfold OneS
    simp only [if_true]
    refine ⟨h1, h4, Nat.le_refl _, hjj, by simpa using hF, ?_, Y, o1.other (by omega) _ _⟩
    simp [go_sem, e0]
  · have hq := (h.set (q := k) (Nat.le_refl _) (.slice (some ⟨x, 0, none⟩) (U k).n (U k).n)).2 i (by omega)
    obtain ⟨g1, g2, g3, gj, g4, rest⟩ := hq
    unfold OneS
    simp only [if_neg e]
    refine ⟨g1, g2, by omega, fun j hj => ?_, g4, rest⟩
    rw [if_neg (by omega)]
    exact gj j hj
theorem RowSO.other {c k : Nat} {X H : Nat → Nat} {hi : Nat} {U : Nat → Pl} {w : World} (h : RowSO c k X H hi U w) {d : Nat} (hd : d < c) (o : Nat) (v : Value) : RowSO c k X H hi U (w.setCell ⟨d, o, none⟩ v) := by
  refine ⟨by simpa using h.1, fun i hi => ?_⟩
  obtain ⟨h1, h2, h3, hj, h4, c0, Y, o1⟩ := h.2 i hi
  refine ⟨h1, h2, h3, hj, by simpa using h4, ?_, Y, o1.other (by omega) _ _⟩
  rw [World.cell?_setCell_other _ _ _ _ (by simp <;> omega)]; exact c0
theorem RowSO.hi {c k : Nat} {X H : Nat → Nat} {hi hi' : Nat} {U : Nat → Pl} {w : World} (h : RowSO c k X H hi U w) (e : hi' = hi) : RowSO c k X H hi' U w := e ▸ h
set_option maxRecDepth 100000 in
set_option maxHeartbeats 1600000 in
theorem w_szIntSSS (a : Option Addr) (n c : Nat) (U : Nat → Pl) (m : Int) (w : World) (hn : n ≤ maxLen) (hx : MaxS n U) (hm : m ≤ 1048576) (hm0 : 0 ≤ m) (hR : RowS3 a n U w) :
    Calls Try.prog 65 #[.slice a n c, .int .i64 m] w fun e w' => e = .returned (.int .i64 (if (n : Int) + (totS U n : Int) ≤ m then m - (n : Int) - (totS U n : Int) else -1)) ∧ Below w.heap.size w w' := by
  unfold maxLen at hn
  generalize hRv : (if (n : Int) + (totS U n : Int) ≤ m then m - (n : Int) - (totS U n : Int) else -1) = R
  have hY : Hid ((n : Int) + (totS U n : Int) ≤ m → R = m - (n : Int) - (totS U n : Int)) := fun h => by rw [← hRv, if_pos h]
  have hN0 : Hid (¬ (n : Int) + (totS U n : Int) ≤ m → R = -1) := fun h => by rw [← hRv, if_neg h]
  clear hRv
  by_cases h0 : (n : Int) ≤ m
  · have q0 : ¬ (m - (n : Int) < 0) := by omega
    go_enter Try.func65, Try.ntmps65
    go_wp2_with fail
    go_loopw [1, 5] (fun x y wr => ∃ k : Nat, x = .int .i64 (m - (n : Int) - (totS U k : Int)) ∧ y = .int .i64 k ∧ k ≤ n ∧ (n : Int) + (totS U k : Int) ≤ m ∧ Below w.heap.size w wr) (fun _ y _ => n - (intOf y).toNat)
    case atStart => exact ⟨0, by simp [totS], rfl, Nat.zero_le _, by simp [totS]; omega, Below.refl _ _⟩
    case round =>
      obtain ⟨k, rfl, rfl, hk, hle, hb⟩ := hrel
      by_cases hlt : k < n
      · obtain ⟨b, off, a0, c0, rfl, hbw, u0, ht⟩ := hR k hlt
        replace u0 := (hb.cell (p := ⟨b, off + k, none⟩) hbw).trans u0
        have hlt' : (k : Int) < (n : Int) := by omega
        have l1 := hx k hlt
        have ST := hide (fun w R => w_szIntSS a0 (U k).n c0 (U k).T (m - (n : Int) - (totS U k : Int)) w l1.1 l1.2 (by omega) (by omega) R)
        have hT := hide (ht.below hb)
        have hs : Hid (totS U (k + 1) = totS U k + ((U k).n + totL (U k).T (U k).n)) := rfl
        have hmo := hide (totS_mono U (show k + 1 ≤ n by omega))
        generalize totS U k = tk at *
        generalize totL (U k).T (U k).n = tt at *
        generalize hun : (U k).n = t at *
        by_cases e : (t : Int) + (tt : Int) ≤ m - (n : Int) - (tk : Int)
        · rw [if_pos e] at ST
          have q1 : ¬ (m - (n : Int) - (tk : Int) - (t : Int) - (tt : Int) < 0) := by omega
          have hN : Hid (m - (n : Int) - (tk : Int) - (t : Int) - (tt : Int) = m - (n : Int) - (totS U (k + 1) : Int) ∧ (n : Int) + (totS U (k + 1) : Int) ≤ m) := by
            have := hs.out
            exact ⟨by omega, by omega⟩
          clear hs hmo l1 e ht hun
          go_wp2_with fail
          refine (ST.out _ hT.out).mono ?_
          rintro e w3 ⟨rfl, b3⟩
          go_wp2_with fail
          exact ⟨⟨k + 1, by rw [hN.out.1], by go_num, by omega, hN.out.2, hb.trans (b3.mono hb.size)⟩, by simp [intOf]; omega⟩
        · rw [if_neg e] at ST
          have hE := hide (hN0.out (by have h1 := hs.out; have h2 := hmo.out; omega))
          clear hs hmo l1 e ht hun
          go_wp2_with fail
          refine (ST.out _ hT.out).mono ?_
          rintro e w3 ⟨rfl, b3⟩
          go_wp2_with fail
          go_ret
          exact ⟨by rw [hE.out]; rfl, hb.trans (b3.mono hb.size)⟩
      · have hlt' : ¬ (k : Int) < (n : Int) := by omega
        obtain rfl : k = n := by omega
        have hE := hide (hY.out hle)
        go_wp2_with fail
        go_ret
        exact ⟨by rw [hE.out]; rfl, hb⟩
  · have q0 : m - (n : Int) < 0 := by omega
    have hE := hide (hN0.out (by omega))
    go_enter Try.func65, Try.ntmps65
    go_wp2_with fail
    go_ret
    exact ⟨by rw [hE.out]; rfl, Below.refl _ _⟩
set_option maxRecDepth 100000 in
set_option maxHeartbeats 3200000 in
theorem w_eqIntSSS (a a' : Option Addr) (n c c' : Nat) (U : Nat → Pl) (w : World) (hn : n ≤ 1048576) (hl : LowS n U) (hR : RowS3 a n U w) (hQ : RowS3 a' n U w) :
    Calls Try.prog 71 #[.slice a n c, .slice a' n c'] w fun e w' => e = .returned (.bool true) ∧ Below w.heap.size w w' := by
  have hne : ((n : Int) != (n : Int)) = false := by simp
  go_enter Try.func71, Try.ntmps71
  go_wp2_with fail
  go_loopw [5] (fun i wr => ∃ k : Nat, k ≤ n ∧ i = .int .i64 k ∧ Below w.heap.size w wr) (fun i _ => n - (intOf i).toNat)
  case atStart => exact ⟨0, Nat.zero_le _, rfl, Below.refl _ _⟩
  case round =>
    obtain ⟨k, hk, rfl, hb⟩ := hrel
    by_cases hlt : k < n
    · obtain ⟨b, off, a0, c0, rfl, hbw, u0, ht⟩ := hR k hlt
      obtain ⟨b', off', d0, e0, rfl, hbw', v0, hu⟩ := hQ k hlt
      replace u0 := cell_regrown ((hb.cell (p := ⟨b, off + k, none⟩) hbw).trans u0)
      replace v0 := cell_regrown ((hb.cell (p := ⟨b', off' + k, none⟩) hbw').trans v0)
      have hlt' : (k : Int) < (n : Int) := by omega
      have l1 := hl k hlt
      have E := hide (fun w hT hU => w_eqIntSS a0 d0 (U k).n c0 e0 (U k).T w l1.1 l1.2 hT hU)
      have hT := hide (ht.below hb)
      have hU := hide (hu.below hb)
      clear hR hQ l1 ht hu
      generalize U k = t at *
      go_wp2_with fail
      refine wp_region_quiet_below (by kernel_rfl) (by kernel_rfl) ?_
      repeat (first | go_big_quiet_step (((go_at_call 35; exact Calls.regrown_of (E.out _ (hT.out.below (below_regrown _ _ _)) (hU.out.below (below_regrown _ _ _)))))) | quiet_step (((go_at_call 35; exact Calls.regrown_of (E.out _ (hT.out.below (below_regrown _ _ _)) (hU.out.below (below_regrown _ _ _)))))))
      refine wpQuiet_nil ?_
      intro _ hw'
      obtain ⟨⟨dq, osq⟩, hw''⟩ := hw'
      subst hw''
      have hq := below_regrown wr dq osq
      generalize Go.Sort.grow (redrawn wr dq) osq = wq at hq ⊢
      have hbq := hb.trans (hq.mono hb.size)
      clear hq u0 v0
      go_wp2_with fail
      exact ⟨⟨k + 1, by omega, by go_num, hbq⟩, by simp [intOf]; omega⟩
    · have hlt' : ¬ (k : Int) < (n : Int) := by omega
      go_wp2_with fail
      go_ret
      exact ⟨rfl, hb⟩
set_option maxRecDepth 100000 in
set_option maxHeartbeats 3200000 in
theorem w_toIntSSS (a : Option Addr) (n c : Nat) (U : Nat → Pl) (w : World) (hn : n ≤ 1048576) (hl : LowS n U) (hR : RowS3 a n U w) :
    Calls Try.prog 69 #[.slice a n c] w fun e w' => e = .returned (.slice (some ⟨w.heap.size, 0, none⟩) n n) ∧ (∃ X H, RowSO w.heap.size n X H w'.heap.size U w') ∧ w.heap.size < w'.heap.size ∧ Below w.heap.size w w' := by
  have hinfo : (Try.prog.info? 44).map (fun i => (i.zero, i.size, i.bytes)) = some (some (.slice none 0 0), 1, 24) := by kernel_rfl
  obtain ⟨i, hi, hzz⟩ := Option.map_eq_some_iff.1 hinfo
  simp only [Prod.mk.injEq] at hzz
  obtain ⟨hz, hsz, hby⟩ := hzz
  have hmk := fun w : World => run_make (P := Try.prog) w 22 44 i _ Try.underlying22 hi hz .i64 .i64 (n : Int) (n : Int) (by omega) (by omega) (by rw [hby]; omega) (by omega)
  rw [hsz] at hmk
  clear hi hz hsz hby hinfo
  simp only [Int.toNat_natCast, Nat.mul_one, Value.cells] at hmk
  go_enter Try.func69, Try.ntmps69
  go_wp2_with fail
  clear hmk
  go_loopw [4] (fun y wr => ∃ k : Nat, y = .int .i64 k ∧ k ≤ n ∧ (∃ X H, RowSO w.heap.size k X H wr.heap.size U wr) ∧ FreeB w.heap.size n wr ∧ Below w.heap.size w wr) (fun y _ => n - (intOf y).toNat)
  case atStart => exact ⟨0, rfl, Nat.zero_le _, ⟨fun _ => 0, fun _ => 0, Nat.le_refl _, fun i hi => absurd hi (by omega)⟩, by
    have h := FreeB.new w (madeCells #[.slice none 0 0] n) 44
    simpa [madeCells] using h, below_box (Below.refl _ _)⟩
  case round =>
    obtain ⟨k, rfl, hk, ⟨X, H, RT⟩, FC, hb⟩ := hrel
    by_cases hlt : k < n
    · obtain ⟨b, off, a0, c0, rfl, hbw, u0, ht⟩ := hR k hlt
      replace u0 := (hb.cell (p := ⟨b, off + k, none⟩) hbw).trans u0
      have hlt' : (k : Int) < (n : Int) := by omega
      have l1 := hl k hlt
      have TT := hide (fun w hT => w_toIntSS a0 (U k).n c0 (U k).T w l1.1 l1.2 hT)
      have hT := hide (ht.below hb)
      have hRT := hide RT
      have hFC := hide FC
      clear l1 ht hR RT FC
      go_wp2_with fail
      refine (TT.out _ hT.out).mono ?_
      rintro e w3 ⟨rfl, ⟨Y, o1⟩, F1, b3⟩
      have lt0 := hFC.out.1
      have FC := hFC.out.below b3
      have RT := hide (hRT.out.below b3)
      have d3 := hb.trans (b3.mono hb.size)
      have ly := F1.1
      obtain ⟨⟨p0, e0⟩, g0⟩ := FC.2 k (by omega)
      have hN := hide (RT.out.next (hi' := w3.heap.size) FC hlt lt0 (Nat.le_refl _) ly (Nat.le_refl _) o1)
      have hF := hide (FC.set k (.slice (some ⟨wr.heap.size, 0, none⟩) (U k).n (U k).n))
      clear b3 hRT hFC RT FC hb F1
      go_wp2_with fail
      exact ⟨⟨k + 1, by go_num, by omega, ⟨_, _, by simpa using hN.out⟩, hF.out, d3.setCell (Nat.le_refl _) _⟩, by simp [intOf]; omega⟩
    · have hlt' : ¬ (k : Int) < (n : Int) := by omega
      obtain rfl : k = n := by omega
      have hFC := FC.1
      go_wp2_with fail
      go_ret
      exact ⟨rfl, ⟨X, H, RT⟩, hFC, hb⟩
set_option maxRecDepth 100000 in
set_option maxHeartbeats 800000 in
theorem w_szSpp (a : Option Addr) (n c : Nat) (U : Nat → Pl) (m : Int) (w : World) (hn : n ≤ maxLen) (hx : MaxS n U) (hm : m ≤ 1048576) (hm0 : 0 ≤ m) (hR : RowS3 a n U w) :
    Calls Try.prog 15 #[.agg #[.slice a n c], .int .i64 m] w fun e w' => e = .returned (.int .i64 (if (n : Int) + (totS U n : Int) ≤ m then m - (n : Int) - (totS U n : Int) else -1)) ∧ Below w.heap.size w w' := by
  have s0 := hide (fun w R => w_szIntSSS a n c U m w hn hx hm hm0 R)
  have R1 := hR.below (below_box (o := .cells #[.slice a n c] 24) (Below.refl _ _))
  by_cases e0 : (n : Int) + (totS U n : Int) ≤ m
  · rw [if_pos e0] at s0
    rw [if_pos e0]
    have q0 : ¬ (m - (n : Int) - (totS U n : Int) < 0) := by omega
    clear e0 hn hx hm hm0 hR
    go_enter Try.func15, Try.ntmps15
    go_wp2_with fail
    refine (s0.out _ R1).mono ?_
    rintro e w1 ⟨rfl, b1⟩
    go_wp2_with fail
    go_ret
    exact ⟨rfl, below_box b1⟩
  · rw [if_neg e0] at s0
    rw [if_neg e0]
    clear e0 hn hx hm hm0 hR
    go_enter Try.func15, Try.ntmps15
    go_wp2_with fail
    refine (s0.out _ R1).mono ?_
    rintro e w1 ⟨rfl, b1⟩
    go_wp2_with fail
    go_ret
    exact ⟨rfl, below_box b1⟩
set_option maxRecDepth 100000 in
set_option maxHeartbeats 1600000 in
theorem w_eqSpp (a a' : Option Addr) (n c c' : Nat) (U : Nat → Pl) (w : World) (hn : n ≤ 1048576) (hl : LowS n U) (hR : RowS3 a n U w) (hQ : RowS3 a' n U w) :
    Calls Try.prog 19 #[.agg #[.slice a n c], .agg #[.slice a' n c']] w fun e w' => e = .returned (.bool true) ∧ Below w.heap.size w w' := by
  have s1 := hide (fun w R Q => w_eqIntSSS a a' n c c' U w hn hl R Q)
  clear hn hl
  have d0 : Below w.heap.size w ((w.alloc (.cells #[.slice a n c] 27)).alloc (.cells #[.slice a' n c'] 27)) := below_box2 (Below.refl _ _)
  go_enter Try.func19, Try.ntmps19
  go_wp2_with fail
  refine (s1.out _ (hR.below d0) (hQ.below d0)).mono ?_
  rintro e w3 ⟨rfl, hb3⟩
  have d3 := d0.trans (hb3.mono d0.size)
  go_wp2_with fail
  go_ret
  exact ⟨rfl, d3⟩
set_option maxRecDepth 100000 in
set_option maxHeartbeats 1600000 in
theorem w_toSpp (a : Option Addr) (n c : Nat) (U : Nat → Pl) (w : World) (hn : n ≤ 1048576) (hl : LowS n U) (hR : RowS3 a n U w) :
    Calls Try.prog 17 #[.agg #[.slice a n c]] w fun e w' => ∃ q, e = .returned (.agg #[.slice (some ⟨q, 0, none⟩) n n]) ∧ w.heap.size ≤ q ∧ q < w'.heap.size ∧ (∃ X H, RowSO q n X H w'.heap.size U w') ∧ Below w.heap.size w w' := by
  have s1 := hide (fun w R => w_toIntSSS a n c U w hn hl R)
  clear hn hl
  go_enter Try.func17, Try.ntmps17
  go_wp2_with fail
  have M1 := (Mut.new (w.alloc (.cells #[.slice a n c] 24)) #[.slice none 0 0] 27).alloc (.cells #[.slice none 0 0] 27)
  have M2 := Mut.new ((w.alloc (.cells #[.slice a n c] 24)).alloc (.cells #[.slice none 0 0] 27)) #[.slice none 0 0] 27
  have d2 : Below w.heap.size w (((w.alloc (.cells #[.slice a n c] 24)).alloc (.cells #[.slice none 0 0] 27)).alloc (.cells #[.slice none 0 0] 27)) := below_box3 (Below.refl _ _)
  simp only [World.size_alloc] at M1 M2
  generalize ((w.alloc (.cells #[.slice a n c] 24)).alloc (.cells #[.slice none 0 0] 27)).alloc (.cells #[.slice none 0 0] 27) = w3 at *
  refine (s1.out _ (hR.below d2)).mono ?_
  rintro e w4 ⟨rfl, ⟨X, H, o1⟩, hsz, hb4⟩
  have hlt := M2.1
  have M1 := M1.below hb4
  have M2 := M2.below hb4
  have d3 := d2.trans (hb4.mono d2.size)
  have hle := d2.size
  clear hb4 d2
  have v0 := M2.2.1 0 _ rfl
  have x0 := M2.2.2 0 (by simp)
  have y0 := M1.2.1 0 _ rfl
  have f0 := M1.2.2 0 (by simp)
  clear M1 M2
  go_wp2_with fail
  exact bodyPost_ret (v := .agg #[.slice (some ⟨w3.heap.size, 0, none⟩) n n]) (by simp [results, Try.results17, go_sem, *]) rfl ⟨_, rfl, by omega, by simpa using hsz, ⟨X, H, by
    refine RowSO.hi (RowSO.other (RowSO.other o1 ?_ _ _) ?_ _ _) (by simp) <;> omega⟩, by
    refine Below.setCell (Below.setCell d3 ?_ _) ?_ _ <;> (simp; try omega)⟩
set_option maxRecDepth 100000 in
set_option maxHeartbeats 1600000 in
theorem w_markIntSS (c n cap : Nat) (X : Nat → Nat) (hi : Nat) (T : Nat → Lc) (k0 : Int) (w : World) (hn : n ≤ 1048576) (hl : LowL n T) (h0 : 0 ≤ k0) (h1 : k0 + (totL T n : Int) ≤ 10000000) (hR : RowLO c n X hi T w) :
    Calls Try.prog 36 #[.slice (some ⟨c, 0, none⟩) n cap, .int .i64 k0] w fun e w' => e = .returned (.int .i64 (k0 + (totL T n : Int))) ∧ OnlyS (fun b => c < b ∧ b < hi) w w' := by
  go_enter Try.func36, Try.ntmps36
  go_wp2_with fail
  go_loopw [1, 5] (fun x y wr => ∃ k : Nat, x = .int .i64 (k0 + (totL T k : Int)) ∧ y = .int .i64 k ∧ k ≤ n ∧ Hid (∀ i, k ≤ i → i < n → c < X i ∧ X i < hi ∧ (∀ j, j < i → X j < X i) ∧ c < wr.heap.size ∧ wr.cell? ⟨c, i, none⟩ = some (.slice (some ⟨X i, 0, none⟩) (T i).n (T i).n) ∧ OutInt (X i) (T i).n (T i).n (T i).f wr) ∧ OnlyS (fun b => c < b ∧ b < hi) w wr) (fun _ y _ => n - (intOf y).toNat)
  case atStart => exact ⟨0, by simp [totL], rfl, Nat.zero_le _, fun i _ hi => hR.2 i hi, OnlyS.refl _ _⟩
  case round =>
    obtain ⟨k, rfl, rfl, hk, hall, hb⟩ := hrel
    by_cases hlt : k < n
    · obtain ⟨g1, g2, g3, g4, u0, o1⟩ := hall.out k (Nat.le_refl _) hlt
      have hlt' : (k : Int) < (n : Int) := by omega
      have hmo := totL_mono T (show k + 1 ≤ n by omega)
      have hs : totL T (k + 1) = totL T k + (T k).n := rfl
      have l1 := hl k hlt
      have MK := hide (fun w O => w_markIntS (X k) (T k).n (T k).n (T k).f (k0 + (totL T k : Int)) w (by omega) (by omega) (by omega) O)
      have hO := hide o1
      have hE : Hid (k0 + (totL T k : Int) + ((T k).n : Int) = k0 + (totL T (k + 1) : Int)) := by show _ = _; omega
      clear l1 hs hmo o1
      generalize totL T k = tk at *
      go_wp2_with fail
      refine (MK.out _ hO.out).mono ?_
      rintro e w3 ⟨rfl, b3, o3⟩
      have hN : Hid (∀ i, k + 1 ≤ i → i < n → c < X i ∧ X i < hi ∧ (∀ j, j < i → X j < X i) ∧ c < w3.heap.size ∧ w3.cell? ⟨c, i, none⟩ = some (.slice (some ⟨X i, 0, none⟩) (T i).n (T i).n) ∧ OutInt (X i) (T i).n (T i).n (T i).f w3) := by
        intro i h1 h2
        obtain ⟨f1, f2, f3, f4, f5, f6⟩ := hall.out i (by omega) h2
        have f7 := f3 k (by omega)
        exact ⟨f1, f2, f3, Nat.lt_of_lt_of_le f4 b3.2.2.2.1, (b3.cell f4 (by omega)).trans f5, f6.only b3 (by omega)⟩
      have hb3 : OnlyS (fun b => c < b ∧ b < hi) w w3 := hb.trans (OnlyS.of_only b3 ⟨g1, g2⟩)
      clear hall b3 o3 hb
      go_wp2_with fail
      exact ⟨⟨k + 1, by rw [hE.out], by go_num, by omega, hN, hb3⟩, by simp [intOf]; omega⟩
    · have hlt' : ¬ (k : Int) < (n : Int) := by omega
      obtain rfl : k = n := by omega
      go_wp2_with fail
      go_ret
      exact ⟨rfl, hb⟩
set_option maxRecDepth 100000 in
set_option maxHeartbeats 1600000 in
theorem w_markIntSSS (c n cap : Nat) (X H : Nat → Nat) (hi : Nat) (U : Nat → Pl) (k0 : Int) (w : World) (hn : n ≤ 1048576) (hl : LowS n U) (h0 : 0 ≤ k0) (h1 : k0 + (totS U n : Int) ≤ 10000000) (hR : RowSO c n X H hi U w) :
    Calls Try.prog 82 #[.slice (some ⟨c, 0, none⟩) n cap, .int .i64 k0] w fun e w' => ∃ r : Int, e = .returned (.int .i64 r) ∧ 0 ≤ r ∧ r ≤ k0 + (totS U n : Int) ∧ OnlyS (fun b => c < b ∧ b < hi) w w' := by
  go_enter Try.func82, Try.ntmps82
  go_wp2_with fail
  go_loopw [1, 5] (fun x y wr => ∃ (k : Nat) (r : Int), x = .int .i64 r ∧ y = .int .i64 k ∧ k ≤ n ∧ 0 ≤ r ∧ r ≤ k0 + (totS U k : Int) ∧ Hid (∀ i, k ≤ i → i < n → OneS c X H hi U wr i) ∧ OnlyS (fun b => c < b ∧ b < hi) w wr) (fun _ y _ => n - (intOf y).toNat)
  case atStart => exact ⟨0, k0, rfl, rfl, Nat.zero_le _, h0, by simp [totS], fun i _ hi => hR.2 i hi, OnlyS.refl _ _⟩
  case round =>
    obtain ⟨k, r, rfl, rfl, hk, hr0, hr1, hall, hb⟩ := hrel
    by_cases hlt : k < n
    · have hlt' : (k : Int) < (n : Int) := by omega
      have hone := hall.out k (Nat.le_refl _) hlt
      obtain ⟨g1, g2, g3, g4, g5, u0, Y, o1⟩ := hone
      have hmo := totS_mono U (show k + 1 ≤ n by omega)
      have hs : totS U (k + 1) = totS U k + (U k).tot := rfl
      have ht : (U k).tot = (U k).n + totL (U k).T (U k).n := rfl
      have l1 := hl k hlt
      have MK := hide (fun w O => w_markIntSS (X k) (U k).n (U k).n Y (H k) (U k).T r w l1.1 l1.2 hr0 (by omega) O)
      have hO := hide o1
      have hE : Hid (0 ≤ r + (totL (U k).T (U k).n : Int) ∧ r + (totL (U k).T (U k).n : Int) ≤ k0 + (totS U (k + 1) : Int)) := ⟨by omega, by omega⟩
      clear l1 hs ht hmo o1
      generalize totL (U k).T (U k).n = tk at *
      go_wp2_with fail
      refine (MK.out _ hO.out).mono ?_
      rintro e w3 ⟨rfl, b3⟩
      have hN : Hid (∀ i, k + 1 ≤ i → i < n → OneS c X H hi U w3 i) := by
        intro i h1 h2
        have f0 := hall.out i (by omega) h2
        have f7 := f0.2.2.2.1 k (by omega)
        exact f0.onlyS b3 (by omega) (fun q h1 h2 => by omega)
      have hb3 : OnlyS (fun b => c < b ∧ b < hi) w w3 := hb.trans (b3.mono (fun q hq => ⟨by omega, by omega⟩))
      clear hall b3 hb
      go_wp2_with fail
      exact ⟨⟨k + 1, _, rfl, by go_num, by omega, hE.out.1, hE.out.2, hN, hb3⟩, by simp [intOf]; omega⟩
    · have hlt' : ¬ (k : Int) < (n : Int) := by omega
      obtain rfl : k = n := by omega
      go_wp2_with fail
      go_ret
      exact ⟨r, rfl, hr0, hr1, hb⟩
set_option maxRecDepth 100000 in
set_option maxHeartbeats 1600000 in
theorem w_markSpp (c n cap : Nat) (X H : Nat → Nat) (hi : Nat) (U : Nat → Pl) (w : World) (hn : n ≤ 1048576) (hl : LowS n U) (h1 : totS U n ≤ 1048576) (hR : RowSO c n X H hi U w) :
    Calls Try.prog 28 #[.agg #[.slice (some ⟨c, 0, none⟩) n cap], .int .i64 1] w fun e w' => ∃ r : Int, e = .returned (.int .i64 r) ∧ 0 ≤ r ∧ r ≤ 1048577 ∧ OnlyS (fun b => c < b ∧ b < hi) w w' := by
  have M := hide (fun w R => w_markIntSSS c n cap X H hi U 1 w hn hl (by omega) (by omega) R)
  have d0 : Below w.heap.size w (w.alloc (.cells #[.slice (some ⟨c, 0, none⟩) n cap] 27)) := below_box (Below.refl _ _)
  have hd : OnlyS (fun b => c < b ∧ b < hi) w (w.alloc (.cells #[.slice (some ⟨c, 0, none⟩) n cap] 27)) := ⟨d0.os, d0.tape, d0.output, d0.size, fun k hk _ => d0.block k hk⟩
  go_enter Try.func28, Try.ntmps28
  go_wp2_with fail
  refine (M.out _ (hR.below d0)).mono ?_
  rintro e w1 ⟨r, rfl, hr0, hr1, b1⟩
  have b2 := hd.trans b1
  clear b1 M hd
  go_wp2_with fail
  go_ret
  exact ⟨r, rfl, hr0, by omega, b2⟩
end Go.Proofs.Ytcnlabedlcmilaa
