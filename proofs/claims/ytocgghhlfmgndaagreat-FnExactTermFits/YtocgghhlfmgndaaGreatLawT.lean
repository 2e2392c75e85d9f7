/- Terms and policies as the laws hand them over: their size, a copy, a comparison. -/
import Derived.Test.YtocgghhlfmgndaaGreatJC
namespace Go.Proofs.YtocgghhlfmgndaaGreat
open Go.RowKit


theorem OutRange.only {c n k : Nat} {f0 : Nat → Int} {f1 : Nat → Int} {f2 : Nat → Int} {f3 : Nat → Int} {w w' : World} {d : Nat} (h : OutRange c n k f0 f1 f2 f3 w) (hb : Only d w w') (hn : c ≠ d) : OutRange c n k f0 f1 f2 f3 w' := by
  refine ⟨Nat.lt_of_lt_of_le h.1 hb.2.2.2.1, fun i hi => ?_⟩
  obtain ⟨⟨x0, x1, x2, x3, h0, h1, h2, h3, hk⟩, g0, g1, g2, g3⟩ := h.2 i hi
  exact ⟨⟨x0, x1, x2, x3, (hb.cell h.1 hn).trans h0, (hb.cell h.1 hn).trans h1, (hb.cell h.1 hn).trans h2, (hb.cell h.1 hn).trans h3, hk⟩, (hb.frozen h.1 hn).trans g0, (hb.frozen h.1 hn).trans g1, (hb.frozen h.1 hn).trans g2, (hb.frozen h.1 hn).trans g3⟩
theorem OutRange.other {c n k : Nat} {f0 : Nat → Int} {f1 : Nat → Int} {f2 : Nat → Int} {f3 : Nat → Int} {w : World} {d : Nat} (h : OutRange c n k f0 f1 f2 f3 w) (hn : c ≠ d) (o : Nat) (v : Value) : OutRange c n k f0 f1 f2 f3 (w.setCell ⟨d, o, none⟩ v) := h.only ((Only.refl d w).setCell o v) hn
theorem OutReCell.only {c n k : Nat} {f0 : Nat → Int} {f1 : Nat → Int} {w w' : World} {d : Nat} (h : OutReCell c n k f0 f1 w) (hb : Only d w w') (hn : c ≠ d) : OutReCell c n k f0 f1 w' := by
  refine ⟨Nat.lt_of_lt_of_le h.1 hb.2.2.2.1, fun i hi => ?_⟩
  obtain ⟨⟨x0, x1, h0, h1, hk⟩, g0, g1⟩ := h.2 i hi
  exact ⟨⟨x0, x1, (hb.cell h.1 hn).trans h0, (hb.cell h.1 hn).trans h1, hk⟩, (hb.frozen h.1 hn).trans g0, (hb.frozen h.1 hn).trans g1⟩
theorem OutReCell.other {c n k : Nat} {f0 : Nat → Int} {f1 : Nat → Int} {w : World} {d : Nat} (h : OutReCell c n k f0 f1 w) (hn : c ≠ d) (o : Nat) (v : Value) : OutReCell c n k f0 f1 (w.setCell ⟨d, o, none⟩ v) := h.only ((Only.refl d w).setCell o v) hn
theorem OutAct.only {c n k : Nat} {f0 : Nat → Int} {f1 : Nat → Int} {w w' : World} {d : Nat} (h : OutAct c n k f0 f1 w) (hb : Only d w w') (hn : c ≠ d) : OutAct c n k f0 f1 w' := by
  refine ⟨Nat.lt_of_lt_of_le h.1 hb.2.2.2.1, fun i hi => ?_⟩
  obtain ⟨⟨x0, x1, h0, h1, hk⟩, g0, g1⟩ := h.2 i hi
  exact ⟨⟨x0, x1, (hb.cell h.1 hn).trans h0, (hb.cell h.1 hn).trans h1, hk⟩, (hb.frozen h.1 hn).trans g0, (hb.frozen h.1 hn).trans g1⟩
theorem OutAct.other {c n k : Nat} {f0 : Nat → Int} {f1 : Nat → Int} {w : World} {d : Nat} (h : OutAct c n k f0 f1 w) (hn : c ≠ d) (o : Nat) (v : Value) : OutAct c n k f0 f1 (w.setCell ⟨d, o, none⟩ v) := h.only ((Only.refl d w).setCell o v) hn
set_option maxHeartbeats 400000 in
theorem w_szR (a : Option Addr) (len cap : Nat) (m : Int) (w : World) (hl : len ≤ maxLen) (hm : m ≤ 1048576) (hm0 : 0 ≤ m) :
    Calls Tryz.prog 48 #[.slice a len cap, .int .i64 m] w fun e w' => e = .returned (.int .i64 (if (len : Int) ≤ m then m - (len : Int) else -1)) ∧ w' = w := by
  unfold maxLen at hl
  by_cases h : (len : Int) ≤ m
  · rw [if_pos h]
    have h1 : ¬ (m - (len : Int) < 0) := by omega
    go_enter Tryz.func48, Tryz.ntmps48
    go_wp2_with fail
    go_ret
    exact ⟨rfl, rfl⟩
  · rw [if_neg h]
    have h1 : m - (len : Int) < 0 := by omega
    go_enter Tryz.func48, Tryz.ntmps48
    go_wp2_with fail
    go_ret
    exact ⟨rfl, rfl⟩
set_option maxHeartbeats 400000 in
theorem w_szQ (a : Option Addr) (len cap : Nat) (m : Int) (w : World) (hl : len ≤ maxLen) (hm : m ≤ 1048576) (hm0 : 0 ≤ m) :
    Calls Tryz.prog 49 #[.slice a len cap, .int .i64 m] w fun e w' => e = .returned (.int .i64 (if (len : Int) ≤ m then m - (len : Int) else -1)) ∧ w' = w := by
  unfold maxLen at hl
  by_cases h : (len : Int) ≤ m
  · rw [if_pos h]
    have h1 : ¬ (m - (len : Int) < 0) := by omega
    go_enter Tryz.func49, Tryz.ntmps49
    go_wp2_with fail
    go_ret
    exact ⟨rfl, rfl⟩
  · rw [if_neg h]
    have h1 : m - (len : Int) < 0 := by omega
    go_enter Tryz.func49, Tryz.ntmps49
    go_wp2_with fail
    go_ret
    exact ⟨rfl, rfl⟩
set_option maxHeartbeats 400000 in
theorem w_szA (a : Option Addr) (len cap : Nat) (m : Int) (w : World) (hl : len ≤ maxLen) (hm : m ≤ 1048576) (hm0 : 0 ≤ m) :
    Calls Tryz.prog 50 #[.slice a len cap, .int .i64 m] w fun e w' => e = .returned (.int .i64 (if (len : Int) ≤ m then m - (len : Int) else -1)) ∧ w' = w := by
  unfold maxLen at hl
  by_cases h : (len : Int) ≤ m
  · rw [if_pos h]
    have h1 : ¬ (m - (len : Int) < 0) := by omega
    go_enter Tryz.func50, Tryz.ntmps50
    go_wp2_with fail
    go_ret
    exact ⟨rfl, rfl⟩
  · rw [if_neg h]
    have h1 : m - (len : Int) < 0 := by omega
    go_enter Tryz.func50, Tryz.ntmps50
    go_wp2_with fail
    go_ret
    exact ⟨rfl, rfl⟩
set_option maxRecDepth 100000 in
set_option maxHeartbeats 800000 in
theorem w_szTerm (ra : Option Addr) (rc : Nat) (pa : Option Addr) (pc : Nat) (aa : Option Addr) (ac : Nat) (t : Tc) (m : Int) (w : World) (h1 : t.nr ≤ maxLen) (h2 : t.np ≤ maxLen) (h3 : t.na ≤ maxLen) (hm : m ≤ 1048576) (hm0 : 0 ≤ m) :
    Calls Tryz.prog 8 #[.agg #[.slice ra t.nr rc, .slice pa t.np pc, .int .i64 t.cm, .slice aa t.na ac, .int .i64 t.vd], .int .i64 m] w fun e w' => e = .returned (.int .i64 (if (t.tot : Int) ≤ m then m - (t.tot : Int) else -1)) ∧ Below w.heap.size w w' := by
  have s0 := hide (fun w => w_szR ra t.nr rc m w h1 hm hm0)
  have ht : t.tot = t.nr + t.np + t.na := rfl
  by_cases e0 : (t.nr : Int) ≤ m
  · rw [if_pos e0] at s0
    have s1 := hide (fun w => w_szQ pa t.np pc (m - (t.nr : Int)) w h2 (by omega) (by omega))
    have q0 : ¬ (m - (t.nr : Int) < 0) := by omega
    by_cases e1 : (t.np : Int) ≤ m - (t.nr : Int)
    · rw [if_pos e1] at s1
      have s2 := hide (fun w => w_szA aa t.na ac (m - (t.nr : Int) - (t.np : Int)) w h3 (by omega) (by omega))
      have q1 : ¬ (m - (t.nr : Int) - (t.np : Int) < 0) := by omega
      by_cases e2 : (t.na : Int) ≤ m - (t.nr : Int) - (t.np : Int)
      · rw [if_pos e2] at s2
        have q2 : ¬ (m - (t.nr : Int) - (t.np : Int) - (t.na : Int) < 0) := by omega
        rw [if_pos (by omega), show m - (t.tot : Int) = m - (t.nr : Int) - (t.np : Int) - (t.na : Int) by omega]
        clear e0 e1 e2 h1 h2 h3 hm hm0 ht
        go_enter Tryz.func8, Tryz.ntmps8
        go_wp2_with fail
        refine (s0.out _).mono ?_
        rintro e w1 ⟨rfl, rfl⟩
        go_wp2_with fail
        refine (s1.out _).mono ?_
        rintro e w1 ⟨rfl, rfl⟩
        go_wp2_with fail
        refine (s2.out _).mono ?_
        rintro e w1 ⟨rfl, rfl⟩
        go_wp2_with fail
        go_ret
        exact ⟨rfl, below_box (Below.refl _ _)⟩
      · rw [if_neg e2] at s2
        rw [if_neg (by omega)]
        clear e0 e1 e2 h1 h2 h3 hm hm0 ht
        go_enter Tryz.func8, Tryz.ntmps8
        go_wp2_with fail
        refine (s0.out _).mono ?_
        rintro e w1 ⟨rfl, rfl⟩
        go_wp2_with fail
        refine (s1.out _).mono ?_
        rintro e w1 ⟨rfl, rfl⟩
        go_wp2_with fail
        refine (s2.out _).mono ?_
        rintro e w1 ⟨rfl, rfl⟩
        go_wp2_with fail
        go_ret
        exact ⟨rfl, below_box (Below.refl _ _)⟩
    · rw [if_neg e1] at s1
      rw [if_neg (by omega)]
      clear e0 e1 h1 h2 h3 hm hm0 ht
      go_enter Tryz.func8, Tryz.ntmps8
      go_wp2_with fail
      refine (s0.out _).mono ?_
      rintro e w1 ⟨rfl, rfl⟩
      go_wp2_with fail
      refine (s1.out _).mono ?_
      rintro e w1 ⟨rfl, rfl⟩
      go_wp2_with fail
      go_ret
      exact ⟨rfl, below_box (Below.refl _ _)⟩
  · rw [if_neg e0] at s0
    rw [if_neg (by omega)]
    clear e0 h1 h2 h3 hm hm0 ht
    go_enter Tryz.func8, Tryz.ntmps8
    go_wp2_with fail
    refine (s0.out _).mono ?_
    rintro e w1 ⟨rfl, rfl⟩
    go_wp2_with fail
    go_ret
    exact ⟨rfl, below_box (Below.refl _ _)⟩
/-- How much is in the first k terms. -/
def totT (T : Nat → Tc) : Nat → Nat
  | 0 => 0
  | k + 1 => totT T k + (T k).tot
theorem totT_mono (T : Nat → Tc) {k n : Nat} (h : k ≤ n) : totT T k ≤ totT T n := by
  induction n with
  | zero => have : k = 0 := by omega
            subst this; exact Nat.le_refl _
  | succ n ih =>
    by_cases e : k = n + 1
    · subst e; exact Nat.le_refl _
    · exact Nat.le_trans (ih (by omega)) (Nat.le_add_right _ _)
theorem lowT_of {T : Nat → Tc} {n : Nat} (h : totT T n ≤ 1048576) : LowT n T := by
  intro i hi
  have h1 := totT_mono T (show i + 1 ≤ n by omega)
  have h2 : totT T (i + 1) = totT T i + (T i).tot := rfl
  have h3 : (T i).tot = (T i).nr + (T i).np + (T i).na := rfl
  omega
def MaxT (n : Nat) (T : Nat → Tc) : Prop := ∀ i, i < n → (T i).nr ≤ maxLen ∧ (T i).np ≤ maxLen ∧ (T i).na ≤ maxLen
set_option maxRecDepth 100000 in
set_option maxHeartbeats 1600000 in
theorem w_szTermS (a : Option Addr) (n c : Nat) (T : Nat → Tc) (m : Int) (w : World) (hn : n ≤ maxLen) (hx : MaxT n T) (hm : m ≤ 1048576) (hm0 : 0 ≤ m) (hR : RowT a n T w) :
    Calls Tryz.prog 66 #[.slice a n c, .int .i64 m] w fun e w' => e = .returned (.int .i64 (if (n : Int) + (totT T n : Int) ≤ m then m - (n : Int) - (totT T n : Int) else -1)) ∧ Below w.heap.size w w' := by
  unfold maxLen at hn
  generalize hRv : (if (n : Int) + (totT T n : Int) ≤ m then m - (n : Int) - (totT T n : Int) else -1) = R
  have hY : Hid ((n : Int) + (totT T n : Int) ≤ m → R = m - (n : Int) - (totT T n : Int)) := fun h => by rw [← hRv, if_pos h]
  have hN0 : Hid (¬ (n : Int) + (totT T n : Int) ≤ m → R = -1) := fun h => by rw [← hRv, if_neg h]
  clear hRv
  by_cases h0 : (n : Int) ≤ m
  · have q0 : ¬ (m - (n : Int) < 0) := by omega
    go_enter Tryz.func66, Tryz.ntmps66
    go_wp2_with fail
    go_loopw [1, 5] (fun x y wr => ∃ k : Nat, x = .int .i64 (m - (n : Int) - (totT T k : Int)) ∧ y = .int .i64 k ∧ k ≤ n ∧ (n : Int) + (totT T k : Int) ≤ m ∧ Below w.heap.size w wr) (fun _ y _ => n - (intOf y).toNat)
    case atStart => exact ⟨0, by simp [totT], rfl, Nat.zero_le _, by simp [totT]; omega, Below.refl _ _⟩
    case round =>
      obtain ⟨k, rfl, rfl, hk, hle, hb⟩ := hrel
      by_cases hlt : k < n
      · obtain ⟨b, off, ra, rc, pa, pc, aa, ac, rfl, hbw, u0, u1, u2, u3, u4, _⟩ := hR k hlt
        replace u0 := (hb.cell (p := ⟨b, off + k * 5, none⟩) hbw).trans u0
        replace u1 := (hb.cell (p := ⟨b, off + k * 5 + 1, none⟩) hbw).trans u1
        replace u2 := (hb.cell (p := ⟨b, off + k * 5 + 2, none⟩) hbw).trans u2
        replace u3 := (hb.cell (p := ⟨b, off + k * 5 + 3, none⟩) hbw).trans u3
        replace u4 := (hb.cell (p := ⟨b, off + k * 5 + 4, none⟩) hbw).trans u4
        have hlt' : (k : Int) < (n : Int) := by omega
        obtain ⟨l1, l2, l3⟩ := hx k hlt
        have ST := hide (fun w => w_szTerm ra rc pa pc aa ac (T k) (m - (n : Int) - (totT T k : Int)) w l1 l2 l3 (by omega) (by omega))
        have hs : Hid (totT T (k + 1) = totT T k + (T k).tot) := rfl
        have hmo := hide (totT_mono T (show k + 1 ≤ n by omega))
        generalize totT T k = tk at *
        generalize T k = t at *
        by_cases e : (t.tot : Int) ≤ m - (n : Int) - (tk : Int)
        · rw [if_pos e] at ST
          have q1 : ¬ (m - (n : Int) - (tk : Int) - (t.tot : Int) < 0) := by omega
          have hN : Hid (m - (n : Int) - (tk : Int) - (t.tot : Int) = m - (n : Int) - (totT T (k + 1) : Int) ∧ (n : Int) + (totT T (k + 1) : Int) ≤ m) := by
            have := hs.out
            exact ⟨by omega, by omega⟩
          clear hs hmo l1 l2 l3 e
          go_wp2_with fail
          refine (ST.out _).mono ?_
          rintro e w3 ⟨rfl, b3⟩
          go_wp2_with fail
          exact ⟨⟨k + 1, by rw [hN.out.1], by go_num, by omega, hN.out.2, hb.trans (b3.mono hb.size)⟩, by simp [intOf]; omega⟩
        · rw [if_neg e] at ST
          have hE := hide (hN0.out (by have h1 := hs.out; have h2 := hmo.out; omega))
          clear hs hmo l1 l2 l3 e
          go_wp2_with fail
          refine (ST.out _).mono ?_
          rintro e w3 ⟨rfl, b3⟩
          go_wp2_with fail
          go_ret
          exact ⟨by rw [hE.out]; rfl, hb.trans (b3.mono hb.size)⟩
      · have hlt' : ¬ (k : Int) < (n : Int) := by omega
        obtain rfl : k = n := by omega
        have hE := hide (hY.out hle)
        go_wp2_with fail
        go_ret
        exact ⟨by rw [hE.out]; rfl, hb⟩
  · have q0 : m - (n : Int) < 0 := by omega
    have hE := hide (hN0.out (by omega))
    go_enter Tryz.func66, Tryz.ntmps66
    go_wp2_with fail
    go_ret
    exact ⟨by rw [hE.out]; rfl, Below.refl _ _⟩
set_option maxRecDepth 100000 in
set_option maxHeartbeats 1600000 in
theorem w_toTerm (ra : Option Addr) (rc : Nat) (pa : Option Addr) (pc : Nat) (aa : Option Addr) (ac : Nat) (t : Tc) (w : World) (h1 : t.nr ≤ 1048576) (h2 : t.np ≤ 1048576) (h3 : t.na ≤ 1048576) (hT : TmIn ra pa pc aa t w) :
    Calls Tryz.prog 11 #[.agg #[.slice ra t.nr rc, .slice pa t.np pc, .int .i64 t.cm, .slice aa t.na ac, .int .i64 t.vd]] w fun e w' => ∃ x y z, e = .returned (.agg #[.slice (some ⟨x, 0, none⟩) t.nr t.nr, .slice (some ⟨y, 0, none⟩) t.np t.np, .int .i64 t.cm, .slice (some ⟨z, 0, none⟩) t.na t.na, .int .i64 t.vd]) ∧
      w.heap.size ≤ x ∧ x < y ∧ y < z ∧ OutRange x t.nr t.nr t.f0 t.f1 t.f2 t.f3 w' ∧ OutReCell y t.np t.np t.q0 t.q1 w' ∧ OutAct z t.na t.na t.g0 t.g1 w' ∧ Below w.heap.size w w' := by
  have s0 := hide (fun w R => w_toRangeS ra t.nr rc t.f0 t.f1 t.f2 t.f3 w h1 R)
  have s1 := hide (fun w R => w_toReCellS pa t.np pc t.q0 t.q1 w h2 R)
  have s2 := hide (fun w R => w_toActS aa t.na ac t.g0 t.g1 w h3 R)
  clear h1 h2 h3
  obtain ⟨_, R0, R1, R2⟩ := hT
  have M0 := ((Mut.new w #[.slice ra t.nr rc, .slice pa t.np pc, .int .i64 t.cm, .slice aa t.na ac, .int .i64 t.vd] 26).alloc (.cells #[.slice none 0 0, .slice none 0 0, .int .i64 0, .slice none 0 0, .int .i64 0] 42)).alloc (.cells #[.slice none 0 0, .slice none 0 0, .int .i64 0, .slice none 0 0, .int .i64 0] 42)
  have M1 := (Mut.new (w.alloc (.cells #[.slice ra t.nr rc, .slice pa t.np pc, .int .i64 t.cm, .slice aa t.na ac, .int .i64 t.vd] 26)) #[.slice none 0 0, .slice none 0 0, .int .i64 0, .slice none 0 0, .int .i64 0] 42).alloc (.cells #[.slice none 0 0, .slice none 0 0, .int .i64 0, .slice none 0 0, .int .i64 0] 42)
  have M2 := Mut.new ((w.alloc (.cells #[.slice ra t.nr rc, .slice pa t.np pc, .int .i64 t.cm, .slice aa t.na ac, .int .i64 t.vd] 26)).alloc (.cells #[.slice none 0 0, .slice none 0 0, .int .i64 0, .slice none 0 0, .int .i64 0] 42)) #[.slice none 0 0, .slice none 0 0, .int .i64 0, .slice none 0 0, .int .i64 0] 42
  have d0 : Below w.heap.size w (((w.alloc (.cells #[.slice ra t.nr rc, .slice pa t.np pc, .int .i64 t.cm, .slice aa t.na ac, .int .i64 t.vd] 26)).alloc (.cells #[.slice none 0 0, .slice none 0 0, .int .i64 0, .slice none 0 0, .int .i64 0] 42)).alloc (.cells #[.slice none 0 0, .slice none 0 0, .int .i64 0, .slice none 0 0, .int .i64 0] 42)) := below_box3 (Below.refl _ _)
  simp only [World.size_alloc] at M1 M2
  go_enter Tryz.func11, Tryz.ntmps11
  go_wp2_with fail
  generalize ((w.alloc (.cells #[.slice ra t.nr rc, .slice pa t.np pc, .int .i64 t.cm, .slice aa t.na ac, .int .i64 t.vd] 26)).alloc (.cells #[.slice none 0 0, .slice none 0 0, .int .i64 0, .slice none 0 0, .int .i64 0] 42)).alloc (.cells #[.slice none 0 0, .slice none 0 0, .int .i64 0, .slice none 0 0, .int .i64 0] 42) = w0 at *
  refine (s0.out _ (R0.below d0)).mono ?_
  rintro e w1 ⟨rfl, b1, O1⟩
  have hx0 := M2.1
  have M0 := M0.below b1
  have M1 := M1.below b1
  have M2 := M2.below b1
  have d1 := d0.trans (b1.mono d0.size)
  clear b1 d0
  generalize w0.heap.size = x at *
  have u0 := M0.2.1 0 _ rfl
  have u1 := M0.2.1 1 _ rfl
  have u2 := M0.2.1 2 _ rfl
  have u3 := M0.2.1 3 _ rfl
  have u4 := M0.2.1 4 _ rfl
  have v0 := M2.2.1 0 _ rfl
  have v1 := M2.2.1 1 _ rfl
  have v2 := M2.2.1 2 _ rfl
  have v3 := M2.2.1 3 _ rfl
  have v4 := M2.2.1 4 _ rfl
  have z0 := M2.2.2 0 (by simp)
  have z1 := M2.2.2 1 (by simp)
  have z2 := M2.2.2 2 (by simp)
  have z3 := M2.2.2 3 (by simp)
  have z4 := M2.2.2 4 (by simp)
  go_wp2_with fail
  have M1 := M1.other (c := w.heap.size + 1 + 1) (by omega) 0 (.slice (some ⟨x, 0, none⟩) t.nr t.nr)
  have M0 := M0.other (c := w.heap.size + 1 + 1) (by omega) 0 (.slice (some ⟨x, 0, none⟩) t.nr t.nr)
  have M2 := M2.set 0 (.slice (some ⟨x, 0, none⟩) t.nr t.nr)
  have O1 := O1.only ((Only.refl (w.heap.size + 1 + 1) w1).setCell 0 (.slice (some ⟨x, 0, none⟩) t.nr t.nr)) (by omega)
  have d1 := d1.setCell (p := ⟨w.heap.size + 1 + 1, 0, none⟩) (by simp; omega) (.slice (some ⟨x, 0, none⟩) t.nr t.nr)
  clear u0 u1 u2 u3 u4 v0 v1 v2 v3 v4 z0 z1 z2 z3 z4
  generalize w1.setCell ⟨w.heap.size + 1 + 1, 0, none⟩ (.slice (some ⟨x, 0, none⟩) t.nr t.nr) = w2 at *
  refine (s1.out _ (R1.below d1)).mono ?_
  rintro e w3 ⟨rfl, b3, O3⟩
  have hy0 := O1.1
  have M0 := M0.below b3
  have M1 := M1.below b3
  have M2 := M2.below b3
  have O1 := O1.below b3
  have d3 := d1.trans (b3.mono d1.size)
  clear b3 d1
  generalize w2.heap.size = y at *
  have u0 := M0.2.1 0 _ rfl
  have u1 := M0.2.1 1 _ rfl
  have u2 := M0.2.1 2 _ rfl
  have u3 := M0.2.1 3 _ rfl
  have u4 := M0.2.1 4 _ rfl
  have v0 := M2.2.1 0 _ rfl
  have v1 := M2.2.1 1 _ rfl
  have v2 := M2.2.1 2 _ rfl
  have v3 := M2.2.1 3 _ rfl
  have v4 := M2.2.1 4 _ rfl
  have z0 := M2.2.2 0 (by simp)
  have z1 := M2.2.2 1 (by simp)
  have z2 := M2.2.2 2 (by simp)
  have z3 := M2.2.2 3 (by simp)
  have z4 := M2.2.2 4 (by simp)
  go_wp2_with fail
  have M1 := (M1.other (c := w.heap.size + 1 + 1) (by omega) 1 (.slice (some ⟨y, 0, none⟩) t.np t.np)).other (c := w.heap.size + 1 + 1) (by omega) 2 (.int .i64 t.cm)
  have M0 := (M0.other (c := w.heap.size + 1 + 1) (by omega) 1 (.slice (some ⟨y, 0, none⟩) t.np t.np)).other (c := w.heap.size + 1 + 1) (by omega) 2 (.int .i64 t.cm)
  have M2 := (M2.set 1 (.slice (some ⟨y, 0, none⟩) t.np t.np)).set 2 (.int .i64 t.cm)
  have O1 := O1.only (((Only.refl (w.heap.size + 1 + 1) w3).setCell 1 (.slice (some ⟨y, 0, none⟩) t.np t.np)).setCell 2 (.int .i64 t.cm)) (by omega)
  have O3 := O3.only (((Only.refl (w.heap.size + 1 + 1) w3).setCell 1 (.slice (some ⟨y, 0, none⟩) t.np t.np)).setCell 2 (.int .i64 t.cm)) (by omega)
  have d3 := (d3.setCell (p := ⟨w.heap.size + 1 + 1, 1, none⟩) (by simp; omega) (.slice (some ⟨y, 0, none⟩) t.np t.np)).setCell (p := ⟨w.heap.size + 1 + 1, 2, none⟩) (by simp; omega) (.int .i64 t.cm)
  clear u0 u1 u2 u3 u4 v0 v1 v2 v3 v4 z0 z1 z2 z3 z4
  generalize (w3.setCell ⟨w.heap.size + 1 + 1, 1, none⟩ (.slice (some ⟨y, 0, none⟩) t.np t.np)).setCell ⟨w.heap.size + 1 + 1, 2, none⟩ (.int .i64 t.cm) = w4 at *
  refine (s2.out _ (R2.below d3)).mono ?_
  rintro e w5 ⟨rfl, b5, O5⟩
  have hz0 := O3.1
  have M0 := M0.below b5
  have M1 := M1.below b5
  have M2 := M2.below b5
  have O1 := O1.below b5
  have O3 := O3.below b5
  have d5 := d3.trans (b5.mono d3.size)
  clear b5 d3
  generalize w4.heap.size = z at *
  have u0 := M0.2.1 0 _ rfl
  have u1 := M0.2.1 1 _ rfl
  have u2 := M0.2.1 2 _ rfl
  have u3 := M0.2.1 3 _ rfl
  have u4 := M0.2.1 4 _ rfl
  have v0 := M2.2.1 0 _ rfl
  have v1 := M2.2.1 1 _ rfl
  have v2 := M2.2.1 2 _ rfl
  have v3 := M2.2.1 3 _ rfl
  have v4 := M2.2.1 4 _ rfl
  have z0 := M2.2.2 0 (by simp)
  have z1 := M2.2.2 1 (by simp)
  have z2 := M2.2.2 2 (by simp)
  have z3 := M2.2.2 3 (by simp)
  have z4 := M2.2.2 4 (by simp)
  have y0 := M1.2.1 0 _ rfl
  have y1 := M1.2.1 1 _ rfl
  have y2 := M1.2.1 2 _ rfl
  have y3 := M1.2.1 3 _ rfl
  have y4 := M1.2.1 4 _ rfl
  have f0 := M1.2.2 0 (by simp)
  have f1 := M1.2.2 1 (by simp)
  have f2 := M1.2.2 2 (by simp)
  have f3 := M1.2.2 3 (by simp)
  have f4 := M1.2.2 4 (by simp)
  clear M0 M1 M2
  go_wp2_with fail
  exact bodyPost_ret (v := .agg #[.slice (some ⟨x, 0, none⟩) t.nr t.nr, .slice (some ⟨y, 0, none⟩) t.np t.np, .int .i64 t.cm, .slice (some ⟨z, 0, none⟩) t.na t.na, .int .i64 t.vd]) (by simp [results, Tryz.results11, go_sem, *]) rfl ⟨x, y, z, rfl, by omega, hy0, hz0, by
    refine OutRange.other (OutRange.other (OutRange.other (OutRange.other (OutRange.other (OutRange.other (OutRange.other (O1) ?_ _ _) ?_ _ _) ?_ _ _) ?_ _ _) ?_ _ _) ?_ _ _) ?_ _ _ <;> omega, by
    refine OutReCell.other (OutReCell.other (OutReCell.other (OutReCell.other (OutReCell.other (OutReCell.other (OutReCell.other (O3) ?_ _ _) ?_ _ _) ?_ _ _) ?_ _ _) ?_ _ _) ?_ _ _) ?_ _ _ <;> omega, by
    refine OutAct.other (OutAct.other (OutAct.other (OutAct.other (OutAct.other (OutAct.other (OutAct.other (O5) ?_ _ _) ?_ _ _) ?_ _ _) ?_ _ _) ?_ _ _) ?_ _ _) ?_ _ _ <;> omega, by
    refine Below.setCell (Below.setCell (Below.setCell (Below.setCell (Below.setCell (Below.setCell (Below.setCell (d5) ?_ _) ?_ _) ?_ _) ?_ _) ?_ _) ?_ _) ?_ _ <;> (simp; try omega)⟩
set_option maxRecDepth 100000 in
set_option maxHeartbeats 1600000 in
theorem w_eqTerm (ra : Option Addr) (rc : Nat) (pa : Option Addr) (pc : Nat) (aa : Option Addr) (ac : Nat) (sa : Option Addr) (sc : Nat) (qa : Option Addr) (qc : Nat) (ba : Option Addr) (bc : Nat) (t : Tc) (w : World) (h1 : t.nr ≤ 1048576) (h2 : t.np ≤ 1048576) (h3 : t.na ≤ 1048576) (hT : TmIn ra pa pc aa t w) (hU : TmIn sa qa qc ba t w) :
    Calls Tryz.prog 14 #[.agg #[.slice ra t.nr rc, .slice pa t.np pc, .int .i64 t.cm, .slice aa t.na ac, .int .i64 t.vd], .agg #[.slice sa t.nr sc, .slice qa t.np qc, .int .i64 t.cm, .slice ba t.na bc, .int .i64 t.vd]] w fun e w' => e = .returned (.bool true) ∧ Below w.heap.size w w' := by
  have s0 := hide (fun w R Q => w_eqRangeS ra sa t.nr rc sc t.f0 t.f1 t.f2 t.f3 w (by omega) R Q)
  have s1 := hide (fun w R Q => w_eqReCellS pa qa t.np pc qc t.q0 t.q1 w (by omega) R Q)
  have s2 := hide (fun w R Q => w_eqActS aa ba t.na ac bc t.g0 t.g1 w (by omega) R Q)
  have k0 : (t.cm != t.cm) = false := by simp
  have k1 : (t.vd != t.vd) = false := by simp
  obtain ⟨_, R0, R1, R2⟩ := hT
  obtain ⟨_, Q0, Q1, Q2⟩ := hU
  clear h1 h2 h3
  have M0 := (Mut.new w #[.slice ra t.nr rc, .slice pa t.np pc, .int .i64 t.cm, .slice aa t.na ac, .int .i64 t.vd] 42).alloc (.cells #[.slice sa t.nr sc, .slice qa t.np qc, .int .i64 t.cm, .slice ba t.na bc, .int .i64 t.vd] 42)
  have M1 := Mut.new (w.alloc (.cells #[.slice ra t.nr rc, .slice pa t.np pc, .int .i64 t.cm, .slice aa t.na ac, .int .i64 t.vd] 42)) #[.slice sa t.nr sc, .slice qa t.np qc, .int .i64 t.cm, .slice ba t.na bc, .int .i64 t.vd] 42
  have d0 : Below w.heap.size w ((w.alloc (.cells #[.slice ra t.nr rc, .slice pa t.np pc, .int .i64 t.cm, .slice aa t.na ac, .int .i64 t.vd] 42)).alloc (.cells #[.slice sa t.nr sc, .slice qa t.np qc, .int .i64 t.cm, .slice ba t.na bc, .int .i64 t.vd] 42)) := below_box2 (Below.refl _ _)
  simp only [World.size_alloc] at M1
  go_enter Tryz.func14, Tryz.ntmps14
  go_wp2_with fail
  generalize (w.alloc (.cells #[.slice ra t.nr rc, .slice pa t.np pc, .int .i64 t.cm, .slice aa t.na ac, .int .i64 t.vd] 42)).alloc (.cells #[.slice sa t.nr sc, .slice qa t.np qc, .int .i64 t.cm, .slice ba t.na bc, .int .i64 t.vd] 42) = w1 at *
  refine (s0.out _ (R0.below d0) (Q0.below d0)).mono ?_
  rintro e w2 ⟨rfl, b2⟩
  have M0 := M0.below b2
  have M1 := M1.below b2
  have d2 := d0.trans (b2.mono d0.size)
  clear b2 d0
  have u1 := M0.2.1 1 _ rfl
  have v1 := M1.2.1 1 _ rfl
  go_wp2_with fail
  refine (s1.out _ (R1.below d2) (Q1.below d2)).mono ?_
  rintro e w3 ⟨rfl, b3⟩
  have M0 := M0.below b3
  have M1 := M1.below b3
  have d3 := d2.trans (b3.mono d2.size)
  clear b3 d2 u1 v1
  have u2 := M0.2.1 2 _ rfl
  have v2 := M1.2.1 2 _ rfl
  have u3 := M0.2.1 3 _ rfl
  have v3 := M1.2.1 3 _ rfl
  go_wp2_with fail
  refine (s2.out _ (R2.below d3) (Q2.below d3)).mono ?_
  rintro e w4 ⟨rfl, b4⟩
  have M0 := M0.below b4
  have M1 := M1.below b4
  have d4 := d3.trans (b4.mono d3.size)
  clear b4 d3 u2 v2 u3 v3
  have u4 := M0.2.1 4 _ rfl
  have v4 := M1.2.1 4 _ rfl
  go_wp2_with fail
  go_ret
  exact ⟨rfl, d4⟩
end Go.Proofs.YtocgghhlfmgndaaGreat
