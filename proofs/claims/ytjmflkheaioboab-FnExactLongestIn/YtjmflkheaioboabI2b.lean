/- What the program's LongestIn answers. -/
import Derived.Test.YtjmflkheaioboabI2
import Derived.Test.YtjmflkheaioboabI1b
import Derived.Test.YtjmflkheaioboabS2b
namespace Go.Proofs.Ytjmflkheaioboab
open Go.RowKit

/-- Block b holds an entry and may be written. -/
def Cell3 (w : World) (b : Nat) (x0 x1 x2 : Int) : Prop := b < w.heap.size ∧
  (w.cell? ⟨b, 0, none⟩ = some (.int .i64 x0) ∧ w.cell? ⟨b, 1, none⟩ = some (.int .i64 x1) ∧ w.cell? ⟨b, 2, none⟩ = some (.int .i64 x2)) ∧
  (w.frozen? ⟨b, 0, none⟩ = false ∧ w.frozen? ⟨b, 1, none⟩ = false ∧ w.frozen? ⟨b, 2, none⟩ = false)
theorem Cell3.below {w w' : World} {b : Nat} {x0 x1 x2 : Int} (h : Cell3 w b x0 x1 x2) (k : Below w.heap.size w w') : Cell3 w' b x0 x1 x2 := by
  obtain ⟨hc, hf⟩ := bcell k
  obtain ⟨h0, ⟨h1, h2, h3⟩, h4, h5, h6⟩ := h
  exact ⟨Nat.lt_of_lt_of_le h0 k.size, ⟨(hc _ _ h0).trans h1, (hc _ _ h0).trans h2, (hc _ _ h0).trans h3⟩, (hf _ _ h0).trans h4, (hf _ _ h0).trans h5, (hf _ _ h0).trans h6⟩
theorem Cell3.alloc {w : World} {b : Nat} {x0 x1 x2 : Int} (h : Cell3 w b x0 x1 x2) (o : Obj) : Cell3 (w.alloc o) b x0 x1 x2 := h.below (below_box (Below.refl _ _))
theorem Cell3.new (w : World) (x0 x1 x2 : Int) (t : TypeId) : Cell3 (w.alloc (.cells #[.int .i64 x0, .int .i64 x1, .int .i64 x2] t)) w.heap.size x0 x1 x2 := by
  refine ⟨by simp, ⟨?_, ?_, ?_⟩, ?_, ?_, ?_⟩ <;> simp [go_sem]
theorem Cell3.put {w : World} {b : Nat} {x0 x1 x2 : Int} (h : Cell3 w b x0 x1 x2) (y0 y1 y2 : Int) :
    Cell3 (((w.setCell ⟨b, 0, none⟩ (.int .i64 y0)).setCell ⟨b, 1, none⟩ (.int .i64 y1)).setCell ⟨b, 2, none⟩ (.int .i64 y2)) b y0 y1 y2 := by
  obtain ⟨h0, ⟨h1, h2, h3⟩, h4, h5, h6⟩ := h
  refine ⟨by simpa using h0, ⟨?_, ?_, ?_⟩, ?_, ?_, ?_⟩ <;> simp [go_sem, h1, h2, h3, h4, h5, h6]
theorem Cell3.other {w : World} {b c : Nat} {x0 x1 x2 : Int} (h : Cell3 w b x0 x1 x2) (hn : b ≠ c) (o : Nat) (v : Value) : Cell3 (w.setCell ⟨c, o, none⟩ v) b x0 x1 x2 := by
  obtain ⟨h0, ⟨h1, h2, h3⟩, h4, h5, h6⟩ := h
  refine ⟨by simpa using h0, ⟨?_, ?_, ?_⟩, ?_, ?_, ?_⟩
  · rw [World.cell?_setCell_other _ _ _ _ (by simp <;> omega)]; exact h1
  · rw [World.cell?_setCell_other _ _ _ _ (by simp <;> omega)]; exact h2
  · rw [World.cell?_setCell_other _ _ _ _ (by simp <;> omega)]; exact h3
  · simpa [go_sem] using h4
  · simpa [go_sem] using h5
  · simpa [go_sem] using h6

/-- What lies at a place, 0 for none. -/
def lx (f : Nat → Int) (q : Int) : Int := if q < 0 then 0 else f q.toNat
theorem longV_lx (f0 f1 f2 : Nat → Int) (q : Int) : longV f0 f1 f2 q = .tuple #[.agg #[.int .i64 (lx f0 q), .int .i64 (lx f1 q), .int .i64 (lx f2 q)], .bool (decide (0 ≤ q))] := by
  unfold longV lx
  by_cases h : q < 0
  · rw [if_pos h, if_pos h, if_pos h, if_pos h, show decide (0 ≤ q) = false by simp; omega]
  · rw [if_neg h, if_neg h, if_neg h, if_neg h, show decide (0 ≤ q) = true by simp; omega]
theorem lx_at (f : Nat → Int) (k : Nat) : lx f (k : Int) = f k := by unfold lx; rw [if_neg (by omega), Int.toNat_natCast]

set_option maxRecDepth 100000 in
set_option maxHeartbeats 1600000 in
theorem i_longest_yes (a0 : Option Addr) (len cap : Nat) (f0 f1 f2 : Nat → Int) (x : Int) (w : World) (hl : len ≤ 1048576) (hE : RowEntry a0 len f0 f1 f2 w)
    (ht : tabB f0 f1 f2 len = true) (hx : inB x 0 4294967295 = true) :
    Calls Try.prog 17 #[.slice a0 len cap, .int .i64 x] w fun e w' => e = .returned (longV f0 f1 f2 (longTo f0 f1 x len)) ∧ Below w.heap.size w w' := by
  have s1 := hide (fun w hE => i_goodTable a0 len cap f0 f1 f2 w hl hE)
  have s2 := hide (fun w => i_isAddr x w)
  have hG : ∀ k, k < len → goodB (f0 k) (f1 k) = true := by
    intro k hk
    unfold tabB at ht
    rw [Bool.and_eq_true, List.all_eq_true] at ht
    have h1 := ht.1 k (List.mem_range.2 hk)
    unfold entOk at h1
    rw [Bool.and_eq_true, Bool.and_eq_true] at h1
    exact h1.1.1
  rw [ht] at s1
  rw [hx] at s2
  rw [longV_lx]
  go_enter Try.func17, Try.ntmps17
  go_wp2_with fail
  refine (s1.out _ (hE.below (below_box (Below.refl _ _)))).mono ?_
  rintro e w1 ⟨rfl, hb1⟩
  go_wp2_with fail
  refine (s2.out _).mono ?_
  rintro e w2 ⟨rfl, rfl⟩
  have hb2 := below_box hb1
  have hR0 := (Cell3.new w 0 0 0 32).below hb1
  have hz1 := hb1.size
  have hz2 : w.heap.size < w2.heap.size := by simp at hz1; omega
  clear s1 s2 hb1 hz1
  go_wp2_with fail
  go_loopw [7, 9, 10, 11, 24] (fun fd _ _ _ i wr => ∃ k : Nat, k ≤ len ∧ i = .int .i64 k ∧ fd = .bool (decide (0 ≤ longTo f0 f1 x k)) ∧ Below w.heap.size w wr ∧
      Cell3 wr w.heap.size 0 0 0 ∧ Cell3 wr w2.heap.size (lx f0 (longTo f0 f1 x k)) (lx f1 (longTo f0 f1 x k)) (lx f2 (longTo f0 f1 x k))) (fun _ _ _ _ i _ => len - (intOf i).toNat)
  case atStart => exact ⟨0, Nat.zero_le _, rfl, rfl, hb2.trans ((below_box (Below.refl _ _)).mono hb2.size), hR0.alloc _, Cell3.new w2 0 0 0 _⟩
  case round =>
    obtain ⟨k, hk, rfl, rfl, hb, hR, hL⟩ := hrel
    by_cases hlt : k < len
    · obtain ⟨b, off, rfl, hbw, h0, h1, h2⟩ := (hE.below hb) k hlt
      have hlt' : (k : Int) < (len : Int) := by omega
      have s1 := hide (fun w => i_hasAddr (f0 k) (f1 k) x w)
      rw [hG k hlt, hx] at s1
      simp only [Bool.true_and, Bool.and_self] at s1
      have hdef : longTo f0 f1 x (k + 1) = if hasB (f0 k) (f1 k) x = true ∧ (longTo f0 f1 x k < 0 ∨ f1 (longTo f0 f1 x k).toNat < f1 k) then (k : Int) else longTo f0 f1 x k := rfl
      have hlxd : lx f1 (longTo f0 f1 x k) = if longTo f0 f1 x k < 0 then 0 else f1 (longTo f0 f1 x k).toNat := rfl
      have e0 := lx_at f0 k
      have e1 := lx_at f1 k
      have e2 := lx_at f2 k
      generalize hq : longTo f0 f1 x k = q at *
      generalize f1 q.toNat = lq at *
      generalize hasB (f0 k) (f1 k) x = hh at *
      generalize hy0 : lx f0 q = y0 at *
      generalize hy1 : lx f1 q = y1 at *
      generalize hy2 : lx f2 q = y2 at *
      have hdd : Hid (lx f0 q = y0 ∧ lx f1 q = y1 ∧ lx f2 q = y2) := ⟨hy0, hy1, hy2⟩
      have hdd0 : Hid (lx f0 (k : Int) = f0 k ∧ lx f1 (k : Int) = f1 k ∧ lx f2 (k : Int) = f2 k) := ⟨e0, e1, e2⟩
      clear hy0 hy1 hy2 e0 e1 e2 hq hG hE ht
      generalize (f0 k) = a at *
      generalize (f1 k) = l at *
      generalize (f2 k) = v at *
      cases hh with
      | false =>
        rw [if_neg (by simp)] at hdef
        have hN' := hide hdef
        clear hdef
        go_wp2_with fail
        refine (s1.out _).mono ?_
        rintro e w3 ⟨rfl, hb3⟩
        have hbq := hb.trans ((below_box hb3).mono hb.size)
        have hR := (hR.alloc _).below hb3
        have hL := (hL.alloc _).below hb3
        clear hb3
        go_wp2_with fail
        exact ⟨⟨k + 1, by omega, by go_num, by rw [hN'.out], hbq, hR, by rw [hN'.out, hdd.out.1, hdd.out.2.1, hdd.out.2.2]; exact hL⟩, by simp [intOf]; omega⟩
      | true =>
        by_cases hneg : q < 0
        · rw [if_pos ⟨rfl, .inl hneg⟩] at hdef
          have hd : decide (0 ≤ q) = false := by simp; omega
          rw [hd]
          have hN' := hide hdef
          clear hdef
          have hkk : decide (0 ≤ (k : Int)) = true := by simp
          go_wp2_with fail
          refine (s1.out _).mono ?_
          rintro e w3 ⟨rfl, hb3⟩
          have hbq := hb.trans ((below_box hb3).mono hb.size)
          have hR := (hR.alloc (.cells #[.int .i64 a, .int .i64 l, .int .i64 v] 32)).below hb3
          have hL := (hL.alloc (.cells #[.int .i64 a, .int .i64 l, .int .i64 v] 32)).below hb3
          have hN := (Cell3.new wr a l v 32).below hb3
          obtain ⟨_, ⟨c0, c1, c2⟩, _⟩ := hN
          have hL' := hL
          obtain ⟨_, ⟨d0, d1, d2⟩, g0, g1, g2⟩ := hL'
          clear hb3
          go_wp2_with fail
          exact ⟨⟨k + 1, by omega, by go_num, by rw [hN'.out, hkk], ((hbq.setCell (Nat.le_of_lt hz2) _).setCell (Nat.le_of_lt hz2) _).setCell (Nat.le_of_lt hz2) _, ((hR.other (by omega) _ _).other (by omega) _ _).other (by omega) _ _, by rw [hN'.out, hdd0.out.1, hdd0.out.2.1, hdd0.out.2.2]; exact hL.put a l v⟩, by simp [intOf]; omega⟩
        · have hd : decide (0 ≤ q) = true := by simp; omega
          rw [if_neg hneg] at hlxd
          subst hlxd
          by_cases hc : y1 < l
          · rw [if_pos ⟨rfl, .inr hc⟩] at hdef
            have hcd : decide (y1 < l) = true := by simpa using hc
            rw [hd]
            have hN' := hide hdef
            clear hdef
            have hkk : decide (0 ≤ (k : Int)) = true := by simp
            go_wp2_with fail
            refine (s1.out _).mono ?_
            rintro e w3 ⟨rfl, hb3⟩
            have hbq := hb.trans ((below_box hb3).mono hb.size)
            have hR := (hR.alloc (.cells #[.int .i64 a, .int .i64 l, .int .i64 v] 32)).below hb3
            have hL := (hL.alloc (.cells #[.int .i64 a, .int .i64 l, .int .i64 v] 32)).below hb3
            have hN := (Cell3.new wr a l v 32).below hb3
            obtain ⟨_, ⟨c0, c1, c2⟩, _⟩ := hN
            have hL' := hL
            obtain ⟨_, ⟨d0, d1, d2⟩, g0, g1, g2⟩ := hL'
            clear hb3
            go_wp2_with fail
            exact ⟨⟨k + 1, by omega, by go_num, by rw [hN'.out, hkk], ((hbq.setCell (Nat.le_of_lt hz2) _).setCell (Nat.le_of_lt hz2) _).setCell (Nat.le_of_lt hz2) _, ((hR.other (by omega) _ _).other (by omega) _ _).other (by omega) _ _, by rw [hN'.out, hdd0.out.1, hdd0.out.2.1, hdd0.out.2.2]; exact hL.put a l v⟩, by simp [intOf]; omega⟩
          · rw [if_neg (by rintro ⟨_, h | h⟩; exact hneg h; exact hc h)] at hdef
            have hcd : decide (y1 < l) = false := by simpa using hc
            have hd' := hide hd
            rw [hd]
            have hN' := hide hdef
            clear hdef
            clear hd
            go_wp2_with fail
            refine (s1.out _).mono ?_
            rintro e w3 ⟨rfl, hb3⟩
            have hbq := hb.trans ((below_box hb3).mono hb.size)
            have hR := (hR.alloc _).below hb3
            have hL := (hL.alloc _).below hb3
            have hN := (Cell3.new wr a l v 32).below hb3
            obtain ⟨_, ⟨c0, c1, c2⟩, _⟩ := hN
            have hL' := hL
            obtain ⟨_, ⟨d0, d1, d2⟩, g0, g1, g2⟩ := hL'
            clear hb3
            go_wp2_with fail
            exact ⟨⟨k + 1, by omega, by go_num, by rw [hN'.out, hd'.out], hbq, hR, by rw [hN'.out, hdd.out.1, hdd.out.2.1, hdd.out.2.2]; exact hL⟩, by simp [intOf]; omega⟩
    · have hk' : k = len := by omega
      subst hk'
      obtain ⟨_, ⟨c0, c1, c2⟩, g0, g1, g2⟩ := hR
      obtain ⟨_, ⟨d0, d1, d2⟩, _⟩ := hL
      generalize hy0 : lx f0 (longTo f0 f1 x k) = y0 at *
      generalize hy1 : lx f1 (longTo f0 f1 x k) = y1 at *
      generalize hy2 : lx f2 (longTo f0 f1 x k) = y2 at *
      clear hE hG ht
      go_wp2_with fail
      refine bodyPost_ret (v := .tuple #[.agg #[.int .i64 y0, .int .i64 y1, .int .i64 y2], .bool (decide (0 ≤ longTo f0 f1 x k))]) (by simp [results, Try.results17, go_sem, c0, c1, c2]) rfl ⟨by rw [hy0, hy1, hy2], ?_⟩
      exact ((hb.setCell (Nat.le_refl _) _).setCell (Nat.le_refl _) _).setCell (Nat.le_refl _) _

theorem longA_yes {f0 f1 f2 : Nat → Int} {n : Nat} {x : Int} (ht : tabB f0 f1 f2 n = true) (hx : inB x 0 4294967295 = true) : longA f0 f1 f2 n x = longV f0 f1 f2 (longTo f0 f1 x n) := by
  unfold longA
  rw [ht, hx]; rfl
theorem longA_t {f0 f1 f2 : Nat → Int} {n : Nat} {x : Int} (ht : tabB f0 f1 f2 n = false) : longA f0 f1 f2 n x = .tuple #[.agg #[.int .i64 0, .int .i64 0, .int .i64 0], .bool false] := by
  unfold longA
  rw [ht]; rfl
theorem longA_x {f0 f1 f2 : Nat → Int} {n : Nat} {x : Int} (hx : inB x 0 4294967295 = false) : longA f0 f1 f2 n x = .tuple #[.agg #[.int .i64 0, .int .i64 0, .int .i64 0], .bool false] := by
  unfold longA
  rw [hx, Bool.and_false]; rfl

set_option maxRecDepth 100000 in
set_option maxHeartbeats 800000 in
theorem i_longest (a0 : Option Addr) (len cap : Nat) (f0 f1 f2 : Nat → Int) (x : Int) (w : World) (hl : len ≤ 1048576) (hE : RowEntry a0 len f0 f1 f2 w) :
    Calls Try.prog 17 #[.slice a0 len cap, .int .i64 x] w fun e w' => e = .returned (longA f0 f1 f2 len x) ∧ Below w.heap.size w w' := by
  cases ht : tabB f0 f1 f2 len with
  | true =>
    cases hx : inB x 0 4294967295 with
    | true => rw [longA_yes ht hx]; exact i_longest_yes a0 len cap f0 f1 f2 x w hl hE ht hx
    | false =>
      rw [longA_x hx]
      have s1 := hide (fun w hE => i_goodTable a0 len cap f0 f1 f2 w hl hE)
      have s2 := hide (fun w => i_isAddr x w)
      rw [ht] at s1
      rw [hx] at s2
      clear ht hx
      go_enter Try.func17, Try.ntmps17
      go_wp2_with fail
      refine (s1.out _ (hE.below (below_box (Below.refl _ _)))).mono ?_
      rintro e w1 ⟨rfl, hb1⟩
      go_wp2_with fail
      refine (s2.out _).mono ?_
      rintro e w2 ⟨rfl, rfl⟩
      have hb2 := below_box hb1
      obtain ⟨_, ⟨c0, c1, c2⟩, g0, g1, g2⟩ := (Cell3.new w 0 0 0 32).below hb1
      clear s1 s2 hb1
      go_wp2_with fail
      refine bodyPost_ret (v := .tuple #[.agg #[.int .i64 0, .int .i64 0, .int .i64 0], .bool false]) (by simp [results, Try.results17, go_sem, c0, c1, c2]) rfl ⟨rfl, ?_⟩
      exact ((hb2.setCell (Nat.le_refl _) _).setCell (Nat.le_refl _) _).setCell (Nat.le_refl _) _
  | false =>
    rw [longA_t ht]
    have s1 := hide (fun w hE => i_goodTable a0 len cap f0 f1 f2 w hl hE)
    rw [ht] at s1
    clear ht
    go_enter Try.func17, Try.ntmps17
    go_wp2_with fail
    refine (s1.out _ (hE.below (below_box (Below.refl _ _)))).mono ?_
    rintro e w1 ⟨rfl, hb1⟩
    have hb2 := below_box hb1
    obtain ⟨_, ⟨c0, c1, c2⟩, g0, g1, g2⟩ := (Cell3.new w 0 0 0 32).below hb1
    clear s1 hb1
    go_wp2_with fail
    refine bodyPost_ret (v := .tuple #[.agg #[.int .i64 0, .int .i64 0, .int .i64 0], .bool false]) (by simp [results, Try.results17, go_sem, c0, c1, c2]) rfl ⟨rfl, ?_⟩
    exact ((hb2.setCell (Nat.le_refl _) _).setCell (Nat.le_refl _) _).setCell (Nat.le_refl _) _
end Go.Proofs.Ytjmflkheaioboab
