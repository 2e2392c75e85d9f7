/- What the specification's l2Insert, l2Build and BuildTrie answer. -/
import Derived.Test.YtjmflkheaioboabIns2
namespace Go.Proofs.Ytjmflkheaioboab
open Go.RowKit

/-- Block b as it stands, whole. -/
def Blk (w : World) (b : Nat) (arr : Array Value) (e : TypeId) : Prop := w.heap[b]? = some (.cells arr e (0, 0))
theorem Blk.lt {w : World} {b : Nat} {arr : Array Value} {e : TypeId} (h : Blk w b arr e) : b < w.heap.size := (Array.getElem?_eq_some_iff.1 h).1
theorem Blk.below {w w' : World} {b : Nat} {arr : Array Value} {e : TypeId} (h : Blk w b arr e) (k : Below w.heap.size w w') : Blk w' b arr e := (k.block b h.lt).trans h
theorem Blk.grown {w w' : World} {b : Nat} {arr : Array Value} {e : TypeId} {row : Option Nat} (h : Blk w b arr e) (k : w.grownBy w' row) (hr : some b ≠ row) : Blk w' b arr e := (k.block b h.lt hr).trans h
theorem Blk.other {w : World} {b : Nat} {arr : Array Value} {e : TypeId} (h : Blk w b arr e) {c : Nat} (hn : b ≠ c) (o : Nat) (v : Value) : Blk (w.setCell ⟨c, o, none⟩ v) b arr e := (Below.heap_setCell w ⟨c, o, none⟩ v b hn).trans h
theorem Blk.new (w : World) (arr : Array Value) (e : TypeId) : Blk (w.alloc (.cells arr e)) w.heap.size arr e := heap_alloc_new w _
theorem Blk.cell {w : World} {b : Nat} {arr : Array Value} {e : TypeId} (h : Blk w b arr e) (j : Nat) : w.cell? ⟨b, j, none⟩ = arr[j]? := cell_of_row w b j arr e (0, 0) h
theorem ownT_ne {w : World} {base g cap : Nat} {ts : List Nd} (h : OwnT base (.slice (some ⟨g, 0, none⟩) ts.length cap) ts w) {b : Nat} {arr : Array Value} {e : TypeId} (hb : Blk w b arr e) (he : e ≠ 70) : b ≠ g := by
  rintro rfl
  rcases h.2 with ⟨h1, _⟩ | ⟨g', c', cur, h1, _, hg, _⟩
  · simp at h1
  · simp only [Value.slice.injEq, Option.some.injEq, Addr.mk.injEq, and_true, true_and] at h1
    obtain ⟨rfl, rfl⟩ := h1
    rw [hb] at hg
    simp at hg
    exact he hg.2
theorem grown_belowT {w w' : World} {row : Option Nat} {base : Nat} (hg : w.grownBy w' row) (hr : ∀ k, row = some k → base ≤ k) (hb : base ≤ w.heap.size) : Below base w w' :=
  ⟨hg.os, hg.tape, hg.output, hg.size, fun k hk => hg.block k (by omega) (fun e => by have := hr k e.symm; omega)⟩

theorem own_base {w : World} {base base' : Nat} {v : Value} {ts : List Nd} (h : OwnT base v ts w) (hb : base' ≤ base) : OwnT base' v ts w := by
  refine ⟨h.1, ?_⟩
  rcases h.2 with h | ⟨g, cap, cur, h1, h2, h3⟩
  · exact .inl h
  · exact .inr ⟨g, cap, cur, h1, Nat.le_trans hb h2, h3⟩
theorem ins_n {bit : Int} {ts : List Nd} {q : Nat} (h : halfOf (nAt ts q) bit ≠ 0) : insStep bit (ts, q) = (ts, (halfOf (nAt ts q) bit).toNat) := by unfold insStep; rw [if_neg h]
theorem ins_y {bit : Int} {ts : List Nd} {q : Nat} (h : halfOf (nAt ts q) bit = 0) : insStep bit (ts, q) = (ts.set q (setHalf (nAt ts q) bit ts.length) ++ [nd0], ts.length) := by unfold insStep; rw [if_pos h]
theorem set_one {ts : List Nd} {q : Nat} (hq : q < ts.length) (x : Int) : (ts ++ [nd0]).set q { nAt (ts ++ [nd0]) q with o := x } = ts.set q (setHalf (nAt ts q) 1 x) ++ [nd0] := by
  rw [List.set_append_left _ _ hq, nAt_app, if_pos hq]
  rfl
theorem set_zero {ts : List Nd} {q : Nat} (hq : q < ts.length) (x : Int) : (ts ++ [nd0]).set q { nAt (ts ++ [nd0]) q with z := x } = ts.set q (setHalf (nAt ts q) 0 x) ++ [nd0] := by
  rw [List.set_append_left _ _ hq, nAt_app, if_pos hq]
  rfl

theorem infoNode : (Try.prog.info? 70).map (fun i => (i.zero, i.size, i.bytes)) = some (some (.agg #[.int .i64 0, .int .i64 0, .bool false, .int .i64 0]), 4, 32) := by kernel_rfl
set_option maxRecDepth 100000 in
set_option maxHeartbeats 3200000 in
theorem s_insert (base : Nat) (v0 : Value) (ts : List Nd) (a : Int) (L : Nat) (val : Int) (w : World) (hb0 : base ≤ w.heap.size) (hown0 : OwnT base v0 ts w) (hok : OkT ts) (hne : 0 < ts.length) (hlen : ts.length ≤ 1000000) (hL : L ≤ 32) (ha0 : 0 ≤ a) (ha1 : a ≤ 4294967295) :
    Calls Try.prog 63 #[v0, .agg #[.int .i64 a, .int .i64 L], .int .i64 val] w fun e w' => ∃ v', e = .returned v' ∧ OwnT base v' (insT a L val ts) w' ∧ Below base w w' := by
  obtain ⟨i0, hi, hz0, hz1, hz2⟩ := info_parts infoNode
  have hIns := hide (insTo_ok hok hne a)
  obtain ⟨g00, c00, rfl, _, _⟩ := ownT_shape hown0 hne
  go_enter Try.func63, Try.ntmps63
  go_wp2_with fail
  go_loopw [0, 7, 8, 9, 10] (fun v at_ kk _ _ wr => ∃ k : Nat, k ≤ L ∧ kk = .int .i64 k ∧ at_ = .int .i64 (insTo a ts k).2 ∧ OwnT base v (insTo a ts k).1 wr ∧ Below base w wr ∧ Blk wr w.heap.size #[.int .i64 a, .int .i64 L] 30) (fun _ _ kk _ _ _ => L - (intOf kk).toNat)
  case atStart => exact ⟨0, Nat.zero_le _, rfl, rfl, ownT_below hown0 (below_box (Below.refl _ _)), (below_box (Below.refl _ _)).mono hb0, Blk.new w _ _⟩
  case round =>
    obtain ⟨k, hk, rfl, rfl, hown, hb, hB⟩ := hrel
    have hi1 := hIns.out k
    obtain ⟨_, hlt, hl1, hl2⟩ := hi1
    obtain ⟨g, c, rfl, hg0, hg1⟩ := ownT_shape hown (by omega)
    have p0 := hB.cell 0
    have p1 := hB.cell 1
    simp at p0 p1
    have hnb := ownT_ne hown hB (by decide)
    clear hown0
    by_cases hkl : k < L
    · have hkl' : (k : Int) < (L : Int) := by omega
      have hH := (hIns.out k).ok.half hlt (bitA a k)
      have hstep : Hid (insTo a ts (k + 1) = insStep (bitA a k) (insTo a ts k)) := rfl
      have s1 := hide (fun w => s_bit a k w ha0 ha1 (by omega) (by omega))
      have hbit := bitA_bd a k
      generalize bitA a k = bb at *
      generalize hS : insTo a ts k = S at *
      have hSH := hide hS
      clear hS
      obtain ⟨tt, q⟩ := S
      dsimp only at *
      obtain ⟨⟨c0, c1, c2, c3⟩, hfr⟩ := ownT_at hown hlt
      have hql : (q : Int) < (tt.length : Int) := by omega
      have s2 := hide (fun w => s_half (nAt tt q).z (nAt tt q).o (nAt tt q).v bb (nAt tt q).h w)
      have hHH : halfN (nAt tt q).z (nAt tt q).o bb = halfOf (nAt tt q) bb := rfl
      rw [hHH] at s2
      have hI0 := hide (ins_n (bit := bb) (ts := tt) (q := q))
      have hI1 := hide (ins_y (bit := bb) (ts := tt) (q := q))
      have hSet1 := hide (fun x => set_one hlt x)
      have hSet0 := hide (fun x => set_zero hlt x)
      have hOW := hide hown
      generalize hzz : (nAt tt q).z = z at *
      generalize hoo : (nAt tt q).o = oo at *
      generalize hhh : (nAt tt q).h = hh at *
      generalize hvv : (nAt tt q).v = vv at *
      clear hHH hzz hoo hhh hvv hown hfr
      generalize hnx : halfOf (nAt tt q) bb = nx at *
      have hNX := hide hnx
      clear hnx
      by_cases hz : nx = 0
      · have hY := hide (hI1.out hz)
        subst hz
        clear hI0 hI1 hH
        rcases (show bb = 0 ∨ bb = 1 by omega) with rfl | rfl
        · go_wp2_with fail
          refine (s1.out _).mono ?_
          rintro e w1 ⟨rfl, hb1⟩
          have C0 := ((bcell hb1).1 g (q * 4) hg1).trans c0
          have C1 := ((bcell hb1).1 g (q * 4 + 1) hg1).trans c1
          have C2 := ((bcell hb1).1 g (q * 4 + 2) hg1).trans c2
          have C3 := ((bcell hb1).1 g (q * 4 + 3) hg1).trans c3
          go_wp2_with fail
          refine (s2.out _).mono ?_
          rintro e w2 ⟨rfl, hb2⟩
          have hb12 := below_step hb1 hb2
          have hown := ownT_below hOW.out hb12
          have hB2 := hB.below hb12
          have hbz := hb.trans (hb12.mono (Nat.le_trans hb0 (by have := hB.lt; omega)))
          have hbs : base ≤ w2.heap.size := Nat.le_trans hb0 hbz.size
          have hg2 : g < w2.heap.size := Nat.lt_of_lt_of_le hg1 hb12.size
          clear hb1 hb2 hb12 C0 C1 C2 C3 c0 c1 c2 c3
          go_wp2_with (first | (at_builtin; refine wpList_append_own _ rfl _ _ 37 rfl base 70 i0 (.agg #[.int .i64 0, .int .i64 0, .bool false, .int .i64 0]) 4 32 Try.underlying37 hi hz0 hz1 hz2 rfl (by decide) _ _ _ rfl (World.ownsRow.alloc hown _) ⟨w2.heap.size, 0, none⟩ 1 1 (ndc nd0) rfl rfl ?c1 ?c2 ?c3 ?c4 ?c5 ?_))
          case c1 =>
            intro j u hj
            match j, hj with
            | 0, hj => simp [ndc, nd0] at hj; subst hj; simp [Addr.add]
            | 1, hj => simp [ndc, nd0] at hj; subst hj; simp [Addr.add]
            | 2, hj => simp [ndc, nd0] at hj; subst hj; simp [Addr.add]
            | 3, hj => simp [ndc, nd0] at hj; subst hj; simp [Addr.add]
          case c2 => intro u hu; simp [ndc, nd0] at hu; rcases hu with rfl | rfl | rfl | rfl <;> rfl
          case c3 => unfold maxLen; omega
          case c4 => omega
          case c5 => simp; omega
          · intro v' w5 hown' hgrow _
            have hT : OwnT base v' (tt ++ [nd0]) w5 := by unfold OwnT; rw [tc_app]; simpa using hown'
            have hgb : Below base _ w5 := grown_belowT hgrow (by intro y hy; simp only [Value.ownBlock, Option.some.injEq] at hy; omega) (by simp only [World.size_alloc]; omega)
            have hbe : Below base w w5 := (hbz.trans ((below_box (Below.refl _ _)).mono hbs)).trans hgb
            have hB5 := (hB2.below (below_box (Below.refl _ _))).grown hgrow (by simp only [Value.ownBlock, ne_eq, Option.some.injEq]; exact hnb)
            obtain ⟨g', c', rfl, hg0', hg1'⟩ := ownT_shape hT (by simp)
            have hnb' := ownT_ne hT hB5 (by decide)
            obtain ⟨⟨D0, D1, D2, D3⟩, hfr⟩ := ownT_at hT (i := q) (by simp; omega)
            have f0 := hfr (q * 4)
            have hql2 : (q : Int) < (tt.length : Int) + 1 := by omega
            have hFT := hide (ownT_set hT (tc_set (ts := tt ++ [nd0]) (i := q) (by simp; omega) (tt.length : Int) true).1 (by simp))
            have hlen2 : (tt ++ [nd0]).length = tt.length + 1 := by simp
            rw [hlen2]
            generalize (nAt (tt ++ [nd0]) q).z = z5 at D0
            generalize (nAt (tt ++ [nd0]) q).o = o5 at D1
            clear hown' hgrow hT hgb hown hbz hB2 hfr D2 D3
            go_wp2_with fail
            have hst : Hid (insTo a ts (k + 1) = (tt.set q (setHalf (nAt tt q) 0 tt.length) ++ [nd0], tt.length)) := hstep.out.trans hY.out
            have hFT := hFT.out
            rw [hSet0.out] at hFT
            exact ⟨⟨k + 1, by omega, by go_num, by rw [hst.out], by rw [hst.out]; simpa using hFT, hbe.setCell hg0' _, hB5.other hnb' _ _⟩, by simp [intOf]; omega⟩
        · go_wp2_with fail
          refine (s1.out _).mono ?_
          rintro e w1 ⟨rfl, hb1⟩
          have C0 := ((bcell hb1).1 g (q * 4) hg1).trans c0
          have C1 := ((bcell hb1).1 g (q * 4 + 1) hg1).trans c1
          have C2 := ((bcell hb1).1 g (q * 4 + 2) hg1).trans c2
          have C3 := ((bcell hb1).1 g (q * 4 + 3) hg1).trans c3
          go_wp2_with fail
          refine (s2.out _).mono ?_
          rintro e w2 ⟨rfl, hb2⟩
          have hb12 := below_step hb1 hb2
          have hown := ownT_below hOW.out hb12
          have hB2 := hB.below hb12
          have hbz := hb.trans (hb12.mono (Nat.le_trans hb0 (by have := hB.lt; omega)))
          have hbs : base ≤ w2.heap.size := Nat.le_trans hb0 hbz.size
          have hg2 : g < w2.heap.size := Nat.lt_of_lt_of_le hg1 hb12.size
          clear hb1 hb2 hb12 C0 C1 C2 C3 c0 c1 c2 c3
          go_wp2_with (first | (at_builtin; refine wpList_append_own _ rfl _ _ 37 rfl base 70 i0 (.agg #[.int .i64 0, .int .i64 0, .bool false, .int .i64 0]) 4 32 Try.underlying37 hi hz0 hz1 hz2 rfl (by decide) _ _ _ rfl (World.ownsRow.alloc hown _) ⟨w2.heap.size, 0, none⟩ 1 1 (ndc nd0) rfl rfl ?c1 ?c2 ?c3 ?c4 ?c5 ?_))
          case c1 =>
            intro j u hj
            match j, hj with
            | 0, hj => simp [ndc, nd0] at hj; subst hj; simp [Addr.add]
            | 1, hj => simp [ndc, nd0] at hj; subst hj; simp [Addr.add]
            | 2, hj => simp [ndc, nd0] at hj; subst hj; simp [Addr.add]
            | 3, hj => simp [ndc, nd0] at hj; subst hj; simp [Addr.add]
          case c2 => intro u hu; simp [ndc, nd0] at hu; rcases hu with rfl | rfl | rfl | rfl <;> rfl
          case c3 => unfold maxLen; omega
          case c4 => omega
          case c5 => simp; omega
          · intro v' w5 hown' hgrow _
            have hT : OwnT base v' (tt ++ [nd0]) w5 := by unfold OwnT; rw [tc_app]; simpa using hown'
            have hgb : Below base _ w5 := grown_belowT hgrow (by intro y hy; simp only [Value.ownBlock, Option.some.injEq] at hy; omega) (by simp only [World.size_alloc]; omega)
            have hbe : Below base w w5 := (hbz.trans ((below_box (Below.refl _ _)).mono hbs)).trans hgb
            have hB5 := (hB2.below (below_box (Below.refl _ _))).grown hgrow (by simp only [Value.ownBlock, ne_eq, Option.some.injEq]; exact hnb)
            obtain ⟨g', c', rfl, hg0', hg1'⟩ := ownT_shape hT (by simp)
            have hnb' := ownT_ne hT hB5 (by decide)
            obtain ⟨⟨D0, D1, D2, D3⟩, hfr⟩ := ownT_at hT (i := q) (by simp; omega)
            have f0 := hfr (q * 4 + 1)
            have hql2 : (q : Int) < (tt.length : Int) + 1 := by omega
            have hFT := hide (ownT_set hT (tc_set (ts := tt ++ [nd0]) (i := q) (by simp; omega) (tt.length : Int) true).2.1 (by simp))
            have hlen2 : (tt ++ [nd0]).length = tt.length + 1 := by simp
            rw [hlen2]
            generalize (nAt (tt ++ [nd0]) q).z = z5 at D0
            generalize (nAt (tt ++ [nd0]) q).o = o5 at D1
            clear hown' hgrow hT hgb hown hbz hB2 hfr D2 D3
            go_wp2_with fail
            have hst : Hid (insTo a ts (k + 1) = (tt.set q (setHalf (nAt tt q) 1 tt.length) ++ [nd0], tt.length)) := hstep.out.trans hY.out
            have hFT := hFT.out
            rw [hSet1.out] at hFT
            exact ⟨⟨k + 1, by omega, by go_num, by rw [hst.out], by rw [hst.out]; simpa using hFT, hbe.setCell hg0' _, hB5.other hnb' _ _⟩, by simp [intOf]; omega⟩
      · have hY := hide (hI0.out hz)
        have hzb : (nx == 0) = false := by simpa using hz
        have hOW2 := hOW
        clear hI0 hI1 hSet0 hSet1 hz
        obtain ⟨y, hy⟩ := Int.eq_ofNat_of_zero_le hH.1
        subst hy
        rw [Int.toNat_natCast] at hY
        go_wp2_with fail
        refine (s1.out _).mono ?_
        rintro e w1 ⟨rfl, hb1⟩
        have C0 := ((bcell hb1).1 g (q * 4) hg1).trans c0
        have C1 := ((bcell hb1).1 g (q * 4 + 1) hg1).trans c1
        have C2 := ((bcell hb1).1 g (q * 4 + 2) hg1).trans c2
        have C3 := ((bcell hb1).1 g (q * 4 + 3) hg1).trans c3
        go_wp2_with fail
        refine (s2.out _).mono ?_
        rintro e w2 ⟨rfl, hb2⟩
        have hb12 := below_step hb1 hb2
        have hown := ownT_below hOW.out hb12
        have hB2 := hB.below hb12
        have hbz := hb.trans (hb12.mono (Nat.le_trans hb0 (by have := hB.lt; omega)))
        clear hb1 hb2 hb12 C0 C1 C2 C3 c0 c1 c2 c3
        go_wp2_with fail
        have hst : Hid (insTo a ts (k + 1) = (tt, y)) := hstep.out.trans hY.out
        exact ⟨⟨k + 1, by omega, by go_num, by rw [hst.out], by rw [hst.out]; exact hown, hbz, hB2⟩, by simp [intOf]; omega⟩
    · have hkL : k = L := by omega
      subst hkL
      generalize hS : insTo a ts k = S at *
      have hFin : Hid (insT a k val ts = S.1.set S.2 { nAt S.1 S.2 with h := true, v := val }) := by show insT a k val ts = _; unfold insT; rw [hS]
      clear hS hIns
      obtain ⟨tt, q⟩ := S
      dsimp only at *
      obtain ⟨⟨c0, c1, c2, c3⟩, hfr⟩ := ownT_at hown hlt
      have f2 := hfr (q * 4 + 2)
      have f3 := hfr (q * 4 + 3)
      have hql : (q : Int) < (tt.length : Int) := by omega
      have hT1 := ownT_set hown (tc_set (ts := tt) (i := q) hlt 0 true).2.2.1 (by simp)
      have hT2 := ownT_set hT1 (tc_set (ts := tt.set q { nAt tt q with h := true }) (i := q) (by simpa using hlt) val true).2.2.2 (by simp)
      rw [List.set_set, nAt_set hlt, if_pos rfl] at hT2
      have hT2 := hide hT2
      clear hown hT1 hfr
      go_wp2_with fail
      go_ret
      refine ⟨_, rfl, ?_, (hb.setCell hg0 _).setCell hg0 _⟩
      rw [hFin.out]
      simpa using hT2.out

/-- The trie of the first k entries. -/
def buildTo (f0 f1 f2 : Nat → Int) : Nat → List Nd
  | 0 => [nd0]
  | k + 1 => insT (f0 k) (f1 k).toNat (f2 k) (buildTo f0 f1 f2 k)
theorem ok_one : OkT [nd0] := by
  intro i hi
  simp only [List.length_cons, List.length_nil] at hi ⊢
  obtain rfl : i = 0 := by omega
  simp [nAt, nd0]
theorem build_ok (f0 f1 f2 : Nat → Int) (n : Nat) (h : ∀ i, i < n → 0 ≤ f1 i ∧ f1 i ≤ 32) (k : Nat) (hk : k ≤ n) : OkT (buildTo f0 f1 f2 k) ∧ 0 < (buildTo f0 f1 f2 k).length ∧ (buildTo f0 f1 f2 k).length ≤ 1 + 32 * k := by
  induction k with
  | zero => exact ⟨ok_one, by simp [buildTo], by simp [buildTo]⟩
  | succ k ih =>
    obtain ⟨h1, h2, h3⟩ := ih (by omega)
    have hl := insT_len h1 h2 (f0 k) (f1 k).toNat (f2 k)
    have hb := h k (by omega)
    exact ⟨insT_ok h1 h2 _ _ _, by show 0 < (insT _ _ _ _).length; omega, by show (insT _ _ _ _).length ≤ _; omega⟩
theorem tab_facts {f0 f1 f2 : Nat → Int} {n : Nat} (ht : tabB f0 f1 f2 n = true) : n ≤ 30 ∧ ∀ i, i < n → (0 ≤ f1 i ∧ f1 i ≤ 32) ∧ (0 ≤ f0 i ∧ f0 i ≤ 4294967295) := by
  unfold tabB at ht
  rw [Bool.and_eq_true, List.all_eq_true] at ht
  refine ⟨by simpa using ht.2, fun i hi => ?_⟩
  have h1 := ht.1 i (List.mem_range.2 hi)
  unfold entOk at h1
  rw [Bool.and_eq_true, Bool.and_eq_true] at h1
  have := goodB_iff.1 h1.1.1
  exact ⟨this.1, this.2.1⟩
set_option maxRecDepth 100000 in
set_option maxHeartbeats 1600000 in
theorem s_build (a0 : Option Addr) (len cap : Nat) (f0 f1 f2 : Nat → Int) (w : World) (hE : RowEntry a0 len f0 f1 f2 w) (ht : tabB f0 f1 f2 len = true) :
    Calls Try.prog 51 #[.slice a0 len cap] w fun e w' => ∃ v', e = .returned v' ∧ OwnT w.heap.size v' (buildTo f0 f1 f2 len) w' ∧ Below w.heap.size w w' := by
  obtain ⟨h30, hF⟩ := tab_facts ht
  have hOK := hide (build_ok f0 f1 f2 len (fun i hi => (hF i hi).1))
  have hF := hide hF
  clear ht
  go_enter Try.func51, Try.ntmps51
  go_wp2_with fail
  go_loopw [3, 5, 10] (fun v _ i wr => ∃ k : Nat, k ≤ len ∧ i = .int .i64 k ∧ OwnT w.heap.size v (buildTo f0 f1 f2 k) wr ∧ Below w.heap.size w wr) (fun _ _ i _ => len - (intOf i).toNat)
  case atStart => exact ⟨0, Nat.zero_le _, rfl, World.ownsRow_lit w #[.int .i64 0, .int .i64 0, .bool false, .int .i64 0] 1 (Nat.le_refl _) (by decide) rfl, below_box (Below.refl _ _)⟩
  case round =>
    obtain ⟨k, hk, rfl, hown, hb⟩ := hrel
    by_cases hlt : k < len
    · obtain ⟨b, off, rfl, hbw, h0, h1, h2⟩ := (hE.below hb) k hlt
      have hlt' : (k : Int) < (len : Int) := by omega
      obtain ⟨o1, o2, o3⟩ := hOK.out k (by omega)
      obtain ⟨⟨l0, l1⟩, a0', a1'⟩ := hF.out k hlt
      have hst : Hid (buildTo f0 f1 f2 (k + 1) = insT (f0 k) (f1 k).toNat (f2 k) (buildTo f0 f1 f2 k)) := rfl
      obtain ⟨L, hL⟩ := Int.eq_ofNat_of_zero_le l0
      rw [hL] at h1 hst l1
      rw [Int.toNat_natCast] at hst
      have hbs := hb.size
      obtain ⟨g, c, rfl, hg0, hg1⟩ := ownT_shape hown o2
      have s1 := hide (fun v w' hb' ho => s_insert w.heap.size v (buildTo f0 f1 f2 k) (f0 k) L (f2 k) w' hb' ho o1 o2 (by omega) (by omega) a0' a1')
      have hO := fun o => ownT_below hown (below_box (Below.refl (wr.alloc o).heap.size (wr.alloc o)))
      clear hE hL hown
      generalize (f0 k) = a at *
      generalize (f2 k) = v at *
      go_wp2_with fail
      refine (s1.out _ _ (by simp only [World.size_alloc]; omega) (hO _)).mono ?_
      rintro e w1 ⟨v', rfl, hown', hb'⟩
      have hbz := (hb.trans ((below_box (Below.refl _ _)).mono hbs)).trans hb'
      clear hb' hO
      go_wp2_with fail
      exact ⟨⟨k + 1, by omega, by go_num, by rw [hst.out]; exact hown', hbz⟩, by simp [intOf]; omega⟩
    · have hk' : k = len := by omega
      subst hk'
      clear hE
      go_wp2_with fail
      go_ret
      exact ⟨_, rfl, hown, hb⟩
set_option maxRecDepth 100000 in
set_option maxHeartbeats 800000 in
theorem s_buildTrie_yes (a0 : Option Addr) (len cap : Nat) (f0 f1 f2 : Nat → Int) (w : World) (hl : len ≤ 1048576) (hE : RowEntry a0 len f0 f1 f2 w) (ht : tabB f0 f1 f2 len = true) :
    Calls Try.prog 19 #[.slice a0 len cap] w fun e w' => ∃ v', e = .returned (.tuple #[v', .bool true]) ∧ OwnT w.heap.size v' (buildTo f0 f1 f2 len) w' ∧ Below w.heap.size w w' := by
  have s1 := hide (fun w hE => s_goodTable a0 len cap f0 f1 f2 w hl hE)
  have s2 := hide (fun w hE => s_build a0 len cap f0 f1 f2 w hE ht)
  rw [ht] at s1
  go_enter Try.func19, Try.ntmps19
  go_wp2_with fail
  refine (s1.out _ hE).mono ?_
  rintro e w1 ⟨rfl, hb1⟩
  go_wp2_with fail
  refine (s2.out _ (hE.below hb1)).mono ?_
  rintro e w2 ⟨v', rfl, hown, hb2⟩
  go_wp2_with fail
  refine bodyPost_ret (v := .tuple #[v', .bool true]) (by simp [results, Try.results19, go_sem]) rfl ⟨v', rfl, ?_, below_step hb1 hb2⟩
  exact own_base hown hb1.size
set_option maxRecDepth 100000 in
set_option maxHeartbeats 800000 in
theorem s_buildTrie_no (a0 : Option Addr) (len cap : Nat) (f0 f1 f2 : Nat → Int) (w : World) (hl : len ≤ 1048576) (hE : RowEntry a0 len f0 f1 f2 w) (ht : tabB f0 f1 f2 len = false) :
    Calls Try.prog 19 #[.slice a0 len cap] w fun e w' => e = .returned (.tuple #[.slice none 0 0, .bool false]) ∧ Below w.heap.size w w' := by
  have s1 := hide (fun w hE => s_goodTable a0 len cap f0 f1 f2 w hl hE)
  rw [ht] at s1
  go_enter Try.func19, Try.ntmps19
  go_wp2_with fail
  refine (s1.out _ hE).mono ?_
  rintro e w1 ⟨rfl, hb1⟩
  go_wp2_with fail
  refine bodyPost_ret (v := .tuple #[.slice none 0 0, .bool false]) (by simp [results, Try.results19, go_sem]) rfl ⟨rfl, hb1⟩
end Go.Proofs.Ytjmflkheaioboab
