/- What the program's wayDown and LookUp answer. -/
import Derived.Test.YtjmflkheaioboabI2e
import Derived.Test.YtjmflkheaioboabS2e
import Derived.Laws.OwnMore
namespace Go.Proofs.Ytjmflkheaioboab
open Go.RowKit

theorem own_below {w w' : World} {base : Nat} {e : TypeId} {size : Nat} {v : Value} {n : Nat} {xs : List Value} (h : w.ownsRow base e size v n xs) (hb : Below w.heap.size w w') : w'.ownsRow base e size v n xs :=
  h.kept (row := none) ⟨hb.os, hb.tape, hb.output, hb.size, fun k hk _ => hb.block k hk⟩ (by cases hv : v.ownBlock with
    | none => exact .inl rfl
    | some b => exact .inr (by simp))
theorem own_shape {w : World} {base : Nat} {e : TypeId} {size : Nat} {v : Value} {n : Nat} {xs : List Value} (h : w.ownsRow base e size v (n + 1) xs) : ∃ g cap, v = .slice (some ⟨g, 0, none⟩) (n + 1) cap ∧ base ≤ g ∧ g < w.heap.size := by
  rcases h.2 with ⟨_, h1⟩ | ⟨g, cap, cur, rfl, hb, hg, _⟩
  · omega
  · exact ⟨g, cap, rfl, hb, (Array.getElem?_eq_some_iff.1 hg).1⟩
theorem grown_below {w w' : World} {row : Option Nat} {base : Nat} (hg : w.grownBy w' row) (hr : ∀ k, row = some k → base ≤ k) (hb : base ≤ w.heap.size) : Below base w w' :=
  ⟨hg.os, hg.tape, hg.output, hg.size, fun k hk => hg.block k (by omega) (fun e => by have := hr k e.symm; omega)⟩

/-- The way's numbers, as they lie. -/
def wl (T : Nat → Nd) (x : Int) (n : Nat) : List Value := (List.range n).map fun i => .int .i64 (wayAt T x i)
theorem wl_at {T : Nat → Nd} {x : Int} {n j : Nat} (h : j < n) : (wl T x n)[j]? = some (.int .i64 (wayAt T x j)) := by
  unfold wl
  rw [List.getElem?_map, List.getElem?_range h]
  rfl
theorem wl_next (T : Nat → Nd) (x : Int) (n : Nat) : wl T x n ++ [.int .i64 (wayAt T x n)] = wl T x (n + 1) := by
  unfold wl
  rw [List.range_succ, List.map_append]
  rfl

set_option maxHeartbeats 400000 in
theorem i_bitAt (x k : Int) (w : World) (hx0 : 0 ≤ x) (hx1 : x ≤ 4294967295) (hk0 : 0 ≤ k) (hk1 : k ≤ 31) :
    Calls Try.prog 69 #[.int .i64 x, .int .i64 k] w fun e w' => e = .returned (.int .i64 (bitA x k)) ∧ w' = w := by
  have hp : (1 : Int) ≤ 2 ^ (31 - k).toNat := by
    have := Int.pow_pos (n := 2) (m := (31 - k).toNat) (by omega)
    omega
  have hq0 : 0 ≤ x / 2 ^ (31 - k).toNat := Int.ediv_nonneg hx0 (by omega)
  have hq1 : x / 2 ^ (31 - k).toNat ≤ x := Int.ediv_le_self _ hx0
  have ha := hide (and1 (x / 2 ^ (31 - k).toNat) hq0 (by omega))
  go_enter Try.func69, Try.ntmps69
  go_wp2_with fail
  go_ret
  exact ⟨ret_int ha.out, rfl⟩

theorem infoInt : (Try.prog.info? 3).map (fun i => (i.zero, i.size, i.bytes)) = some (some (.int .i64 0), 1, 8) := by kernel_rfl
set_option maxRecDepth 100000 in
set_option maxHeartbeats 1600000 in
theorem i_wayDown (a0 : Option Addr) (len cap : Nat) (T : Nat → Nd) (x : Int) (w : World) (hE : RowT a0 len T w) (hn1 : 1 ≤ len) (htr : treeB len T = true) (hx0 : 0 ≤ x) (hx1 : x ≤ 4294967295) :
    Calls Try.prog 60 #[.slice a0 len cap, .int .i64 x] w fun e w' => ∃ g c, e = .returned (.slice (some ⟨g, 0, none⟩) (endK T x 32 + 1) c) ∧ Below w.heap.size w w' ∧ g < w'.heap.size ∧
      ∀ i, i ≤ endK T x 32 → w'.cell? ⟨g, i, none⟩ = some (.int .i64 (wayAt T x i)) := by
  obtain ⟨i0, hi, hz0, hz1, hz2⟩ := info_parts infoInt
  have ix0 : ∀ (z o : Int) (w : World), (Instr.index 90 (.agg #[.int .i64 z, .int .i64 o]) (.int .i64 0)).run Try.prog w = .ok (.int .i64 z) w := fun _ _ _ => by kernel_rfl
  have ix1 : ∀ (z o : Int) (w : World), (Instr.index 90 (.agg #[.int .i64 z, .int .i64 o]) (.int .i64 1)).run Try.prog w = .ok (.int .i64 o) w := fun _ _ _ => by kernel_rfl
  have htr := hide htr
  go_enter Try.func60, Try.ntmps60
  go_wp2_with fail
  go_loopw [5, 6, 7, 9] (fun v _ _ i wr => ∃ k : Nat, k ≤ 32 ∧ i = .int .i64 k ∧ endK T x k = k ∧ wr.ownsRow w.heap.size 3 1 v (k + 1) (wl T x (k + 1)) ∧ Below w.heap.size w wr) (fun _ _ _ i _ => 32 - (intOf i).toNat)
  case atStart => exact ⟨0, by omega, rfl, rfl, World.ownsRow_lit w #[.int .i64 0] 1 (Nat.le_refl _) (by decide) rfl, below_box (Below.refl _ _)⟩
  case round =>
    obtain ⟨k, hk, rfl, hend, hown, hb⟩ := hrel
    obtain ⟨g, c, rfl, hg0, hg1⟩ := own_shape hown
    by_cases hlt : k < 32
    · have hwl := wayAt_lt htr.out hn1 x k
      obtain ⟨b, off, rfl, hbw, h0, h1, h2, h3⟩ := (hE.below hb) (wayAt T x k) hwl
      have hwl' : (wayAt T x k : Int) < (len : Int) := by omega
      have hck : wr.cell? ⟨g, k, none⟩ = some (.int .i64 (wayAt T x k)) := (hown.cellAt k (by omega)).trans (wl_at (by omega))
      have hcast := hide (wayAt_cast htr.out hn1 x k)
      have hEY := hide (endK_y hend)
      have hEN := hide (endK_n hend)
      have hwn := hide (wl_next T x (k + 1))
      have hfc : Hid (∀ i, i ≤ k → wr.cell? ⟨g, i, none⟩ = some (.int .i64 (wayAt T x i))) := fun i hi => (hown.cellAt i (by omega)).trans (wl_at (by omega))
      have hlt' : (k : Int) < 32 := by omega
      have s1 := hide (fun w => i_nodeHalves (T (wayAt T x k)).z (T (wayAt T x k)).o (T (wayAt T x k)).v (T (wayAt T x k)).h w)
      have s2 := hide (fun w => i_bitAt x k w hx0 hx1 (by omega) (by omega))
      have hkg : (k : Int) < (k : Int) + 1 := by omega
      clear hend
      have hbit := bitA_bd x k
      generalize bitA x k = bb at *
      generalize wayAt T x k = at0 at *
      generalize (T at0).z = z at *
      generalize (T at0).o = oo at *
      generalize (T at0).h = hh at *
      generalize (T at0).v = vv at *
      generalize hnx : wayAt T x (k + 1) = nx at *
      have hnx := hide hnx
      have hH := hide hown
      clear hown
      rcases (show bb = 0 ∨ bb = 1 by omega) with rfl | rfl
      · have hcst : Hid ((nx : Int) = z) := hcast.out
        by_cases hz : nx = 0
        · have hzz : z = 0 := by have := hcst.out; omega
          have hR := hide (hEN.out hz 32 (by omega))
          subst hzz
          clear hEY hEN hE hz hcast hcst hwn
          go_wp2_with fail
          refine (s1.out _).mono ?_
          rintro e w3 ⟨rfl, hb3⟩
          go_wp2_with fail
          refine (s2.out _).mono ?_
          rintro e w4 ⟨rfl, rfl⟩
          go_wp2_with fail
          go_ret
          refine ⟨g, c, by rw [hR.out]; rfl, hb.trans (hb3.mono hb.size), Nat.lt_of_lt_of_le hg1 hb3.size, ?_⟩
          rw [hR.out]
          exact fun i hi => ((bcell hb3).1 _ _ hg1).trans (hfc.out i hi)
        · have hE1 := hide (hEY.out hz)
          have hzb : (z == 0) = false := by have := hcst.out; simp; omega
          clear hEY hEN hE hz hcast hfc
          go_wp2_with fail
          refine (s1.out _).mono ?_
          rintro e w3 ⟨rfl, hb3⟩
          go_wp2_with fail
          refine (s2.out _).mono ?_
          rintro e w4 ⟨rfl, rfl⟩
          have hown := own_below hH.out hb3
          have hbz := hb.trans (hb3.mono hb.size)
          clear hb3 hck h0 h1 h2 h3
          go_wp2_with (first | (at_builtin; refine wpList_append_own _ rfl _ _ 74 rfl w.heap.size 3 i0 (.int .i64 0) 1 8 Try.underlying74 hi hz0 hz1 hz2 rfl (by decide) _ _ _ rfl (hown.alloc _) ⟨w4.heap.size, 0, none⟩ 1 1 [.int .i64 z] rfl rfl ?c1 ?c2 ?c3 ?c4 ?c5 ?_))
          case c1 =>
            intro j u hj
            match j, hj with
            | 0, hj => simp at hj; subst hj; simp [Addr.add]
          case c2 => intro u hu; simp at hu; subst hu; rfl
          case c3 => unfold maxLen; omega
          case c4 => omega
          case c5 => have := hbz.size; simp; omega
          · intro v' w5 hown' hgrow _
            have gb : Below w.heap.size _ w5 := grown_below hgrow (by intro q hq; simp only [Value.ownBlock, Option.some.injEq] at hq; omega) (by have := hbz.size; simp only [World.size_alloc]; omega)
            have hbe : Below w.heap.size w w5 := (hbz.trans ((below_box (Below.refl _ _)).mono hbz.size)).trans gb
            have hwn := hwn.out
            rw [hcst.out] at hwn
            rw [hwn] at hown'
            clear hown hgrow hwn hbz
            go_wp2_with fail
            exact ⟨⟨k + 1, by omega, by go_num, hE1.out, hown', hbe⟩, by simp [intOf]; omega⟩
      · have hcst : Hid ((nx : Int) = oo) := hcast.out
        by_cases hz : nx = 0
        · have hzz : oo = 0 := by have := hcst.out; omega
          have hR := hide (hEN.out hz 32 (by omega))
          subst hzz
          clear hEY hEN hE hz hcast hcst hwn
          go_wp2_with fail
          refine (s1.out _).mono ?_
          rintro e w3 ⟨rfl, hb3⟩
          go_wp2_with fail
          refine (s2.out _).mono ?_
          rintro e w4 ⟨rfl, rfl⟩
          go_wp2_with fail
          go_ret
          refine ⟨g, c, by rw [hR.out]; rfl, hb.trans (hb3.mono hb.size), Nat.lt_of_lt_of_le hg1 hb3.size, ?_⟩
          rw [hR.out]
          exact fun i hi => ((bcell hb3).1 _ _ hg1).trans (hfc.out i hi)
        · have hE1 := hide (hEY.out hz)
          have hzb : (oo == 0) = false := by have := hcst.out; simp; omega
          clear hEY hEN hE hz hcast hfc
          go_wp2_with fail
          refine (s1.out _).mono ?_
          rintro e w3 ⟨rfl, hb3⟩
          go_wp2_with fail
          refine (s2.out _).mono ?_
          rintro e w4 ⟨rfl, rfl⟩
          have hown := own_below hH.out hb3
          have hbz := hb.trans (hb3.mono hb.size)
          clear hb3 hck h0 h1 h2 h3
          go_wp2_with (first | (at_builtin; refine wpList_append_own _ rfl _ _ 74 rfl w.heap.size 3 i0 (.int .i64 0) 1 8 Try.underlying74 hi hz0 hz1 hz2 rfl (by decide) _ _ _ rfl (hown.alloc _) ⟨w4.heap.size, 0, none⟩ 1 1 [.int .i64 oo] rfl rfl ?c1 ?c2 ?c3 ?c4 ?c5 ?_))
          case c1 =>
            intro j u hj
            match j, hj with
            | 0, hj => simp at hj; subst hj; simp [Addr.add]
          case c2 => intro u hu; simp at hu; subst hu; rfl
          case c3 => unfold maxLen; omega
          case c4 => omega
          case c5 => have := hbz.size; simp; omega
          · intro v' w5 hown' hgrow _
            have gb : Below w.heap.size _ w5 := grown_below hgrow (by intro q hq; simp only [Value.ownBlock, Option.some.injEq] at hq; omega) (by have := hbz.size; simp only [World.size_alloc]; omega)
            have hbe : Below w.heap.size w w5 := (hbz.trans ((below_box (Below.refl _ _)).mono hbz.size)).trans gb
            have hwn := hwn.out
            rw [hcst.out] at hwn
            rw [hwn] at hown'
            clear hown hgrow hwn hbz
            go_wp2_with fail
            exact ⟨⟨k + 1, by omega, by go_num, hE1.out, hown', hbe⟩, by simp [intOf]; omega⟩
    · have hk' : k = 32 := by omega
      subst hk'
      have hfc : Hid (∀ i, i ≤ 32 → wr.cell? ⟨g, i, none⟩ = some (.int .i64 (wayAt T x i))) := fun i hi => (hown.cellAt i (by omega)).trans (wl_at (by omega))
      have hend := hide hend
      clear hown hE
      go_wp2_with fail
      go_ret
      exact ⟨g, c, by rw [hend.out]; rfl, hb, hg1, by rw [hend.out]; exact hfc.out⟩
end Go.Proofs.Ytjmflkheaioboab
