/- BestTo of the specification. -/
import Derived.Test.YtelehmkmdbhcfaaAll5
import Derived.Test.YtelehmkmdbhcfaaPlain9b
import Derived.Test.YtelehmkmdbhcfaaArr6
import Derived.Lib.QuietBelow
namespace Go.Proofs.Ytelehmkmdbhcfaa
open Go.RowKit

theorem outInt_off {c d n : Nat} {f : Nat → Int} {w : World} (h : OutInt c n n f w) (hn : c ≠ d) (o : Nat) (v : Value) : OutInt c n n f (w.setCell ⟨d, o, none⟩ v) := by
  refine ⟨by have := h.1; simpa using this, fun i hi => ?_⟩
  obtain ⟨⟨y, h0, hy⟩, g0⟩ := h.2 i hi
  exact ⟨⟨y, by rw [World.cell?_setCell_other _ _ _ _ (by simp <;> omega)]; exact h0, hy⟩, by simpa [go_sem] using g0⟩
theorem outInt_cell {c n : Nat} {f : Nat → Int} {w : World} (h : OutInt c n n f w) {i : Nat} (hi : i < n) : w.cell? ⟨c, i, none⟩ = some (.int .i64 (f i)) ∧ w.frozen? ⟨c, i, none⟩ = false := by
  obtain ⟨⟨y, h0, hy⟩, g0⟩ := h.2 i hi
  rw [← hy hi]
  exact ⟨h0, g0⟩
theorem mut_bit {w : World} {b : Nat} {s : Nat → Bool} (h : Mut w b (bits 6 s)) {i : Nat} (hi : i < 6) : w.cell? ⟨b, i, none⟩ = some (.bool (s i)) ∧ w.frozen? ⟨b, i, none⟩ = false :=
  ⟨h.2.1 i _ (bits_get hi), h.2.2 i (by rw [bits_len]; exact hi)⟩
set_option maxRecDepth 100000 in
theorem mk6b (w : World) : (Instr.makeSlice 46 (.int .i64 6) (.int .i64 6)).run Try.prog w = .ok (.slice (some ⟨w.heap.size, 0, none⟩) 6 6) (w.alloc (.cells #[.bool false, .bool false, .bool false, .bool false, .bool false, .bool false] 4)) := by
  have hinfo : (Try.prog.info? 4).map (fun i => (i.zero, i.size, i.bytes)) = some (some (.bool false), 1, 1) := by kernel_rfl
  obtain ⟨i, hi, hzz⟩ := Option.map_eq_some_iff.1 hinfo
  simp only [Prod.mk.injEq] at hzz
  obtain ⟨hz, hsz, hby⟩ := hzz
  have hmk := run_make (P := Try.prog) w 46 4 i _ Try.underlying46 hi hz .i64 .i64 (6 : Int) (6 : Int) (by omega) (by omega) (by rw [hby]; omega) (by omega)
  rw [hsz, show madeCells (Value.bool false).cells (Int.toNat 6 * 1) = #[.bool false, .bool false, .bool false, .bool false, .bool false, .bool false] from (by kernel_rfl)] at hmk
  exact hmk
set_option maxRecDepth 100000 in
set_option maxHeartbeats 6400000 in
theorem s_bestToE (g : Int) (a : Option Addr) (m c : Nat) (T : Nat → Lc) (ra : Option Addr) (n rc : Nat) (f0 f1 f2 : Nat → Int) (t : Int) (w : World) (hm : m ≤ 1048576) (hl : LowL m T) (hR : RowLL a m T w) (hn : n ≤ 1048576) (hA : RowArc ra n f0 f1 f2 w) :
    Calls Try.prog 6 #[.agg #[.int .i64 g, .slice a m c], .slice ra n rc, .int .i64 t] w fun e w' => ∃ v, e = .returned (.tuple #[v, .bool (ptB g m T n f0 f1 f2 t)]) ∧ AnsL w.heap.size v (btR g m T n f0 f1 f2 t) w' ∧ Below w.heap.size w w' := by
  have SA := hide (fun w R A => s_arcs9 g a m c T ra n rc f0 f1 f2 w hm hl R hn A)
  have SI := hide (fun w => s_in t 0 5 w)
  have MX := Mut.new w #[.int .i64 g, .slice a m c] 31
  have dX : Below w.heap.size w (w.alloc (.cells #[.int .i64 g, .slice a m c] 31)) := below_box (Below.refl _ _)
  have c0 := MX.2.1 0 _ rfl
  have c1 := MX.2.1 1 _ rfl
  by_cases hNA : NA g m T n f0 f1 f2
  · rw [show naB g m T n f0 f1 f2 = true from pB_t hNA] at SA
    by_cases ht : 0 ≤ t ∧ t ≤ 5
    · rw [inB_t ht.1 ht.2] at SI
      obtain ⟨tn, rfl⟩ : ∃ tn : Nat, t = tn := ⟨t.toNat, by omega⟩
      have htn : tn < 6 := by omega
      obtain ⟨eR, eB⟩ := bt_yes (m := m) ⟨hNA, ht⟩
      rw [eR, eB]
      clear eR eB
      have hg := hNA.1.1
      have hg' := hNA.1.2.1
      have SN := hide (fun w => s_none9 g a m c w (by omega) (by omega))
      have hInv := hide (rs9_inv hNA (b09_ok (g := g) (t := (tn : Int)) hg))
      have SR := hide (fun x y w R => s_arc9 ra n rc f0 f1 f2 x y w hNA.2.1 R)
      have hLm : Hid (∀ x y, 0 ≤ lab9 f0 f1 f2 x y n → lab9 f0 f1 f2 x y n < (m : Int)) := fun x y q2 => by
        unfold lab9 at q2 ⊢
        cases hf : fst9 f0 f1 x y n with
        | none => simp only [hf] at q2; omega
        | some i =>
          simp only
          exact (hNA.2.2 i (fst9_some.1 hf).1).2.2.2.2.2.2
      have hrow : Hid (∀ l, l < m → ((T l).n : Int) = g) := fun l hl => (hNA.1.2.2.2.2 l hl).1
      have hmk := mk6b
      have hm4 : (m : Int) ≤ 4 := by have := hNA.1.2.2.2.1; omega
      clear hNA
      generalize hLdef : (fun x y => lab9 f0 f1 f2 x y n) = L at *
      have hLap : ∀ x y, lab9 f0 f1 f2 x y n = L x y := fun x y => by rw [← hLdef]
      simp only [hLap] at SR hLm
      clear hLap hLdef
      generalize hst : rs9 L T (b09 g (tn : Int)) = st at *
      have hst0 : st 0 = (b09 g (tn : Int), fun _ => false) := by rw [← hst]; rfl
      have hstep : Hid (∀ k x, LstK 6 (st k).1 (st k).2 x → st (k + 1) = (st9 L T x (mk9 x (st k).2) (st k).1, mk9 x (st k).2)) := fun k x h => by rw [← hst] at h ⊢; exact rs9_step h
      clear hst
      go_enter Try.func6, Try.ntmps6
      go_wp2_with fail
      generalize w.alloc (.cells #[.int .i64 g, .slice a m c] 31) = wx at *
      refine (SA.out _ (hR.below dX) (hA.below dX)).mono ?_
      rintro e w1 ⟨rfl, b1⟩
      replace MX := MX.below b1
      replace dX := dX.trans (b1.mono dX.size)
      replace c0 := MX.2.1 0 _ rfl
      replace c1 := MX.2.1 1 _ rfl
      clear b1 SA
      go_wp2_with fail
      refine (SI.out _).mono ?_
      rintro e w2 ⟨rfl, hw2⟩
      rw [hw2]; clear hw2 w2 SI
      go_wp2_with fail
      refine (SN.out _).mono ?_
      rintro e w3 ⟨bb, cap, rfl, hbb, hO, b3⟩
      have hxb : w.heap.size < w1.heap.size := MX.1
      replace MX := MX.below b3
      have hw0 : w.heap.size ≤ bb := Nat.le_trans dX.size hbb
      have hw1 : w.heap.size < bb := by omega
      replace dX := dX.trans (b3.mono dX.size)
      clear b3 SN c0 c1
      have hbw := hO.1
      obtain ⟨y0, hy0⟩ : ∃ y : Int, w3.cell? ⟨bb, tn, none⟩ = some (.int .i64 y) := ⟨_, (outInt_cell hO htn).1⟩
      have fy0 := (outInt_cell hO htn).2
      have hti : (tn : Int) < 6 := by omega
      have O3 : OutInt bb 6 6 (b09 g (tn : Int)) (w3.setCell ⟨bb, tn, none⟩ (.int .i64 0)) := (hO.put9 htn 0).congr9 (fun i _ => by unfold b09; rw [Int.toNat_natCast])
      have d3 : Below w.heap.size w (w3.setCell ⟨bb, tn, none⟩ (.int .i64 0)) := dX.setCell hw0 _
      have M3 : Mut (w3.setCell ⟨bb, tn, none⟩ (.int .i64 0)) w.heap.size [.int .i64 g, .slice a m c] := MX.other (by omega) _ _
      clear MX dX
      have O4 := O3.below (below_box (o := .cells #[.bool false, .bool false, .bool false, .bool false, .bool false, .bool false] 4) (Below.refl _ _))
      have M4 := M3.alloc (.cells #[.bool false, .bool false, .bool false, .bool false, .bool false, .bool false] 4)
      have B4 : Mut ((w3.setCell ⟨bb, tn, none⟩ (.int .i64 0)).alloc (.cells #[.bool false, .bool false, .bool false, .bool false, .bool false, .bool false] 4)) w3.heap.size (bits 6 (fun _ => false)) := by
        have := Mut.new (w3.setCell ⟨bb, tn, none⟩ (.int .i64 0)) #[.bool false, .bool false, .bool false, .bool false, .bool false, .bool false] 4
        rw [show (w3.setCell ⟨bb, tn, none⟩ (.int .i64 0)).heap.size = w3.heap.size by simp] at this
        exact this
      have d4 := d3.alloc d3.size (.cells #[.bool false, .bool false, .bool false, .bool false, .bool false, .bool false] 4)
      have hlb : bb < w3.heap.size := hbw
      clear hO O3 M3 d3 hbw
      go_wp2_with fail
      clear hy0 fy0 hmk
      generalize (w3.setCell ⟨bb, tn, none⟩ (.int .i64 0)).alloc (.cells #[.bool false, .bool false, .bool false, .bool false, .bool false, .bool false] 4) = w4 at *
      generalize w3.heap.size = lb at *
      go_loopw [10] (fun y wr => ∃ k : Nat, y = .int .i64 k ∧ k ≤ 6 ∧ OutInt bb 6 6 (st k).1 wr ∧ Mut wr lb (bits 6 (st k).2) ∧ Mut wr w.heap.size [.int .i64 g, .slice a m c] ∧ Below w.heap.size w wr) (fun y _ => 6 - (intOf y).toNat)
      case atStart => exact ⟨0, rfl, by omega, by rw [hst0]; exact O4, by rw [hst0]; exact B4, M4, d4⟩
      case round =>
        obtain ⟨k, rfl, hk, Ok, Bk, Mk, dk⟩ := hrel
        clear O4 B4 M4 d4
        by_cases hlt : k < 6
        · have hlt' : (k : Int) < 6 := by omega
          obtain ⟨hcn, hwt⟩ := hInv.out k hk
          have hstk := hide (hstep.out k)
          have hfin : Hid (∀ (r : Nat → Int) (s : Nat → Bool), st (k + 1) = (r, s) → ∀ wz, OutInt bb 6 6 r wz → Mut wz lb (bits 6 s) → OutInt bb 6 6 (st (k + 1)).1 wz ∧ Mut wz lb (bits 6 (st (k + 1)).2)) := fun r s e wz h1 h2 => by rw [e]; exact ⟨h1, h2⟩
          generalize hb : (st k).1 = b at *
          generalize hs : (st k).2 = s at *
          clear hb hs
          go_wp2_with fail
          go_loopw [11, 12, 36] (fun x _ y wq => ∃ (j : Nat) (xi : Int), x = .int .i64 xi ∧ y = .int .i64 j ∧ j ≤ 6 ∧ Hid (SeaK j b s xi) ∧ OutInt bb 6 6 b wq ∧ Mut wq lb (bits 6 s) ∧ Mut wq w.heap.size [.int .i64 g, .slice a m c] ∧ Below w.heap.size w wq) (fun _ _ y _ => 6 - (intOf y).toNat)
          case atStart => exact ⟨0, -1, rfl, rfl, by omega, sea_zero b s, Ok, Bk, Mk, dk⟩
          case round =>
            clear Ok Bk Mk dk
            obtain ⟨j, xi, rfl, rfl, hj, hS, Oq, Bq, Mq, dq0⟩ := hrel
            by_cases hj6 : j < 6
            · have hj6' : (j : Int) < 6 := by omega
              have ck := (outInt_cell Oq hj6).1
              have dj := (mut_bit Bq hj6).1
              have hSk := hide (fun h => sea_skip hS.out (k := j) h)
              have hSf := hide (fun h1 h2 => sea_first hS.out (k := j) h1 h2)
              cases hs : s j with
              | true =>
                rw [hs] at dj
                have hE := hide (hSk.out hs)
                clear hS hSk hSf hs
                generalize b j = bj at *
                have r0 := cell_regrown ck
                have r1 := cell_regrown dj
                go_wp2_with fail
                refine wp_region_quiet_below (by kernel_rfl) (by kernel_rfl) ?_
                repeat (first | go_big_quiet_step (fail) | quiet_step (fail))
                refine wpQuiet_nil ?_
                intro _ hw'
                obtain ⟨⟨dq_, osq_⟩, hw''⟩ := hw'
                subst hw''
                have hq_ := below_regrown wr dq_ osq_
                generalize Go.Sort.grow (redrawn wr dq_) osq_ = wdq at hq_ ⊢
                have dq := dq0.trans (hq_.mono dq0.size)
                have Oq2 := Oq.below hq_
                have Bq2 := Bq.below hq_
                have Mq2 := Mq.below hq_
                clear hq_
                go_wp2_with fail
                exact ⟨⟨j + 1, xi, by first | rfl | trivial, by go_num, by omega, hE, Oq2, Bq2, Mq2, dq⟩, by simp [intOf]; omega⟩
              | false =>
                rw [hs] at dj
                by_cases hx : xi < 0
                ·
                  have hE := hide (hSf.out hx hs)
                  clear hS hSk hSf hs
                  generalize b j = bj at *
                  have r0 := cell_regrown ck
                  have r1 := cell_regrown dj
                  go_wp2_with fail
                  refine wp_region_quiet_below (by kernel_rfl) (by kernel_rfl) ?_
                  repeat (first | go_big_quiet_step (fail) | quiet_step (fail))
                  refine wpQuiet_nil ?_
                  intro _ hw'
                  obtain ⟨⟨dq_, osq_⟩, hw''⟩ := hw'
                  subst hw''
                  have hq_ := below_regrown wr dq_ osq_
                  generalize Go.Sort.grow (redrawn wr dq_) osq_ = wdq at hq_ ⊢
                  have dq := dq0.trans (hq_.mono dq0.size)
                  have Oq2 := Oq.below hq_
                  have Bq2 := Bq.below hq_
                  have Mq2 := Mq.below hq_
                  clear hq_
                  go_wp2_with fail
                  exact ⟨⟨j + 1, j, by first | rfl | trivial, by go_num, by omega, hE, Oq2, Bq2, Mq2, dq⟩, by simp [intOf]; omega⟩
                · obtain ⟨x, rfl⟩ : ∃ x : Nat, xi = x := ⟨xi.toNat, by omega⟩
                  have ha : x < 6 := by
                    rcases hS.out with ⟨e, _⟩ | ⟨a', e, h1, _⟩
                    · omega
                    · omega
                  have ha' : (x : Int) < 6 := by omega
                  have ca := (outInt_cell Oq ha).1
                  have hL := hide (fun h => sea_less hS.out hs h)
                  have hY := hide (fun h => sea_stay hS.out (k := j) h)
                  by_cases hl : b j < b x
                  · have hl2 := hl
                    have hE := hide (hL.out hl)
                    clear hL hY
                    clear hS hSk hSf hs
                    generalize b j = bj at *
                    have r0 := cell_regrown ck
                    have r1 := cell_regrown dj
                    generalize b x = bx at *
                    have r2 := cell_regrown ca
                    go_wp2_with fail
                    refine wp_region_quiet_below (by kernel_rfl) (by kernel_rfl) ?_
                    repeat (first | go_big_quiet_step (fail) | quiet_step (fail))
                    refine wpQuiet_nil ?_
                    intro _ hw'
                    obtain ⟨⟨dq_, osq_⟩, hw''⟩ := hw'
                    subst hw''
                    have hq_ := below_regrown wr dq_ osq_
                    generalize Go.Sort.grow (redrawn wr dq_) osq_ = wdq at hq_ ⊢
                    have dq := dq0.trans (hq_.mono dq0.size)
                    have Oq2 := Oq.below hq_
                    have Bq2 := Bq.below hq_
                    have Mq2 := Mq.below hq_
                    clear hq_
                    go_wp2_with fail
                    exact ⟨⟨j + 1, j, by first | rfl | trivial, by go_num, by omega, hE, Oq2, Bq2, Mq2, dq⟩, by simp [intOf]; omega⟩
                  · have hl2 := hl
                    have hE := hide (hY.out hl)
                    clear hL hY
                    clear hS hSk hSf hs
                    generalize b j = bj at *
                    have r0 := cell_regrown ck
                    have r1 := cell_regrown dj
                    generalize b x = bx at *
                    have r2 := cell_regrown ca
                    go_wp2_with fail
                    refine wp_region_quiet_below (by kernel_rfl) (by kernel_rfl) ?_
                    repeat (first | go_big_quiet_step (fail) | quiet_step (fail))
                    refine wpQuiet_nil ?_
                    intro _ hw'
                    obtain ⟨⟨dq_, osq_⟩, hw''⟩ := hw'
                    subst hw''
                    have hq_ := below_regrown wr dq_ osq_
                    generalize Go.Sort.grow (redrawn wr dq_) osq_ = wdq at hq_ ⊢
                    have dq := dq0.trans (hq_.mono dq0.size)
                    have Oq2 := Oq.below hq_
                    have Bq2 := Bq.below hq_
                    have Mq2 := Mq.below hq_
                    clear hq_
                    go_wp2_with fail
                    exact ⟨⟨j + 1, x, by first | rfl | trivial, by go_num, by omega, hE, Oq2, Bq2, Mq2, dq⟩, by simp [intOf]; omega⟩
            · have hj6' : ¬ (j : Int) < 6 := by omega
              obtain rfl : j = 6 := by omega
              obtain ⟨x, rfl, hLst⟩ := sea_found hS.out (by omega)
              have hx6 := hLst.1
              have hx6' : (x : Int) < 6 := by omega
              have hxs := hide hLst.2.1
              have hNew := hide (hstk.out x hLst)
              have dbx := (mut_bit Bq hx6)
              have db0 := dbx.1
              have db1 := dbx.2
              have Oz : OutInt bb 6 6 b (wr.setCell ⟨lb, x, none⟩ (.bool true)) := outInt_off Oq (by omega) _ _
              have Bz : Mut (wr.setCell ⟨lb, x, none⟩ (.bool true)) lb (bits 6 (mk9 x s)) := by
                have := Bq.set x (.bool true)
                rw [bits_set] at this
                exact this
              have Mz : Mut (wr.setCell ⟨lb, x, none⟩ (.bool true)) w.heap.size [.int .i64 g, .slice a m c] := Mq.other (by omega) _ _
              have dz : Below w.heap.size w (wr.setCell ⟨lb, x, none⟩ (.bool true)) := dq0.setCell (by show w.heap.size ≤ lb; omega) _
              clear hS Oq Bq Mq dq0 hstk hLst dbx
              go_wp2_with fail
              clear db0 db1
              generalize wr.setCell ⟨lb, x, none⟩ (.bool true) = wz at *
              have hxt : mk9 x s x = true := by unfold mk9; rw [if_pos rfl]
              have hwx := hwt x hx6
              generalize mk9 x s = s' at *
              obtain ⟨bn, hbn⟩ : ∃ bn : Nat, b x = bn := ⟨(b x).toNat, by omega⟩
              have hbng : (bn : Int) < g := by omega
              have hFx : Hid (∀ j, (fun v => if v < j then st9 L T x s' b v else b v) x = (bn : Int)) := fun j => by
                show (if x < j then st9 L T x s' b x else b x) = (bn : Int)
                rw [st9_no (fun h => by rw [hxt] at h; cases h.1), ite_self, hbn]
              go_loopw [13, 14] (fun y _ wq => ∃ j : Nat, y = .int .i64 j ∧ j ≤ 6 ∧ OutInt bb 6 6 (fun v => if v < j then st9 L T x s' b v else b v) wq ∧ Mut wq lb (bits 6 s') ∧ Mut wq w.heap.size [.int .i64 g, .slice a m c] ∧ Below w.heap.size w wq) (fun y _ _ => 6 - (intOf y).toNat)
              case atStart => exact ⟨0, rfl, by omega, Oz.congr9 (fun i _ => by rw [if_neg (by omega)]), Bz, Mz, dz⟩
              case round =>
                clear Oz Bz Mz dz
                obtain ⟨j, rfl, hj, Oj, Bj, Mj, dj⟩ := hrel
                by_cases hj6 : j < 6
                · have hj6' : (j : Int) < 6 := by omega
                  go_wp2_with fail
                  refine (SR.out (j : Int) (x : Int) _ (hA.below dj)).mono ?_
                  rintro e w5 ⟨rfl, b5⟩
                  have O5 := Oj.below b5
                  have B5 := Bj.below b5
                  have M5 := Mj.below b5
                  have d5 := dj.trans (b5.mono dj.size)
                  have cx := (outInt_cell O5 hx6).1
                  rw [hFx.out j] at cx
                  have cj := (outInt_cell O5 hj6).1
                  rw [if_neg (Nat.lt_irrefl j)] at cj
                  have fj := (outInt_cell O5 hj6).2
                  have ej := (mut_bit B5 hj6).1
                  have cA := M5.2.1 1 _ rfl
                  have hNext : Hid (∀ (z : Int), st9 L T x s' b j = z → ∀ wz', OutInt bb 6 6 (fun v => if v = j then z else if v < j then st9 L T x s' b v else b v) wz' → OutInt bb 6 6 (fun v => if v < j + 1 then st9 L T x s' b v else b v) wz') := fun z hz wz' h => h.congr9 (fun i _ => by
                    by_cases e : i = j
                    · subst e; rw [if_pos rfl, if_pos (by omega), hz]
                    · rw [if_neg e]
                      by_cases e2 : i < j
                      · rw [if_pos e2, if_pos (by omega)]
                      · rw [if_neg e2, if_neg (by omega)])
                  have hSame : Hid (st9 L T x s' b j = b j → OutInt bb 6 6 (fun v => if v < j + 1 then st9 L T x s' b v else b v) w5) := fun hz => hNext.out (b j) hz w5 (O5.congr9 (fun i _ => by
                    by_cases e : i = j
                    · subst e; rw [if_pos rfl, if_neg (Nat.lt_irrefl i)]
                    · rw [if_neg e]))
                  have hNo : Hid (¬ (s' j = false ∧ 0 ≤ L j x) → st9 L T x s' b j = b j) := st9_no
                  have hYe : Hid (s' j = false ∧ 0 ≤ L j x → st9 L T x s' b j = min (b j) (ap9 T (L j x) (b x))) := st9_yes
                  have hlm := hide (hLm.out (j : Int) (x : Int))
                  clear b5 Oj Bj Mj dj
                  generalize L (j : Int) (x : Int) = lv at *
                  by_cases hlv : lv ≥ 0
                  · obtain ⟨ll, rfl⟩ : ∃ ll : Nat, lv = ll := ⟨lv.toNat, by omega⟩
                    have hll : ll < m := by have := hlm.out (by omega); omega
                    have hll' : (ll : Int) < (m : Int) := by omega
                    cases hsj : s' j with
                    | true =>
                      rw [hsj] at ej
                      have hE := hide (hSame.out (hNo.out (fun h => by rw [hsj] at h; cases h.1)))
                      have r1 := cell_regrown ej
                      clear hSame hNo hYe hNext hlm cx cj fj cA O5
                      go_wp2_with fail
                      refine wp_region_quiet_below (by kernel_rfl) (by kernel_rfl) ?_
                      repeat (first | go_big_quiet_step (fail) | quiet_step (fail))
                      refine wpQuiet_nil ?_
                      intro _ hw'
                      obtain ⟨⟨dq_, osq_⟩, hw''⟩ := hw'
                      subst hw''
                      have hq0 := below_regrown w5 dq_ osq_
                      generalize Go.Sort.grow (redrawn w5 dq_) osq_ = wdq at hq0 ⊢
                      have dq := d5.trans (hq0.mono d5.size)
                      go_wp2_with fail
                      exact ⟨⟨j + 1, by go_num, by omega, hE.out.below hq0, B5.below hq0, M5.below hq0, dq⟩, by simp [intOf]; omega⟩
                    | false =>
                      rw [hsj] at ej
                      obtain ⟨b1, off1, a0, q0, rfl, hb1, cL, hRow⟩ := (hR.below d5) ll hll
                      have hTn := hrow.out ll hll
                      obtain ⟨b2, off2, rfl, hb2, cY⟩ := hRow bn (by omega)
                      have hbT : (bn : Int) < ((T ll).n : Int) := by omega
                      have hap : ap9 T (ll : Int) (b x) = (T ll).f bn := by rw [ap9, hbn, Int.toNat_natCast, Int.toNat_natCast]
                      have hmin := hide (hYe.out ⟨hsj, by omega⟩)
                      rw [hap] at hmin
                      clear hsj hap hRow hNo hYe hlm hTn
                      generalize (T ll).f bn = y at *
                      generalize (T ll).n = tn9 at *
                      have r1 := cell_regrown ej
                      have r2 := cell_regrown cA
                      have r3 := cell_regrown cL
                      have r4 := cell_regrown cx
                      have r5 := cell_regrown cY
                      have r6 := cell_regrown cj
                      by_cases hy : y < b j
                      · have hz : Hid (st9 L T x s' b j = y) := by
                          show _ = _
                          rw [hmin.out, Int.min_def]; split <;> omega
                        clear hmin hSame
                        generalize b j = bj at *
                        go_wp2_with fail
                        refine wp_region_quiet_below (by kernel_rfl) (by kernel_rfl) ?_
                        repeat (first | go_big_quiet_step (fail) | quiet_step (fail))
                        refine wpQuiet_nil ?_
                        intro _ hw'
                        obtain ⟨⟨dq_, osq_⟩, hw''⟩ := hw'
                        subst hw''
                        have hq0 := below_regrown w5 dq_ osq_
                        generalize Go.Sort.grow (redrawn w5 dq_) osq_ = wdq at hq0 ⊢
                        have dq := d5.trans (hq0.mono d5.size)
                        have O6 := O5.below hq0
                        have B6 := B5.below hq0
                        have M6 := M5.below hq0
                        have s1 := (hq0.cell (p := ⟨w.heap.size, 1, none⟩) M5.1).trans cA
                        have s2 := (hq0.cell (p := ⟨b1, off1 + ll, none⟩) hb1).trans cL
                        have s3 := (hq0.cell (p := ⟨bb, x, none⟩) O5.1).trans cx
                        have s4 := (hq0.cell (p := ⟨b2, off2 + bn, none⟩) hb2).trans cY
                        have s5 := (hq0.cell (p := ⟨bb, j, none⟩) O5.1).trans cj
                        have s6 := (outInt_cell O6 hj6).2
                        have O7 := hNext.out y hz.out _ (O6.put9 hj6 y)
                        have B7 : Mut (wdq.setCell ⟨bb, j, none⟩ (.int .i64 y)) lb (bits 6 s') := B6.other (by omega) _ _
                        have M7 : Mut (wdq.setCell ⟨bb, j, none⟩ (.int .i64 y)) w.heap.size [.int .i64 g, .slice (some ⟨b1, off1, none⟩) m c] := M6.other (by omega) _ _
                        have d7 : Below w.heap.size w (wdq.setCell ⟨bb, j, none⟩ (.int .i64 y)) := dq.setCell hw0 _
                        clear r1 r2 r3 r4 r5 r6 ej cA cL cx cY cj fj O5 B5 M5 O6 B6 M6 hNext hq0
                        go_wp2_with fail
                        go_region
                        all_goals
                          go_wp2_with fail
                          exact ⟨⟨j + 1, by go_num, by omega, O7.below (by first | exact Below.refl _ _ | exact (Below.refl _ _).drew), B7.below (by first | exact Below.refl _ _ | exact (Below.refl _ _).drew), M7.below (by first | exact Below.refl _ _ | exact (Below.refl _ _).drew), by first | exact d7 | exact d7.drew⟩, by simp [intOf]; omega⟩
                      · have hE := hide (hSame.out (by rw [hmin.out, Int.min_def]; split <;> omega))
                        clear hmin hSame hNext
                        generalize b j = bj at *
                        clear O5
                        go_wp2_with fail
                        refine wp_region_quiet_below (by kernel_rfl) (by kernel_rfl) ?_
                        repeat (first | go_big_quiet_step (fail) | quiet_step (fail))
                        refine wpQuiet_nil ?_
                        intro _ hw'
                        obtain ⟨⟨dq_, osq_⟩, hw''⟩ := hw'
                        subst hw''
                        have hq0 := below_regrown w5 dq_ osq_
                        generalize Go.Sort.grow (redrawn w5 dq_) osq_ = wdq at hq0 ⊢
                        have dq := d5.trans (hq0.mono d5.size)
                        go_wp2_with fail
                        exact ⟨⟨j + 1, by go_num, by omega, hE.out.below hq0, B5.below hq0, M5.below hq0, dq⟩, by simp [intOf]; omega⟩
                  · have hE := hide (hSame.out (hNo.out (fun h => hlv (by have := h.2; omega))))
                    have hlv2 : lv < 0 := by omega
                    have hlv3 : ¬ (0 ≤ lv) := by omega
                    have hlv4 : decide (0 ≤ lv) = false := by simpa using hlv2
                    have hlv5 : decide (lv ≥ 0) = false := hlv4
                    clear hSame hNo hYe hNext hlm cx cj fj cA ej O5
                    go_wp2_with fail
                    refine wp_region_quiet_below (by kernel_rfl) (by kernel_rfl) ?_
                    repeat (first | go_big_quiet_step (fail) | quiet_step (fail))
                    refine wpQuiet_nil ?_
                    intro _ hw'
                    obtain ⟨⟨dq_, osq_⟩, hw''⟩ := hw'
                    subst hw''
                    have hq0 := below_regrown w5 dq_ osq_
                    generalize Go.Sort.grow (redrawn w5 dq_) osq_ = wdq at hq0 ⊢
                    have dq := d5.trans (hq0.mono d5.size)
                    go_wp2_with fail
                    exact ⟨⟨j + 1, by go_num, by omega, hE.out.below hq0, B5.below hq0, M5.below hq0, dq⟩, by simp [intOf]; omega⟩
                · have hj6' : ¬ (j : Int) < 6 := by omega
                  obtain rfl : j = 6 := by omega
                  have hE := hfin.out _ _ hNew.out wr (Oj.congr9 (fun i hi => by rw [if_pos hi])) Bj
                  clear Oj Bj
                  go_wp2_with fail
                  exact ⟨⟨k + 1, by go_num, by omega, hE.1, hE.2, Mj, dj⟩, by simp [intOf]; omega⟩
        · have hlt' : ¬ (k : Int) < 6 := by omega
          obtain rfl : k = 6 := by omega
          go_wp2_with fail
          go_ret2
          exact ⟨_, rfl, ansL_out hw0 Ok, dk⟩
    · rw [inB_n ht] at SI
      obtain ⟨e1, e2⟩ := bt_no (fun h => ht h.2 : ¬ PtOk g m T n f0 f1 f2 t)
      rw [e1, e2]
      clear hNA e1 e2 ht
      go_enter Try.func6, Try.ntmps6
      go_wp2_with fail
      generalize w.alloc (.cells #[.int .i64 g, .slice a m c] 31) = wx at *
      refine (SA.out _ (hR.below dX) (hA.below dX)).mono ?_
      rintro e w1 ⟨rfl, b1⟩
      replace dX := dX.trans (b1.mono dX.size)
      clear b1 SA MX c0 c1
      go_wp2_with fail
      refine (SI.out _).mono ?_
      rintro e w2 ⟨rfl, hw2⟩
      rw [hw2]; clear hw2 w2 SI
      go_wp2_with fail
      go_ret2
      exact ⟨_, rfl, ansL_nil _ _, dX⟩
  · rw [show naB g m T n f0 f1 f2 = false from pB_f hNA] at SA
    obtain ⟨e1, e2⟩ := bt_no (fun h => hNA h.1 : ¬ PtOk g m T n f0 f1 f2 t)
    rw [e1, e2]
    clear hNA e1 e2
    go_enter Try.func6, Try.ntmps6
    go_wp2_with fail
    generalize w.alloc (.cells #[.int .i64 g, .slice a m c] 31) = wx at *
    refine (SA.out _ (hR.below dX) (hA.below dX)).mono ?_
    rintro e w1 ⟨rfl, b1⟩
    replace dX := dX.trans (b1.mono dX.size)
    clear b1 SA MX c0 c1 SI
    go_wp2_with fail
    go_ret2
    exact ⟨_, rfl, ansL_nil _ _, dX⟩
end Go.Proofs.Ytelehmkmdbhcfaa
