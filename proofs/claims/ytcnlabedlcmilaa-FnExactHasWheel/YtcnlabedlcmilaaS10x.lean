/- Whether one gets round, by the specification. -/
import Derived.Test.YtcnlabedlcmilaaS10w
import Derived.Test.YtcnlabedlcmilaaSeen10
namespace Go.Proofs.Ytcnlabedlcmilaa
open Go.RowKit

theorem RowW.onlyP {P : Nat → Prop} {a : Option Addr} {xs : List Value} {w w' : World} (h : RowW a xs w) (k : OnlyP P w w') (hn : ∀ b off, a = some ⟨b, off, none⟩ → ¬ P b) : RowW a xs w' := by
  intro j u hu
  obtain ⟨b, off, ha, hlt, h0⟩ := h j u hu
  exact ⟨b, off, ha, Nat.lt_of_lt_of_le hlt k.2.2.2.1, (k.cell hlt (hn b off ha)).trans h0⟩
/-- The list's own block is not at a. -/
def ApB (x : Value) (a : Option Addr) : Prop := ∀ b, x.ownBlock = some b → ∀ off, a ≠ some ⟨b, off, none⟩
/-- The two cells of pair j. -/
theorem row_pair {a : Option Addr} {ys : List (Nat × Nat)} {w : World} (h : RowW a (pcs ys) w) {j : Nat} {y : Nat × Nat} (hy : ys[j]? = some y) : ∃ b off, a = some ⟨b, off, none⟩ ∧ b < w.heap.size ∧ w.cell? ⟨b, off + j * 2, none⟩ = some (.int .i64 ((y.1 : Int) + 1)) ∧ w.cell? ⟨b, off + j * 2 + 1, none⟩ = some (.int .i64 (y.2 : Int)) := by
  obtain ⟨h1, h2⟩ := pcs_at hy
  obtain ⟨b, off, ha, hb, g1⟩ := h _ _ h1
  obtain ⟨b', off', ha', _, g2⟩ := h _ _ h2
  subst ha
  simp only [Option.some.injEq, Addr.mk.injEq, and_true] at ha'
  obtain ⟨rfl, rfl⟩ := ha'
  refine ⟨b, off, rfl, hb, ?_, ?_⟩
  · rw [Nat.mul_comm]; exact g1
  · rw [Nat.mul_comm, Nat.add_assoc]; exact g2
theorem ownW_made2 (e : TypeId) (w : World) (x y : Value) : OwnW e 2 w.heap.size (.slice (some ⟨w.heap.size, 0, none⟩) 1 1) 1 [x, y] (w.alloc (.cells #[x, y] e)) :=
  ⟨rfl, .inr ⟨w.heap.size, 1, #[x, y], rfl, Nat.le_refl _, heap_alloc_new w _, Nat.le_refl _, by unfold maxLen; omega, rfl, rfl⟩⟩
set_option maxRecDepth 100000 in
theorem eqPair_run (a l b m : Int) (w : World) :
    (binOp .eql 105 (.agg #[.int .i64 a, .int .i64 l]) (.agg #[.int .i64 b, .int .i64 m])).run Try.prog w = .ok (.bool (a == b && l == m)) w := by
  rw [run_eql_struct, run_equalIn_struct (P := Try.prog) w 9999 105 _ _ (by kernel_rfl) (by kernel_rfl)]
  simp only [Program.fieldsOf, Try.underlying105]
  have e3 : ∀ (x y : Int) (w : World), (Op.equalIn 9999 3 (.int .i64 x) (.int .i64 y)).run Try.prog w = .ok (x == y) w := fun x y w => run_equalIn_int w 9998 3 .i64 .i64 x y Try.underlying3
  generalize 9999 = d at e3 ⊢
  by_cases h1 : a = b <;> by_cases h2 : l = m <;> simp [Op.eqFields, go_sem, part, e3, h1, h2]
theorem guardPair : Try.prog.eqGuardType Try.prog.depth 105 = false := by kernel_rfl
theorem eqPair_guard (op : BinOp) (x y : Operand) (xs ys : Array Value) (w : World) : (eqGuard op 105 x y (.agg xs) (.agg ys)).run Try.prog w = .ok () w := run_eqGuard_agg w op 105 x y xs ys guardPair
theorem eqPair_t {y z : Nat × Nat} (h : y = z) : ∀ w : World, (binOp .eql 105 (.agg #[.int .i64 ((y.1 : Int) + 1), .int .i64 (y.2 : Int)]) (.agg #[.int .i64 ((z.1 : Int) + 1), .int .i64 (z.2 : Int)])).run Try.prog w = .ok (.bool true) w := fun w => by
  rw [eqPair_run, h]; simp
theorem eqPair_f {y z : Nat × Nat} (h : y ≠ z) : ∀ w : World, (binOp .eql 105 (.agg #[.int .i64 ((y.1 : Int) + 1), .int .i64 (y.2 : Int)]) (.agg #[.int .i64 ((z.1 : Int) + 1), .int .i64 (z.2 : Int)])).run Try.prog w = .ok (.bool false) w := fun w => by
  rw [eqPair_run]
  have hb : (((y.1 : Int) + 1 == (z.1 : Int) + 1) && ((y.2 : Int) == (z.2 : Int))) = false := by
    apply Bool.eq_false_iff.2
    intro e
    simp only [Bool.and_eq_true, beq_iff_eq] at e
    exact h (Prod.ext (by omega) (by omega))
  rw [hb]
set_option maxRecDepth 100000 in
set_option maxHeartbeats 6400000 in
theorem s_round10 (a : Option Addr) (N c : Nat) (U : Nat → Pl) (v k : Nat) (w : World) (hG : GS N U) (hv : v < N) (hk : k < (U v).n) (hR : RowK3 a N U w) :
    Calls Try.prog 86 #[.agg #[.slice a N c], .agg #[.int .i64 ((v : Int) + 1), .int .i64 (k : Int)], .agg #[.int .i64 ((v : Int) + 1), .int .i64 (k : Int)]] w fun e w' => e = .returned (.bool (pB (Trn (Edg U) (v, k) (v, k)))) ∧ Below w.heap.size w w' := by
  have hT : Hid (Trn (Edg U) (v, k) (v, k) → pB (Trn (Edg U) (v, k) (v, k)) = true) := pB_t
  have hF : Hid (¬ Trn (Edg U) (v, k) (v, k) → pB (Trn (Edg U) (v, k) (v, k)) = false) := pB_f
  generalize pB (Trn (Edg U) (v, k) (v, k)) = r at *
  have hgu := eqPair_guard
  have hSt := hide (SnI.start (N := N) (U := U) (x := (v, k)) ⟨hv, hk⟩)
  have NX := hide (fun (z : Nat × Nat) w (hz : Pr N U z) R => s_next10 a N c U z.1 z.2 w hG hz.1 hz.2 R)
  have hG9 := hide hG
  have dX : Below w.heap.size w ((((w.alloc (.cells #[.slice a N c] 27)).alloc (.cells #[.int .i64 ((v : Int) + 1), .int .i64 (k : Int)] 105)).alloc (.cells #[.int .i64 ((v : Int) + 1), .int .i64 (k : Int)] 105)).alloc (.cells #[.int .i64 ((v : Int) + 1), .int .i64 (k : Int)] 105)) := below_box4 (Below.refl _ _)
  have MX := (((Mut.new w #[.slice a N c] 27).alloc (.cells #[.int .i64 ((v : Int) + 1), .int .i64 (k : Int)] 105)).alloc (.cells #[.int .i64 ((v : Int) + 1), .int .i64 (k : Int)] 105)).alloc (.cells #[.int .i64 ((v : Int) + 1), .int .i64 (k : Int)] 105)
  have MT := (Mut.new ((w.alloc (.cells #[.slice a N c] 27)).alloc (.cells #[.int .i64 ((v : Int) + 1), .int .i64 (k : Int)] 105)) #[.int .i64 ((v : Int) + 1), .int .i64 (k : Int)] 105).alloc (.cells #[.int .i64 ((v : Int) + 1), .int .i64 (k : Int)] 105)
  have own0 := ownW_made2 105 (((w.alloc (.cells #[.slice a N c] 27)).alloc (.cells #[.int .i64 ((v : Int) + 1), .int .i64 (k : Int)] 105)).alloc (.cells #[.int .i64 ((v : Int) + 1), .int .i64 (k : Int)] 105)) (.int .i64 ((v : Int) + 1)) (.int .i64 (k : Int))
  simp only [World.size_alloc] at MT own0
  have hs0 : w.heap.size + 4 ≤ ((((w.alloc (.cells #[.slice a N c] 27)).alloc (.cells #[.int .i64 ((v : Int) + 1), .int .i64 (k : Int)] 105)).alloc (.cells #[.int .i64 ((v : Int) + 1), .int .i64 (k : Int)] 105)).alloc (.cells #[.int .i64 ((v : Int) + 1), .int .i64 (k : Int)] 105)).heap.size := by simp
  clear hG
  go_enter Try.func86, Try.ntmps86
  go_wp2_with fail
  generalize (((w.alloc (.cells #[.slice a N c] 27)).alloc (.cells #[.int .i64 ((v : Int) + 1), .int .i64 (k : Int)] 105)).alloc (.cells #[.int .i64 ((v : Int) + 1), .int .i64 (k : Int)] 105)).alloc (.cells #[.int .i64 ((v : Int) + 1), .int .i64 (k : Int)] 105) = wx at *
  go_loopw [7, 8] (fun x y wr => ∃ (i : Nat) (ss : List (Nat × Nat)), y = .int .i64 i ∧ i ≤ ss.length ∧ OwnW 105 2 (w.heap.size + 3) x ss.length (pcs ss) wr ∧ Hid (SnI N U (v, k) ss i) ∧ Mut wr w.heap.size [.slice a N c] ∧ Mut wr (w.heap.size + 2) [.int .i64 ((v : Int) + 1), .int .i64 (k : Int)] ∧ Below w.heap.size w wr ∧ w.heap.size + 4 ≤ wr.heap.size) (fun _ y _ => 31 - (intOf y).toNat)
  case atStart => exact ⟨0, [(v, k)], rfl, Nat.zero_le _, own0, hSt, MX, MT, dX, hs0⟩
  case round =>
    clear own0 MX MT dX hs0 hSt
    obtain ⟨i, ss, rfl, hi, own, hI, MX, MT, dX, hsz⟩ := hrel
    have hl30 := hI.out.len hG9.out
    have hl30' : (ss.length : Int) ≤ 30 := by omega
    obtain ⟨va, vc, rfl, row, hcase⟩ := ownW_row own
    have c0 := MX.2.1 0 _ rfl
    by_cases hlt : i < ss.length
    · have hlt' : (i : Int) < (ss.length : Int) := by omega
      obtain ⟨z, hz⟩ : ∃ z, ss[i]? = some z := ⟨_, List.getElem?_eq_getElem hlt⟩
      have hzm : z ∈ ss := List.mem_of_getElem? hz
      have hzp := (hI.out.2.2.1 z hzm).1
      obtain ⟨g, off, rfl, hgl, g1, g2⟩ := row_pair row hz
      have hgo : off = 0 ∧ w.heap.size + 3 ≤ g := by
        rcases hcase with ⟨h, _⟩ | ⟨g', h, h2, _⟩
        · simp at h
        · simp only [Option.some.injEq, Addr.mk.injEq, and_true] at h
          obtain ⟨rfl, rfl⟩ := h
          exact ⟨rfl, h2⟩
      obtain ⟨rfl, hg3⟩ := hgo
      rw [Nat.zero_add] at g1 g2
      have NZ := hide (fun w R => NX.out z w hzp R)
      have RW := hR.below dX
      have hz9 := hide hz
      have hSz := hide (And.intro hzm (And.intro hI.out hi))
      clear hcase row hz
      generalize hnn : ss.length = n at *
      have hn9 := hide hnn
      clear hnn
      go_wp2_with fail
      have hkW : wr.cell? ⟨w.heap.size, 0, none⟩ = some (.slice a N c) ∧ wr.cell? ⟨g, i * 2, none⟩ = some (.int .i64 ((z.1 : Int) + 1)) ∧ wr.cell? ⟨g, i * 2 + 1, none⟩ = some (.int .i64 (z.2 : Int)) := ⟨c0, g1, g2⟩
      have hsw : w.heap.size < wr.heap.size := by omega
      go_region_held3 (fun w' => w'.cell? ⟨w.heap.size, 0, none⟩ = some (.slice a N c) ∧ w'.cell? ⟨g, i * 2, none⟩ = some (.int .i64 ((z.1 : Int) + 1)) ∧ w'.cell? ⟨g, i * 2 + 1, none⟩ = some (.int .i64 (z.2 : Int))) (first | with_reducible exact hkN | with_reducible exact hkW | go_keep)
        ((first | (go_at_call 130; refine (NZ.out _ (by first | with_reducible exact RW | exact RW.below (Below.refl _ _).drew)).mono ?_; rintro e wN ⟨vv, ys, rfl, ownY, hNx, hyl, bN⟩; obtain ⟨ya, yc, rfl, yrow, ycase⟩ := ownW_row ownY; have dN : Below wr.heap.size wr wN := (by first | exact bN | exact below_drew0 bN); have hkN : wN.cell? ⟨w.heap.size, 0, none⟩ = some (.slice a N c) ∧ wN.cell? ⟨g, i * 2, none⟩ = some (.int .i64 ((z.1 : Int) + 1)) ∧ wN.cell? ⟨g, i * 2 + 1, none⟩ = some (.int .i64 (z.2 : Int)) := ⟨(dN.cell (p := ⟨w.heap.size, 0, none⟩) hsw).trans c0, (dN.cell (p := ⟨g, i * 2, none⟩) hgl).trans g1, (dN.cell (p := ⟨g, i * 2 + 1, none⟩) hgl).trans g2⟩)))
      all_goals
        have ownS := ownW_below own dN
        have MX1 := MX.below dN
        have MT1 := MT.below dN
        have d1 := dX.trans (dN.mono dX.size)
        have hs1 := Nat.le_trans hsz dN.size
        have hyb : ApB (.slice (some ⟨g, 0, none⟩) n vc) ya := fun b hb off he => by
          simp [Value.ownBlock] at hb
          subst hb
          rcases ycase with ⟨h, _⟩ | ⟨g', h, h2, _⟩
          · rw [h] at he; simp at he
          · rw [h] at he
            simp only [Option.some.injEq, Addr.mk.injEq, and_true] at he
            have h3 : wr.heap.size + 2 ≤ g' := h2
            omega
        have hyl' : (ys.length : Int) ≤ 60 := by omega
        have hNx9 := hide hNx
        have hpre : Hid (SnI N U (v, k) ss i ∧ ss[i]? = some z ∧ SnP (v, k) ss ys 0) := ⟨hSz.out.2.1, hz9.out, fun q y hq => absurd hq (Nat.not_lt_zero _)⟩
        have hil : Hid (i < ss.length) := by show _ < _; rw [hn9.out]; exact hlt
        clear hkN hkW c0 g1 g2 dN bN ownY ycase own MX MT dX hsz RW NZ hNx hI hSz hz9
        go_wp2_with fail
        go_loopw [7, 29] (fun x y wq => ∃ (j : Nat) (ss : List (Nat × Nat)), y = .int .i64 j ∧ j ≤ ys.length ∧ OwnW 105 2 (w.heap.size + 3) x ss.length (pcs ss) wq ∧ ApB x ya ∧ RowW ya (pcs ys) wq ∧ Hid (SnI N U (v, k) ss i ∧ ss[i]? = some z ∧ SnP (v, k) ss ys j) ∧ Mut wq w.heap.size [.slice a N c] ∧ Mut wq (w.heap.size + 2) [.int .i64 ((v : Int) + 1), .int .i64 (k : Int)] ∧ Below w.heap.size w wq ∧ w.heap.size + 4 ≤ wq.heap.size) (fun _ y _ => ys.length - (intOf y).toNat)
        case atStart => exact ⟨0, ss, rfl, Nat.zero_le _, by rw [hn9.out]; exact ownS, hyb, yrow, hpre, MX1, MT1, d1, hs1⟩
        case round =>
          clear ownS hyb yrow hpre MX1 MT1 d1 hs1 hn9 hil
          obtain ⟨j, ss, rfl, hj, own, hne, yrow, hI, MX, MT, dX, hsz⟩ := hrel
          have hl30 := hI.out.1.len hG9.out
          have hil : i < ss.length := (List.getElem?_eq_some_iff.1 hI.out.2.1).1
          by_cases hjt : j < ys.length
          · have hjt' : (j : Int) < (ys.length : Int) := by omega
            obtain ⟨y, hy⟩ : ∃ y, ys[j]? = some y := ⟨_, List.getElem?_eq_getElem hjt⟩
            obtain ⟨va, vc, rfl, row, hcase⟩ := ownW_row own
            obtain ⟨yb, yo, hya, hybl, y1, y2⟩ := row_pair yrow hy
            have t0 := MT.2.1 0 _ rfl
            have t1 := MT.2.1 1 _ rfl
            have hed := hide ((hNx9.out y).1 (List.mem_of_getElem? hy))
            have hzm := List.mem_of_getElem? hI.out.2.1
            have hy9 := hide hy
            have dA : Below wr.heap.size wr (wr.alloc (.cells #[.int .i64 ((y.1 : Int) + 1), .int .i64 (y.2 : Int)] 105)) := below_box (Below.refl _ _)
            have tA0 := (dA.cell (p := ⟨w.heap.size + 2, 0, none⟩) MT.1).trans t0
            have tA1 := (dA.cell (p := ⟨w.heap.size + 2, 1, none⟩) MT.1).trans t1
            by_cases hyx : y = (v, k)
            · have heq := eqPair_t hyx
              have hE := hide (hT.out (hI.out.1.hit hzm (hyx ▸ hed.out)))
              dsimp only at heq
              have dY := dX.trans (dA.mono dX.size)
              have hya9 := hya
              subst hya9
              clear hcase row own hne yrow hy hT hF hyx
              generalize ys.length = yl at *
              go_wp2_with fail
              go_ret
              exact ⟨by rw [hE.out]; rfl, dY⟩
            · have heq := eqPair_f hyx
              dsimp only at heq
              have hyx9 := hide hyx
              have MXA := MX.below dA
              have MTA := MT.below dA
              have dY := dX.trans (dA.mono dX.size)
              have hszA := Nat.le_trans hsz dA.size
              have ownA := ownW_below own dA
              have rowA := row.below dA
              have yrowA := yrow.below dA
              have MYA := Mut.new wr #[.int .i64 ((y.1 : Int) + 1), .int .i64 (y.2 : Int)] 105
              have hbyA : w.heap.size + 3 ≤ wr.heap.size := by omega
              have hst : ApB _ _ := hne
              have hln : (ss.length : Int) ≤ 30 := by omega
              have hya9 := hya
              subst hya9
              clear hyx hcase row own hne yrow hy MX MT hT hF
              go_wp2_with fail
              generalize hW1 : wr.alloc (.cells #[.int .i64 ((y.1 : Int) + 1), .int .i64 (y.2 : Int)] 105) = W1 at *
              have hby : wr.heap.size < W1.heap.size := MYA.1
              generalize hbyy : wr.heap.size = by0 at *
              go_loopw [11, 38] (fun x y' wq => ∃ q : Nat, y' = .int .i64 q ∧ x = .bool (pB (y ∈ ss.take q)) ∧ q ≤ ss.length ∧ Below W1.heap.size W1 wq) (fun _ y' _ => ss.length - (intOf y').toNat)
              case atStart => exact ⟨0, rfl, by rw [pB_f (by simp)], Nat.zero_le _, Below.refl _ _⟩
              case round =>
                obtain ⟨q, rfl, rfl, hq, hb⟩ := hrel
                have MY := MYA.below hb
                have m0 := MY.2.1 0 _ rfl
                have m1 := MY.2.1 1 _ rfl
                by_cases hqt : q < ss.length
                · have hqt' : (q : Int) < (ss.length : Int) := by omega
                  obtain ⟨s, hs⟩ : ∃ s, ss[q]? = some s := ⟨_, List.getElem?_eq_getElem hqt⟩
                  obtain ⟨g, go, hga, hgl, g1, g2⟩ := row_pair (rowA.below hb) hs
                  have hga9 := hga
                  subst hga9
                  have htk : Hid (∀ u, u ∈ ss.take (q + 1) ↔ u ∈ ss.take q ∨ u = s) := fun u => by
                    rw [List.take_add_one, hs]
                    simp
                  have dO : Below wr.heap.size wr (wr.alloc (.cells #[.int .i64 ((s.1 : Int) + 1), .int .i64 (s.2 : Int)] 105)) := below_box (Below.refl _ _)
                  have mO0 := (dO.cell (p := ⟨by0, 0, none⟩) MY.1).trans m0
                  have mO1 := (dO.cell (p := ⟨by0, 1, none⟩) MY.1).trans m1
                  have hbO := hb.trans (dO.mono hb.size)
                  by_cases hm : y ∈ ss.take q
                  · have hn : Hid (true = pB (y ∈ ss.take (q + 1))) := (pB_t ((htk.out y).2 (.inl hm))).symm
                    rw [pB_t hm]
                    clear heq hs htk hm m0 m1 hI hed hzm hy9 hyx9 hNx9 hst
                    generalize ss.length = sl at *
                    go_wp2_with fail
                    exact ⟨⟨q + 1, by go_num, by rw [← hn.out], by omega, hbO⟩, by simp [intOf]; omega⟩
                  · rw [pB_f hm]
                    by_cases hsy : s = y
                    · have hn : Hid (true = pB (y ∈ ss.take (q + 1))) := (pB_t ((htk.out y).2 (.inr hsy.symm))).symm
                      have heq2 := eqPair_t hsy
                      clear heq hs htk hm m0 m1 hI hed hzm hy9 hyx9 hNx9 hst hsy
                      generalize ss.length = sl at *
                      go_wp2_with fail
                      exact ⟨⟨q + 1, by go_num, by rw [← hn.out], by omega, hbO⟩, by simp [intOf]; omega⟩
                    · have hn : Hid (false = pB (y ∈ ss.take (q + 1))) := (pB_f (fun h => by
                        rcases (htk.out y).1 h with h | h
                        · exact hm h
                        · exact hsy h.symm)).symm
                      have heq2 := eqPair_f hsy
                      clear heq hs htk hm m0 m1 hI hed hzm hy9 hyx9 hNx9 hst hsy
                      generalize ss.length = sl at *
                      go_wp2_with fail
                      exact ⟨⟨q + 1, by go_num, by rw [← hn.out], by omega, hbO⟩, by simp [intOf]; omega⟩
                · have hqt' : ¬ (q : Int) < (ss.length : Int) := by omega
                  obtain rfl : q = ss.length := by omega
                  rw [List.take_of_length_le (Nat.le_refl _)]
                  have dZ := dY.trans (hb.mono dY.size)
                  have ownZ := ownW_below ownA hb
                  have yrowZ := yrowA.below hb
                  have MXZ := MXA.below hb
                  have MTZ := MTA.below hb
                  have hszZ := Nat.le_trans hszA hb.size
                  by_cases hm : y ∈ ss
                  · rw [pB_t hm]
                    have hN : Hid (SnI N U (v, k) ss i ∧ ss[i]? = some z ∧ SnP (v, k) ss ys (j + 1)) := ⟨hI.out.1, hI.out.2.1, hI.out.2.2.keep hy9.out hyx9.out hm⟩
                    clear heq hm m0 m1 hI hed hzm hy9 hyx9 hNx9
                    go_wp2_with fail
                    exact ⟨⟨j + 1, ss, by go_num, by omega, ownZ, hst, yrowZ, hN, MXZ, MTZ, dZ, hszZ⟩, by simp [intOf]; omega⟩
                  · rw [pB_f hm]
                    have hN : Hid (SnI N U (v, k) (ss ++ [y]) i ∧ (ss ++ [y])[i]? = some z ∧ SnP (v, k) (ss ++ [y]) ys (j + 1)) := ⟨hI.out.1.put hG9.out (by omega) hzm hed.out hm, by rw [List.getElem?_append_left hil]; exact hI.out.2.1, hI.out.2.2.put hy9.out hyx9.out⟩
                    have hcl : Hid (pcs (ss ++ [y]) = pcs ss ++ [.int .i64 ((y.1 : Int) + 1), .int .i64 (y.2 : Int)]) := pcs_app ss y
                    have hll : Hid ((ss ++ [y]).length = ss.length + 1) := by show _ = _; simp
                    have h1c : Hid (∀ x ∈ [Value.int .i64 ((y.1 : Int) + 1), .int .i64 (y.2 : Int)], x.oneCell' = true) := pcl_one y
                    have hlen9 : Hid (ss.length + 1 ≤ 8589934593) := by show _ ≤ _; omega
                    have dC : Below wr.heap.size wr (wr.alloc (.cells #[.int .i64 ((y.1 : Int) + 1), .int .i64 (y.2 : Int)] 105)) := below_box (Below.refl _ _)
                    have ownC := ownW_below ownZ dC
                    have RC := RowW.mut (Mut.new wr #[.int .i64 ((y.1 : Int) + 1), .int .i64 (y.2 : Int)] 105)
                    have hbC : w.heap.size + 3 ≤ (wr.alloc (.cells #[.int .i64 ((y.1 : Int) + 1), .int .i64 (y.2 : Int)] 105)).heap.size := Nat.le_trans (by omega) dC.size
                    have yrowC := yrowZ.below dC
                    have MXC := MXZ.below dC
                    have MTC := MTZ.below dC
                    have dD := dZ.trans (dC.mono dZ.size)
                    have hszC := Nat.le_trans hszZ dC.size
                    have hybC : yb < wr.heap.size := Nat.lt_of_lt_of_le (Nat.lt_trans (by omega) hby) hb.size
                    clear heq hm hI hed hzm hy9 hyx9 hNx9 ownZ yrowZ MXZ MTZ dZ hszZ
                    generalize hys2 : ss ++ [y] = ss2 at *
                    generalize hxs : pcs ss = xs at *
                    generalize hsl : ss.length = sl at *
                    clear hys2 hxs
                    go_wp2_with (first | (at_builtin; refine wpList_appW aggPr rfl _ _ rfl (w.heap.size + 3) _ sl xs rfl ownC wr.heap.size 0 1 1 [.int .i64 ((y.1 : Int) + 1), .int .i64 (y.2 : Int)] rfl rfl RC h1c.out hlen9.out (by decide) hbC ?_; intro v9 w9 own9 b9 gr9 ob9))
                    have on9 : OnlyP (fun q => (Value.slice va sl vc).ownBlock = some q) _ w9 := OnlyP.of_grown gr9 (fun q hq => hq)
                    have yrow9 := yrowC.onlyP on9 (fun b' off' hb' hq => hst b' hq off' hb')
                    have hst9 : ApB v9 (some ⟨yb, yo, none⟩) := fun b' hb' off' he => by
                      rcases ob9 with e | e
                      · rw [e] at hb'; exact hst b' hb' off' he
                      · rw [e] at hb'
                        simp only [Option.some.injEq, Addr.mk.injEq, and_true] at he hb'
                        have : (wr.alloc (.cells #[.int .i64 ((y.1 : Int) + 1), .int .i64 (y.2 : Int)] 105)).heap.size = wr.heap.size + 1 := by simp
                        omega
                    have M9 := MXC.base (show w.heap.size < w.heap.size + 3 by omega) b9
                    have T9 := MTC.base (show w.heap.size + 2 < w.heap.size + 3 by omega) b9
                    have D9 := dD.trans (b9.mono (by omega))
                    have hs9 := Nat.le_trans hszC b9.size
                    exact ⟨⟨j + 1, ss2, by go_num, by omega, by rw [hll.out, hcl.out]; exact own9, hst9, yrow9, hN, M9, T9, D9, hs9⟩, by simp [intOf]; omega⟩
          · have hjt' : ¬ (j : Int) < (ys.length : Int) := by omega
            obtain rfl : j = ys.length := by omega
            have hN := hide (hI.out.1.next hI.out.2.1 hNx9.out hI.out.2.2)
            clear hI yrow hne hT hF
            generalize ys.length = yl at *
            go_wp2_with fail
            exact ⟨⟨i + 1, ss, by go_num, by omega, own, hN, MX, MT, dX, hsz⟩, by simp [intOf]; omega⟩
    · have hlt' : ¬ (i : Int) < (ss.length : Int) := by omega
      obtain rfl : i = ss.length := by omega
      have hE := hide (hF.out hI.out.done)
      clear hcase row c0
      generalize ss.length = n at *
      go_wp2_with fail
      go_ret
      exact ⟨by rw [hE.out]; rfl, dX⟩
end Go.Proofs.Ytcnlabedlcmilaa
