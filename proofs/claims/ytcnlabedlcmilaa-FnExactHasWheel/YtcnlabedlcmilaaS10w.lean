/- The pairs to which a pair leads, by the specification. -/
import Derived.Test.YtcnlabedlcmilaaG10
import Derived.Test.YtcnlabedlcmilaaWheel10
import Derived.Test.YtcnlabedlcmilaaMemW
import Derived.Deep.RegionHeld3
import Derived.Deep.RegionLaw
namespace Go.Proofs.Ytcnlabedlcmilaa
open Go.RowKit

/-- A pair's cells. -/
def pcl (y : Nat × Nat) : List Value := [.int .i64 ((y.1 : Int) + 1), .int .i64 (y.2 : Int)]
def pcs (ys : List (Nat × Nat)) : List Value := (ys.map pcl).flatten
theorem pcs_app (ys : List (Nat × Nat)) (y : Nat × Nat) : pcs (ys ++ [y]) = pcs ys ++ pcl y := by simp [pcs]
theorem pcs_at : ∀ {ys : List (Nat × Nat)} {j : Nat} {y : Nat × Nat}, ys[j]? = some y → (pcs ys)[2 * j]? = some (.int .i64 ((y.1 : Int) + 1)) ∧ (pcs ys)[2 * j + 1]? = some (.int .i64 (y.2 : Int))
  | [], j, y, h => by simp at h
  | z :: zs, 0, y, h => by
    simp at h
    subst h
    exact ⟨rfl, rfl⟩
  | z :: zs, j + 1, y, h => by
    have h' : zs[j]? = some y := by simpa using h
    obtain ⟨h1, h2⟩ := pcs_at h'
    have e : pcs (z :: zs) = .int .i64 ((z.1 : Int) + 1) :: .int .i64 (z.2 : Int) :: pcs zs := rfl
    rw [e]
    exact ⟨by rw [show 2 * (j + 1) = 2 * j + 1 + 1 by omega]; simpa using h1, by rw [show 2 * (j + 1) + 1 = 2 * j + 1 + 1 + 1 by omega]; simpa using h2⟩
theorem pcl_one (y : Nat × Nat) : ∀ u ∈ pcl y, u.oneCell' = true := by
  intro u hu
  simp only [pcl, List.mem_cons, List.not_mem_nil, or_false] at hu
  rcases hu with rfl | rfl <;> rfl
theorem RowInt.drp {b off n : Nat} {p : Lc} {w : World} (i : Nat) (hn : p.n = n) (h : RowInt (some ⟨b, off, none⟩) n p.f w) : RowInt (some ⟨b, off + i, none⟩) (drp p i).n (drp p i).f w := by
  intro j hj
  have hj' : i + j < n := by have : (Go.Proofs.Ytcnlabedlcmilaa.drp p i).n = p.n - i := rfl; omega
  obtain ⟨b', off', hab, hb, h0⟩ := h (i + j) hj'
  simp only [Option.some.injEq, Addr.mk.injEq, and_true] at hab
  obtain ⟨rfl, rfl⟩ := hab
  exact ⟨b, off + i, rfl, hb, by rw [Nat.add_assoc]; exact h0⟩
/-- What the first K paths lead to, and the numbers ahead of I of the next one. -/
def NxS (U : Nat → Pl) (v K I : Nat) (y : Nat × Nat) : Prop := ∃ k, (k < K ∧ ∃ i, 1 ≤ i ∧ i + 1 < ((U v).T k).n ∧ ((U v).T k).f i = (y.1 : Int) + 1 ∧ rk U y.1 (drp ((U v).T k) i) = (y.2 : Int)) ∨ (k = K ∧ ∃ i, i < I ∧ 1 ≤ i ∧ i + 1 < ((U v).T k).n ∧ ((U v).T k).f i = (y.1 : Int) + 1 ∧ rk U y.1 (drp ((U v).T k) i) = (y.2 : Int))
theorem nxS_zero (U : Nat → Pl) (v : Nat) (y : Nat × Nat) : ¬ NxS U v 0 1 y := by
  rintro ⟨k, ⟨h, _⟩ | ⟨_, i, h1, h2, _⟩⟩ <;> omega
theorem nxS_next {U : Nat → Pl} {v K I : Nat} {y z : Nat × Nat} (h1 : 1 ≤ I) (h2 : I + 1 < ((U v).T K).n) (hz1 : ((U v).T K).f I = (z.1 : Int) + 1) (hz2 : rk U z.1 (drp ((U v).T K) I) = (z.2 : Int)) : NxS U v K (I + 1) y ↔ NxS U v K I y ∨ y = z := by
  constructor
  · rintro ⟨k, h | ⟨rfl, i, g1, g2, g3, g4, g5⟩⟩
    · exact .inl ⟨k, .inl h⟩
    · by_cases e : i = I
      · subst e
        refine .inr (Prod.ext ?_ ?_)
        · omega
        · have e1 : y.1 = z.1 := by omega
          rw [e1] at g5
          omega
      · exact .inl ⟨k, .inr ⟨rfl, i, by omega, g2, g3, g4, g5⟩⟩
  · rintro (⟨k, h | ⟨rfl, i, g1, g⟩⟩ | rfl)
    · exact ⟨k, .inl h⟩
    · exact ⟨k, .inr ⟨rfl, i, by omega, g⟩⟩
    · exact ⟨K, .inr ⟨rfl, I, by omega, h1, h2, hz1, hz2⟩⟩
theorem nxS_row {U : Nat → Pl} {v K I : Nat} {y : Nat × Nat} (h2 : ((U v).T K).n ≤ I + 1) : NxS U v K I y ↔ NxS U v (K + 1) 1 y := by
  constructor
  · rintro ⟨k, ⟨g, h⟩ | ⟨rfl, i, g1, g⟩⟩
    · exact ⟨k, .inl ⟨by omega, h⟩⟩
    · exact ⟨k, .inl ⟨by omega, i, g⟩⟩
  · rintro ⟨k, ⟨g, i, h⟩ | ⟨rfl, i, g1, g2, _⟩⟩
    · by_cases e : k = K
      · subst e
        exact ⟨k, .inr ⟨rfl, i, by omega, h⟩⟩
      · exact ⟨k, .inl ⟨by omega, i, h⟩⟩
    · omega
theorem nxS_edg {U : Nat → Pl} {v k : Nat} {y : Nat × Nat} : NxS U v (k + 1) 1 y ↔ Edg U (v, k) y := by
  constructor
  · rintro ⟨q, ⟨g, i, h⟩ | ⟨_, i, g1, g2, _⟩⟩
    · exact ⟨q, by show q ≤ k; omega, i, h⟩
    · omega
  · rintro ⟨q, hq, i, h⟩
    have hq' : q ≤ k := hq
    exact ⟨q, .inl ⟨by omega, i, h⟩⟩
/-- All pairs to which a pair leads. -/
def NxL (U : Nat → Pl) (v k : Nat) (ys : List (Nat × Nat)) : Prop := ∀ y, y ∈ ys ↔ Edg U (v, k) y
theorem aggPr : AggT Try.prog 163 105 (.agg #[.int .i64 0, .int .i64 0]) 2 16 := ⟨Try.underlying163, by kernel_rfl, rfl, by decide⟩
set_option maxRecDepth 100000 in
set_option maxHeartbeats 3200000 in
theorem s_next10 (a : Option Addr) (N c : Nat) (U : Nat → Pl) (v k : Nat) (w : World) (hG : GS N U) (hv : v < N) (hk : k < (U v).n) (hR : RowK3 a N U w) :
    Calls Try.prog 130 #[.agg #[.slice a N c], .agg #[.int .i64 ((v : Int) + 1), .int .i64 (k : Int)]] w fun e w' => ∃ (vv : Value) (ys : List (Nat × Nat)), e = .returned vv ∧ OwnW 105 2 (w.heap.size + 2) vv ys.length (pcs ys) w' ∧ NxL U v k ys ∧ ys.length ≤ 60 ∧ Below w.heap.size w w' := by
  have hNN := hG.2.1
  have hN5 : (N : Int) ≤ 5 := by omega
  have hlow := hG.low v hv
  have hm6 := hlow.1
  have dX : Below w.heap.size w ((w.alloc (.cells #[.slice a N c] 27)).alloc (.cells #[.int .i64 ((v : Int) + 1), .int .i64 (k : Int)] 105)) := below_box2 (Below.refl _ _)
  have MX := (Mut.new w #[.slice a N c] 27).alloc (.cells #[.int .i64 ((v : Int) + 1), .int .i64 (k : Int)] 105)
  have MY := Mut.new (w.alloc (.cells #[.slice a N c] 27)) #[.int .i64 ((v : Int) + 1), .int .i64 (k : Int)] 105
  obtain ⟨b, off, a0, q0, ha, hbw, u0, hq0, ht⟩ := hR v hv
  subst ha
  replace u0 := cell_regrown ((dX.cell (p := ⟨b, off + v, none⟩) hbw).trans u0)
  have c0 := cell_regrown (MX.2.1 0 _ rfl)
  have c1 := cell_regrown (MY.2.1 0 _ rfl)
  have c2 := cell_regrown (MY.2.1 1 _ rfl)
  simp only [World.size_alloc] at c1 c2
  have hv' : (v : Int) < (N : Int) := by omega
  have e1 : (v : Int) + 1 - 1 = (v : Int) := by omega
  have e2 : (k : Int) + 1 = ((k + 1 : Nat) : Int) := by omega
  have hk6 : ((k + 1 : Nat) : Int) ≤ 6 := by omega
  have hkc : ((k + 1 : Nat) : Int) ≤ (q0 : Int) := by omega
  have AT := hide (fun u x pa pc p w hx hu hp R P => s_at10 (some ⟨b, off, none⟩) N c U u x pa pc p w (by omega) hx hu (hG.lowS u hu).1 (hG.lowS u hu).2 hp R P)
  have hSuf := hide (fun k' (hk' : k' < (U v).n) => suf hG hv hk')
  have hWay := hide (fun k' (hk' : k' < (U v).n) => And.intro ((hG.2.2 v hv).2 k' hk').1.1 (hlow.2 k' hk'))
  generalize hkk : k + 1 = k1 at *
  have hk1 : k1 ≤ (U v).n := by omega
  have hfin : Hid (∀ y, NxS U v k1 1 y ↔ Edg U (v, k) y) := fun y => by rw [← hkk]; exact nxS_edg
  generalize hmn : (U v).n = m at *
  have hsz2 : w.heap.size + 2 ≤ ((w.alloc (.cells #[.slice (some ⟨b, off, none⟩) N c] 27)).alloc (.cells #[.int .i64 ((v : Int) + 1), .int .i64 (k : Int)] 105)).heap.size := by simp
  clear hG hlow MY
  go_enter Try.func130, Try.ntmps130
  go_wp2_with fail
  generalize (w.alloc (.cells #[.slice (some ⟨b, off, none⟩) N c] 27)).alloc (.cells #[.int .i64 ((v : Int) + 1), .int .i64 (k : Int)] 105) = wx at *
  have dz : Below wx.heap.size wx wx := Below.refl _ _
  refine wp_region_quiet_below (by kernel_rfl) (by kernel_rfl) ?_
  repeat (first | go_big_quiet_step (fail) | quiet_step (fail))
  refine wpQuiet_nil ?_
  intro _ hw'
  obtain ⟨⟨dq_, osq_⟩, hw''⟩ := hw'
  subst hw''
  have hq_ := below_regrown wx dq_ osq_
  generalize Go.Sort.grow (redrawn wx dq_) osq_ = wdq at hq_ ⊢
  have dq := dz.trans (hq_.mono dz.size)
  clear hq_ u0 c0 c1 c2
  have D0 := dX.trans (dq.mono dX.size)
  have M0 := MX.below dq
  have hs0 := Nat.le_trans hsz2 dq.size
  clear dq dX MX dz hsz2
  go_wp2_with fail
  go_loopw [5, 21] (fun x y wr => ∃ (K : Nat) (ys : List (Nat × Nat)), y = .int .i64 K ∧ K ≤ k1 ∧ OwnW 105 2 (w.heap.size + 2) x ys.length (pcs ys) wr ∧ Hid (∀ y, y ∈ ys ↔ NxS U v K 1 y) ∧ ys.length ≤ K * 6 ∧ Mut wr w.heap.size [.slice (some ⟨b, off, none⟩) N c] ∧ Below w.heap.size w wr ∧ w.heap.size + 2 ≤ wr.heap.size) (fun _ y _ => k1 - (intOf y).toNat)
  case atStart => exact ⟨0, [], rfl, Nat.zero_le _, ownW_nil _ _ _ _, fun y => ⟨fun h => by simp at h, fun h => absurd h (nxS_zero U v y)⟩, by simp, M0, D0, hs0⟩
  case round =>
    clear M0 D0 hs0
    obtain ⟨K, ys, rfl, hK, own, hmem, hlen, MX, dX, hsz⟩ := hrel
    by_cases hlt : K < k1
    · have hlt' : (K : Int) < (k1 : Int) := by omega
      obtain ⟨b1, off1, a1, c1, rfl, hb1, u1, hc1, ht1⟩ := ht K (by omega)
      replace u1 := (dX.cell (p := ⟨b1, off1 + K, none⟩) hb1).trans u1
      obtain ⟨hp2, hp6⟩ := hWay.out K (by omega)
      obtain ⟨b2, off2, rfl, hb2, _⟩ := ht1 0 (by omega)
      have hS := hide (hSuf.out K (by omega))
      have hrow : Hid (∀ I y, ((U v).T K).n ≤ I + 1 → (NxS U v K I y ↔ NxS U v (K + 1) 1 y)) := fun I y h => nxS_row h
      have hnx : Hid (∀ I z, 1 ≤ I → I + 1 < ((U v).T K).n → ((U v).T K).f I = ((z : Nat × Nat).1 : Int) + 1 → rk U z.1 (drp ((U v).T K) I) = (z.2 : Int) → ∀ y, (NxS U v K (I + 1) y ↔ NxS U v K I y ∨ y = z)) := fun I z h1 h2 h3 h4 y => nxS_next h1 h2 h3 h4
      generalize hp : (U v).T K = p at *
      have hpn1 : (p.n : Int) ≤ 6 := by omega
      go_wp2_with fail
      clear u1
      go_loopw [5, 8] (fun x y wr => ∃ (I : Nat) (ys : List (Nat × Nat)), y = .int .i64 I ∧ 1 ≤ I ∧ I + 1 ≤ p.n ∧ OwnW 105 2 (w.heap.size + 2) x ys.length (pcs ys) wr ∧ Hid (∀ y, y ∈ ys ↔ NxS U v K I y) ∧ ys.length ≤ K * 6 + I ∧ Mut wr w.heap.size [.slice (some ⟨b, off, none⟩) N c] ∧ Below w.heap.size w wr ∧ w.heap.size + 2 ≤ wr.heap.size) (fun _ y _ => p.n - (intOf y).toNat)
      case atStart => exact ⟨1, ys, rfl, Nat.le_refl _, by omega, own, hmem, by omega, MX, dX, hsz⟩
      case round =>
        clear own hmem hlen MX dX hsz
        obtain ⟨I, ys, rfl, hI1, hIn, own, hmem, hlen, MX, dX, hsz⟩ := hrel
        have c0 := MX.2.1 0 _ rfl
        by_cases hit : I + 1 < p.n
        · have hit' : (I : Int) < (p.n : Int) - 1 := by omega
          have hip : (I : Int) < (p.n : Int) := by omega
          have hipl : (I : Int) ≤ (p.n : Int) := by omega
          have hpc : (p.n : Int) ≤ (c1 : Int) := by omega
          have hci : c1 ≠ I := by omega
          obtain ⟨u, m', h1, h2, h3, h4, h5⟩ := hS.out I hI1 hit
          have AA := hide (fun w R P => AT.out u (p.f I) (some ⟨b2, off2 + I, none⟩) (c1 - I) (drp p I) w h2 h1 (by show p.n - I ≤ _; omega) R P)
          rw [h4] at AA
          have dpn : (drp p I).n = p.n - I := rfl
          have PW := RowInt.drp I rfl (ht1.below dX)
          rw [dpn] at AA PW
          clear dpn
          have RW := hR.below dX
          obtain ⟨b3, off3, hab, hb3, x0⟩ := (ht1.below dX) I (by omega)
          simp only [Option.some.injEq, Addr.mk.injEq, and_true] at hab
          obtain ⟨rfl, rfl⟩ := hab
          have hN := hide (hnx.out I (u, m') hI1 hit h2 h4)
          have hmem2 : Hid (∀ y, y ∈ ys ++ [(u, m')] ↔ NxS U v K (I + 1) y) := fun y => by
            rw [hN.out y, ← hmem.out y]; simp
          have hcl : Hid (pcs (ys ++ [(u, m')]) = pcs ys ++ [.int .i64 (p.f I), .int .i64 (m' : Int)]) := by
            show _ = _
            rw [pcs_app, h2]; rfl
          have hll : Hid ((ys ++ [(u, m')]).length = ys.length + 1) := by show _ = _; simp
          have h1c : Hid (∀ x ∈ [Value.int .i64 (p.f I), .int .i64 (m' : Int)], x.oneCell' = true) := fun x hx => by
            simp only [List.mem_cons, List.not_mem_nil, or_false] at hx
            rcases hx with rfl | rfl <;> rfl
          have hlen9 : Hid (ys.length + 1 ≤ 8589934593) := by show _ ≤ _; omega
          have hlo : ys.length + 1 ≤ K * 6 + (I + 1) := by omega
          have hb2w : b2 < wr.heap.size := Nat.lt_of_lt_of_le hb2 dX.size
          have hsw : w.heap.size < wr.heap.size := by omega
          clear hN hmem hlen h2 h4 h5 hS hnx hWay hSuf hrow
          generalize p.f I = xI at *
          generalize p.n = pn at *
          generalize hxs : pcs ys = xs at *
          generalize hnn : ys.length = n at *
          generalize hys : ys ++ [(u, m')] = ys2 at *
          clear hxs hnn hys
          go_wp2_with fail
          have hkW : wr.cell? ⟨w.heap.size, 0, none⟩ = some (.slice (some ⟨b, off, none⟩) N c) ∧ wr.cell? ⟨b2, off2 + I, none⟩ = some (.int .i64 xI) := ⟨c0, x0⟩
          go_region_held3 (fun w' => w'.cell? ⟨w.heap.size, 0, none⟩ = some (.slice (some ⟨b, off, none⟩) N c) ∧ w'.cell? ⟨b2, off2 + I, none⟩ = some (.int .i64 xI)) (first | with_reducible exact hk9 | with_reducible exact hkC | with_reducible exact hkW | go_keep)
            (first
              | (go_at_call 68; refine (AA.out _ (by first | with_reducible exact RW | exact RW.below (Below.refl _ _).drew) (by first | with_reducible exact PW | exact PW.below (Below.refl _ _).drew)).mono ?_; rintro e wC ⟨rfl, bC⟩; have dC : Below wr.heap.size wr wC := (by first | exact bC | exact below_drew0 bC); have hkC : wC.cell? ⟨w.heap.size, 0, none⟩ = some (.slice (some ⟨b, off, none⟩) N c) ∧ wC.cell? ⟨b2, off2 + I, none⟩ = some (.int .i64 xI) := ⟨(dC.cell (p := ⟨w.heap.size, 0, none⟩) hsw).trans c0, (dC.cell (p := ⟨b2, off2 + I, none⟩) hb2w).trans x0⟩; have ownC := ownW_below own dC; have hbC := Nat.le_trans hsz dC.size)
              | (have hq := ownC; refine step_appW aggPr (by rfl) _ _ (by rfl) (w.heap.size + 2) u5 n xs (by rfl) (by first | with_reducible exact ownW_below ownC (below_box (Below.refl _ _)) | with_reducible exact ownW_below ownC (below_box (Below.refl _ _)).drew) wC.heap.size 0 1 1 [.int .i64 xI, .int .i64 (m' : Int)] (by rfl) (by rfl) (by first | with_reducible exact RowW.mut (Mut.new wC _ _) | with_reducible exact (RowW.mut (Mut.new wC _ _)).below (Below.refl _ _).drew) h1c.out hlen9.out (by decide) (by first | exact Nat.le_trans hbC (below_box (Below.refl _ _)).size | (simp; omega)) ?_; intro v9 w9 own9 b9 _ _; have d9 : Below (w.heap.size + 2) wC w9 := (by first | exact ((below_box (Below.refl _ _)).mono hbC).trans b9 | exact (((below_box (Below.refl _ _)).drew).mono hbC).trans b9); have hk9 : w9.cell? ⟨w.heap.size, 0, none⟩ = some (.slice (some ⟨b, off, none⟩) N c) ∧ w9.cell? ⟨b2, off2 + I, none⟩ = some (.int .i64 xI) := ⟨(d9.cell (p := ⟨w.heap.size, 0, none⟩) (show w.heap.size < w.heap.size + 2 by omega)).trans hkC.1, (d9.cell (p := ⟨b2, off2 + I, none⟩) (show b2 < w.heap.size + 2 by omega)).trans hkC.2⟩))
          all_goals
            have D9 : Below w.heap.size w w9 := (dX.trans (dC.mono dX.size)).trans (d9.mono (by omega))
            have M9 := (MX.below dC).base (show w.heap.size < w.heap.size + 2 by omega) d9
            have hs9 : w.heap.size + 2 ≤ w9.heap.size := Nat.le_trans hbC d9.size
            clear hk9 hkC hkW c0 x0 d9 b9 dC ownC own
            go_wp2_with fail
            exact ⟨⟨I + 1, ys2, by go_num, by omega, by omega, by rw [hll.out, hcl.out]; exact own9, hmem2, by rw [hll.out]; exact hlo, M9, D9, hs9⟩, by simp [intOf]; omega⟩
        · have hit' : ¬ (I : Int) < (p.n : Int) - 1 := by omega
          have hN : Hid (∀ y, y ∈ ys ↔ NxS U v (K + 1) 1 y) := fun y => by rw [hmem.out y]; exact hrow.out I y (by omega)
          have hlo : ys.length ≤ (K + 1) * 6 := by omega
          clear hmem hrow hnx c0
          generalize p.n = pn at *
          go_wp2_with fail
          exact ⟨⟨K + 1, ys, by go_num, by omega, own, hN, hlo, MX, dX, hsz⟩, by simp [intOf]; omega⟩
    · have hlt' : ¬ (K : Int) < (k1 : Int) := by omega
      obtain rfl : K = k1 := by omega
      have hN : Hid (∀ y, y ∈ ys ↔ Edg U (v, k) y) := fun y => by rw [hmem.out y]; exact hfin.out y
      go_wp2_with fail
      go_ret
      exact ⟨_, rfl, ys, own, hN.out, by omega, dX⟩
end Go.Proofs.Ytcnlabedlcmilaa
