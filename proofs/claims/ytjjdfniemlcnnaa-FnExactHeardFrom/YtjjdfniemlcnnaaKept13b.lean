/- Rows as they are worked with, their offers as they lay in an older world. -/
import Derived.Test.YtjjdfniemlcnnaaAll8
import Derived.Test.YtjjdfniemlcnnaaPlain13b
namespace Go.Proofs.Ytjjdfniemlcnnaa
open Go.RowKit

/-- Rows that lie now, and whose offers lay in w00. -/
def RowRT (a : Option Addr) (m : Nat) (U : Nat → Rc) (w00 w : World) : Prop := ∀ i, i < m → ∃ (b off : Nat) (a0 : Option Addr) (c0 : Nat), a = some ⟨b, off, none⟩ ∧ b < w.heap.size ∧ w.cell? ⟨b, off + i * 3, none⟩ = some (.int .i64 (U i).ad) ∧ w.cell? ⟨b, off + i * 3 + 1, none⟩ = some (.int .i64 (U i).ln) ∧ w.cell? ⟨b, off + i * 3 + 2, none⟩ = some (.slice a0 (U i).n c0) ∧ RowOS a0 (U i).n (U i).T w00
theorem RowRT.below {a : Option Addr} {m : Nat} {U : Nat → Rc} {w00 w w' : World} (h : RowRT a m U w00 w) (k : Below w.heap.size w w') : RowRT a m U w00 w' := by
  intro i hi
  obtain ⟨b, off, a0, c0, ha, hb, h0, h1, h2, ht⟩ := h i hi
  obtain ⟨hc, _⟩ := bcell k
  exact ⟨b, off, a0, c0, ha, Nat.lt_of_lt_of_le hb k.size, (hc _ _ hb).trans h0, (hc _ _ hb).trans h1, (hc _ _ hb).trans h2, ht⟩
theorem RowRT.row {a : Option Addr} {m : Nat} {U : Nat → Rc} {w00 w : World} (h : RowRT a m U w00 w) (k : Below w00.heap.size w00 w) : RowR a m U w := by
  intro i hi
  obtain ⟨b, off, a0, c0, ha, hb, h0, h1, h2, ht⟩ := h i hi
  exact ⟨b, off, a0, c0, ha, hb, h0, h1, h2, ht.row.below k⟩
def KeptS (n : Nat) (U : Nat → Rc) (L : List Kr) (w : World) : Prop := L.length = n ∧ ∀ i, i < n → (jAt L i).1 = (U i).ad ∧ (jAt L i).2.1 = (U i).ln ∧ (jAt L i).2.2.2.1 = (U i).n ∧ RowOS (jAt L i).2.2.1 (U i).n (U i).T w
theorem KeptS.row {n : Nat} {U : Nat → Rc} {L : List Kr} {a : Option Addr} {w00 w : World} (h : KeptS n U L w00) (hR : RowJ a L w) : RowRT a n U w00 w := by
  intro i hi
  obtain ⟨b, off, ha, hb, c0, c1, c2⟩ := hR i (by rw [h.1]; exact hi)
  obtain ⟨e0, e1, e2, hO⟩ := h.2 i hi
  rw [e0] at c0
  rw [e1] at c1
  rw [e2] at c2
  exact ⟨b, off, _, _, ha, hb, c0, c1, c2, hO⟩
theorem rowRS_list {a : Option Addr} {n : Nat} {U : Nat → Rc} {w : World} (h : RowRS a n U w) : ∃ L, KeptS n U L w ∧ RowJ a L w := by
  have : ∀ i, ∃ q : Option Addr × Nat, i < n → ∃ (b off : Nat), a = some ⟨b, off, none⟩ ∧ b < w.heap.size ∧ w.cell? ⟨b, off + i * 3, none⟩ = some (.int .i64 (U i).ad) ∧ w.cell? ⟨b, off + i * 3 + 1, none⟩ = some (.int .i64 (U i).ln) ∧ w.cell? ⟨b, off + i * 3 + 2, none⟩ = some (.slice q.1 (U i).n q.2) ∧ RowOS q.1 (U i).n (U i).T w := by
    intro i
    by_cases hi : i < n
    · obtain ⟨b, off, a0, c0, r⟩ := h i hi
      exact ⟨(a0, c0), fun _ => ⟨b, off, r⟩⟩
    · exact ⟨(none, 0), fun e => absurd e hi⟩
  obtain ⟨q, hq⟩ := Classical.axiomOfChoice this
  have hat : ∀ i, i < n → jAt ((List.range n).map fun i => ((U i).ad, (U i).ln, (q i).1, (U i).n, (q i).2)) i = ((U i).ad, (U i).ln, (q i).1, (U i).n, (q i).2) := fun i hi => getD_mapR _ _ _ hi
  refine ⟨(List.range n).map fun i => ((U i).ad, (U i).ln, (q i).1, (U i).n, (q i).2), ⟨by simp, fun i hi => ?_⟩, fun i hi => ?_⟩
  · rw [hat i hi]
    obtain ⟨b, off, r⟩ := hq i hi
    exact ⟨rfl, rfl, rfl, r.2.2.2.2.2⟩
  · have hi' : i < n := by simpa using hi
    rw [hat i hi']
    obtain ⟨b, off, r1, r2, r3, r4, r5, r6⟩ := hq i hi'
    exact ⟨b, off, r1, r2, r3, r4, r5⟩
theorem i_keptRowsS (ow : Int) (a : Option Addr) (n c : Nat) (U : Nat → Rc) (w00 w : World) (hn : n ≤ 1048576) (hR : RowRS a n U w00) (hb : Below w00.heap.size w00 w) :
    Calls Try.prog 37 #[.agg #[.int .i64 ow, .slice a n c]] w fun e w' => ∃ va vc, e = .returned (.slice va n vc) ∧ RowRT va n U w00 w' ∧ Below w.heap.size w w' := by
  obtain ⟨L, hK, hJ⟩ := rowRS_list hR
  refine (i_keptRows0 ow a n c L w hn hK.1 (hJ.below hb)).mono ?_
  rintro e w' ⟨v, rfl, hO, b⟩
  obtain ⟨va, vc, rfl, hJ', _⟩ := ownJ_row hO
  rw [hK.1]
  exact ⟨va, vc, rfl, hK.row hJ', b⟩
set_option maxHeartbeats 400000 in
theorem i_isSame (a l b m : Int) (w : World) :
    Calls Try.prog 84 #[.agg #[.int .i64 a, .int .i64 l], .agg #[.int .i64 b, .int .i64 m]] w fun e w' => e = .returned (.bool (a == b && l == m)) ∧ Below w.heap.size w w' := by
  have he := eqPrefix_run
  have hgu := eqPrefix_guard
  go_enter Try.func84, Try.ntmps84
  go_wp2_with fail
  go_ret
  exact ⟨rfl, below_box2 (Below.refl _ _)⟩
set_option maxRecDepth 100000 in
set_option maxHeartbeats 3200000 in
theorem i_placeOf (a : Option Addr) (n c : Nat) (U : Nat → Rc) (pa pl : Int) (w : World) (hn : n ≤ 1048576) (hg : ∀ i, i < n → goodB (U i).ad (U i).ln = true) (hp : goodB pa pl = true) (hR : RowR a n U w) :
    Calls Try.prog 72 #[.slice a n c, .agg #[.int .i64 pa, .int .i64 pl]] w fun e w' => e = .returned (.tuple #[.int .i64 (plN U n pa pl : Int), .bool (plK U n pa pl)]) ∧ Below w.heap.size w w' := by
  have hB0 : Below w.heap.size w (w.alloc (.cells #[.int .i64 pa, .int .i64 pl] 52)) := below_box (Below.refl _ _)
  have MP := Mut.new w #[.int .i64 pa, .int .i64 pl] 52
  go_enter Try.func72, Try.ntmps72
  go_wp2_with fail
  generalize w.alloc (.cells #[.int .i64 pa, .int .i64 pl] 52) = W at *
  go_loopw [10] (fun y wr => ∃ k : Nat, y = .int .i64 k ∧ k ≤ n ∧ Hid (∀ i, i < k → cmpP (U i).ad (U i).ln pa pl < 0) ∧ Below W.heap.size W wr) (fun y _ => n - (intOf y).toNat)
  case atStart => exact ⟨0, rfl, Nat.zero_le _, fun i hi => absurd hi (by omega), Below.refl _ _⟩
  case round =>
    obtain ⟨k, rfl, hk, hall, hb⟩ := hrel
    have MPr := MP.below hb
    have hbw0 := hB0.trans (hb.mono hB0.size)
    clear MP
    by_cases hlt : k < n
    · obtain ⟨b, off, a0, c0, rfl, hbw, u0, u1, u2, ht⟩ := hR k hlt
      replace u0 := (hbw0.cell (p := ⟨b, off + k * 3, none⟩) hbw).trans u0
      replace u1 := (hbw0.cell (p := ⟨b, off + k * 3 + 1, none⟩) hbw).trans u1
      replace u2 := (hbw0.cell (p := ⟨b, off + k * 3 + 2, none⟩) hbw).trans u2
      have hlt' : (k : Int) < (n : Int) := by omega
      have CPc := hide (fun w => i_isAhead (U k).ad (U k).ln pa pl w (hg k hlt) hp)
      have SM := hide (fun w => i_isSame (U k).ad (U k).ln pa pl w)
      have bX : Below wr.heap.size wr (wr.alloc (.cells #[.int .i64 (U k).ad, .int .i64 (U k).ln, .slice a0 (U k).n c0] 71)) := below_box (Below.refl _ _)
      have MX := Mut.new wr #[.int .i64 (U k).ad, .int .i64 (U k).ln, .slice a0 (U k).n c0] 71
      have MP2 := MPr.below bX
      have dX := hb.trans (bX.mono hb.size)
      have p0 := MP2.2.1 0 _ rfl
      have p1 := MP2.2.1 1 _ rfl
      have hg' := hide hg
      clear ht hR hg bX MPr
      cases hr : decide (cmpP (U k).ad (U k).ln pa pl < 0) with
      | true =>
        have hN : Hid (∀ i, i < k + 1 → cmpP (U i).ad (U i).ln pa pl < 0) := by
          intro i hi
          by_cases cc : i = k
          · rw [cc]; exact of_decide_eq_true hr
          · exact hall.out i (by omega)
        rw [hr] at CPc
        clear hall hr SM
        generalize U k = t at *
        go_wp2_with fail
        generalize wr.alloc (.cells #[.int .i64 t.ad, .int .i64 t.ln, .slice a0 t.n c0] 71) = wx at *
        refine (CPc.out _).mono ?_
        rintro e w2 ⟨rfl, b2⟩
        go_wp2_with fail
        exact ⟨⟨k + 1, by go_num, by omega, hN.out, dX.trans (b2.mono dX.size)⟩, by simp [intOf]; omega⟩
      | false =>
        have hpl := hide (pl_eq (U := U) (n := n) (a := pa) (l := pl) (k := k) ⟨hk, hall.out, fun _ => of_decide_eq_false hr⟩)
        have hkk : Hid (plK U n pa pl = ((U k).ad == pa && (U k).ln == pl)) := by
          rw [Hid, plK, hpl.out]; simp [hlt]
        rw [hr] at CPc
        clear hall hr
        generalize U k = t at *
        go_wp2_with fail
        generalize wr.alloc (.cells #[.int .i64 t.ad, .int .i64 t.ln, .slice a0 t.n c0] 71) = wx at *
        refine (CPc.out _).mono ?_
        rintro e w2 ⟨rfl, b2⟩
        have MX2 := MX.below b2
        have MP3 := MP2.below b2
        have d2 := dX.trans (b2.mono dX.size)
        clear p0 p1 b2 MX MP2 dX
        have k0 := MX2.2.1 0 _ rfl
        have k1 := MX2.2.1 1 _ rfl
        have p0 := MP3.2.1 0 _ rfl
        have p1 := MP3.2.1 1 _ rfl
        go_wp2_with fail
        refine (SM.out _).mono ?_
        rintro e w3 ⟨rfl, b3⟩
        have d3 := d2.trans (b3.mono d2.size)
        go_wp2_with fail
        go_ret2
        exact ⟨by rw [hpl.out, hkk.out]; rfl, hB0.trans (d3.mono hB0.size)⟩
    · have hlt' : ¬ (k : Int) < (n : Int) := by omega
      obtain rfl : k = n := by omega
      have hpl := hide (pl_eq (U := U) (n := k) (a := pa) (l := pl) (k := k) ⟨hk, hall.out, fun e => absurd e (by omega)⟩)
      have hkk : Hid (plK U k pa pl = false) := by
        rw [Hid, plK, hpl.out]; simp
      clear hall hR
      go_wp2_with fail
      go_ret2
      exact ⟨by rw [hpl.out, hkk.out]; rfl, hbw0⟩
end Go.Proofs.Ytjjdfniemlcnnaa
