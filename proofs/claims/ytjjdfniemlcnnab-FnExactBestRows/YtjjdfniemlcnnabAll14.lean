/- Rows as they are worked with, their offers as they lay in an older world. -/
import Derived.Test.YtjjdfniemlcnnabMemJ
import Derived.Test.YtjjdfniemlcnnabAll7
import Derived.Test.YtjjdfniemlcnnabAll11
/- keptRows of the program: rows as they are worked with. -/
namespace Go.Proofs.Ytjjdfniemlcnnab
open Go.RowKit

/-- The rows of L say what U says. -/
def KeptOf (n : Nat) (U : Nat → Rc) (L : List Kr) (w : World) : Prop := L.length = n ∧ ∀ i, i < n → (jAt L i).1 = (U i).ad ∧ (jAt L i).2.1 = (U i).ln ∧ (jAt L i).2.2.2.1 = (U i).n ∧ RowO (jAt L i).2.2.1 (U i).n (U i).T w
theorem KeptOf.below {n : Nat} {U : Nat → Rc} {L : List Kr} {w w' : World} (h : KeptOf n U L w) (b : Below w.heap.size w w') : KeptOf n U L w' :=
  ⟨h.1, fun i hi => ⟨(h.2 i hi).1, (h.2 i hi).2.1, (h.2 i hi).2.2.1, (h.2 i hi).2.2.2.below b⟩⟩
theorem KeptOf.row {n : Nat} {U : Nat → Rc} {L : List Kr} {a : Option Addr} {w : World} (h : KeptOf n U L w) (hR : RowJ a L w) : RowR a n U w := by
  intro i hi
  obtain ⟨b, off, ha, hb, c0, c1, c2⟩ := hR i (by rw [h.1]; exact hi)
  obtain ⟨e0, e1, e2, hO⟩ := h.2 i hi
  rw [e0] at c0
  rw [e1] at c1
  rw [e2] at c2
  exact ⟨b, off, _, _, ha, hb, c0, c1, c2, hO⟩
theorem getD_mapR {α : Type} (f : Nat → α) (n : Nat) (d : α) {i : Nat} (h : i < n) : ((List.range n).map f).getD i d = f i := by
  rw [List.getD_eq_getElem?_getD, List.getElem?_eq_getElem (by simpa using h)]
  simp
theorem rowR_list {a : Option Addr} {n : Nat} {U : Nat → Rc} {w : World} (h : RowR a n U w) : ∃ L, KeptOf n U L w ∧ RowJ a L w := by
  have : ∀ i, ∃ q : Option Addr × Nat, i < n → ∃ (b off : Nat), a = some ⟨b, off, none⟩ ∧ b < w.heap.size ∧ w.cell? ⟨b, off + i * 3, none⟩ = some (.int .i64 (U i).ad) ∧ w.cell? ⟨b, off + i * 3 + 1, none⟩ = some (.int .i64 (U i).ln) ∧ w.cell? ⟨b, off + i * 3 + 2, none⟩ = some (.slice q.1 (U i).n q.2) ∧ RowO q.1 (U i).n (U i).T w := by
    intro i
    by_cases hi : i < n
    · obtain ⟨b, off, a0, c0, r⟩ := h i hi
      exact ⟨(a0, c0), fun _ => ⟨b, off, r⟩⟩
    · exact ⟨(none, 0), fun e => absurd e hi⟩
  obtain ⟨q, hq⟩ := Classical.axiomOfChoice this
  have hat : ∀ i, i < n → jAt ((List.range n).map fun i => ((U i).ad, (U i).ln, (q i).1, (U i).n, (q i).2)) i = ((U i).ad, (U i).ln, (q i).1, (U i).n, (q i).2) := fun i hi => getD_mapR _ _ _ hi
  refine ⟨(List.range n).map fun i => ((U i).ad, (U i).ln, (q i).1, (U i).n, (q i).2), ⟨by simp, fun i hi => ?_⟩, fun i hi => ?_⟩
  · rw [hat i hi]
    obtain ⟨b, off, r⟩ := hq i hi
    exact ⟨rfl, rfl, rfl, r.2.2.2.2.2⟩
  · have hi' : i < n := by simpa using hi
    rw [hat i hi']
    obtain ⟨b, off, r1, r2, r3, r4, r5, r6⟩ := hq i hi'
    exact ⟨b, off, r1, r2, r3, r4, r5⟩
set_option maxRecDepth 100000 in
set_option maxHeartbeats 3200000 in
theorem i_keptRows0 (ow : Int) (a : Option Addr) (n c : Nat) (L : List Kr) (w : World) (hn : n ≤ 1048576) (hLn : L.length = n) (hJ : RowJ a L w) :
    Calls Try.prog 22 #[.agg #[.int .i64 ow, .slice a n c]] w fun e w' => ∃ v, e = .returned v ∧ OwnJ w.heap.size v L w' ∧ Below w.heap.size w w' := by
  go_enter Try.func22, Try.ntmps22
  go_wp2_with fail
  go_loopw [3, 9] (fun v y wr => ∃ k : Nat, y = .int .i64 k ∧ k ≤ n ∧ OwnJ w.heap.size v (L.take k) wr ∧ Below w.heap.size w wr) (fun _ y _ => n - (intOf y).toNat)
  case atStart => exact ⟨0, rfl, Nat.zero_le _, ownJ_nil _ _, below_box (Below.refl _ _)⟩
  case round =>
    obtain ⟨k, rfl, hk, hO, hb⟩ := hrel
    by_cases hlt : k < n
    · have hlt' : (k : Int) < (n : Int) := by omega
      obtain ⟨b, off, rfl, hbw, u0, u1, u2⟩ := hJ k (by omega)
      replace u0 := (hb.cell (p := ⟨b, off + k * 3, none⟩) hbw).trans u0
      replace u1 := (hb.cell (p := ⟨b, off + k * 3 + 1, none⟩) hbw).trans u1
      replace u2 := (hb.cell (p := ⟨b, off + k * 3 + 2, none⟩) hbw).trans u2
      have hne := hide (take_succJ (show k < L.length by omega))
      have hfl : (L.take k).length ≤ 1048576 := by rw [List.length_take]; omega
      generalize jAt L k = e at *
      generalize L.take k = M at *
      have hO2 := hide (ownJ_below hO (below_box2 (o := .cells #[.int .i64 e.1, .int .i64 e.2.1, .slice e.2.2.1 e.2.2.2.1 e.2.2.2.2] 46) (o' := .cells #[.int .i64 e.1, .int .i64 e.2.1, .slice e.2.2.1 e.2.2.2.1 e.2.2.2.2] 59) (Below.refl _ _)))
      have d2 := hide (hb.trans ((below_box2 (o := .cells #[.int .i64 e.1, .int .i64 e.2.1, .slice e.2.2.1 e.2.2.2.1 e.2.2.2.2] 46) (o' := .cells #[.int .i64 e.1, .int .i64 e.2.1, .slice e.2.2.1 e.2.2.2.1 e.2.2.2.2] 59) (Below.refl _ _)).mono hb.size))
      have hs3 := hb.size
      clear hJ hO
      go_wp2_with (first | (at_builtin; refine wpList_appJ rfl _ _ rfl w.heap.size _ M rfl hO2.out (some ⟨wr.heap.size + 1, 0, none⟩) [e] 1 rfl ⟨RowJ.one (p := e) (by simp) (by simp [go_sem]) (by simp [go_sem]) (by simp [go_sem]), .inr ⟨_, _, rfl⟩⟩ (by simp only [List.length_cons, List.length_nil]; omega) (by simp; omega) ?_))
      intro v' w4 hO4 b4 _
      go_wp2_with fail
      exact ⟨⟨k + 1, by go_num, by omega, by rw [hne.out]; exact hO4, d2.out.trans b4⟩, by simp [intOf]; omega⟩
    · have hlt' : ¬ (k : Int) < (n : Int) := by omega
      obtain rfl : k = n := by omega
      have hT : L.take k = L := by rw [List.take_of_length_le (by omega)]
      rw [hT] at hO
      clear hJ
      go_wp2_with fail
      go_ret
      exact ⟨_, rfl, hO, hb⟩
theorem i_keptRows (ow : Int) (a : Option Addr) (n c : Nat) (U : Nat → Rc) (w : World) (hn : n ≤ 1048576) (hR : RowR a n U w) :
    Calls Try.prog 22 #[.agg #[.int .i64 ow, .slice a n c]] w fun e w' => ∃ v L, e = .returned v ∧ OwnJ w.heap.size v L w' ∧ KeptOf n U L w' ∧ Below w.heap.size w w' := by
  obtain ⟨L, hK, hJ⟩ := rowR_list hR
  refine (i_keptRows0 ow a n c L w hn hK.1 hJ).mono ?_
  rintro e w' ⟨v, rfl, hO, b⟩
  exact ⟨v, L, rfl, hO, hK.below b, b⟩
set_option maxHeartbeats 400000 in
theorem i_isGoodM (a l : Int) (w : World) :
    Calls Try.prog 40 #[.agg #[.int .i64 a, .int .i64 l]] w fun e w' => e = .returned (.bool (goodB a l)) ∧ Below w.heap.size w w' := by
  have s1 := hide (fun w => i_good a l w)
  go_enter Try.func40, Try.ntmps40
  go_wp2_with fail
  refine (s1.out _).mono ?_
  rintro e w1 ⟨rfl, hb1⟩
  go_wp2_with fail
  go_ret
  exact ⟨rfl, below_box hb1⟩
set_option maxHeartbeats 400000 in
theorem i_isAhead (a l b m : Int) (w : World) (hg1 : goodB a l = true) (hg2 : goodB b m = true) :
    Calls Try.prog 42 #[.agg #[.int .i64 a, .int .i64 l], .agg #[.int .i64 b, .int .i64 m]] w fun e w' => e = .returned (.bool (decide (cmpP a l b m < 0))) ∧ Below w.heap.size w w' := by
  have s1 := hide (fun w => i_before a l b m w hg1 hg2)
  clear hg1 hg2
  go_enter Try.func42, Try.ntmps42
  go_wp2_with fail
  refine (s1.out _).mono ?_
  rintro e w1 ⟨rfl, hb1⟩
  go_wp2_with fail
  go_ret
  exact ⟨rfl, below_box2 hb1⟩
end Go.Proofs.Ytjjdfniemlcnnab

namespace Go.Proofs.Ytjjdfniemlcnnab
open Go.RowKit

/-- Rows that lie now, and whose offers lay in w00. -/
def RowRT (a : Option Addr) (m : Nat) (U : Nat → Rc) (w00 w : World) : Prop := ∀ i, i < m → ∃ (b off : Nat) (a0 : Option Addr) (c0 : Nat), a = some ⟨b, off, none⟩ ∧ b < w.heap.size ∧ w.cell? ⟨b, off + i * 3, none⟩ = some (.int .i64 (U i).ad) ∧ w.cell? ⟨b, off + i * 3 + 1, none⟩ = some (.int .i64 (U i).ln) ∧ w.cell? ⟨b, off + i * 3 + 2, none⟩ = some (.slice a0 (U i).n c0) ∧ RowOS a0 (U i).n (U i).T w00
theorem RowRT.below {a : Option Addr} {m : Nat} {U : Nat → Rc} {w00 w w' : World} (h : RowRT a m U w00 w) (k : Below w.heap.size w w') : RowRT a m U w00 w' := by
  intro i hi
  obtain ⟨b, off, a0, c0, ha, hb, h0, h1, h2, ht⟩ := h i hi
  obtain ⟨hc, _⟩ := bcell k
  exact ⟨b, off, a0, c0, ha, Nat.lt_of_lt_of_le hb k.size, (hc _ _ hb).trans h0, (hc _ _ hb).trans h1, (hc _ _ hb).trans h2, ht⟩
theorem RowRT.row {a : Option Addr} {m : Nat} {U : Nat → Rc} {w00 w : World} (h : RowRT a m U w00 w) (k : Below w00.heap.size w00 w) : RowR a m U w := by
  intro i hi
  obtain ⟨b, off, a0, c0, ha, hb, h0, h1, h2, ht⟩ := h i hi
  exact ⟨b, off, a0, c0, ha, hb, h0, h1, h2, ht.row.below k⟩
def KeptS (n : Nat) (U : Nat → Rc) (L : List Kr) (w : World) : Prop := L.length = n ∧ ∀ i, i < n → (jAt L i).1 = (U i).ad ∧ (jAt L i).2.1 = (U i).ln ∧ (jAt L i).2.2.2.1 = (U i).n ∧ RowOS (jAt L i).2.2.1 (U i).n (U i).T w
theorem KeptS.row {n : Nat} {U : Nat → Rc} {L : List Kr} {a : Option Addr} {w00 w : World} (h : KeptS n U L w00) (hR : RowJ a L w) : RowRT a n U w00 w := by
  intro i hi
  obtain ⟨b, off, ha, hb, c0, c1, c2⟩ := hR i (by rw [h.1]; exact hi)
  obtain ⟨e0, e1, e2, hO⟩ := h.2 i hi
  rw [e0] at c0
  rw [e1] at c1
  rw [e2] at c2
  exact ⟨b, off, _, _, ha, hb, c0, c1, c2, hO⟩
theorem rowRS_list {a : Option Addr} {n : Nat} {U : Nat → Rc} {w : World} (h : RowRS a n U w) : ∃ L, KeptS n U L w ∧ RowJ a L w := by
  have : ∀ i, ∃ q : Option Addr × Nat, i < n → ∃ (b off : Nat), a = some ⟨b, off, none⟩ ∧ b < w.heap.size ∧ w.cell? ⟨b, off + i * 3, none⟩ = some (.int .i64 (U i).ad) ∧ w.cell? ⟨b, off + i * 3 + 1, none⟩ = some (.int .i64 (U i).ln) ∧ w.cell? ⟨b, off + i * 3 + 2, none⟩ = some (.slice q.1 (U i).n q.2) ∧ RowOS q.1 (U i).n (U i).T w := by
    intro i
    by_cases hi : i < n
    · obtain ⟨b, off, a0, c0, r⟩ := h i hi
      exact ⟨(a0, c0), fun _ => ⟨b, off, r⟩⟩
    · exact ⟨(none, 0), fun e => absurd e hi⟩
  obtain ⟨q, hq⟩ := Classical.axiomOfChoice this
  have hat : ∀ i, i < n → jAt ((List.range n).map fun i => ((U i).ad, (U i).ln, (q i).1, (U i).n, (q i).2)) i = ((U i).ad, (U i).ln, (q i).1, (U i).n, (q i).2) := fun i hi => getD_mapR _ _ _ hi
  refine ⟨(List.range n).map fun i => ((U i).ad, (U i).ln, (q i).1, (U i).n, (q i).2), ⟨by simp, fun i hi => ?_⟩, fun i hi => ?_⟩
  · rw [hat i hi]
    obtain ⟨b, off, r⟩ := hq i hi
    exact ⟨rfl, rfl, rfl, r.2.2.2.2.2⟩
  · have hi' : i < n := by simpa using hi
    rw [hat i hi']
    obtain ⟨b, off, r1, r2, r3, r4, r5, r6⟩ := hq i hi'
    exact ⟨b, off, r1, r2, r3, r4, r5⟩
theorem i_keptRowsS (ow : Int) (a : Option Addr) (n c : Nat) (U : Nat → Rc) (w00 w : World) (hn : n ≤ 1048576) (hR : RowRS a n U w00) (hb : Below w00.heap.size w00 w) :
    Calls Try.prog 22 #[.agg #[.int .i64 ow, .slice a n c]] w fun e w' => ∃ va vc, e = .returned (.slice va n vc) ∧ RowRT va n U w00 w' ∧ Below w.heap.size w w' := by
  obtain ⟨L, hK, hJ⟩ := rowRS_list hR
  refine (i_keptRows0 ow a n c L w hn hK.1 (hJ.below hb)).mono ?_
  rintro e w' ⟨v, rfl, hO, b⟩
  obtain ⟨va, vc, rfl, hJ', _⟩ := ownJ_row hO
  rw [hK.1]
  exact ⟨va, vc, rfl, hK.row hJ', b⟩
end Go.Proofs.Ytjjdfniemlcnnab
